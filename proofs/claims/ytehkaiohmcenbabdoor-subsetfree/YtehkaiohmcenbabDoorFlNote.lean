/-
  What notes which places follow.
-/
import Derived.Test.YtehkaiohmcenbabDoorGJ
import Derived.Deep.RegionLaw
namespace Go.Proofs.YtehkaiohmcenbabDoor
open Go.RowKit Go.Shelf
set_option linter.unusedVariables false

/-- Where the marks lie. -/
structure Geo (lo hi m bs bf F : Nat) (G : Nat → Nat) : Prop where
  rs : lo ≤ bs ∧ bs < hi
  rf : lo ≤ bf ∧ bf < hi
  rF : lo ≤ F ∧ F < hi
  g : ∀ i, i < m → lo ≤ G i ∧ G i < hi ∧ G i ≠ bs ∧ G i ≠ bf ∧ G i ≠ F
  inj : ∀ i j, i < m → j < m → G i = G j → i = j
/-- The marks tell R. -/
def NtI (hi m nw bs bf F : Nat) (sa : Option Addr) (sc : Nat) (G : Nat → Nat) (w : World) (R : Nat → Nat → Bool) : Prop :=
  hi ≤ w.heap.size ∧ w.cell? ⟨bs, 0, none⟩ = some (.slice sa m sc) ∧ w.cell? ⟨bf, 0, none⟩ = some (.slice (some ⟨F, 0, none⟩) m m) ∧ ∀ i, i < m → w.cell? ⟨F, i * 2, none⟩ = some (.int .i64 (m : Int)) ∧ w.cell? ⟨F, i * 2 + 1, none⟩ = some (.slice (some ⟨G i, 0, none⟩) nw nw) ∧ ∃ ms, ms.length = nw ∧ Fit ms ∧ MrkAt w (G i) ms ∧ ∀ y, mb ms y = R (i + 1) y
theorem NtI.keep {lo hi m nw bs bf F sc : Nat} {sa : Option Addr} {G : Nat → Nat} (g : Geo lo hi m bs bf F G) {w w' : World} {R : Nat → Nat → Bool} (h : NtI hi m nw bs bf F sa sc G w R) (hq : ∀ k, lo ≤ k → k < hi → w'.heap[k]? = w.heap[k]?) (hs : w.heap.size ≤ w'.heap.size) : NtI hi m nw bs bf F sa sc G w' R := by
  obtain ⟨h0, h1, h2, h3⟩ := h
  have c : ∀ b o, lo ≤ b → b < hi → w'.cell? ⟨b, o, none⟩ = w.cell? ⟨b, o, none⟩ := fun b o a1 a2 => World.cell?_of_block (a := ⟨b, o, none⟩) (hq b a1 a2)
  refine ⟨Nat.le_trans h0 hs, (c _ _ g.rs.1 g.rs.2).trans h1, (c _ _ g.rf.1 g.rf.2).trans h2, fun i hi => ?_⟩
  obtain ⟨a1, a2, ms, a3, a4, a5, a6⟩ := h3 i hi
  exact ⟨(c _ _ g.rF.1 g.rF.2).trans a1, (c _ _ g.rF.1 g.rF.2).trans a2, ms, a3, a4, (hq _ (g.g i hi).1 (g.g i hi).2.1).trans a5, a6⟩
theorem NtI.one {lo hi m nw bs bf F sc : Nat} {sa : Option Addr} {G : Nat → Nat} (g : Geo lo hi m bs bf F G) {w w' : World} {R R' : Nat → Nat → Bool} (h : NtI hi m nw bs bf F sa sc G w R) {i : Nat} (hi' : i < m) (hf : FrI (G i) (G i + 1) w w') {ms : List Nat} (h1 : ms.length = nw) (h2 : Fit ms) (h3 : MrkAt w' (G i) ms) (h4 : ∀ y, mb ms y = R' (i + 1) y) (h5 : ∀ k y, k < m → k ≠ i → R' (k + 1) y = R (k + 1) y) : NtI hi m nw bs bf F sa sc G w' R' := by
  obtain ⟨q0, q1, q2, q3⟩ := h
  have hg := g.g i hi'
  have bl : ∀ b, b ≠ G i → b < w.heap.size → w'.heap[b]? = w.heap[b]? := fun b h1 h2 => hf.block (by omega)
  have c : ∀ b o, b ≠ G i → b < w.heap.size → w'.cell? ⟨b, o, none⟩ = w.cell? ⟨b, o, none⟩ := fun b o a1 a2 => World.cell?_of_block (a := ⟨b, o, none⟩) (bl b a1 a2)
  have s1 := g.rs
  have s2 := g.rf
  have s3 := g.rF
  refine ⟨Nat.le_trans q0 hf.size, (c _ _ (by omega) (by omega)).trans q1, (c _ _ (by omega) (by omega)).trans q2, fun k hk => ?_⟩
  obtain ⟨a1, a2, ms', a3, a4, a5, a6⟩ := q3 k hk
  refine ⟨(c _ _ (by omega) (by omega)).trans a1, (c _ _ (by omega) (by omega)).trans a2, ?_⟩
  by_cases e : k = i
  · subst e
    exact ⟨ms, h1, h2, h3, h4⟩
  · have hne : G k ≠ G i := fun q => e (g.inj k i hk hi' q)
    exact ⟨ms', a3, a4, (bl _ hne (by have := g.g k hk; omega)).trans a5, fun y => by rw [a6, h5 k y hk e]⟩

theorem cont_snoc (l : List Nat) (x i : Nat) : (l ++ [x]).contains i = (l.contains i || decide (i = x)) := by
  rw [Bool.eq_iff_iff]; simp

end Go.Proofs.YtehkaiohmcenbabDoor
