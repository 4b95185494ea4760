/-
  scansionref13.split: which pairs of states can be told apart.
-/
import Derived.Test.YtklhjjgnhigbiaaGreatDoorLsMat
import Derived.Test.YtklhjjgnhigbiaaGreatDoorLsDfa
namespace Go.Proofs.YtklhjjgnhigbiaaGreatDoor
open Go.RowKit Go.Shelf
set_option linter.unusedVariables false

theorem run_make13 (W : World) (t e : TypeId) (i : TypeInfo) (z : Value) (ht : Tryz.prog.underlying t = some (.slice e)) (hi : Tryz.prog.info? e = some i) (hz : i.zero = some z) (hs : i.size = 1) (hc : z.cells = #[z]) (n : Nat) (hn : n ≤ 100000) (hb : i.bytes ≤ 1000) :
    Sem.run Tryz.prog (Instr.makeSlice t (.int .i64 (n : Int)) (.int .i64 (n : Int))) W = .ok (.slice (some ⟨W.heap.size, 0, none⟩) n n) (W.alloc (.cells (madeCells #[z] n) e)) := by
  have hle : n * i.bytes ≤ 100000 * 1000 := Nat.mul_le_mul hn hb
  have := run_make (P := Tryz.prog) W t e i z ht hi hz .i64 .i64 (n : Int) (n : Int) (by omega) (by omega) (by rw [Int.mul_comm, ← Int.natCast_mul]; omega) (by omega)
  rw [this, hs, hc]
  simp
section
variable {M : Mach} {m : Nat → Nat → Bool} {r i k : Nat}
def LoS (M : Mach) (r : Nat) (m : Nat → Nat → Bool) : Prop := ∀ a b, a < M.n → b < M.n → M.apt r a b = true → m a b = true
def UpS (M : Mach) (m : Nat → Nat → Bool) : Prop := ∀ a b, a < M.n → b < M.n → m a b = true → M.apt M.n a b = true
theorem upB_mono {a b : Nat} {x : Bool} (h : m a b = true) : upB m i k (m i k || x) a b = true := by
  unfold upB
  split
  · rename_i e
    rw [← e.1, ← e.2, h]; rfl
  · exact h
theorem upS_step (h : M.Ok) (hu : UpS M m) {c : Nat} (hi : i < M.n) (hk : k < M.n) (hc : c < M.k) : UpS M (upB m i k (m i k || m (M.d i c) (M.d k c))) := fun a b ha hb hm => by
  unfold upB at hm
  split at hm
  · rename_i e
    obtain ⟨rfl, rfl⟩ := e
    cases hx : m a b with
    | true => exact hu a b ha hb hx
    | false =>
      rw [hx, Bool.false_or] at hm
      have := hu _ _ (h.cl a c ha hc) (h.cl b c hb hc) hm
      obtain ⟨w, h1, h2, h3⟩ := (apt_iff _ _ _).1 this
      exact apt_all h ha hb (w := c :: w) (wd_cons.2 ⟨hc, h1⟩) h3
  · exact hu a b ha hb hm
theorem upB_hit (x : Bool) : upB m i k (m i k || x) i k = (m i k || x) := by simp [upB]
theorem apt_next {a b : Nat} : M.apt (r + 1) a b = true ↔ M.apt r a b = true ∨ ∃ c, c < M.k ∧ M.apt r (M.d a c) (M.d b c) = true := by
  show (M.apt r a b || (List.range M.k).any fun c => M.apt r (M.d a c) (M.d b c)) = true ↔ _
  rw [Bool.or_eq_true, List.any_eq_true]
  simp
/-- In a round: the rows ahead of p are through, and of p the entries ahead of q, and of p, q the classes ahead of c. -/
def RdS (M : Mach) (r p q c : Nat) (m : Nat → Nat → Bool) : Prop := LoS M r m ∧ UpS M m ∧ (∀ a b, a < p → b < M.n → M.apt (r + 1) a b = true → m a b = true) ∧ (∀ b, b < q → M.apt (r + 1) p b = true → m p b = true) ∧ (∀ z, z < c → M.apt r (M.d p z) (M.d q z) = true → m p q = true)
theorem RdS.step {p q c : Nat} (h : M.Ok) (hs : RdS M r p q c m) (hp : p < M.n) (hq : q < M.n) (hc : c < M.k) : RdS M r p q (c + 1) (upB m p q (m p q || m (M.d p c) (M.d q c))) := by
  obtain ⟨h1, h2, h3, h4, h5⟩ := hs
  refine ⟨fun a b ha hb e => upB_mono (h1 a b ha hb e), upS_step h h2 hp hq hc, fun a b ha hb e => upB_mono (h3 a b ha hb e), fun b hb e => upB_mono (h4 b hb e), fun z hz e => ?_⟩
  rw [upB_hit]
  by_cases k : z = c
  · subst k
    rw [h1 _ _ (h.cl p z hp hc) (h.cl q z hq hc) e]
    simp
  · rw [h5 z (by omega) e]; rfl
theorem RdS.col {p q : Nat} (hs : RdS M r p q M.k m) (hp : p < M.n) (hq : q < M.n) : RdS M r p (q + 1) 0 m := by
  obtain ⟨h1, h2, h3, h4, h5⟩ := hs
  refine ⟨h1, h2, h3, fun b hb e => ?_, fun z hz => absurd hz (by omega)⟩
  by_cases k : b = q
  · subst k
    rcases apt_next.1 e with e | ⟨c, hc, e⟩
    · exact h1 _ _ hp hq e
    · exact h5 c hc e
  · exact h4 b (by omega) e
theorem RdS.row {p q : Nat} (hs : RdS M r p q 0 m) (hq : M.n ≤ q) : RdS M r (p + 1) 0 0 m := by
  obtain ⟨h1, h2, h3, h4, h5⟩ := hs
  refine ⟨h1, h2, fun a b ha hb e => ?_, fun b hb => absurd hb (by omega), fun z hz => absurd hz (by omega)⟩
  by_cases k : a = p
  · subst k
    exact h4 b (by omega) e
  · exact h3 a b (by omega) hb e
theorem RdS.round {p : Nat} (hs : RdS M r p 0 0 m) (hp : M.n ≤ p) : LoS M (r + 1) m ∧ UpS M m := ⟨fun a b ha hb e => hs.2.2.1 a b (by omega) hb e, hs.2.1⟩
theorem RdS.start (h : LoS M r m ∧ UpS M m) : RdS M r 0 0 0 m := ⟨h.1, h.2, fun a b ha => absurd ha (by omega), fun b hb => absurd hb (by omega), fun z hz => absurd hz (by omega)⟩
theorem loUp (h : LoS M M.n m ∧ UpS M m) {a b : Nat} (ha : a < M.n) (hb : b < M.n) : m a b = M.apt M.n a b := by
  cases hx : m a b with
  | true => rw [h.2 a b ha hb hx]
  | false =>
    cases hy : M.apt M.n a b with
    | false => rfl
    | true =>
      rw [h.1 a b ha hb hy] at hx
      cases hx
end

end Go.Proofs.YtklhjjgnhigbiaaGreatDoor
