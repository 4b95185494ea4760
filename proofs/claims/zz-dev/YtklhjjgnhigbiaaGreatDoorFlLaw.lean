/-
  What the statements of layer 11 share.
-/
import Derived.Test.YtklhjjgnhigbiaaGreatDoorFlBuild
import Derived.BigQuiet
namespace Go.Proofs.YtklhjjgnhigbiaaGreatDoor
open Go.RowKit Go.Shelf
set_option linter.unusedVariables false
set_option linter.unusedSimpArgs false

def upI (l : List Nat) : List Int := l.map fun (x : Nat) => (x : Int)
theorem PlcAt.ints {b0 B : Nat} {w : World} {v : Value} {l : List Nat} (h : PlcAt b0 B w v l) : IntsAt w v (upI l) := by
  obtain ⟨a, cap, rfl, hc, hn, hx⟩ := h
  refine ⟨a, cap, by simp [upI], by simpa [upI] using hc, hn, fun i hi => ?_⟩
  have hi' : i < l.length := by simpa [upI] using hi
  obtain ⟨g, off, h1, h2, h3, h4⟩ := hx i hi'
  exact ⟨g, off, h1, h3, by simpa [upI] using h4⟩


/-- No more places than expressions. -/
theorem sets_sz : ∀ (d : Nat) (n : Nd), Dp d n.kids → (setsN n).length ≤ Sz d n
  | 0, n, h => by
    have h0 : n.kids = [] := h
    rw [setsN_eq, h0]
    show _ ≤ 1
    split <;> simp [setsL]
  | d + 1, n, h => by
    rw [setsN_eq]
    show _ ≤ 1 + (n.kids.map (Sz d)).sum
    have key : ∀ l : List Nd, (∀ x ∈ l, Dp d x.kids) → (setsL l).length ≤ (l.map (Sz d)).sum := fun l => by
      induction l with
      | nil => intro _; simp [setsL]
      | cons x l ih =>
        intro hl
        rw [setsL, List.length_append, List.map_cons, List.sum_cons]
        have h1 := sets_sz d x (hl x (by simp))
        have h2 := ih (fun y hy => hl y (by simp [hy]))
        omega
    have := key n.kids (fun x hx => h.2 x hx)
    split
    · simp
    · omega


def awN : Nd := ⟨3, 0, [⟨0, 0, [⟨1, 0, []⟩, ⟨1, 1, []⟩]⟩]⟩
theorem aw_right : rightN awN = true := by simp [awN, rightN_mk, rightL, mayK]
theorem aw_sets : setsN awN = [0, 1] := by simp [awN, setsN_mk, setsL]
theorem aw_prt : prtN awN 0 = ⟨true, [1], [2], 2, [([], [1]), ([1], [2]), ([2], [1])]⟩ := by
  simp [awN, prtN_mk, hdL_cons, catL_cons, catL, catF, catS, cat0, setP, sgnS]
theorem aw_err : errF awN = 0 := errF_ok aw_right (by rw [aw_sets]; decide)
theorem aw_fol : folN awN = [[2], [1]] := by
  unfold folN
  rw [aw_prt, aw_sets]
  decide
theorem aw_aut : autF awN = ⟨true, [0, 1], [1], [2], [[2], [1]]⟩ := by
  unfold autF autN
  rw [if_pos aw_err, aw_prt, aw_sets, aw_fol]
theorem aw_dp : Dp 2 awN.kids := ⟨by decide, fun x hx => by
  obtain rfl : x = ⟨0, 0, [⟨1, 0, []⟩, ⟨1, 1, []⟩]⟩ := by simpa [awN] using hx
  exact ⟨by decide, fun y hy => by
    rcases List.mem_cons.1 hy with rfl | hy
    · rfl
    · obtain rfl : y = ⟨1, 1, []⟩ := by simpa using hy
      rfl⟩⟩

end Go.Proofs.YtklhjjgnhigbiaaGreatDoor
