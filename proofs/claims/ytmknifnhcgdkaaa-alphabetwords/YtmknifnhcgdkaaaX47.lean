/-
  What the laws of alphabets lean on.
-/
import Derived.Test.YtmknifnhcgdkaaaX46
namespace Go.Proofs.Ytmknifnhcgdkaaa
open Go.RowKit Go.Shelf
set_option linter.unusedVariables false

theorem errN_all {S : List (List Rg)} (h : AllS S) : errN S = 0 ∨ errN S = 3 := by
  unfold errN
  rw [if_neg (show ¬ (S.all isSB = false) by rw [allS_iff.2 h]; simp)]
  split
  · exact .inr rfl
  · split
    · exact .inr rfl
    · exact errB_ents h
theorem ofC_in {S : List (List Rg)} {x : Int} (h0 : 0 ≤ x) (h1 : x ≤ 1114111) : ofC S x = (((clsS S).idxOf (maskN S x) : Nat) : Int) := by
  unfold ofC
  rw [if_pos ⟨h0, h1⟩]
theorem ofC_out {S : List (List Rg)} {x : Int} (h : x < 0 ∨ 1114111 < x) : ofC S x = -1 := by
  unfold ofC
  rw [if_neg (by omega)]
theorem msk_of {S : List (List Rg)} (hS : AllS S) {x : Int} (h0 : 0 ≤ x) (h1 : x ≤ 1114111) : mskC S (ofC S x) = maskN S x := by
  have hm := mask_met hS h0 h1
  rw [ofC_in h0 h1]
  unfold mskC
  rw [if_pos (by omega), Int.toNat_natCast, List.getElem?_eq_getElem (List.idxOf_lt_length_of_mem hm)]
  exact List.getElem_idxOf _
theorem of_eq {S : List (List Rg)} (hS : AllS S) {x y : Int} (h0 : 0 ≤ x) (h1 : x ≤ 1114111) (g0 : 0 ≤ y) (g1 : y ≤ 1114111) : ofC S x = ofC S y ↔ maskN S x = maskN S y := by
  constructor
  · intro h
    rw [← msk_of hS h0 h1, ← msk_of hS g0 g1, h]
  · intro h
    rw [ofC_in h0 h1, ofC_in g0 g1, h]
theorem any_at {S : List (List Rg)} {i : Nat} (h : i < (clsS S).length) : anyC S (i : Int) = fstS S (clsS S)[i] := by
  unfold anyC
  rw [if_pos (by omega), Int.toNat_natCast, List.getElem?_eq_getElem (by simpa using h)]
  simp
theorem any_bounds {S : List (List Rg)} (hS : AllS S) {i : Nat} (h : i < (clsS S).length) : 0 ≤ anyC S (i : Int) ∧ anyC S (i : Int) ≤ 1114111 := by
  rw [any_at h]
  exact edg_bounds hS _ (fst_mask (List.getElem_mem h)).2
theorem of_any_is {S : List (List Rg)} (hS : AllS S) {i : Nat} (h : i < (clsS S).length) : ofC S (anyC S (i : Int)) = (i : Int) := by
  have hb := any_bounds hS h
  rw [ofC_in hb.1 hb.2, any_at h, (fst_mask (List.getElem_mem h)).1, idx_nodup (clsS_nodup S) i h]
theorem any_rises {S : List (List Rg)} {i : Nat} (h : i + 1 < (clsS S).length) : anyC S (i : Int) < anyC S ((i : Int) + 1) := by
  have e : (i : Int) + 1 = ((i + 1 : Nat) : Int) := by omega
  rw [e, any_at (by omega), any_at h]
  exact fst_rises (by omega) h (by omega)
theorem any_le {S : List (List Rg)} (hS : AllS S) {r : Int} (h0 : 0 ≤ r) (h1 : r ≤ 1114111) : anyC S (ofC S r) ≤ r := by
  have hm := mask_met hS h0 h1
  have hi := List.idxOf_lt_length_of_mem hm
  rw [ofC_in h0 h1, any_at hi, List.getElem_idxOf hi]
  exact fst_le hS h0 h1
theorem any_zero {S : List (List Rg)} (hS : AllS S) : anyC S 0 = 0 := by
  have := any_at (S := S) (i := 0) (cls_pos S)
  rw [show ((0 : Nat) : Int) = 0 from rfl] at this
  rw [this]
  exact fst_zero hS
/-- All sets up to k have both numbers, or none of them. -/
def sameK (T : List (List Rg)) (x y : Int) (k : Nat) : Bool := (T.take k).all (fun s => hasR s x == hasR s y)
theorem sameK_step {T : List (List Rg)} {x y : Int} {k : Nat} (h : k < T.length) : sameK T x y (k + 1) = (sameK T x y k && (hasR T[k] x == hasR T[k] y)) := by
  unfold sameK
  rw [List.take_succ_eq_append_getElem h, List.all_append]
  simp
theorem sameK_end {T : List (List Rg)} (hT : AllS T) {x y : Int} (h0 : 0 ≤ x) (h1 : x ≤ 1114111) (g0 : 0 ≤ y) (g1 : y ≤ 1114111) : (ofC T x == ofC T y) = sameK T x y T.length := by
  unfold sameK
  rw [List.take_length, Bool.eq_iff_iff, beq_iff_eq, of_eq hT h0 h1 g0 g1, mask_eq, List.all_eq_true]
  simp
end Go.Proofs.Ytmknifnhcgdkaaa
