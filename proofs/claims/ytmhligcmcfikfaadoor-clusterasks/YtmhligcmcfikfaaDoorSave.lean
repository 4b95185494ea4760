/-
  trie.Trie.Save: the bytes of a trie.
-/
import Derived.Test.YtmhligcmcfikfaaDoorAwake
namespace Go.Proofs.YtmhligcmcfikfaaDoor
open Go.RowKit
set_option linter.unusedVariables false

/-- The bytes of a trie by its parts. -/
def rawSave (like : List Int) (F : List (List Int)) : List Int := ((F.length : Int) - 1) :: (like ++ F.flatten)
theorem rawB (l : List Pp) : rawSave (likeB l) (firstB l) = saveL (blocksF (valP l)) := rfl
/-- The bytes up to the k-th first block. -/
def rawTo (like : List Int) (F : List (List Int)) (k : Nat) : List Int := ((F.length : Int) - 1) :: (like ++ (F.take k).flatten)
theorem rawTo_step {like : List Int} {F : List (List Int)} {k : Nat} (h : k < F.length) : rawTo like F (k + 1) = rawTo like F k ++ F[k] := by
  unfold rawTo
  rw [List.take_succ_eq_append_getElem h, List.flatten_append]
  simp
theorem rawTo_end (like : List Int) (F : List (List Int)) : rawTo like F F.length = rawSave like F := by
  unfold rawTo rawSave
  rw [List.take_length]
theorem rawTo_length {like : List Int} {F : List (List Int)} {k : Nat} (hf : Fine like F) (h : k ≤ F.length) : (rawTo like F k).length = 4353 + 256 * k := by
  unfold rawTo
  rw [List.length_cons, List.length_append, hf.len, flat_length (fun x hx => (hf.isB x (List.mem_of_mem_take hx)).1), List.length_take]
  have : min k F.length = k := by omega
  rw [this]; omega
theorem Tryd.undBy : Tryd.prog.underlying 72 = some (.slice 5) := by kernel_rfl

end Go.Proofs.YtmhligcmcfikfaaDoor
