/-
  The states of the first lines of the law: the signs of one set, any times.
-/
import Derived.Test.YtklhjjgnhigbiaaGreatDoorMtFew
import Derived.Test.YtklhjjgnhigbiaaGreatDoorFlAut
import Derived.Test.YtklhjjgnhigbiaaGreatDoorGF
namespace Go.Proofs.YtklhjjgnhigbiaaGreatDoor
open Go.RowKit
set_option linter.unusedVariables false

theorem star_sets : setsN starN = [0] := by simp [starN, setsN_mk, setsL]
theorem star_err : errF starN = 0 := errF_ok star_right (by rw [star_sets]; decide)
theorem star_prt : prtN starN 0 = ⟨true, [1], [1], 1, [([1], [1])]⟩ := by
  unfold starN
  rw [prtN]
  simp only [List.map]
  have : prtN ⟨1, 0, []⟩ = prtK 1 [] := by rw [prtN]; rfl
  rw [this]
  rfl
theorem star_aut : autF starN = ⟨true, [0], [1], [1], [[1]]⟩ := by
  unfold autF
  rw [if_pos star_err]
  unfold autN folN
  rw [star_sets, star_prt]
  rfl
theorem star_ans : (ansB (autF starN) false [1, 2] 9).map (fun b => b.N.length) = some 3 := by rw [star_aut]; rfl
end Go.Proofs.YtklhjjgnhigbiaaGreatDoor
