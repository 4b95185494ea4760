/-
  How many states are left.
-/
import Derived.Test.YtklhjjgnhigbiaaGreatDoorLsLeast
import Derived.Test.YtklhjjgnhigbiaaGreatDoorLsDfa
import Derived.Test.YtklhjjgnhigbiaaGreatDoorLsMem
namespace Go.Proofs.YtklhjjgnhigbiaaGreatDoor
open Go.RowKit
set_option linter.unusedVariables false

def lesE (N : List (List Int)) (F : List Bool) : Int := if rightD N F = true then 0 else 1
def lesN (N : List (List Int)) (F : List Bool) : List (List Int) := if rightD N F = true then leN N F else []
def lesF (N : List (List Int)) (F : List Bool) : List Bool := if rightD N F = true then leF N F else []
/-- What Least answers. -/
def LesA (N : List (List Int)) (F : List Bool) (w : World) (e : Ending) (w' : World) : Prop := ∃ v, e = .returned (.tuple #[v, .int .i64 (lesE N F)]) ∧ DfaAt w' v (lesN N F) (lesF N F) ∧ Below w.heap.size w w'
theorem vg_le {M : Mach} (h : M.Ok) {j : Nat} (hv : Vg (nxr M) M.k (rep M 0) j) : j ≤ M.n ∧ (gbf (nxr M) M.k (rep M 0) j).S.length ≤ M.n := by
  have key : ∀ i, Vg (nxr M) M.k (rep M 0) i → (gbf (nxr M) M.k (rep M 0) i).S.length ≤ M.n := fun i hi => nodup_len (gbf_nodup i) (gbf_lt (rep_lt h.ne) (fun a c => nxr_lt h) i hi)
  refine ⟨?_, key j hv⟩
  cases j with
  | zero => omega
  | succ j =>
    have h1 := hv j (by omega)
    have h2 := key j (hv.le (by omega))
    omega
theorem map_snoc_rep (M : Mach) (l : List Nat) (x : Nat) : (l ++ [x]).map (rep M) = l.map (rep M) ++ [rep M x] := by simp

end Go.Proofs.YtklhjjgnhigbiaaGreatDoor
