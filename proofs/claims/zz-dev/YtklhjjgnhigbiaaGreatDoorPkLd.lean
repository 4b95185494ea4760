/-
  What Load answers.
-/
import Derived.Test.YtklhjjgnhigbiaaGreatDoorPkRow
namespace Go.Proofs.YtklhjjgnhigbiaaGreatDoor
open Go.RowKit Go.Shelf
set_option linter.unusedVariables false

def loadD (l : List Nat) : Option (List (List Int) × List Bool) := match prsP l with
  | none => none
  | some (R, G) => if rightD (intsL R) G = true ∧ savB R G = l then some (intsL R, G) else none
def loE (l : List Nat) : Int := match loadD l with
  | none => 2
  | some _ => 0
def loN (l : List Nat) : List (List Int) := match loadD l with
  | none => []
  | some (N, _) => N
def loF (l : List Nat) : List Bool := match loadD l with
  | none => []
  | some (_, F) => F
def LoA (l : List Nat) (w : World) (e : Ending) (w' : World) : Prop := ∃ na nc fa fc, e = .returned (.tuple #[.agg #[.slice na (loN l).length nc, .slice fa (loF l).length fc], .int .i64 (loE l)]) ∧ DfaAt w' (.agg #[.slice na (loN l).length nc, .slice fa (loF l).length fc]) (loN l) (loF l) ∧ Below w.heap.size w w'
theorem lo_none {l : List Nat} (h : loadD l = none) : loE l = 2 ∧ loN l = [] ∧ loF l = [] := by
  unfold loE loN loF
  rw [h]
  exact ⟨rfl, rfl, rfl⟩
theorem lo_some {l : List Nat} {N : List (List Int)} {F : List Bool} (h : loadD l = some (N, F)) : loE l = 0 ∧ loN l = N ∧ loF l = F := by
  unfold loE loN loF
  rw [h]
  exact ⟨rfl, rfl, rfl⟩
theorem load_no {l : List Nat} (h : prsP l = none) : loadD l = none := by
  unfold loadD
  rw [h]
theorem sav_facts {N : List (List Int)} {F : List Bool} (h : rightD N F = true) : (nat14 N).length ≤ 5000 ∧ (nat14 N).length = F.length ∧ ((nat14 N).getD 0 []).length ≤ 200 ∧ ∀ r ∈ nat14 N, r.length = ((nat14 N).getD 0 []).length ∧ ∀ x ∈ r, x ≤ 2147483647 := by
  obtain ⟨h1, h2, h3, h4, h5, h6⟩ := rightD_iff.1 h
  refine ⟨by rw [nat14_len]; exact h2, by rw [nat14_len]; exact h3.symm, by rw [nat14_getD]; exact h5, fun r hr => ?_⟩
  obtain ⟨k1, k2⟩ := nat14_rows h r hr
  refine ⟨by rw [nat14_getD]; exact k1, fun x hx => ?_⟩
  have := k2 x hx
  omega
/-- What was saved is loaded. -/
theorem load_sav {N : List (List Int)} {F : List Bool} (h : rightD N F = true) : loadD (svB N F) = some (N, F) := by
  obtain ⟨k1, k2, k3, k4⟩ := sav_facts h
  have e : svB N F = savB (nat14 N) F := by unfold svB; rw [if_pos h]
  unfold loadD
  rw [e, prs_sav k1 k2 k3 k4]
  show (if rightD (intsL (nat14 N)) F = true ∧ savB (nat14 N) F = savB (nat14 N) F then some (intsL (nat14 N), F) else none) = _
  rw [nat14_back h, if_pos ⟨h, rfl⟩]
/-- What was loaded is saved. -/
theorem load_inv {l : List Nat} {N : List (List Int)} {F : List Bool} (h : loadD l = some (N, F)) : rightD N F = true ∧ svB N F = l := by
  unfold loadD at h
  cases hp : prsP l with
  | none => rw [hp] at h; cases h
  | some p =>
    obtain ⟨R, G⟩ := p
    rw [hp] at h
    have h' : (if rightD (intsL R) G = true ∧ savB R G = l then some (intsL R, G) else none) = some (N, F) := h
    by_cases hc : rightD (intsL R) G = true ∧ savB R G = l
    · rw [if_pos hc] at h'
      injection h' with h'
      injection h' with e1 e2
      subst e1 e2
      refine ⟨hc.1, ?_⟩
      unfold svB
      rw [if_pos hc.1, nat14_ints]
      exact hc.2
    · rw [if_neg hc] at h'
      cases h'
/-- Bytes that are the states' bytes are loaded as these. -/
theorem load_eq {l : List Nat} {N : List (List Int)} {F : List Bool} (h : rightD N F = true) (e : svB N F = l) : loadD l = some (N, F) := by rw [← e]; exact load_sav h
/-- What was parsed, and is no answer. -/
theorem load_if {l : List Nat} {R : List (List Nat)} {G : List Bool} (h : prsP l = some (R, G)) : loadD l = if svE (intsL R) G = 0 ∧ svB (intsL R) G = l then some (intsL R, G) else none := by
  unfold loadD svE svB
  rw [h]
  show (if rightD (intsL R) G = true ∧ savB R G = l then some (intsL R, G) else none) = _
  by_cases hr : rightD (intsL R) G = true
  · rw [if_pos hr, if_pos hr, nat14_ints]
    by_cases hs : savB R G = l
    · rw [if_pos ⟨hr, hs⟩, if_pos ⟨rfl, hs⟩]
    · rw [if_neg (fun q => hs q.2), if_neg (fun q => hs q.2)]
  · rw [if_neg hr, if_neg hr, if_neg (fun q => hr q.1), if_neg (fun q => absurd q.1 (by decide))]
end Go.Proofs.YtklhjjgnhigbiaaGreatDoor
