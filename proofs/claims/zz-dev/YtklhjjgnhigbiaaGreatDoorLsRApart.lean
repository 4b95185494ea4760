/-
  scansionref13.Apart.
-/
import Derived.Test.YtklhjjgnhigbiaaGreatDoorLsStep
import Derived.Deep.RegionLaw
import Derived.Deep.CutRange
import Derived.Deep.AppendLies
namespace Go.Proofs.YtklhjjgnhigbiaaGreatDoor
open Go.RowKit Go.Shelf
set_option linter.unusedVariables false

/-- Steps that are the pairs that were met. -/
def RelS (T : List St) (Q : List Ent) : Prop := T.length = Q.length ∧ ∀ i, (h1 : i < T.length) → (h2 : i < Q.length) → T[i].a = Q[i].a ∧ T[i].b = Q[i].b ∧ ((T[i].fr = -1 ∧ Q[i].w = []) ∨ ∃ p : Nat, ∃ hp : p < Q.length, p < i ∧ T[i].fr = (p : Int) ∧ Q[i].w = Q[p].w ++ [T[i].c])
theorem RelS.one : RelS [⟨0, 0, -1, 0⟩] [⟨0, 0, []⟩] := ⟨rfl, fun i h1 h2 => by
  have : i = 0 := by simpa using h1
  subst this
  exact ⟨rfl, rfl, .inl ⟨rfl, rfl⟩⟩⟩
theorem RelS.snoc {T : List St} {Q : List Ent} (h : RelS T Q) {j : Nat} (hj : j < Q.length) (a b c : Nat) : RelS (T ++ [⟨a, b, (j : Int), c⟩]) (Q ++ [⟨a, b, Q[j].w ++ [c]⟩]) := by
  refine ⟨by simp [h.1], fun i h1 h2 => ?_⟩
  by_cases e : i < T.length
  · have e2 : i < Q.length := by rw [← h.1]; exact e
    rw [List.getElem_append_left e, List.getElem_append_left e2]
    obtain ⟨p1, p2, p3⟩ := h.2 i e e2
    refine ⟨p1, p2, ?_⟩
    rcases p3 with p3 | ⟨p, hp, q1, q2, q3⟩
    · exact .inl p3
    · refine .inr ⟨p, by simp; omega, q1, q2, ?_⟩
      rw [List.getElem_append_left hp]
      exact q3
  · have e3 : i = T.length := by simp at h1; omega
    have e4 : i = Q.length := by rw [e3, h.1]
    have x1 : (T ++ [(⟨a, b, (j : Int), c⟩ : St)])[i] = ⟨a, b, (j : Int), c⟩ := by
      subst e3
      simp
    have x2 : (Q ++ [(⟨a, b, Q[j].w ++ [c]⟩ : Ent)])[i] = ⟨a, b, Q[j].w ++ [c]⟩ := by
      subst e4
      simp
    rw [x1, x2]
    refine ⟨rfl, rfl, .inr ⟨j, by simp; omega, by omega, rfl, ?_⟩⟩
    rw [List.getElem_append_left hj]
theorem RelS.met {T : List St} {Q : List Ent} (h : RelS T Q) (a b : Nat) : metS T a b = metE Q a b := by
  rw [Bool.eq_iff_iff, metE_iff]
  unfold metS
  rw [List.any_eq_true]
  constructor
  · rintro ⟨x, hx, hq⟩
    obtain ⟨i, hi, rfl⟩ := List.mem_iff_getElem.1 hx
    have hi2 : i < Q.length := by rw [← h.1]; exact hi
    obtain ⟨p1, p2, _⟩ := h.2 i hi hi2
    have : T[i].a = a ∧ T[i].b = b := by simpa using hq
    exact ⟨Q[i], List.getElem_mem hi2, by rw [← p1]; exact this.1, by rw [← p2]; exact this.2⟩
  · rintro ⟨x, hx, q1, q2⟩
    obtain ⟨i, hi2, rfl⟩ := List.mem_iff_getElem.1 hx
    have hi : i < T.length := by rw [h.1]; exact hi2
    obtain ⟨p1, p2, _⟩ := h.2 i hi hi2
    exact ⟨T[i], List.getElem_mem hi, by simp [p1, p2, q1, q2]⟩
theorem rowE_le (M1 M2 : Mach) (x : Ent) (Q : List Ent) : ∀ i, (rowE M1 M2 x Q i).length ≤ Q.length + i
  | 0 => Nat.le_refl _
  | i + 1 => by
    have h := rowE_le M1 M2 x Q i
    show (addE M1 M2 x (rowE M1 M2 x Q i) i).length ≤ _
    unfold addE
    split
    · omega
    · rw [List.length_append]
      simp
      omega
theorem rowE_at (M1 M2 : Mach) (x : Ent) (Q : List Ent) (i : Nat) {j : Nat} (hj : j < Q.length) : ∃ h : j < (rowE M1 M2 x Q i).length, (rowE M1 M2 x Q i)[j] = Q[j] := by
  obtain ⟨T, hT⟩ := rowE_pre (M1 := M1) (M2 := M2) x Q i
  refine ⟨by rw [hT, List.length_append]; omega, ?_⟩
  have : (rowE M1 M2 x Q i)[j]? = some Q[j] := by rw [hT, List.getElem?_append_left hj, List.getElem?_eq_getElem hj]
  exact (List.getElem?_eq_some_iff.1 this).2
def apE (N : List (List Int)) (F : List Bool) (N' : List (List Int)) (F' : List Bool) : Int := if bothB N F N' F' = true then 0 else 1
def apO (N : List (List Int)) (F : List Bool) (N' : List (List Int)) (F' : List Bool) : Option (List Nat) := if bothB N F N' F' = true then apD (mch N F) (mch N' F') else none
/-- What Apart answers. -/
def ApA (N : List (List Int)) (F : List Bool) (N' : List (List Int)) (F' : List Bool) (w : World) (e : Ending) (w' : World) : Prop := ∃ v, e = .returned (.tuple #[v, .bool (apO N F N' F').isSome, .int .i64 (apE N F N' F')]) ∧ IntsAt w' v (upI ((apO N F N' F').getD [])) ∧ Below w.heap.size w w'
theorem both_parts {N : List (List Int)} {F : List Bool} {N' : List (List Int)} {F' : List Bool} (h : bothB N F N' F' = true) : rightD N F = true ∧ rightD N' F' = true ∧ (N.getD 0 []).length = (N'.getD 0 []).length := by
  unfold bothB at h
  simp only [Bool.and_eq_true, decide_eq_true_eq] at h
  exact ⟨h.1.1, h.1.2, h.2⟩
/-- Where classes lead, and what is final, of states in memory. -/
def AtD (w : World) (na fa : Option Addr) (n : Nat) (C : Nat) (M : Mach) : Prop := (∀ a c, a < n → c < C → ∃ g off y yc g2 o2, na = some ⟨g, off, none⟩ ∧ g < w.heap.size ∧ w.cell? ⟨g, off + a, none⟩ = some (.slice y C yc) ∧ y = some ⟨g2, o2, none⟩ ∧ g2 < w.heap.size ∧ w.cell? ⟨g2, o2 + c, none⟩ = some (.int .i64 ((M.d a c : Nat) : Int)) ∧ M.d a c < n) ∧ ∀ a, a < n → ∃ g off, fa = some ⟨g, off, none⟩ ∧ g < w.heap.size ∧ w.cell? ⟨g, off + a, none⟩ = some (.bool (M.f a))
theorem at_of {w : World} {na fa : Option Addr} {nc fc : Nat} {N : List (List Int)} {F : List Bool} (hd : DfaAt w (.agg #[.slice na N.length nc, .slice fa F.length fc]) N F) (hr : rightD N F = true) : AtD w na fa N.length (N.getD 0 []).length (mch N F) := by
  obtain ⟨na', nc', fa', fc', e, _, _, hx', hfx'⟩ := dfa_parts hd
  obtain ⟨rfl, rfl⟩ : na = na' ∧ fa = fa' := by
    injection e with e
    have e1 := congrArg (fun z : Array Value => z.getD 0 (.bool false)) e
    have e2 := congrArg (fun z : Array Value => z.getD 1 (.bool false)) e
    simp at e1 e2
    exact ⟨e1.1, e2.1⟩
  have hri := rightD_iff.1 hr
  refine ⟨fun a c haN hc => ?_, fun a ha => ?_⟩
  · obtain ⟨g, off, x, h1, h2, h3, h4⟩ := hx' a haN
    obtain ⟨y, yc, rfl, hyc⟩ := h4.slice
    have hl : N[a].length = (N.getD 0 []).length := (hri.2.2.2.2.2 a haN).1
    have hcN : c < N[a].length := by omega
    obtain ⟨g2, o2, k1, k2, k3⟩ := h4.at hcN
    obtain ⟨q, q1, q2, q3⟩ := mch_ent hr haN (c := c) (by omega)
    have e2 : (N.getD a []).getD c 0 = N[a][c] := by
      have eN : N.getD a [] = N[a] := by rw [List.getD_eq_getElem?_getD, List.getElem?_eq_getElem haN]; rfl
      rw [eN, List.getD_eq_getElem?_getD, List.getElem?_eq_getElem hcN]
      rfl
    rw [q2] at e2
    rw [hl] at h3
    refine ⟨g, off, y, yc, g2, o2, h1, h2, h3, k1, k2, ?_, by rw [q3]; omega⟩
    rw [k3, ← e2, q3]
  · have haF : a < F.length := by omega
    obtain ⟨g, off, h1, h2, h3⟩ := hfx' a haF
    refine ⟨g, off, h1, h2, h3.trans ?_⟩
    show _ = some (Value.bool (F.getD a false))
    rw [List.getD_eq_getElem?_getD, List.getElem?_eq_getElem haF]
    rfl

end Go.Proofs.YtklhjjgnhigbiaaGreatDoor
