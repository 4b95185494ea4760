/-
  States in memory, as natural numbers.
-/
import Derived.Test.YtklhjjgnhigbiaaGreatDoorPkMem
namespace Go.Proofs.YtklhjjgnhigbiaaGreatDoor
open Go.RowKit Go.Shelf
set_option linter.unusedVariables false

theorem dfa_parts14 {w : World} {dv : Value} {N : List (List Int)} {F : List Bool} (h : DfaAt w dv N F) : ∃ na nc fa fc, dv = .agg #[.slice na N.length nc, .slice fa F.length fc] ∧ N.length ≤ nc ∧ F.length ≤ fc ∧
    (∀ i, (h : i < N.length) → ∃ g off x, na = some ⟨g, off, none⟩ ∧ g < w.heap.size ∧ w.cell? ⟨g, off + i, none⟩ = some x ∧ IntsAt w x N[i]) ∧ (∀ i, (h : i < F.length) → ∃ g off, fa = some ⟨g, off, none⟩ ∧ g < w.heap.size ∧ w.cell? ⟨g, off + i, none⟩ = some (.bool F[i])) := by
  obtain ⟨nv, fv, rfl, ⟨a, cap, rfl, hc, hn, hx⟩, fa, fc, rfl, hfc, hf0, hfx⟩ := h
  exact ⟨a, cap, fa, fc, rfl, hc, hfc, hx, hfx⟩
theorem agg2_inj {a b c d : Value} (h : Value.agg #[a, b] = .agg #[c, d]) : a = c ∧ b = d := by
  injection h with e
  have e1 := congrArg (fun z : Array Value => z.getD 0 (.bool false)) e
  have e2 := congrArg (fun z : Array Value => z.getD 1 (.bool false)) e
  simp at e1 e2
  exact ⟨e1, e2⟩
theorem dfa_fin14 {w : World} {na fa : Option Addr} {n m nc fc : Nat} {N : List (List Int)} {F : List Bool} (h : DfaAt w (.agg #[.slice na n nc, .slice fa m fc]) N F) {q : Nat} (hq : q < F.length) : ∃ g off, fa = some ⟨g, off, none⟩ ∧ g < w.heap.size ∧ w.cell? ⟨g, off + q, none⟩ = some (.bool F[q]) := by
  obtain ⟨na', nc', fa', fc', e, _, _, _, hfx⟩ := dfa_parts14 h
  have := (agg2_inj e).2
  injection this with e1 _ _
  subst e1
  exact hfx q hq
/-- The rows as natural numbers. -/
def nat14 (N : List (List Int)) : List (List Nat) := N.map fun r => r.map Int.toNat
theorem nat14_at {N : List (List Int)} {s : Nat} (h : s < N.length) : (nat14 N)[s]'(by simpa [nat14] using h) = N[s].map Int.toNat := by simp [nat14]
theorem nat14_len (N : List (List Int)) : (nat14 N).length = N.length := by simp [nat14]
theorem nat14_getD (N : List (List Int)) (s : Nat) : ((nat14 N).getD s []).length = (N.getD s []).length := by
  unfold nat14
  rw [List.getD_eq_getElem?_getD, List.getElem?_map, List.getD_eq_getElem?_getD]
  cases N[s]? with
  | none => rfl
  | some r => simp
theorem nat14_rows {N : List (List Int)} {F : List Bool} (h : rightD N F = true) : ∀ r ∈ nat14 N, r.length = (N.getD 0 []).length ∧ ∀ x ∈ r, x < N.length := by
  obtain ⟨h1, h2, h3, h4, h5, h6⟩ := rightD_iff.1 h
  intro r hr
  unfold nat14 at hr
  obtain ⟨r0, hr0, rfl⟩ := List.mem_map.1 hr
  obtain ⟨i, hi, rfl⟩ := List.mem_iff_getElem.1 hr0
  obtain ⟨k1, k2⟩ := h6 i hi
  refine ⟨by rw [List.length_map]; exact k1, fun x hx => ?_⟩
  obtain ⟨z, hz, rfl⟩ := List.mem_map.1 hx
  have := inB_iff.1 (List.all_eq_true.1 k2 z hz)
  omega
theorem nat14_back {N : List (List Int)} {F : List Bool} (h : rightD N F = true) : intsL (nat14 N) = N := by
  obtain ⟨h1, h2, h3, h4, h5, h6⟩ := rightD_iff.1 h
  unfold intsL nat14
  rw [List.map_map]
  refine (List.map_congr_left (fun r hr => ?_)).trans (List.map_id N)
  obtain ⟨i, hi, rfl⟩ := List.mem_iff_getElem.1 hr
  have k2 := (h6 i hi).2
  show upI (N[i].map Int.toNat) = N[i]
  unfold upI
  rw [List.map_map]
  refine (List.map_congr_left (fun z hz => ?_)).trans (List.map_id _)
  have := inB_iff.1 (List.all_eq_true.1 k2 z hz)
  show ((z.toNat : Nat) : Int) = z
  omega
theorem nat14_ints (R : List (List Nat)) : nat14 (intsL R) = R := by
  unfold intsL nat14
  rw [List.map_map]
  refine (List.map_congr_left (fun r hr => ?_)).trans (List.map_id R)
  show (upI r).map Int.toNat = r
  unfold upI
  rw [List.map_map]
  exact (List.map_congr_left (fun z hz => by simp)).trans (List.map_id _)
theorem row14 {w : World} {na fa : Option Addr} {n m nc fc : Nat} {N : List (List Int)} {F : List Bool} (hd : DfaAt w (.agg #[.slice na n nc, .slice fa m fc]) N F) (hr : rightD N F = true) {s : Nat} (hs : s < N.length) : ∃ g off yc g2 o2, na = some ⟨g, off, none⟩ ∧ g < w.heap.size ∧ w.cell? ⟨g, off + s, none⟩ = some (.slice (some ⟨g2, o2, none⟩) (N.getD 0 []).length yc) ∧ g2 < w.heap.size ∧ ∀ k, (hk : k < (N[s].map Int.toNat).length) → w.cell? ⟨g2, o2 + k, none⟩ = some (.int .i64 (((N[s].map Int.toNat)[k] : Nat) : Int)) := by
  obtain ⟨h1, h2, h3, h4, h5, h6⟩ := rightD_iff.1 hr
  obtain ⟨na', nc', fa', fc', e, _, _, hx, _⟩ := dfa_parts14 hd
  have := (agg2_inj e).1
  injection this with e1 _ _
  subst e1
  obtain ⟨g, off, x, k1, k2, k3, k4⟩ := hx s hs
  obtain ⟨l1, l2⟩ := h6 s hs
  obtain ⟨y, yc, rfl, hyc⟩ := k4.slice
  obtain ⟨g2, o2, rfl, q2, q3⟩ := k4.at (j := 0) (by omega)
  rw [l1] at k3
  refine ⟨g, off, yc, g2, o2, k1, k2, k3, q2, fun k hk => ?_⟩
  rw [List.length_map] at hk
  obtain ⟨g3, o3, e3, p2, p3⟩ := k4.at hk
  injection e3 with e3
  injection e3 with e4 e5 _
  subst e4 e5
  rw [p3, List.getElem_map]
  have := inB_iff.1 (List.all_eq_true.1 l2 _ (List.getElem_mem hk))
  congr 2
  omega
/-- What Save answers. -/
def svE (N : List (List Int)) (F : List Bool) : Int := if rightD N F = true then 0 else 1
def svB (N : List (List Int)) (F : List Bool) : List Nat := if rightD N F = true then savB (nat14 N) F else []
def SavA (N : List (List Int)) (F : List Bool) (w : World) (e : Ending) (w' : World) : Prop := ∃ v, e = .returned (.tuple #[v, .int .i64 (svE N F)]) ∧ BytAt w' v (svB N F) ∧ Below w.heap.size w w'
end Go.Proofs.YtklhjjgnhigbiaaGreatDoor
