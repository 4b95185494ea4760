/-
  What the laws of layer 13 lean on, of states alone.
-/
import Derived.Test.YtleafbbcgebmpaaDoorGQ
namespace Go.Proofs.YtleafbbcgebmpaaDoor
open Go.RowKit Go.Shelf
set_option linter.unusedVariables false

section
variable {N N' : List (List Int)} {F F' : List Bool}
theorem runE_bad (cs : List Int) (h : ¬ (rightD N F = true ∧ cs.all (inB (N.getD 0 []).length) = true)) : runE N F 0 cs = 1 := by
  unfold runE
  rw [if_neg]
  intro h2
  unfold runOk at h2
  simp only [Bool.and_eq_true] at h2
  exact h ⟨h2.1.1, h2.2⟩
/-- A run, and a run of the fewest. -/
theorem run_le (h : rightD N F = true) (cs : List Int) : (runE N F 0 cs = 1 ∧ runE (leN N F) (leF N F) 0 cs = 1) ∨ (runE N F 0 cs = 0 ∧ runE (leN N F) (leF N F) 0 cs = 0 ∧ ∃ q1 q2 : Nat, runV N F 0 cs = (q1 : Int) ∧ runV (leN N F) (leF N F) 0 cs = (q2 : Int) ∧ ∃ (h1 : q1 < F.length) (h2 : q2 < (leF N F).length), F[q1] = (leF N F)[q2]) := by
  by_cases hc : cs.all (inB (N.getD 0 []).length) = true
  · right
    have hc' : cs.all (inB ((leN N F).getD 0 []).length) = true := by rw [le_cls h]; exact hc
    obtain ⟨q1, a1, a2, a3, a4⟩ := runV_mch h hc
    obtain ⟨q2, b1, b2, b3, b4⟩ := runV_mch (le_right h) hc'
    exact ⟨a2, b2, q1, q2, a1, b1, a3, b3, by rw [a4, b4]; exact le_lng h _ (wd_natL hc)⟩
  · left
    exact ⟨runE_bad cs (fun q => hc q.2), runE_bad cs (fun q => hc (by rw [← le_cls h]; exact q.2))⟩
theorem both_le (h : rightD N F = true) : bothB N F (leN N F) (leF N F) = true := by
  unfold bothB
  rw [h, le_right h, le_cls h]
  simp
theorem ak_le (h : rightD N F = true) : akB N F (leN N F) (leF N F) = true ∧ apE N F (leN N F) (leF N F) = 0 := by
  unfold akB apE apO
  rw [both_le h, le_alike h]
  exact ⟨rfl, rfl⟩
theorem les_of (h : rightD N F = true) : lesE N F = 0 ∧ lesN N F = leN N F ∧ lesF N F = leF N F := by
  unfold lesE lesN lesF
  rw [if_pos h, if_pos h, if_pos h]
  exact ⟨rfl, rfl, rfl⟩
theorem les_not (h : rightD N F = false) : lesE N F = 1 := by
  unfold lesE
  rw [h]
  rfl
/-- A final mark in memory. -/
theorem dfa_fin {w : World} {na fa : Option Addr} {n m nc fc : Nat} (h : DfaAt w (.agg #[.slice na n nc, .slice fa m fc]) N F) {q : Nat} (hq : q < F.length) : ∃ g off, fa = some ⟨g, off, none⟩ ∧ g < w.heap.size ∧ w.cell? ⟨g, off + q, none⟩ = some (.bool F[q]) := by
  obtain ⟨na', nc', fa', fc', e, _, _, _, hfx⟩ := dfa_parts h
  obtain rfl : fa = fa' := by
    injection e with e
    have := congrArg (fun z : Array Value => z.getD 1 (.bool false)) e
    simp at this
    exact this.1
  exact hfx q hq
/-- Runs of two. -/
theorem run_both (h : rightD N F = true) (h' : rightD N' F' = true) (hk : (N.getD 0 []).length = (N'.getD 0 []).length) (cs : List Int) : (runE N F 0 cs = 1 ∧ runE N' F' 0 cs = 1 ∧ ¬ cs.all (inB (N.getD 0 []).length) = true) ∨ (runE N F 0 cs = 0 ∧ runE N' F' 0 cs = 0 ∧ (mch N F).wd (natL cs) ∧ ∃ q1 q2 : Nat, runV N F 0 cs = (q1 : Int) ∧ runV N' F' 0 cs = (q2 : Int) ∧ ∃ (h1 : q1 < F.length) (h2 : q2 < F'.length), F[q1] = (mch N F).tk 0 (natL cs) ∧ F'[q2] = (mch N' F').tk 0 (natL cs)) := by
  by_cases hc : cs.all (inB (N.getD 0 []).length) = true
  · right
    obtain ⟨q1, a1, a2, a3, a4⟩ := runV_mch h hc
    obtain ⟨q2, b1, b2, b3, b4⟩ := runV_mch h' (cs := cs) (by rw [← hk]; exact hc)
    exact ⟨a2, b2, wd_natL hc, q1, q2, a1, b1, a3, b3, a4, b4⟩
  · left
    exact ⟨runE_bad cs (fun q => hc q.2), runE_bad cs (fun q => hc (by rw [hk]; exact q.2)), hc⟩
theorem natL_upI (u : List Nat) : natL (upI u) = u := by
  unfold natL upI
  rw [List.map_map]
  refine (List.map_congr_left (fun x _ => ?_)).trans (List.map_id u)
  simp
theorem all_upI {u : List Nat} (h : (mch N F).wd u) : (upI u).all (inB (N.getD 0 []).length) = true := List.all_eq_true.2 (fun x hx => by
  unfold upI at hx
  obtain ⟨y, hy, rfl⟩ := List.mem_map.1 hx
  have := h y hy
  exact inB_iff.2 ⟨by simp, by have h2 : y < (N.getD 0 []).length := this; simpa using h2⟩)
/-- What Apart's word tells of a run through the classes cs. -/
theorem wit_x (hb : bothB N F N' F' = true) (cs : List Int) (hs : apO N F N' F' = none ∨ ∃ u, apO N F N' F' = some u ∧ cs.length < u.length) : (runE N F 0 cs = 1 ∧ runE N' F' 0 cs = 1) ∨ (runE N F 0 cs = 0 ∧ runE N' F' 0 cs = 0 ∧ ∃ q1 q2 : Nat, runV N F 0 cs = (q1 : Int) ∧ runV N' F' 0 cs = (q2 : Int) ∧ ∃ (h1 : q1 < F.length) (h2 : q2 < F'.length), F[q1] = F'[q2]) := by
  obtain ⟨h, h', hk⟩ := both_parts hb
  have e : apO N F N' F' = apD (mch N F) (mch N' F') := by unfold apO; rw [if_pos hb]
  rcases run_both h h' hk cs with ⟨a, b, _⟩ | ⟨a, b, hw, q1, q2, c1, c2, h1, h2, d1, d2⟩
  · exact .inl ⟨a, b⟩
  · refine .inr ⟨a, b, q1, q2, c1, c2, h1, h2, ?_⟩
    rw [d1, d2]
    rcases hs with hs | ⟨u, hs, hl⟩
    · rw [e] at hs
      exact (apD_none (mch_ok h) (mch_ok h') hk).1 hs _ hw
    · rw [e] at hs
      exact (apD_some (mch_ok h) (mch_ok h') hk hs).2.2 _ hw (by unfold natL; rw [List.length_map]; exact hl)
theorem wit_w (hb : bothB N F N' F' = true) {u : List Nat} (hs : apO N F N' F' = some u) : runE N F 0 (upI u) = 0 ∧ runE N' F' 0 (upI u) = 0 ∧ ∃ q1 q2 : Nat, runV N F 0 (upI u) = (q1 : Int) ∧ runV N' F' 0 (upI u) = (q2 : Int) ∧ ∃ (h1 : q1 < F.length) (h2 : q2 < F'.length), F'[q2] = !F[q1] := by
  obtain ⟨h, h', hk⟩ := both_parts hb
  have e : apO N F N' F' = apD (mch N F) (mch N' F') := by unfold apO; rw [if_pos hb]
  rw [e] at hs
  obtain ⟨k1, k2, k3⟩ := apD_some (mch_ok h) (mch_ok h') hk hs
  rcases run_both h h' hk (upI u) with ⟨_, _, hno⟩ | ⟨a, b, hw, q1, q2, c1, c2, h1, h2, d1, d2⟩
  · exact absurd (all_upI k1) hno
  · refine ⟨a, b, q1, q2, c1, c2, h1, h2, ?_⟩
    rw [d1, d2, natL_upI]
    revert k2
    cases (mch N F).tk 0 u <;> cases (mch N' F').tk 0 u <;> simp
end
/-- Two states' halves. -/
theorem dfa_mix {w : World} {x1 f1 x2 f2 : Value} {N N2 : List (List Int)} {F F2 : List Bool} (h1 : DfaAt w (.agg #[x1, f1]) N2 F) (h2 : DfaAt w (.agg #[x2, f2]) N F2) : DfaAt w (.agg #[x2, f1]) N F := by
  obtain ⟨a1, b1, e1, p1, q1⟩ := h1
  obtain ⟨a2, b2, e2, p2, q2⟩ := h2
  injection e1 with e1
  injection e2 with e2
  have k1 := congrArg (fun z : Array Value => z.getD 1 (.bool false)) e1
  have k2 := congrArg (fun z : Array Value => z.getD 0 (.bool false)) e2
  simp at k1 k2
  subst k1 k2
  exact ⟨_, _, rfl, p2, q1⟩
theorem dfa_fin_row {w : World} {base : Nat} {x f2 f1 : Value} {N : List (List Int)} {F F2 : List Bool} (h : DfaAt w (.agg #[x, f2]) N F2) (hr : w.ownsRow base 4 1 f1 F.length (cellBo F)) : DfaAt w (.agg #[x, f1]) N F := by
  obtain ⟨a2, b2, e2, p2, q2⟩ := h
  injection e2 with e2
  have k2 := congrArg (fun z : Array Value => z.getD 0 (.bool false)) e2
  simp at k2
  subst k2
  exact ⟨_, _, rfl, p2, bol_of_row hr⟩
/-- Where Final is turned. -/
theorem les_turn (N : List (List Int)) (F : List Bool) : lesE N (F.map (!·)) = lesE N F ∧ lesN N (F.map (!·)) = lesN N F ∧ lesF N (F.map (!·)) = (lesF N F).map (!·) := by
  by_cases h : rightD N F = true
  · obtain ⟨k1, k2, k3⟩ := le_not h
    obtain ⟨a1, a2, a3⟩ := les_of h
    obtain ⟨b1, b2, b3⟩ := les_of k1
    exact ⟨by rw [a1, b1], by rw [a2, b2, k2], by rw [a3, b3, k3]⟩
  · have h2 : ¬ rightD N (F.map (!·)) = true := fun q => h (by
      obtain ⟨c1, c2, c3, c4, c5, c6⟩ := rightD_iff.1 q
      rw [List.length_map] at c3
      exact rightD_iff.2 ⟨c1, c2, c3, c4, c5, c6⟩)
    unfold lesE lesN lesF
    rw [if_neg h, if_neg h2, if_neg h, if_neg h2, if_neg h, if_neg h2]
    exact ⟨rfl, rfl, rfl⟩
end Go.Proofs.YtleafbbcgebmpaaDoor
