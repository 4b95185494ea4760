/-
  The law WordsParts: true, for all numbers.
-/
import Derived.Test.YtpmlbdfdiebkcaaDoorAw6
import Derived.Test.YtpmlbdfdiebkcaaDoorBreak6
namespace Go.Proofs.YtpmlbdfdiebkcaaDoor
open Go.RowKit
set_option linter.unusedVariables false

theorem meas_par {N i : Nat} (h : i ≤ N) (hb : i < 100000) : N + 1 - (intOf (.int .i64 (wrap64 ((i : Int) + 1)))).toNat < N + 1 - (intOf (.int .i64 (i : Int))).toNat := meas_up (by omega) (by omega)
/-- The list of places in memory. -/
theorem row_at {w : World} {v : Value} {ys : List Nat} (h : IntsAt w.heap.size w v (intsP ys)) (h0 : 0 < ys.length) : ∃ g off cap, v = .slice (some ⟨g, off, none⟩) ys.length cap ∧ ys.length ≤ cap ∧ ∀ w', Below w.heap.size w w' → ∀ (j b : Nat), ys[j]? = some b → w'.cell? ⟨g, off + j, none⟩ = some (.int .i64 (b : Int)) := by
  obtain ⟨a, cap, rfl, hc, hi⟩ := h
  rw [intsP_length] at hc
  obtain ⟨g, off, rfl, hg, _⟩ := hi 0 (by rw [intsP_length]; exact h0)
  refine ⟨g, off, cap, by rw [intsP_length], hc, fun w' hw' j b hj => ?_⟩
  have hlt : j < ys.length := (List.getElem?_eq_some_iff.1 hj).1
  obtain ⟨g', off', e, hg', hcell⟩ := hi j (by rw [intsP_length]; exact hlt)
  obtain ⟨rfl, rfl⟩ : g = g' ∧ off = off' := by cases e; exact ⟨rfl, rfl⟩
  rw [hw'.cell (p := ⟨g, off + j, none⟩) hg, hcell]
  have hb : ys[j] = b := (List.getElem?_eq_some_iff.1 hj).2
  simp [intsP, hb]
theorem below_all (l : List Int) : below l (l.length + 1) = allL l := rfl

set_option maxRecDepth 100000 in
set_option maxHeartbeats 8000000 in
theorem wordsParts_any (l : List Int) (v : Value) (w : World) (hv : IntsAt w.heap.size w v l) (hs : Scripts w) (h0 : 0 < w.heap.size) :
    Calls Tryd.prog 5 #[v] w fun e w' => e = .returned (.bool true) ∧ Below w.heap.size w w' := by
  have HS : Hid (Scripts w) := hs
  have HH0 : Hid (0 < w.heap.size) := h0
  have HV : Hid (IntsAt w.heap.size w v l) := hv
  obtain ⟨a, cap, rfl, hcap, hc⟩ := hv
  clear hs h0 hc
  go_enter Tryd.func5, Tryd.ntmps5
  go_wp2_with fail
  refine (awake_w w HS.out HH0.out).mono ?_
  rintro e w0 ⟨rfl, hB0⟩
  have HB0 : Hid (Below w.heap.size w w0) := hB0
  have HS0 : Hid (Scripts w0 ∧ 0 < w0.heap.size) := ⟨HS.out.below HH0.out hB0, by have := HH0.out; have := hB0.size; omega⟩
  clear hB0
  go_wp2_with fail
  refine (new_ship w0 HS0.out.1 HS0.out.2).mono ?_
  rintro e w1 ⟨g, rfl, hd, hB1⟩
  obtain ⟨HD1, HB1⟩ : Hid (Ship w1 g) ∧ Hid (Below w.heap.size w w1) := ⟨hd, HB0.out.trans (hB1.mono HB0.out.size)⟩
  clear hd hB1 HB0 HS0
  by_cases hn : 200 < l.length
  · have hn' : (200 : Int) < (l.length : Int) := by omega
    go_wp2
    go_ret
    exact ⟨rfl, HB1.out⟩
  have hn' : decide ((200 : Int) < (l.length : Int)) = false := decide_eq_false (by omega)
  have hn2 : decide (200 < l.length) = false := decide_eq_false (by omega)
  have HN : Hid (l.length ≤ 200) := by show _ ≤ _; omega
  have HV1 : Hid (IntsAt w1.heap.size w1 (.slice a l.length cap) l) := HV.out.on HB1.out
  clear hn
  go_wp2_with fail
  refine (all_any g _ l (by have := HN.out; omega) w1 HD1.out HV1.out).mono ?_
  rintro e w2 ⟨v2, rfl, ho2, hB2⟩
  have HB2 : Hid (Below w.heap.size w w2) := HB1.out.trans (hB2.mono HB1.out.size)
  have HD2 : Hid (Ship w2 g) := HD1.out.below hB2
  have hAL : 0 < (allL l).length := by rw [all_snoc]; simp
  obtain ⟨ga, oa, ca, rfl, hca, hrd⟩ := row_at (all_row ho2) hAL
  have HRD : Hid (∀ w', Below w2.heap.size w2 w' → ∀ (j b : Nat), (allL l)[j]? = some b → w'.cell? ⟨ga, oa + j, none⟩ = some (.int .i64 (b : Int))) := hrd
  obtain ⟨M, hM⟩ : ∃ M, M = (allL l).length := ⟨_, rfl⟩
  obtain ⟨M1, hM1⟩ : ∃ M1, M = M1 + 1 := ⟨M - 1, by omega⟩
  have HM : Hid (M = (allL l).length ∧ M = M1 + 1 ∧ M ≤ 201) := ⟨hM, hM1, by have := allL_len l; have := HN.out; omega⟩
  have c0 : w2.cell? ⟨ga, oa, none⟩ = some (.int .i64 0) := HRD.out w2 (Below.refl _ _) 0 0 (all_first l)
  have c1 : w2.cell? ⟨ga, oa + M1, none⟩ = some (.int .i64 (l.length : Int)) := by
    refine HRD.out w2 (Below.refl _ _) M1 l.length ?_
    have e : M1 = (below l l.length).length := by
      have := congrArg List.length (all_snoc l)
      rw [List.length_append, List.length_singleton, ← hM] at this
      omega
    rw [all_snoc, e]
    simp
  rw [← hM]
  have hz : ((M : Int) == 0) = false := by rw [beq_eq_false_iff_ne]; omega
  have hwm : IntKind.i64.wrap ((M : Int) - 1) = (M1 : Int) := (IntWalk.i64_in _ (by have := HM.out; omega)).trans (by omega)
  have hm1 : (M1 : Int) < (M : Int) := by omega
  have hm0 : (0 : Int) < (M : Int) := by omega
  have hll : ((l.length : Int) != (l.length : Int)) = false := by simp
  clear ho2 hB2 hrd hM hM1 hAL
  go_wp2
  clear c0 c1
  go_loopw [6, 7] (fun x y wr => ∃ i : Nat, i ≤ l.length + 1 ∧ y = .int .i64 (i : Int) ∧ x = .int .i64 ((below l i).length : Int) ∧ Below w2.heap.size w2 wr) (fun _ y _ => l.length + 1 - (intOf y).toNat)
  case atStart => exact ⟨0, Nat.zero_le _, rfl, rfl, Below.refl _ _⟩
  case round =>
    obtain ⟨i, hi, rfl, rfl, hB⟩ := hrel
    have HB : Hid (Below w2.heap.size w2 wr) := hB
    have HBW : Hid (Below w.heap.size w wr) := HB2.out.trans (hB.mono HB2.out.size)
    clear hB
    by_cases hlt : i ≤ l.length
    · have hlt' : (i : Int) ≤ (l.length : Int) := by omega
      obtain ⟨c, hcc⟩ : ∃ c, c = (below l i).length := ⟨_, rfl⟩
      have HCC : Hid (c = (below l i).length) := hcc
      obtain ⟨b, hb1, hb2⟩ := all_at hlt
      rw [← hcc] at hb1
      have HRB : Hid ((allL l)[c]? = some b) := hb1
      have HBB : Hid (b = i ↔ brk l i = true) := hb2
      have hcM : c < M := by rw [HM.out.1]; exact (List.getElem?_eq_some_iff.1 hb1).1
      have hcM' : (c : Int) < (M : Int) := by omega
      rw [← hcc]
      clear hcc hb1 hb2
      go_wp2_with fail
      refine (break_any l _ g i wr (HD2.out.below HB.out) (HV.out.on HBW.out) (by have := HN.out; omega) hlt).mono ?_
      rintro e w3 ⟨rfl, hB3⟩
      have HB3 : Hid (Below w2.heap.size w2 w3) := HB.out.trans (hB3.mono HB.out.size)
      have hcb := HRD.out w3 HB3.out c b HRB.out
      clear hB3
      obtain ⟨E, hE⟩ : ∃ E, E = brk l i := ⟨_, rfl⟩
      have HE : Hid (brk l i = E) := hE.symm
      rw [← hE]
      clear hE
      have HWN : Hid (wrap64 ((i : Int) + 1) = ((i + 1 : Nat) : Int)) := wrap_next (by have := HN.out; omega)
      cases E with
      | true =>
        obtain rfl : b = i := HBB.out.2 HE.out
        obtain ⟨c1, hc1⟩ : ∃ c1, c1 = c + 1 := ⟨_, rfl⟩
        have HC1 : Hid (c1 = c + 1) := hc1
        have hwa : IntKind.i64.wrap ((c : Int) + 1) = (c1 : Int) := (IntWalk.i64_in _ (by have := HM.out; omega)).trans (by omega)
        have HNL : Hid ((below l (b + 1)).length = c1) := by
          show _ = _
          rw [below_succ, if_pos HE.out, List.length_append, List.length_singleton, ← HCC.out, HC1.out]
        have hbb : ((b : Int) == (b : Int)) = true := by simp
        clear hc1
        go_wp2
        go_roundw
        case rel => exact ⟨b + 1, by omega, by rw [HWN.out], by rw [HNL.out], HB3.out⟩
        case measure => exact meas_par hlt (by have := HN.out; omega)
      | false =>
        have HNE : Hid (b ≠ i) := fun e => by have := HBB.out.1 e; rw [HE.out] at this; cases this
        have hbi : ((b : Int) == (i : Int)) = false := by rw [beq_eq_false_iff_ne]; have := HNE.out; omega
        have hbn : (b == i) = false := by rw [beq_eq_false_iff_ne]; exact HNE.out
        have HNL : Hid ((below l (i + 1)).length = c) := by
          show _ = _
          rw [below_succ, HE.out, if_neg (by simp), ← HCC.out]
        go_wp2
        go_roundw
        case rel => exact ⟨i + 1, by omega, by rw [HWN.out], by rw [HNL.out], HB3.out⟩
        case measure => exact meas_par hlt (by have := HN.out; omega)
    · obtain rfl : i = l.length + 1 := by omega
      have hge : ¬ (((l.length + 1 : Nat) : Int) ≤ (l.length : Int)) := by omega
      have hMM : ((M : Int) == (M : Int)) = true := by simp
      rw [below_all, ← HM.out.1]
      clear hlt hi
      go_wp2
      go_ret
      exact ⟨rfl, HBW.out⟩
end Go.Proofs.YtpmlbdfdiebkcaaDoor
