/-
  subset.Right. (Out of stage 12's texts.)
-/
import Derived.Test.YtleafbbcgebmpaaDoorLsMem
namespace Go.Proofs.YtleafbbcgebmpaaDoor
open Go.RowKit Go.Shelf
set_option linter.unusedVariables false

theorem oneTo_any (m n : Int) (w : World) : Calls Tryd.prog 28 #[.int .i64 m, .int .i64 n] w fun e w' => e = .returned (.bool (decide (1 ≤ n) && decide (n ≤ m))) ∧ w' = w := by
  go_enter Tryd.func28, Tryd.ntmps28
  by_cases h : 1 ≤ n
  · have h1 : decide (1 ≤ n) = true := decide_eq_true h
    go_wp2
    go_ret
    exact ⟨by first | (simp; done) | simp [h], by first | rfl | trivial⟩
  · have h1 : decide (1 ≤ n) = false := decide_eq_false h
    go_wp2
    go_ret
    exact ⟨by first | (simp; done) | simp [h], by first | rfl | trivial⟩
theorem below_any12 (c n : Int) (w : World) : Calls Tryd.prog 38 #[.int .i64 c, .int .i64 n] w fun e w' => e = .returned (.bool (inB c n)) ∧ w' = w := by
  go_enter Tryd.func38, Tryd.ntmps38
  by_cases h : 0 ≤ n
  · go_wp2
    go_ret
    exact ⟨by simp [inB, h], by first | rfl | trivial⟩
  · go_wp2
    go_ret
    exact ⟨by simp [inB]; intro q; omega, by first | rfl | trivial⟩

set_option maxRecDepth 100000 in
set_option maxHeartbeats 4000000 in
theorem allBelow_any (c : Int) (l : List Int) (v : Value) (w : World) (hv : IntsAt w v l) (hl : l.length ≤ 1000000) : Calls Tryd.prog 29 #[.int .i64 c, v] w fun e w' => e = .returned (.bool (l.all (inB c))) ∧ w' = w := by
  have HV : Hid (IntsAt w v l) := hv
  obtain ⟨a, ca, rfl, hca⟩ := hv.slice
  obtain ⟨len, hle⟩ : ∃ n, n = l.length := ⟨_, rfl⟩
  have HLE : Hid (len = l.length) := hle
  rw [← hle] at hca hl HV ⊢
  clear hle hv
  go_enter Tryd.func29, Tryd.ntmps29
  go_wp2
  go_loopw [9] (fun x wr => ∃ k : Nat, k ≤ len ∧ x = .int .i64 (k : Int) ∧ Hid (∀ i, (h : i < l.length) → i < k → inB c l[i] = true) ∧ wr = w) (fun x _ => len - (intOf x).toNat)
  case atStart => exact ⟨0, Nat.zero_le _, rfl, fun i _ h => absurd h (by omega), rfl⟩
  case round =>
    obtain ⟨k, hk, rfl, HK, rfl⟩ := hrel
    by_cases hlt : k < len
    · have hkz : k < l.length := by rw [← HLE.out]; exact hlt
      obtain ⟨ga, oa, rfl, hga, a0⟩ := HV.out.at hkz
      obtain ⟨z, hz⟩ : ∃ z : Int, z = l[k] := ⟨_, rfl⟩
      have HZ : Hid (z = l[k]) := hz
      rw [← hz] at a0
      clear hz
      have hk0 : (0 : Int) ≤ (k : Int) := by omega
      have hk1 : (k : Int) < (len : Int) := by omega
      have hb := below_any12 c z wr
      obtain ⟨b, hbb⟩ : ∃ b, b = inB c z := ⟨_, rfl⟩
      have HBB : Hid (b = inB c z) := hbb
      rw [← hbb] at hb
      clear hbb
      cases b with
      | false =>
        go_wp2_with fail
        refine hb.mono ?_
        rintro e w1 ⟨rfl, hw1⟩
        have hw1' := hw1.symm
        subst hw1'
        clear hb
        go_wp2
        go_ret
        refine ⟨?_, by first | rfl | trivial⟩
        have : l.all (inB c) = false := by
          rw [Bool.eq_false_iff]
          intro q
          have := List.all_eq_true.1 q _ (List.getElem_mem hkz)
          rw [← HZ.out, ← HBB.out] at this
          exact absurd this (by decide)
        rw [this]; rfl
      | true =>
        go_wp2_with fail
        refine hb.mono ?_
        rintro e w1 ⟨rfl, hw1⟩
        have hw1' := hw1.symm
        subst hw1'
        clear hb
        go_wp2
        go_roundw
        case rel =>
          refine ⟨k + 1, by omega, by go_num, fun i h1 h2 => ?_, by first | rfl | trivial⟩
          by_cases e : i < k
          · exact HK.out i h1 e
          · obtain rfl : i = k := by omega
            rw [← HZ.out]
            exact HBB.out.symm
        case measure => simp [intOf]; omega
    · obtain rfl : k = len := by omega
      go_wp2
      go_ret
      refine ⟨?_, by first | rfl | trivial⟩
      have : l.all (inB c) = true := List.all_eq_true.2 (fun x hx => by
        obtain ⟨i, hi, rfl⟩ := List.mem_iff_getElem.1 hx
        exact HK.out i hi (by rw [HLE.out]; exact hi))
      rw [this]; rfl
set_option maxRecDepth 100000 in
set_option maxHeartbeats 8000000 in
theorem sright_any (N : List (List Int)) (F : List Bool) (dv : Value) (w : World) (hd : DfaAt w dv N F) : Calls Tryd.prog 20 #[dv] w fun e w' => e = .returned (.bool (rightD N F)) ∧ Below w.heap.size w w' := by
  obtain ⟨nv, fv, rfl, ⟨na, nc, rfl, hnc, hn0, hx⟩, fa, fc, rfl, hfc, hf0, hfx⟩ := hd
  have HX : Hid (∀ i, (h : i < N.length) → ∃ g off x, na = some ⟨g, off, none⟩ ∧ g < w.heap.size ∧ w.cell? ⟨g, off + i, none⟩ = some x ∧ IntsAt w x N[i]) := hx
  obtain ⟨n, hn⟩ : ∃ x, x = N.length := ⟨_, rfl⟩
  obtain ⟨m, hm⟩ : ∃ x, x = F.length := ⟨_, rfl⟩
  obtain ⟨c, hc⟩ : ∃ x, x = (N.getD 0 []).length := ⟨_, rfl⟩
  have HN : Hid (n = N.length) := hn
  have HM : Hid (m = F.length) := hm
  have HC : Hid (c = (N.getD 0 []).length) := hc
  have HRT : Hid ((1 ≤ n ∧ n ≤ 5000 ∧ m = n ∧ 1 ≤ c ∧ c ≤ 200 ∧ ∀ i, (h : i < N.length) → N[i].length = c ∧ N[i].all (inB n) = true) → rightD N F = true) := by
    rw [hn, hm, hc]; exact fun h => rightD_iff.2 h
  have HRF : Hid (¬ (1 ≤ n ∧ n ≤ 5000 ∧ m = n ∧ 1 ≤ c ∧ c ≤ 200 ∧ ∀ i, (h : i < N.length) → N[i].length = c ∧ N[i].all (inB n) = true) → rightD N F = false) := by
    rw [hn, hm, hc]; exact rightD_not
  obtain ⟨R, hR⟩ : ∃ R, R = rightD N F := ⟨_, rfl⟩
  rw [← hR] at HRT HRF ⊢
  rw [← hn] at hnc ⊢
  rw [← hm] at hfc ⊢
  obtain ⟨W0, hW0⟩ : ∃ W, W = w.alloc (.cells #[.slice na n nc, .slice fa m fc] 25) := ⟨_, rfl⟩
  have hB0 : Below w.heap.size w W0 := by rw [hW0]; exact below_alloc _ _
  have hbx : DBox W0 w.heap.size (.slice na n nc) (.slice fa m fc) := by rw [hW0]; exact heap_new' _ _
  have HW0 : Hid (W0 = _) := hW0
  have HB0 : Hid (Below w.heap.size w W0) := hB0
  have c0 := hbx.c0
  have c1 := hbx.c1
  have hlt := hbx.lt
  have o1 := oneTo_any 5000 (n : Int) W0
  have o2 := oneTo_any 200 (c : Int) W0
  clear hx hfx hn hm hc hR hbx hW0 hB0
  go_enter Tryd.func20, Tryd.ntmps20
  go_upto_region 1 with fail
  rw [← HW0.out]
  by_cases hn1 : 1 ≤ n ∧ n ≤ 5000
  · have e1 : (decide (1 ≤ (n : Int)) && decide ((n : Int) ≤ 5000)) = true := by simp; omega
    rw [e1] at o1
    go_wp2_with fail
    refine o1.mono ?_
    rintro e w1 ⟨rfl, hw1⟩
    have hw1' := hw1.symm
    subst hw1'
    clear o1
    by_cases hmn : m = n
    · subst hmn
      have hN0 : 0 < N.length := by rw [← HN.out]; omega
      obtain ⟨g0, q0, x0, rfl, hg0, r0, hi0⟩ := HX.out 0 hN0
      obtain ⟨y0, yc0, rfl, hyc0⟩ := hi0.slice
      have hce : N[0].length = c := by rw [HC.out, List.getD_eq_getElem?_getD, List.getElem?_eq_getElem hN0]; rfl
      rw [hce] at r0 hyc0
      have r0' : W0.cell? ⟨g0, q0, none⟩ = some (.slice y0 c yc0) := (HB0.out.cell (p := ⟨g0, _, none⟩) hg0).trans r0
      have hm0 : (0 : Int) < (m : Int) := by omega
      clear hi0 hce r0
      by_cases hc1 : 1 ≤ c ∧ c ≤ 200
      · have e2 : (decide (1 ≤ (c : Int)) && decide ((c : Int) ≤ 200)) = true := by simp; omega
        rw [e2] at o2
        have hc2 : c ≤ 200 := hc1.2
        have hm5 : m ≤ 5000 := hn1.2
        go_wp2_with fail
        refine o2.mono ?_
        rintro e w1 ⟨rfl, hw1⟩
        have hw1' := hw1.symm
        subst hw1'
        clear o2
        go_wp2
        go_loopw [31] (fun x wr => ∃ k : Nat, k ≤ m ∧ x = .int .i64 (k : Int) ∧ Hid (∀ i, (h : i < N.length) → i < k → N[i].length = c ∧ N[i].all (inB m) = true) ∧ wr = W0) (fun x _ => m - (intOf x).toNat)
        case atStart => exact ⟨0, Nat.zero_le _, rfl, fun i _ h => absurd h (by omega), rfl⟩
        case round =>
          obtain ⟨k, hk, rfl, HK, rfl⟩ := hrel
          by_cases hlt2 : k < m
          · have hkz : k < N.length := by rw [← HN.out]; exact hlt2
            obtain ⟨g1, q1, x1, e1', hg1, r1, hi1⟩ := HX.out k hkz
            obtain ⟨rfl, rfl⟩ : g0 = g1 ∧ q0 = q1 := by
              injection e1' with e1'
              injection e1' with h1 h2 _
              exact ⟨h1, h2⟩
            obtain ⟨y1, yc1, rfl, hyc1⟩ := hi1.slice
            obtain ⟨z, hz⟩ : ∃ z, z = N[k].length := ⟨_, rfl⟩
            have HZ : Hid (z = N[k].length) := hz
            rw [← hz] at r1 hyc1 hi1
            have r1' : wr.cell? ⟨g0, q0 + k, none⟩ = some (.slice y1 z yc1) := (HB0.out.cell (p := ⟨g0, _, none⟩) hg1).trans r1
            have hk0 : (0 : Int) ≤ (k : Int) := by omega
            have hk1 : (k : Int) < (m : Int) := by omega
            have HI1 : Hid (IntsAt wr (.slice y1 z yc1) N[k]) := hi1.below HB0.out
            clear hi1 hz r1
            by_cases hzc : z = c
            · have ha := allBelow_any (m : Int) N[k] (.slice y1 z yc1) wr HI1.out (by rw [← HZ.out]; omega)
              obtain ⟨b, hb⟩ : ∃ b, b = N[k].all (inB m) := ⟨_, rfl⟩
              have HBB : Hid (b = N[k].all (inB m)) := hb
              rw [← hb] at ha
              clear hb
              have hnq : ((c : Int) != (c : Int)) = false := by simp
              have HZC : Hid (z = c) := hzc
              rw [hzc] at ha r1' hyc1
              clear hzc
              cases b with
              | false =>
                go_wp2_with fail
                refine ha.mono ?_
                rintro e w1 ⟨rfl, hw1⟩
                have hw1' := hw1.symm
                subst hw1'
                clear ha
                go_wp2
                go_ret
                refine ⟨?_, HB0.out⟩
                rw [HRF.out (fun q => by
                  have := (q.2.2.2.2.2 k hkz).2
                  rw [← HBB.out] at this
                  exact absurd this (by decide))]
                rfl
              | true =>
                go_wp2_with fail
                refine ha.mono ?_
                rintro e w1 ⟨rfl, hw1⟩
                have hw1' := hw1.symm
                subst hw1'
                clear ha
                go_wp2
                go_roundw
                case rel =>
                  refine ⟨k + 1, by omega, by go_num, fun i h1 h2 => ?_, by first | rfl | trivial⟩
                  by_cases e : i < k
                  · exact HK.out i h1 e
                  · obtain rfl : i = k := by omega
                    exact ⟨by rw [← HZ.out]; exact HZC.out, HBB.out.symm⟩
                case measure => simp [intOf]; omega
            · have hnq : ((z : Int) != (c : Int)) = true := by simp; omega
              go_wp2
              go_ret
              refine ⟨?_, HB0.out⟩
              rw [HRF.out (fun q => by
                have := (q.2.2.2.2.2 k hkz).1
                rw [← HZ.out] at this
                exact hzc this)]
              rfl
          · obtain rfl : k = m := by omega
            go_wp2
            go_ret
            refine ⟨?_, HB0.out⟩
            rw [HRT.out ⟨hn1.1, hn1.2, by trivial, hc1.1, hc1.2, fun i hi => HK.out i hi (by have := HN.out; omega)⟩]
            rfl
      · have e2 : (decide (1 ≤ (c : Int)) && decide ((c : Int) ≤ 200)) = false := by
          rw [Bool.eq_false_iff]; intro q; simp at q; omega
        rw [e2] at o2
        go_wp2_with fail
        refine o2.mono ?_
        rintro e w1 ⟨rfl, hw1⟩
        have hw1' := hw1.symm
        subst hw1'
        clear o2
        go_wp2
        go_ret
        refine ⟨?_, HB0.out⟩
        rw [HRF.out (fun q => hc1 ⟨q.2.2.2.1, q.2.2.2.2.1⟩)]
        rfl
    · have hne : ((m : Int) != (n : Int)) = true := by simp; omega
      go_wp2
      go_ret
      refine ⟨?_, HB0.out⟩
      rw [HRF.out (fun q => hmn q.2.2.1)]
      rfl
  · have e1 : (decide (1 ≤ (n : Int)) && decide ((n : Int) ≤ 5000)) = false := by
      rw [Bool.eq_false_iff]; intro q; simp at q; omega
    rw [e1] at o1
    go_wp2_with fail
    refine o1.mono ?_
    rintro e w1 ⟨rfl, hw1⟩
    have hw1' := hw1.symm
    subst hw1'
    clear o1
    go_wp2
    go_ret
    refine ⟨?_, HB0.out⟩
    rw [HRF.out (fun q => hn1 ⟨q.1, q.2.1⟩)]
    rfl
end Go.Proofs.YtleafbbcgebmpaaDoor
