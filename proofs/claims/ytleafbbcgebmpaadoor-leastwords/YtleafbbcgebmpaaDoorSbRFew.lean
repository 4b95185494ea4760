/-
  scansionref12.Few and Right: the document's.
-/
import Derived.Test.YtleafbbcgebmpaaDoorSbRunA
import Derived.Test.YtleafbbcgebmpaaDoorFlSame
namespace Go.Proofs.YtleafbbcgebmpaaDoor
open Go.RowKit Go.Shelf
set_option linter.unusedVariables false

theorem drewN_add (b a : Nat) (w : World) : (w.drewN a).drewN b = w.drewN (a + b) := by simp [World.drewN, Nat.add_assoc]
/-- No more than a test should have. -/
def FewD (N : List (List Int)) (F : List Bool) (M : Nat) : Prop := N.length ≤ M ∧ F.length ≤ M ∧ ∀ i, (h : i < N.length) → N[i].length ≤ M

set_option maxRecDepth 100000 in
set_option maxHeartbeats 8000000 in
theorem rfew_any12 (N : List (List Int)) (F : List Bool) (dv : Value) (M : Nat) (hM : M ≤ 1000) (w : World) (hd : DfaAt w dv N F) : Calls Tryd.prog 10 #[dv, .int .i64 (M : Int)] w fun e w' => ∃ b, e = .returned (.bool b) ∧ (b = true → FewD N F M) ∧ Below w.heap.size w w' := by
  obtain ⟨nv, fv, rfl, ⟨na, nc, rfl, hnc, hn0, hx⟩, fa, fc, rfl, hfc, hf0, hfx⟩ := hd
  have HX : Hid (∀ i, (h : i < N.length) → ∃ g off x, na = some ⟨g, off, none⟩ ∧ g < w.heap.size ∧ w.cell? ⟨g, off + i, none⟩ = some x ∧ IntsAt w x N[i]) := hx
  obtain ⟨n, hn⟩ : ∃ x, x = N.length := ⟨_, rfl⟩
  obtain ⟨m, hm⟩ : ∃ x, x = F.length := ⟨_, rfl⟩
  have HN : Hid (n = N.length) := hn
  have HM : Hid (m = F.length) := hm
  rw [← hn] at hnc ⊢
  rw [← hm] at hfc ⊢
  obtain ⟨W0, hW0⟩ : ∃ W, W = w.alloc (.cells #[.slice na n nc, .slice fa m fc] 25) := ⟨_, rfl⟩
  have hB0 : Below w.heap.size w W0 := by rw [hW0]; exact below_alloc _ _
  have hbx : DBox W0 w.heap.size (.slice na n nc) (.slice fa m fc) := by rw [hW0]; exact heap_new' _ _
  have HW0 : Hid (W0 = _) := hW0
  have HB0 : Hid (Below w.heap.size w W0) := hB0
  have c0 := hbx.c0
  have c1 := hbx.c1
  have hlt := hbx.lt
  clear hx hfx hn hm hbx hW0 hB0
  go_enter Tryd.func10, Tryd.ntmps10
  go_upto_region 1 with fail
  rw [← HW0.out]
  by_cases h1 : M < n
  · go_wp2
    go_ret
    exact ⟨_, rfl, fun h => (by cases h), HB0.out⟩
  · by_cases h2 : M < m
    · go_wp2
      go_ret
      exact ⟨_, rfl, fun h => (by cases h), HB0.out⟩
    · go_wp2
      go_loopw [5] (fun x wr => ∃ k : Nat, k ≤ n ∧ x = .int .i64 (k : Int) ∧ Hid (∀ i, (h : i < N.length) → i < k → N[i].length ≤ M) ∧ wr = W0) (fun x _ => n - (intOf x).toNat)
      case atStart => exact ⟨0, Nat.zero_le _, rfl, fun i _ h => absurd h (by omega), rfl⟩
      case round =>
        obtain ⟨k, hk, rfl, HK, rfl⟩ := hrel
        by_cases hlt2 : k < n
        · have hkz : k < N.length := by rw [← HN.out]; exact hlt2
          obtain ⟨g1, q1, x1, rfl, hg1, r1, hi1⟩ := HX.out k hkz
          obtain ⟨y1, yc1, rfl, hyc1⟩ := hi1.slice
          obtain ⟨z, hz⟩ : ∃ z, z = N[k].length := ⟨_, rfl⟩
          have HZ : Hid (z = N[k].length) := hz
          rw [← hz] at r1 hyc1
          have r1' : wr.cell? ⟨g1, q1 + k, none⟩ = some (.slice y1 z yc1) := (HB0.out.cell (p := ⟨g1, _, none⟩) hg1).trans r1
          have hk0 : (0 : Int) ≤ (k : Int) := by omega
          have hk1 : (k : Int) < (n : Int) := by omega
          clear hi1 hz r1
          by_cases hzM : M < z
          · go_wp2
            go_ret
            exact ⟨_, rfl, fun h => (by cases h), HB0.out⟩
          · go_wp2
            go_roundw
            case rel =>
              refine ⟨k + 1, by omega, by go_num, fun i h1 h2 => ?_, by first | rfl | trivial⟩
              by_cases e : i < k
              · exact HK.out i h1 e
              · obtain rfl : i = k := by omega
                rw [← HZ.out]; omega
            case measure => simp [intOf]; omega
        · obtain rfl : k = n := by omega
          go_wp2
          go_ret
          exact ⟨_, rfl, fun _ => ⟨by have := HN.out; omega, by have := HM.out; omega, fun i hi => HK.out i hi (by have := HN.out; omega)⟩, HB0.out⟩

set_option maxRecDepth 100000 in
set_option maxHeartbeats 16000000 in
theorem rright_any12 (N : List (List Int)) (F : List Bool) (dv : Value) (w : World) (hd : DfaAt w dv N F) : Calls Tryd.prog 19 #[dv] w fun e w' => e = .returned (.bool (rightD N F)) ∧ Below w.heap.size w w' := by
  obtain ⟨nv, fv, rfl, ⟨na, nc, rfl, hnc, hn0, hx⟩, fa, fc, rfl, hfc, hf0, hfx⟩ := hd
  have HX : Hid (∀ i, (h : i < N.length) → ∃ g off x, na = some ⟨g, off, none⟩ ∧ g < w.heap.size ∧ w.cell? ⟨g, off + i, none⟩ = some x ∧ IntsAt w x N[i]) := hx
  obtain ⟨n, hn⟩ : ∃ x, x = N.length := ⟨_, rfl⟩
  obtain ⟨m, hm⟩ : ∃ x, x = F.length := ⟨_, rfl⟩
  obtain ⟨c, hc⟩ : ∃ x, x = (N.getD 0 []).length := ⟨_, rfl⟩
  have HN : Hid (n = N.length) := hn
  have HM : Hid (m = F.length) := hm
  have HC : Hid (c = (N.getD 0 []).length) := hc
  have HRT : Hid ((1 ≤ n ∧ n ≤ 5000 ∧ m = n ∧ 1 ≤ c ∧ c ≤ 200 ∧ ∀ i, (h : i < N.length) → N[i].length = c ∧ N[i].all (inB n) = true) → rightD N F = true) := by
    rw [hn, hm, hc]; exact fun h => rightD_iff.2 h
  have HRF : Hid (¬ (1 ≤ n ∧ n ≤ 5000 ∧ m = n ∧ 1 ≤ c ∧ c ≤ 200 ∧ ∀ i, (h : i < N.length) → N[i].length = c ∧ N[i].all (inB n) = true) → rightD N F = false) := by
    rw [hn, hm, hc]; exact rightD_not
  obtain ⟨R, hR⟩ : ∃ R, R = rightD N F := ⟨_, rfl⟩
  rw [← hR] at HRT HRF ⊢
  rw [← hn] at hnc ⊢
  rw [← hm] at hfc ⊢
  obtain ⟨W0, hW0⟩ : ∃ W, W = w.alloc (.cells #[.slice na n nc, .slice fa m fc] 25) := ⟨_, rfl⟩
  have hB0 : Below w.heap.size w W0 := by rw [hW0]; exact below_alloc _ _
  have hbx : DBox W0 w.heap.size (.slice na n nc) (.slice fa m fc) := by rw [hW0]; exact heap_new' _ _
  have HW0 : Hid (W0 = _) := hW0
  have HB0 : Hid (Below w.heap.size w W0) := hB0
  have c0 := hbx.c0
  have c1 := hbx.c1
  have hlt := hbx.lt
  clear hx hfx hn hm hc hR hbx hW0 hB0
  go_enter Tryd.func19, Tryd.ntmps19
  go_upto_region 1 with fail
  rw [← HW0.out]
  by_cases hn1 : 1 ≤ n
  case neg =>
    go_wp2
    go_ret
    refine ⟨?_, HB0.out⟩
    rw [HRF.out (fun q => hn1 q.1)]
    rfl
  by_cases hn5 : n ≤ 5000
  case neg =>
    go_wp2
    go_ret
    refine ⟨?_, HB0.out⟩
    rw [HRF.out (fun q => hn5 q.2.1)]
    rfl
  by_cases hmn : m = n
  case neg =>
    have hne : ((m : Int) != (n : Int)) = true := by simp; omega
    go_wp2
    go_ret
    refine ⟨?_, HB0.out⟩
    rw [HRF.out (fun q => hmn q.2.2.1)]
    rfl
  subst hmn
  have hN0 : 0 < N.length := by rw [← HN.out]; omega
  obtain ⟨g0, q0, x0, rfl, hg0, r0, hi0⟩ := HX.out 0 hN0
  obtain ⟨y0, yc0, rfl, hyc0⟩ := hi0.slice
  have hce : N[0].length = c := by rw [HC.out, List.getD_eq_getElem?_getD, List.getElem?_eq_getElem hN0]; rfl
  rw [hce] at r0 hyc0
  have r0' : W0.cell? ⟨g0, q0, none⟩ = some (.slice y0 c yc0) := (HB0.out.cell (p := ⟨g0, _, none⟩) hg0).trans r0
  have hm0 : (0 : Int) < (m : Int) := by omega
  clear hi0 hce r0
  go_wp2
  go_loopw [4] (fun x wr => ∃ (k nd : Nat), k ≤ m ∧ x = .int .i64 (k : Int) ∧ Hid (∀ i, (h : i < N.length) → i < k → N[i].length = c ∧ N[i].all (inB m) = true) ∧ Hid (0 < k → 1 ≤ c ∧ c ≤ 200) ∧ wr = W0.drewN nd) (fun x _ => m - (intOf x).toNat)
  case atStart => exact ⟨0, 0, Nat.zero_le _, rfl, fun i _ h => absurd h (by omega), fun h => absurd h (by omega), rfl⟩
  case round =>
    obtain ⟨k, nd, hk, rfl, HK, HK2, rfl⟩ := hrel
    by_cases hlt2 : k < m
    · have hkz : k < N.length := by rw [← HN.out]; exact hlt2
      obtain ⟨g1, q1, x1, e1', hg1, r1, hi1⟩ := HX.out k hkz
      obtain ⟨rfl, rfl⟩ : g0 = g1 ∧ q0 = q1 := by
        injection e1' with e1'
        injection e1' with h1 h2 _
        exact ⟨h1, h2⟩
      obtain ⟨y1, yc1, rfl, hyc1⟩ := hi1.slice
      obtain ⟨z, hz⟩ : ∃ z, z = N[k].length := ⟨_, rfl⟩
      have HZ : Hid (z = N[k].length) := hz
      rw [← hz] at r1 hyc1 hi1
      have r1' : W0.cell? ⟨g0, q0 + k, none⟩ = some (.slice y1 z yc1) := (HB0.out.cell (p := ⟨g0, _, none⟩) hg1).trans r1
      have hk0 : (0 : Int) ≤ (k : Int) := by omega
      have hk1 : (k : Int) < (m : Int) := by omega
      have HI1 : Hid (IntsAt W0 (.slice y1 z yc1) N[k]) := hi1.below HB0.out
      clear hi1 hz r1
      by_cases hzc : z = c
      case neg =>
        have hne : ((z : Int) != (c : Int)) = true := by simp; omega
        go_wp2
        go_quiet (fail)
        go_wp2
        go_ret
        refine ⟨?_, by first | exact below_drewN' HB0.out _ | exact below_drewN' (below_drewN' HB0.out _) _⟩
        rw [HRF.out (fun q => by
          have := (q.2.2.2.2.2 k hkz).1
          rw [← HZ.out] at this
          exact hzc this)]
        rfl
      have hne : ((c : Int) != (c : Int)) = false := by simp
      have HZC : Hid (z = c) := hzc
      rw [hzc] at r1' hyc1
      rw [hzc] at HI1
      clear hzc
      by_cases hc1 : 1 ≤ c
      case neg =>
        have hc1' : ((c : Int) < 1) := by omega
        go_wp2
        go_quiet (fail)
        go_wp2
        go_ret
        refine ⟨?_, by first | exact below_drewN' HB0.out _ | exact below_drewN' (below_drewN' HB0.out _) _⟩
        rw [HRF.out (fun q => hc1 q.2.2.2.1)]
        rfl
      have HC1 : Hid (1 ≤ c) := hc1
      have hc1' : decide ((c : Int) < 1) = false := by simp; omega
      clear hc1
      by_cases hc2 : c ≤ 200
      case neg =>
        have hc2' : ((200 : Int) < (c : Int)) := by omega
        go_wp2
        go_quiet (fail)
        go_wp2
        go_ret
        refine ⟨?_, by first | exact below_drewN' HB0.out _ | exact below_drewN' (below_drewN' HB0.out _) _⟩
        rw [HRF.out (fun q => hc2 q.2.2.2.2.1)]
        rfl
      have HC2 : Hid (c ≤ 200) := hc2
      have hc2' : decide ((200 : Int) < (c : Int)) = false := by simp; omega
      clear hc2
      go_wp2
      go_quiet (fail)
      go_wp2
      have HLK : Hid (N[k].length = c) := by have := HZ.out; have := HZC.out; show _ = _; omega
      obtain ⟨WQ, hWQ⟩ : ∃ W, W = (W0.drewN nd).drewN nq := ⟨_, rfl⟩
      have HWQ : Hid (WQ = (W0.drewN nd).drewN nq) := hWQ
      have hBQ : Below W0.heap.size W0 WQ := by rw [hWQ]; exact below_drewN' (below_drewN' (Below.refl _ _) _) _
      have HBQ : Hid (Below W0.heap.size W0 WQ) := hBQ
      rw [← hWQ]
      have d0 : WQ.cell? ⟨w.heap.size, 0, none⟩ = some (.slice (some ⟨g0, q0, none⟩) m nc) := (hBQ.cell (p := ⟨w.heap.size, 0, none⟩) hlt).trans c0
      have d1 : WQ.cell? ⟨g0, q0 + k, none⟩ = some (.slice y1 c yc1) := (hBQ.cell (p := ⟨g0, _, none⟩) (by have := HB0.out.size; show g0 < _; omega)).trans r1'
      have hc200 : c ≤ 200 := HC2.out
      clear hWQ hBQ
      go_loopw [5] (fun x wr2 => ∃ i : Nat, i ≤ c ∧ x = .int .i64 (i : Int) ∧ Hid (∀ q, (h : q < N[k].length) → q < i → inB m N[k][q] = true) ∧ wr2 = WQ) (fun x _ => c - (intOf x).toNat)
      case atStart => exact ⟨0, Nat.zero_le _, rfl, fun i _ h => absurd h (by omega), rfl⟩
      case round =>
        obtain ⟨i, hi, rfl, HI, rfl⟩ := hrel
        by_cases hil : i < c
        · have hiz : i < N[k].length := by rw [HLK.out]; exact hil
          have h6 := HI1.out
          obtain ⟨g2, q2, rfl, hg2, s0⟩ := h6.at hiz
          obtain ⟨u, hu⟩ : ∃ u : Int, u = N[k][i] := ⟨_, rfl⟩
          have HU : Hid (u = N[k][i]) := hu
          rw [← hu] at s0
          have s1 : wr.cell? ⟨g2, q2 + i, none⟩ = some (.int .i64 u) := (HBQ.out.cell (p := ⟨g2, _, none⟩) hg2).trans s0
          have hi0 : (0 : Int) ≤ (i : Int) := by omega
          have hi1 : (i : Int) < (c : Int) := by omega
          clear hu s0 h6
          by_cases hu0 : u < 0
          · go_wp2
            go_ret
            refine ⟨?_, below_after HB0.out HBQ.out⟩
            rw [HRF.out (fun q => by
              have h1 := (q.2.2.2.2.2 k hkz).2
              have h2 := List.all_eq_true.1 h1 _ (List.getElem_mem hiz)
              rw [← HU.out] at h2
              have := (inB_iff.1 h2).1
              omega)]
            rfl
          · by_cases hu1 : (m : Int) ≤ u
            · go_wp2
              go_ret
              refine ⟨?_, below_after HB0.out HBQ.out⟩
              rw [HRF.out (fun q => by
                have h1 := (q.2.2.2.2.2 k hkz).2
                have h2 := List.all_eq_true.1 h1 _ (List.getElem_mem hiz)
                rw [← HU.out] at h2
                have := (inB_iff.1 h2).2
                omega)]
              rfl
            · go_wp2
              go_roundw
              case rel =>
                refine ⟨i + 1, by omega, by go_num, fun q h1 h2 => ?_, by first | rfl | trivial⟩
                by_cases e : q < i
                · exact HI.out q h1 e
                · obtain rfl : q = i := by omega
                  rw [← HU.out]
                  exact inB_iff.2 ⟨by omega, by omega⟩
              case measure => simp [intOf]; omega
        · obtain rfl : i = c := by omega
          go_wp2
          go_roundw
          case rel =>
            refine ⟨k + 1, _, by omega, by go_num, fun q h1 h2 => ?_, fun _ => ⟨HC1.out, HC2.out⟩, by rw [HWQ.out]; exact drewN_add _ _ _⟩
            by_cases e : q < k
            · exact HK.out q h1 e
            · obtain rfl : q = k := by omega
              refine ⟨HLK.out, List.all_eq_true.2 (fun x hx => ?_)⟩
              obtain ⟨j, hj, rfl⟩ := List.mem_iff_getElem.1 hx
              exact HI.out j hj (by have := HLK.out; omega)
          case measure => simp [intOf]; omega
    · obtain rfl : k = m := by omega
      go_wp2
      go_ret
      refine ⟨?_, by first | exact below_drewN' HB0.out _ | exact below_drewN' (below_drewN' HB0.out _) _⟩
      have h3 := HK2.out (by omega)
      rw [HRT.out ⟨hn1, hn5, by trivial, h3.1, h3.2, fun i hi => HK.out i hi (by have := HN.out; omega)⟩]
      rfl
end Go.Proofs.YtleafbbcgebmpaaDoor
