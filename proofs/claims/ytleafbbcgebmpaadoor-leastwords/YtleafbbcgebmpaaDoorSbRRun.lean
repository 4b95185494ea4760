/-
  scansionref12.Run: the document's.
-/
import Derived.Test.YtleafbbcgebmpaaDoorSbRFew
namespace Go.Proofs.YtleafbbcgebmpaaDoor
open Go.RowKit Go.Shelf
set_option linter.unusedVariables false

set_option maxRecDepth 100000 in
set_option maxHeartbeats 16000000 in
theorem rrun_any12 (N : List (List Int)) (F : List Bool) (dv : Value) (a0 : Int) (cs : List Int) (cv : Value) (w : World) (hd : DfaAt w dv N F) (hcv : IntsAt w cv cs) (hcl : cs.length ≤ 100000) : Calls Tryd.prog 18 #[dv, .int .i64 a0, cv] w fun e w' => e = .returned (.tuple #[.int .i64 (runV N F a0 cs), .int .i64 (runE N F a0 cs)]) ∧ Below w.heap.size w w' := by
  have hrt := rright_any12 N F dv
  obtain ⟨nv, fv, rfl, ⟨na, nc, rfl, hnc, hn0, hx⟩, hf⟩ := hd
  have hd : DfaAt w (.agg #[.slice na N.length nc, fv]) N F := ⟨_, fv, rfl, ⟨na, nc, rfl, hnc, hn0, hx⟩, hf⟩
  have HX : Hid (∀ i, (h : i < N.length) → ∃ g off x, na = some ⟨g, off, none⟩ ∧ g < w.heap.size ∧ w.cell? ⟨g, off + i, none⟩ = some x ∧ IntsAt w x N[i]) := hx
  obtain ⟨fa, fc, rfl, hfc, hf0, hfx⟩ := hf
  have HCV : Hid (IntsAt w cv cs) := hcv
  obtain ⟨ca, cc, rfl, hcc⟩ := hcv.slice
  obtain ⟨n, hn⟩ : ∃ x, x = N.length := ⟨_, rfl⟩
  obtain ⟨m, hm⟩ : ∃ x, x = F.length := ⟨_, rfl⟩
  obtain ⟨c, hc⟩ : ∃ x, x = (N.getD 0 []).length := ⟨_, rfl⟩
  obtain ⟨L, hL⟩ : ∃ x, x = cs.length := ⟨_, rfl⟩
  have HN : Hid (n = N.length) := hn
  have HL : Hid (L = cs.length) := hL
  have HC : Hid (c = (N.getD 0 []).length) := hc
  obtain ⟨b1, hb1⟩ : ∃ b, b = rightD N F := ⟨_, rfl⟩
  have HR1 : Hid (b1 = rightD N F) := hb1
  have HRV : Hid (runV N F a0 cs = if (b1 && inB n a0 && cs.all (inB c)) = true then runD N a0 cs else 0) := by rw [hb1, hn, hc]; rfl
  have HRE : Hid (runE N F a0 cs = if (b1 && inB n a0 && cs.all (inB c)) = true then 0 else 1) := by rw [hb1, hn, hc]; rfl
  obtain ⟨V, hV⟩ : ∃ V, V = runV N F a0 cs := ⟨_, rfl⟩
  obtain ⟨E, hE⟩ : ∃ V, V = runE N F a0 cs := ⟨_, rfl⟩
  rw [← hV] at HRV ⊢
  rw [← hE] at HRE ⊢
  rw [← hn] at hnc ⊢
  rw [← hm] at hfc ⊢
  rw [← hL] at hcc hcl HCV ⊢
  rw [← hn, ← hm] at hd
  rw [← hb1, ← hn, ← hm] at hrt
  obtain ⟨W0, hW0⟩ : ∃ W, W = w.alloc (.cells #[.slice na n nc, .slice fa m fc] 25) := ⟨_, rfl⟩
  have hB0 : Below w.heap.size w W0 := by rw [hW0]; exact below_alloc _ _
  have hbx : DBox W0 w.heap.size (.slice na n nc) (.slice fa m fc) := by rw [hW0]; exact heap_new' _ _
  have HBX : Hid (DBox W0 w.heap.size (.slice na n nc) (.slice fa m fc)) := hbx
  have HW0 : Hid (W0 = _) := hW0
  have HB0 : Hid (Below w.heap.size w W0) := hB0
  have c0 := hbx.c0
  have c1 := hbx.c1
  have hlt := hbx.lt
  have o1 := hrt W0 (hd.below hB0)
  clear hx hfx hn hm hc hL hV hE hbx hW0 hB0 hd hrt hcv hb1
  go_enter Tryd.func18, Tryd.ntmps18
  go_upto_region 1 with fail
  rw [← HW0.out]
  cases b1 with
  | false =>
    go_wp2_with fail
    refine o1.mono ?_
    rintro e w1 ⟨rfl, hB1⟩
    clear o1
    go_wp2
    go_ret2
    refine ⟨?_, below_after HB0.out hB1⟩
    rw [HRV.out, HRE.out]
    rfl
  | true =>
    have HRI : Hid (1 ≤ N.length ∧ N.length ≤ 5000 ∧ F.length = N.length ∧ 1 ≤ (N.getD 0 []).length ∧ (N.getD 0 []).length ≤ 200 ∧ ∀ i, (h : i < N.length) → N[i].length = (N.getD 0 []).length ∧ N[i].all (inB N.length) = true) := rightD_iff.1 HR1.out.symm
    have hN0 : 0 < N.length := by have := HRI.out.1; omega
    obtain ⟨g0, q0, x0, rfl, hg0, r0, hi0⟩ := HX.out 0 hN0
    obtain ⟨y0, yc0, rfl, hyc0⟩ := hi0.slice
    have hce : N[0].length = c := by rw [HC.out, List.getD_eq_getElem?_getD, List.getElem?_eq_getElem hN0]; rfl
    rw [hce] at r0 hyc0
    have hn5 : n ≤ 5000 ∧ 1 ≤ n := by rw [HN.out]; exact ⟨HRI.out.2.1, HRI.out.1⟩
    obtain ⟨hn5, hn1⟩ := hn5
    have hn01 : (0 : Int) < (n : Int) := by omega
    clear hi0 hce
    go_wp2_with fail
    refine o1.mono ?_
    rintro e w1 ⟨rfl, hB1⟩
    have c0' := (HBX.out.below hB1).c0
    have hlt' := (HBX.out.below hB1).lt
    have HB1 : Hid (Below w.heap.size w w1) := below_after HB0.out hB1
    clear o1 c0 c1 hlt hB1
    by_cases ha0 : a0 < 0
    case pos =>
      have hin : inB n a0 = false := by unfold inB; simp; omega
      go_wp2
      go_ret2
      refine ⟨?_, HB1.out⟩
      rw [HRV.out, HRE.out, hin]
      rfl
    by_cases ha1 : (n : Int) ≤ a0
    case pos =>
      have hin : inB n a0 = false := by unfold inB; simp; omega
      go_wp2
      go_ret2
      refine ⟨?_, HB1.out⟩
      rw [HRV.out, HRE.out, hin]
      rfl
    have HIN : Hid (inB n a0 = true) := inB_iff.2 ⟨by omega, by omega⟩
    have r0' : w1.cell? ⟨g0, q0, none⟩ = some (.slice y0 c yc0) := (HB1.out.cell (p := ⟨g0, _, none⟩) hg0).trans r0
    have hg0' : g0 < w1.heap.size := by have := HB1.out.size; omega
    clear r0
    go_wp2
    go_loopw [9] (fun x wr => ∃ (k nd : Nat), k ≤ L ∧ x = .int .i64 (k : Int) ∧ Hid (∀ i, (h : i < cs.length) → i < k → inB c cs[i] = true) ∧ wr = w1.drewN nd) (fun x _ => L - (intOf x).toNat)
    case atStart => exact ⟨0, 0, Nat.zero_le _, rfl, fun i _ h => absurd h (by omega), rfl⟩
    case round =>
      obtain ⟨k, nd, hk, rfl, HK, rfl⟩ := hrel
      by_cases hkl : k < L
      · have hkz : k < cs.length := by rw [← HL.out]; exact hkl
        obtain ⟨gc, oc, rfl, hgc, z0⟩ := HCV.out.at hkz
        obtain ⟨z, hz⟩ : ∃ z : Int, z = cs[k] := ⟨_, rfl⟩
        have HZ : Hid (z = cs[k]) := hz
        rw [← hz] at z0
        have z1 : w1.cell? ⟨gc, oc + k, none⟩ = some (.int .i64 z) := (HB1.out.cell (p := ⟨gc, _, none⟩) hgc).trans z0
        have hk0 : (0 : Int) ≤ (k : Int) := by omega
        have hk1 : (k : Int) < (L : Int) := by omega
        clear hz z0
        have hbad : inB c z = false → runV N F a0 cs = 0 ∧ runE N F a0 cs = 1 ∨ True := fun _ => .inr trivial
        have HBAD : Hid (inB c z = false → cs.all (inB c) = false) := fun h => by
          rw [Bool.eq_false_iff]
          intro q
          have := List.all_eq_true.1 q _ (List.getElem_mem hkz)
          rw [← HZ.out, h] at this
          exact absurd this (by decide)
        clear hbad
        by_cases hz0 : z < 0
        · have hz0' : decide (z < 0) = true := by simp; omega
          have hin : inB c z = false := by unfold inB; simp; omega
          have hal := HBAD.out hin
          have HAL : Hid (cs.all (inB c) = false) := hal
          clear hin hal
          go_wp2
          go_quiet (fail)
          go_wp2
          go_ret2
          refine ⟨?_, by first | exact below_drewN' HB1.out _ | exact below_drewN' (below_drewN' HB1.out _) _⟩
          rw [HRV.out, HRE.out, HIN.out, HAL.out]
          rfl
        · have hz0' : decide (z < 0) = false := by simp; omega
          by_cases hz1 : (c : Int) ≤ z
          · have hin : inB c z = false := by unfold inB; simp; omega
            have hal := HBAD.out hin
            have HAL : Hid (cs.all (inB c) = false) := hal
            have hz1' : decide ((c : Int) ≤ z) = true := by simp; omega
            clear hin hal
            go_wp2
            go_quiet (fail)
            go_wp2
            go_ret2
            refine ⟨?_, by first | exact below_drewN' HB1.out _ | exact below_drewN' (below_drewN' HB1.out _) _⟩
            rw [HRV.out, HRE.out, HIN.out, HAL.out]
            rfl
          · have hz1' : decide ((c : Int) ≤ z) = false := by simp; omega
            have HZI : Hid (inB c z = true) := inB_iff.2 ⟨by omega, by omega⟩
            go_wp2
            go_quiet (fail)
            go_wp2
            go_roundw
            case rel =>
              refine ⟨k + 1, _, by omega, by go_num, fun i h1 h2 => ?_, by first | rfl | exact drewN_add _ _ _⟩
              by_cases e : i < k
              · exact HK.out i h1 e
              · obtain rfl : i = k := by omega
                rw [← HZ.out]; exact HZI.out
            case measure => simp [intOf]; omega
      · obtain rfl : k = L := by omega
        have HAL : Hid (cs.all (inB c) = true) := List.all_eq_true.2 (fun x hx => by
          obtain ⟨i, hi, rfl⟩ := List.mem_iff_getElem.1 hx
          exact HK.out i hi (by have := HL.out; omega))
        go_wp2
        go_loopw [1, 10] (fun x1 x10 wr => ∃ (i nd2 : Nat) (a : Int), i ≤ k ∧ x10 = .int .i64 (i : Int) ∧ x1 = .int .i64 a ∧ Hid (a = runD N a0 (cs.take i)) ∧ wr = w1.drewN nd2) (fun _ x10 _ => k - (intOf x10).toNat)
        case atStart => exact ⟨0, nd, a0, Nat.zero_le _, rfl, rfl, by simp [runD, Hid], rfl⟩
        case round =>
          obtain ⟨i, nd2, a, hi, rfl, rfl, HA, rfl⟩ := hrel
          by_cases hil : i < k
          · have hkz : i < cs.length := by rw [← HL.out]; exact hil
            have hain : inB N.length a = true := by
              rw [HA.out]
              exact run_inB HR1.out.symm _ _ (by rw [← HN.out]; exact HIN.out) (all_take (by rw [← HC.out]; exact HAL.out) i)
            obtain ⟨A, rfl⟩ : ∃ A : Nat, a = (A : Int) := ⟨a.toNat, by have := (inB_iff.1 hain).1; omega⟩
            have hAn : A < N.length := by have := (inB_iff.1 hain).2; omega
            obtain ⟨gc, oc, rfl, hgc, z0⟩ := HCV.out.at hkz
            have hcin : inB (N.getD 0 []).length cs[i] = true := by
              have := List.all_eq_true.1 HAL.out _ (List.getElem_mem hkz)
              rw [HC.out] at this
              exact this
            obtain ⟨z, hz⟩ : ∃ z : Int, z = cs[i] := ⟨_, rfl⟩
            rw [← hz] at z0 hcin
            obtain ⟨Z, rfl⟩ : ∃ Z : Nat, z = (Z : Int) := ⟨z.toNat, by have := (inB_iff.1 hcin).1; omega⟩
            have hZc : Z < (N.getD 0 []).length := by have := (inB_iff.1 hcin).2; omega
            obtain ⟨g1, q1, x1, e1', hg1, r1, hi1⟩ := HX.out A hAn
            obtain ⟨rfl, rfl⟩ : g0 = g1 ∧ q0 = q1 := by
              injection e1' with e1'
              injection e1' with h1 h2 _
              exact ⟨h1, h2⟩
            have hZr : Z < N[A].length := by have := (HRI.out.2.2.2.2.2 A hAn).1; omega
            have hrl : N[A].length = c := by have := (HRI.out.2.2.2.2.2 A hAn).1; rw [HC.out]; exact this
            obtain ⟨y1, yc1, rfl, hyc1⟩ := hi1.slice
            obtain ⟨g2, q2, rfl, hg2, s0⟩ := hi1.at hZr
            obtain ⟨u, hu⟩ : ∃ u : Int, u = N[A][Z] := ⟨_, rfl⟩
            have HU : Hid (u = runD N a0 (cs.take (i + 1))) := by
              show _ = _
              rw [run_take hkz, ← HA.out, ← hz, hu]
              unfold stepD
              have e : N.getD ((A : Int).toNat) [] = N[A] := by rw [List.getD_eq_getElem?_getD, Int.toNat_natCast, List.getElem?_eq_getElem hAn]; rfl
              rw [e, List.getD_eq_getElem?_getD, Int.toNat_natCast, List.getElem?_eq_getElem hZr]; rfl
            rw [← hu] at s0
            rw [hrl] at r1 hyc1
            have z1 : w1.cell? ⟨gc, oc + i, none⟩ = some (.int .i64 (Z : Int)) := (HB1.out.cell (p := ⟨gc, _, none⟩) hgc).trans z0
            have r1' : w1.cell? ⟨g0, q0 + A, none⟩ = some (.slice (some ⟨g2, q2, none⟩) c yc1) := (HB1.out.cell (p := ⟨g0, _, none⟩) hg1).trans r1
            have s1 : w1.cell? ⟨g2, q2 + Z, none⟩ = some (.int .i64 u) := (HB1.out.cell (p := ⟨g2, _, none⟩) hg2).trans s0
            have hk0 : (0 : Int) ≤ (i : Int) := by omega
            have hk1 : (i : Int) < (k : Int) := by omega
            have hA0 : (0 : Int) ≤ (A : Int) := by omega
            have hA1 : (A : Int) < (n : Int) := by have := HN.out; omega
            have hZ0 : (0 : Int) ≤ (Z : Int) := by omega
            have hZ1 : (Z : Int) < (c : Int) := by omega
            clear hi1 hz hu z0 r1 s0 hain hcin hZr hrl hAn hZc
            go_wp2
            go_quiet (fail)
            go_wp2
            go_roundw
            case rel => exact ⟨i + 1, _, u, by omega, by go_num, rfl, HU, by first | rfl | exact drewN_add _ _ _⟩
            case measure => simp [intOf]; omega
          · obtain rfl : i = k := by omega
            go_wp2
            go_ret2
            refine ⟨?_, below_drewN' HB1.out _⟩
            have : a = runD N a0 cs := by
              rw [HA.out, List.take_of_length_le (by have := HL.out; omega)]
            rw [HRV.out, HRE.out, HIN.out, HAL.out, this]
            rfl
end Go.Proofs.YtleafbbcgebmpaaDoor
