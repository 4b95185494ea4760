/-
  The law UcdTells: true, for all numbers.
-/
import Derived.Test.YtpknmpgbaccffaaDoorAwakeU
import Derived.Test.YtpknmpgbaccffaaDoorRefVal4
namespace Go.Proofs.YtpknmpgbaccffaaDoor
open Go.RowKit
set_option linter.unusedVariables false

/-- The slice value v holds the ints l, in a block below n. -/
def IntsAt (n : Nat) (w : World) (v : Value) (l : List Int) : Prop :=
  ∃ a cap, v = .slice a l.length cap ∧ l.length ≤ cap ∧ ∀ i, (h : i < l.length) → ∃ g off, a = some ⟨g, off, none⟩ ∧ g < n ∧ w.cell? ⟨g, off + i, none⟩ = some (.int .i64 l[i])

set_option maxRecDepth 100000 in
set_option maxHeartbeats 8000000 in
theorem ucdTells_any (rs : List Int) (rv : Value) (w : World) (hr : IntsAt w.heap.size w rv rs) (hs : Scripts w) (h0 : 0 < w.heap.size) :
    Calls Tryd.prog 3 #[rv] w fun e w' => e = .returned (.bool true) ∧ Below w.heap.size w w' := by
  have HS : Hid (Scripts w) := hs
  have HH0 : Hid (0 < w.heap.size) := h0
  obtain ⟨ar, capr, rfl, _, hcr⟩ := hr
  have HCR : Hid (∀ i, (h : i < rs.length) → ∃ g off, ar = some ⟨g, off, none⟩ ∧ g < w.heap.size ∧ w.cell? ⟨g, off + i, none⟩ = some (.int .i64 rs[i])) := hcr
  clear hs h0 hcr
  go_enter Tryd.func3, Tryd.ntmps3
  go_wp2_with fail
  refine (awake_u w HS.out HH0.out).mono ?_
  rintro e w0 ⟨rfl, hB0⟩
  have HB0 : Hid (Below w.heap.size w w0) := hB0
  have HS0 : Hid (Scripts w0 ∧ 0 < w0.heap.size) := ⟨HS.out.below HH0.out hB0, by have := HH0.out; have := hB0.size; omega⟩
  clear hB0
  go_wp2_with fail
  refine (new_ship w0 HS0.out.1 HS0.out.2).mono ?_
  rintro e w1 ⟨g, rfl, hd, hB1⟩
  obtain ⟨HD1, HB1⟩ : Hid (Ship w1 g) ∧ Hid (Below w.heap.size w w1) := ⟨hd, HB0.out.trans (hB1.mono HB0.out.size)⟩
  clear hd hB1
  go_wp2_with fail
  go_loopw [5] (fun x wr => ∃ k : Nat, k ≤ rs.length ∧ k ≤ 200 ∧ x = .int .i64 k ∧ Below w1.heap.size w1 wr) (fun x _ => 200 - (intOf x).toNat)
  case atStart => exact ⟨0, Nat.zero_le _, Nat.zero_le _, rfl, Below.refl _ _⟩
  case round =>
    obtain ⟨k, hk, hk2, rfl, hBr⟩ := hrel
    have hbr := hBr.size
    have HBR : Hid (Below w1.heap.size w1 wr) := hBr
    have HBW : Hid (Below w.heap.size w wr) := HB1.out.trans (hBr.mono HB1.out.size)
    have HDR : Hid (Ship wr g) := HD1.out.below hBr
    clear hBr
    by_cases hgo : k < rs.length ∧ k < 200
    · have hg1 : (k : Int) < (rs.length : Int) := by omega
      have hg2 : (k : Int) < 200 := by omega
      obtain ⟨gi, off, rfl, hg, c0⟩ := HCR.out k hgo.1
      obtain ⟨r, hx⟩ : ∃ x, x = rs[k]'hgo.1 := ⟨_, rfl⟩
      rw [← hx] at c0
      have d0 : wr.cell? ⟨gi, off + k, none⟩ = some (.int .i64 r) := (HBW.out.cell (p := ⟨gi, _, none⟩) hg).trans c0
      clear c0 hx hgo
      obtain ⟨x, hxv⟩ : ∃ x, x = valP wdR r := ⟨_, rfl⟩
      obtain ⟨y, hyv⟩ : ∃ y, y = valP scR r := ⟨_, rfl⟩
      obtain ⟨z, hzv⟩ : ∃ z, z = valP piR r := ⟨_, rfl⟩
      obtain ⟨q0, hqv⟩ : ∃ q0, q0 = valP clR r := ⟨_, rfl⟩
      obtain ⟨HX1, HX2⟩ : Hid (valP wdR r = x) ∧ Hid (valP (tabR 1) r = x) := ⟨hxv.symm, hxv.symm⟩
      obtain ⟨HS1, HS2⟩ : Hid (valP scR r = y) ∧ Hid (valP (tabR 2) r = y) := ⟨hyv.symm, hyv.symm⟩
      obtain ⟨HP1, HP2⟩ : Hid (valP piR r = z) ∧ Hid (valP (tabR 3) r = z) := ⟨hzv.symm, hzv.symm⟩
      have HQ : Hid (valP (tabR 0) r = q0) := hqv.symm
      have HCL : Hid (clV r = if 44032 ≤ r ∧ r ≤ 55203 then (if (r - 44032) % 28 = 0 then 12 else 13) else q0) := by show _ = _; rw [hqv]; rfl
      clear hxv hyv hzv hqv
      go_wp2_with fail
      refine (rvalue_any 0 (by omega) r wr).mono ?_
      rintro e w2 ⟨rfl, hB2⟩
      have HB2 : Hid (Below wr.heap.size wr w2) := hB2
      have HD2 : Hid (Ship w2 g) := HDR.out.below hB2
      rw [HQ.out]
      clear hB2
      by_cases n1 : r < 44032
      · have HCV : Hid (clV r = q0) := by show _ = _; rw [HCL.out, if_neg (by omega)]
        clear HCL
        go_wp2_with fail
        refine (ship_cluster w2 g r HD2.out).mono ?_
        rintro e w3 ⟨rfl, hB3⟩
        obtain ⟨HD3, HB3⟩ : Hid (Ship w3 g) ∧ Hid (Below wr.heap.size wr w3) := ⟨HD2.out.below hB3, HB2.out.trans (hB3.mono HB2.out.size)⟩
        clear hB3
        rw [HCV.out]
        go_wp2_with fail
        refine (ship_word w3 g r HD3.out).mono ?_
        rintro e w4 ⟨rfl, hB4⟩
        obtain ⟨HD4, HB4⟩ : Hid (Ship w4 g) ∧ Hid (Below wr.heap.size wr w4) := ⟨HD3.out.below hB4, HB3.out.trans (hB4.mono HB3.out.size)⟩
        clear hB4
        rw [HX1.out]
        go_wp2_with fail
        refine (rvalue_any 1 (by omega) r w4).mono ?_
        rintro e w5 ⟨rfl, hB5⟩
        obtain ⟨HD5, HB5⟩ : Hid (Ship w5 g) ∧ Hid (Below wr.heap.size wr w5) := ⟨HD4.out.below hB5, HB4.out.trans (hB5.mono HB4.out.size)⟩
        clear hB5
        rw [HX2.out]
        go_wp2_with fail
        refine (ship_script w5 g r HD5.out).mono ?_
        rintro e w6 ⟨rfl, hB6⟩
        obtain ⟨HD6, HB6⟩ : Hid (Ship w6 g) ∧ Hid (Below wr.heap.size wr w6) := ⟨HD5.out.below hB6, HB5.out.trans (hB6.mono HB5.out.size)⟩
        clear hB6
        rw [HS1.out]
        go_wp2_with fail
        refine (rvalue_any 2 (by omega) r w6).mono ?_
        rintro e w7 ⟨rfl, hB7⟩
        obtain ⟨HD7, HB7⟩ : Hid (Ship w7 g) ∧ Hid (Below wr.heap.size wr w7) := ⟨HD6.out.below hB7, HB6.out.trans (hB7.mono HB6.out.size)⟩
        clear hB7
        rw [HS2.out]
        go_wp2_with fail
        refine (ship_picto w7 g r HD7.out).mono ?_
        rintro e w8 ⟨rfl, hB8⟩
        obtain ⟨HD8, HB8⟩ : Hid (Ship w8 g) ∧ Hid (Below wr.heap.size wr w8) := ⟨HD7.out.below hB8, HB7.out.trans (hB8.mono HB7.out.size)⟩
        clear hB8
        rw [HP1.out]
        go_wp2_with fail
        refine (rvalue_any 3 (by omega) r w8).mono ?_
        rintro e w9 ⟨rfl, hB9⟩
        obtain ⟨HD9, HB9⟩ : Hid (Ship w9 g) ∧ Hid (Below wr.heap.size wr w9) := ⟨HD8.out.below hB9, HB8.out.trans (hB9.mono HB8.out.size)⟩
        clear hB9
        rw [HP2.out]
        go_wp2_with fail
        go_roundw
        case rel => exact ⟨k + 1, by omega, by omega, by go_num, HBR.out.trans (HB9.out.mono hbr)⟩
        case measure => simp [intOf]; omega
      by_cases n2 : 55203 < r
      · have HCV : Hid (clV r = q0) := by show _ = _; rw [HCL.out, if_neg (by omega)]
        clear HCL
        go_wp2_with fail
        refine (ship_cluster w2 g r HD2.out).mono ?_
        rintro e w3 ⟨rfl, hB3⟩
        obtain ⟨HD3, HB3⟩ : Hid (Ship w3 g) ∧ Hid (Below wr.heap.size wr w3) := ⟨HD2.out.below hB3, HB2.out.trans (hB3.mono HB2.out.size)⟩
        clear hB3
        rw [HCV.out]
        go_wp2_with fail
        refine (ship_word w3 g r HD3.out).mono ?_
        rintro e w4 ⟨rfl, hB4⟩
        obtain ⟨HD4, HB4⟩ : Hid (Ship w4 g) ∧ Hid (Below wr.heap.size wr w4) := ⟨HD3.out.below hB4, HB3.out.trans (hB4.mono HB3.out.size)⟩
        clear hB4
        rw [HX1.out]
        go_wp2_with fail
        refine (rvalue_any 1 (by omega) r w4).mono ?_
        rintro e w5 ⟨rfl, hB5⟩
        obtain ⟨HD5, HB5⟩ : Hid (Ship w5 g) ∧ Hid (Below wr.heap.size wr w5) := ⟨HD4.out.below hB5, HB4.out.trans (hB5.mono HB4.out.size)⟩
        clear hB5
        rw [HX2.out]
        go_wp2_with fail
        refine (ship_script w5 g r HD5.out).mono ?_
        rintro e w6 ⟨rfl, hB6⟩
        obtain ⟨HD6, HB6⟩ : Hid (Ship w6 g) ∧ Hid (Below wr.heap.size wr w6) := ⟨HD5.out.below hB6, HB5.out.trans (hB6.mono HB5.out.size)⟩
        clear hB6
        rw [HS1.out]
        go_wp2_with fail
        refine (rvalue_any 2 (by omega) r w6).mono ?_
        rintro e w7 ⟨rfl, hB7⟩
        obtain ⟨HD7, HB7⟩ : Hid (Ship w7 g) ∧ Hid (Below wr.heap.size wr w7) := ⟨HD6.out.below hB7, HB6.out.trans (hB7.mono HB6.out.size)⟩
        clear hB7
        rw [HS2.out]
        go_wp2_with fail
        refine (ship_picto w7 g r HD7.out).mono ?_
        rintro e w8 ⟨rfl, hB8⟩
        obtain ⟨HD8, HB8⟩ : Hid (Ship w8 g) ∧ Hid (Below wr.heap.size wr w8) := ⟨HD7.out.below hB8, HB7.out.trans (hB8.mono HB7.out.size)⟩
        clear hB8
        rw [HP1.out]
        go_wp2_with fail
        refine (rvalue_any 3 (by omega) r w8).mono ?_
        rintro e w9 ⟨rfl, hB9⟩
        obtain ⟨HD9, HB9⟩ : Hid (Ship w9 g) ∧ Hid (Below wr.heap.size wr w9) := ⟨HD8.out.below hB9, HB8.out.trans (hB9.mono HB8.out.size)⟩
        clear hB9
        rw [HP2.out]
        go_wp2_with fail
        go_roundw
        case rel => exact ⟨k + 1, by omega, by omega, by go_num, HBR.out.trans (HB9.out.mono hbr)⟩
        case measure => simp [intOf]; omega
      obtain ⟨m, rfl⟩ : ∃ m : Nat, r = (m : Int) := ⟨r.toNat, by omega⟩
      have hw1 : IntKind.i64.wrap ((m : Int) - 44032) = (m : Int) - 44032 := IntWalk.i64_in _ (by omega)
      obtain ⟨j, hj⟩ : ∃ j : Nat, (j : Int) = (m : Int) - 44032 := ⟨m - 44032, by omega⟩
      have hm : ((m : Int) - 44032).tmod 28 = ((j % 28 : Nat) : Int) := by rw [← hj, Int.tmod_eq_emod_of_nonneg (by omega)]; omega
      have hw2 : IntKind.i64.wrap ((j % 28 : Nat) : Int) = ((j % 28 : Nat) : Int) := IntWalk.i64_in _ (by omega)
      by_cases n3 : j % 28 = 0
      · have HCV : Hid (clV (m : Int) = 12) := by show _ = _; rw [HCL.out, if_pos (by omega), if_pos (by omega)]
        rw [n3] at hm hw2
        clear hj n3 HCL
        go_wp2_with fail
        refine (ship_cluster w2 g (m : Int) HD2.out).mono ?_
        rintro e w3 ⟨rfl, hB3⟩
        obtain ⟨HD3, HB3⟩ : Hid (Ship w3 g) ∧ Hid (Below wr.heap.size wr w3) := ⟨HD2.out.below hB3, HB2.out.trans (hB3.mono HB2.out.size)⟩
        clear hB3
        rw [HCV.out]
        go_wp2_with fail
        refine (ship_word w3 g (m : Int) HD3.out).mono ?_
        rintro e w4 ⟨rfl, hB4⟩
        obtain ⟨HD4, HB4⟩ : Hid (Ship w4 g) ∧ Hid (Below wr.heap.size wr w4) := ⟨HD3.out.below hB4, HB3.out.trans (hB4.mono HB3.out.size)⟩
        clear hB4
        rw [HX1.out]
        go_wp2_with fail
        refine (rvalue_any 1 (by omega) (m : Int) w4).mono ?_
        rintro e w5 ⟨rfl, hB5⟩
        obtain ⟨HD5, HB5⟩ : Hid (Ship w5 g) ∧ Hid (Below wr.heap.size wr w5) := ⟨HD4.out.below hB5, HB4.out.trans (hB5.mono HB4.out.size)⟩
        clear hB5
        rw [HX2.out]
        go_wp2_with fail
        refine (ship_script w5 g (m : Int) HD5.out).mono ?_
        rintro e w6 ⟨rfl, hB6⟩
        obtain ⟨HD6, HB6⟩ : Hid (Ship w6 g) ∧ Hid (Below wr.heap.size wr w6) := ⟨HD5.out.below hB6, HB5.out.trans (hB6.mono HB5.out.size)⟩
        clear hB6
        rw [HS1.out]
        go_wp2_with fail
        refine (rvalue_any 2 (by omega) (m : Int) w6).mono ?_
        rintro e w7 ⟨rfl, hB7⟩
        obtain ⟨HD7, HB7⟩ : Hid (Ship w7 g) ∧ Hid (Below wr.heap.size wr w7) := ⟨HD6.out.below hB7, HB6.out.trans (hB7.mono HB6.out.size)⟩
        clear hB7
        rw [HS2.out]
        go_wp2_with fail
        refine (ship_picto w7 g (m : Int) HD7.out).mono ?_
        rintro e w8 ⟨rfl, hB8⟩
        obtain ⟨HD8, HB8⟩ : Hid (Ship w8 g) ∧ Hid (Below wr.heap.size wr w8) := ⟨HD7.out.below hB8, HB7.out.trans (hB8.mono HB7.out.size)⟩
        clear hB8
        rw [HP1.out]
        go_wp2_with fail
        refine (rvalue_any 3 (by omega) (m : Int) w8).mono ?_
        rintro e w9 ⟨rfl, hB9⟩
        obtain ⟨HD9, HB9⟩ : Hid (Ship w9 g) ∧ Hid (Below wr.heap.size wr w9) := ⟨HD8.out.below hB9, HB8.out.trans (hB9.mono HB8.out.size)⟩
        clear hB9
        rw [HP2.out]
        go_wp2_with fail
        go_roundw
        case rel => exact ⟨k + 1, by omega, by omega, by go_num, HBR.out.trans (HB9.out.mono hbr)⟩
        case measure => simp [intOf]; omega
      · have HCV : Hid (clV (m : Int) = 13) := by show _ = _; rw [HCL.out, if_pos (by omega), if_neg (by omega)]
        obtain ⟨q, hq⟩ : ∃ q : Nat, q = j % 28 := ⟨_, rfl⟩
        rw [← hq] at hm hw2
        have hz : ((q : Int) == 0) = false := by simp; omega
        clear hj n3 hq HCL
        go_wp2_with fail
        refine (ship_cluster w2 g (m : Int) HD2.out).mono ?_
        rintro e w3 ⟨rfl, hB3⟩
        obtain ⟨HD3, HB3⟩ : Hid (Ship w3 g) ∧ Hid (Below wr.heap.size wr w3) := ⟨HD2.out.below hB3, HB2.out.trans (hB3.mono HB2.out.size)⟩
        clear hB3
        rw [HCV.out]
        go_wp2_with fail
        refine (ship_word w3 g (m : Int) HD3.out).mono ?_
        rintro e w4 ⟨rfl, hB4⟩
        obtain ⟨HD4, HB4⟩ : Hid (Ship w4 g) ∧ Hid (Below wr.heap.size wr w4) := ⟨HD3.out.below hB4, HB3.out.trans (hB4.mono HB3.out.size)⟩
        clear hB4
        rw [HX1.out]
        go_wp2_with fail
        refine (rvalue_any 1 (by omega) (m : Int) w4).mono ?_
        rintro e w5 ⟨rfl, hB5⟩
        obtain ⟨HD5, HB5⟩ : Hid (Ship w5 g) ∧ Hid (Below wr.heap.size wr w5) := ⟨HD4.out.below hB5, HB4.out.trans (hB5.mono HB4.out.size)⟩
        clear hB5
        rw [HX2.out]
        go_wp2_with fail
        refine (ship_script w5 g (m : Int) HD5.out).mono ?_
        rintro e w6 ⟨rfl, hB6⟩
        obtain ⟨HD6, HB6⟩ : Hid (Ship w6 g) ∧ Hid (Below wr.heap.size wr w6) := ⟨HD5.out.below hB6, HB5.out.trans (hB6.mono HB5.out.size)⟩
        clear hB6
        rw [HS1.out]
        go_wp2_with fail
        refine (rvalue_any 2 (by omega) (m : Int) w6).mono ?_
        rintro e w7 ⟨rfl, hB7⟩
        obtain ⟨HD7, HB7⟩ : Hid (Ship w7 g) ∧ Hid (Below wr.heap.size wr w7) := ⟨HD6.out.below hB7, HB6.out.trans (hB7.mono HB6.out.size)⟩
        clear hB7
        rw [HS2.out]
        go_wp2_with fail
        refine (ship_picto w7 g (m : Int) HD7.out).mono ?_
        rintro e w8 ⟨rfl, hB8⟩
        obtain ⟨HD8, HB8⟩ : Hid (Ship w8 g) ∧ Hid (Below wr.heap.size wr w8) := ⟨HD7.out.below hB8, HB7.out.trans (hB8.mono HB7.out.size)⟩
        clear hB8
        rw [HP1.out]
        go_wp2_with fail
        refine (rvalue_any 3 (by omega) (m : Int) w8).mono ?_
        rintro e w9 ⟨rfl, hB9⟩
        obtain ⟨HD9, HB9⟩ : Hid (Ship w9 g) ∧ Hid (Below wr.heap.size wr w9) := ⟨HD8.out.below hB9, HB8.out.trans (hB9.mono HB8.out.size)⟩
        clear hB9
        rw [HP2.out]
        go_wp2_with fail
        go_roundw
        case rel => exact ⟨k + 1, by omega, by omega, by go_num, HBR.out.trans (HB9.out.mono hbr)⟩
        case measure => simp [intOf]; omega
    · have hex : ¬ ((k : Int) < (rs.length : Int)) ∨ ((k : Int) < (rs.length : Int)) ∧ ¬ ((k : Int) < 200) := by omega
      clear hgo
      rcases hex with n1 | ⟨n1, n2⟩
      · go_wp2
        go_ret
        exact ⟨rfl, HBW.out⟩
      · go_wp2
        go_ret
        exact ⟨rfl, HBW.out⟩
end Go.Proofs.YtpknmpgbaccffaaDoor
