/-
  The law WordsLetters: true, for all numbers.
-/
import Derived.Test.YtpmlbdfdiebkcaaDoorApp6
namespace Go.Proofs.YtpmlbdfdiebkcaaDoor
open Go.RowKit
set_option linter.unusedVariables false

theorem LF.ne {k : Int} (h : ¬ LF k) : ¬ k = 9 ∧ ¬ k = 10 ∧ ¬ k = 16 := ⟨fun e => h (Or.inl e), fun e => h (Or.inr (Or.inl e)), fun e => h (Or.inr (Or.inr e))⟩
set_option maxRecDepth 100000 in
theorem space_is : wdV 32 = 18 := by kernel_rfl

set_option maxRecDepth 100000 in
set_option maxHeartbeats 16000000 in
theorem wordsLetters_any (l : List Int) (v : Value) (w : World) (hv : IntsAt w.heap.size w v l) (hs : Scripts w) (h0 : 0 < w.heap.size) :
    Calls Tryd.prog 8 #[v] w fun e w' => e = .returned (.bool true) ∧ Below w.heap.size w w' := by
  obtain ⟨iI, hiI, hzI0, hzI1, hzI2⟩ := info_parts Tryd.infoInt
  have HS : Hid (Scripts w) := hs
  have HH0 : Hid (0 < w.heap.size) := h0
  have HV : Hid (IntsAt w.heap.size w v l) := hv
  obtain ⟨a, cap, rfl, hcap, hc⟩ := hv
  have HC : Hid (∀ i, (h : i < l.length) → ∃ g off, a = some ⟨g, off, none⟩ ∧ g < w.heap.size ∧ w.cell? ⟨g, off + i, none⟩ = some (.int .i64 l[i])) := hc
  clear hs h0 hc
  go_enter Tryd.func8, Tryd.ntmps8
  go_wp2_with fail
  refine (awake_w w HS.out HH0.out).mono ?_
  rintro e w0 ⟨rfl, hB0⟩
  have HB0 : Hid (Below w.heap.size w w0) := hB0
  have HS0 : Hid (Scripts w0 ∧ 0 < w0.heap.size) := ⟨HS.out.below HH0.out hB0, by have := HH0.out; have := hB0.size; omega⟩
  clear hB0
  go_wp2_with fail
  refine (new_ship w0 HS0.out.1 HS0.out.2).mono ?_
  rintro e w1 ⟨g, rfl, hd, hB1⟩
  obtain ⟨HD1, HB1⟩ : Hid (Ship w1 g) ∧ Hid (Below w.heap.size w w1) := ⟨hd, HB0.out.trans (hB1.mono HB0.out.size)⟩
  clear hd hB1 HB0 HS0
  by_cases zl : l.length = 0
  · have el : ((l.length : Int) == 0) = true := by simp; exact List.length_eq_zero_iff.1 zl
    clear zl
    go_wp2
    go_ret
    exact ⟨rfl, HB1.out⟩
  have el : ((l.length : Int) == 0) = false := by rw [beq_eq_false_iff_ne]; omega
  by_cases hn : 150 < l.length
  · have hn' : (150 : Int) < (l.length : Int) := by omega
    go_wp2
    go_ret
    exact ⟨rfl, HB1.out⟩
  have hn' : decide ((150 : Int) < (l.length : Int)) = false := decide_eq_false (by omega)
  have hn2 : decide (150 < l.length) = false := decide_eq_false (by omega)
  have HN : Hid (l.length ≤ 150 ∧ 0 < l.length) := ⟨by omega, by omega⟩
  obtain ⟨gi, off, rfl, hg, hc00⟩ := HC.out 0 (by omega)
  have HCX : Hid (∀ w', Below w.heap.size w w' → ∀ i, (h : i < l.length) → w'.cell? ⟨gi, off + i, none⟩ = some (.int .i64 l[i])) := fun w' hw' i hi => by
    obtain ⟨g', off', e, hg', hcc⟩ := HC.out i hi
    obtain ⟨rfl, rfl⟩ : gi = g' ∧ off = off' := by cases e; exact ⟨rfl, rfl⟩
    exact (hw'.cell (p := ⟨gi, _, none⟩) hg').trans hcc
  clear hc00 zl hn hg HC
  go_wp2
  go_loopw [5] (fun x wr => ∃ k : Nat, k ≤ l.length ∧ x = .int .i64 (k : Int) ∧ Hid (∀ j, j < k → LF (kd l j)) ∧ Below w1.heap.size w1 wr) (fun x _ => l.length - (intOf x).toNat)
  case atStart => exact ⟨0, Nat.zero_le _, rfl, fun j hj => by omega, Below.refl _ _⟩
  case round =>
    obtain ⟨k, hk, rfl, HK, hB⟩ := hrel
    have HB : Hid (Below w1.heap.size w1 wr) := hB
    have HBW : Hid (Below w.heap.size w wr) := HB1.out.trans (hB.mono HB1.out.size)
    clear hB
    by_cases hlt : k < l.length
    · have hlt' : (k : Int) < (l.length : Int) := by omega
      have c0 := HCX.out wr HBW.out k hlt
      obtain ⟨x, hx⟩ : ∃ x, x = l[k] := ⟨_, rfl⟩
      have HX : Hid (x = l[k]) := hx
      rw [← hx] at c0
      have HWN : Hid (wrap64 ((k : Int) + 1) = ((k + 1 : Nat) : Int)) := wrap_next (by have := HN.out; omega)
      clear hx
      go_wp2_with fail
      refine (ship_wd wr g x (HD1.out.below HB.out)).mono ?_
      rintro e w2 ⟨rfl, hB2⟩
      have HB2 : Hid (Below w1.heap.size w1 w2) := HB.out.trans (hB2.mono HB.out.size)
      have HBW2 : Hid (Below w.heap.size w w2) := HBW.out.trans (hB2.mono HBW.out.size)
      clear hB2 c0
      obtain ⟨q, hq⟩ : ∃ q, q = wdV x := ⟨_, rfl⟩
      have HQ : Hid (kd l k = q) := by show _ = _; rw [kd_get hlt, ← HX.out, hq]
      rw [← hq]
      clear hq
      by_cases hL : LF q
      · have HLF : Hid (∀ j, j < k + 1 → LF (kd l j)) := fun j hj => by
          rcases Nat.eq_or_lt_of_le (Nat.le_of_lt_succ hj) with rfl | h
          · rw [HQ.out]; exact hL
          · exact HK.out j h
        rcases hL with rfl | rfl | rfl
        · go_wp2
          go_roundw
          case rel => exact ⟨k + 1, by omega, by rw [HWN.out], HLF, HB2.out⟩
          case measure => exact meas_up hlt (by have := HN.out; omega)
        · go_wp2
          go_roundw
          case rel => exact ⟨k + 1, by omega, by rw [HWN.out], HLF, HB2.out⟩
          case measure => exact meas_up hlt (by have := HN.out; omega)
        · go_wp2
          go_roundw
          case rel => exact ⟨k + 1, by omega, by rw [HWN.out], HLF, HB2.out⟩
          case measure => exact meas_up hlt (by have := HN.out; omega)
      · obtain ⟨q1, q2, q3⟩ := LF.ne hL
        have e1 : (q != 9) = true := by simpa using q1
        have e2 : (q != 10) = true := by simpa using q2
        have e3 : (q != 16) = true := by simpa using q3
        have e4 : (q == 9) = false := by simpa using q1
        have e5 : (q == 10) = false := by simpa using q2
        have e6 : (q == 16) = false := by simpa using q3
        clear q1 q2 q3 hL
        go_wp2
        go_ret
        exact ⟨rfl, HBW2.out⟩
    · obtain rfl : k = l.length := by omega
      have hge : ¬ ((l.length : Int) < (l.length : Int)) := by omega
      have HA1 : Hid (intsP (allL l) = [0, (l.length : Int)]) := by show _ = _; rw [all_letters HN.out.2 HK.out]; rfl
      have HA2 : Hid (intsP (allL (l ++ [32] ++ l)) = [0, (l.length : Int), (l.length : Int) + 1, 2 * (l.length : Int) + 1]) := by
        show _ = _
        rw [all_letters_two space_is HN.out.2 HK.out]
        simp [intsP]
      have HSL : Hid (∀ w', Below w.heap.size w w' → SrcIs w' (.slice (some ⟨gi, off, none⟩) l.length cap) l.length 1 (cellI l)) := fun w' hw' => src_of_ints (HV.out.on hw') HN.out.2
      clear hlt hk HK
      go_wp2_with fail
      refine (all_any g _ l (by have := HN.out; omega) wr (HD1.out.below HB.out) (HV.out.on HBW.out)).mono ?_
      rintro e w2 ⟨v2, rfl, ho2, hB2⟩
      have HB2 : Hid (Below w1.heap.size w1 w2) := HB.out.trans (hB2.mono HB.out.size)
      have HBW2 : Hid (Below w.heap.size w w2) := HBW.out.trans (hB2.mono HBW.out.size)
      have hI2 := all_row ho2
      rw [HA1.out] at hI2
      have HI2 : Hid (IntsAt w2.heap.size w2 v2 [0, (l.length : Int)]) := hI2
      clear ho2 hB2 hI2
      go_wp2_with fail
      have hBb : Below w2.heap.size w2 (w2.alloc (.cells #[.int .i64 0, .int .i64 (l.length : Int)] 3)) := (Below.refl _ _).alloc (Nat.le_refl _) _
      refine (sameInts_any [0, (l.length : Int)] (by simp) v2 _ _ (HI2.out.on hBb) (ints_new w2 [0, (l.length : Int)] #[.int .i64 0, .int .i64 (l.length : Int)] rfl)).mono ?_
      rintro e w4 ⟨rfl, hB4⟩
      have HB4 : Hid (Below w1.heap.size w1 w4) := HB2.out.trans ((hBb.trans (hB4.mono hBb.size)).mono HB2.out.size)
      have HBW4 : Hid (Below w.heap.size w w4) := HBW2.out.trans ((hBb.trans (hB4.mono hBb.size)).mono HBW2.out.size)
      clear hB4 hBb
      have HO0 : Hid ((w4.alloc (.cells #[] 3)).ownsRow w4.heap.size 3 1 (.slice (some ⟨w4.heap.size, 0, none⟩) 0 0) 0 []) := owns_empty w4 _ _ _ (Nat.le_refl _)
      have HBA : Hid (Below w4.heap.size w4 (w4.alloc (.cells #[] 3))) := (Below.refl _ _).alloc (Nat.le_refl _) _
      have HSA : Hid (SrcIs (w4.alloc (.cells #[] 3)) (.slice (some ⟨gi, off, none⟩) l.length cap) l.length 1 (cellI l)) := HSL.out _ (HBW4.out.trans (HBA.out.mono HBW4.out.size))
      have HSB : Hid (∀ w', Below w4.heap.size w4 w' → SrcIs w' (.slice (some ⟨gi, off, none⟩) l.length cap) l.length 1 (cellI l)) := fun w' hw' => HSL.out w' (HBW4.out.trans (hw'.mono HBW4.out.size))
      have hw2 : IntKind.i64.wrap (2 * (l.length : Int)) = 2 * (l.length : Int) := IntWalk.i64_in _ (by have := HN.out; omega)
      have hw3 : IntKind.i64.wrap (2 * (l.length : Int) + 1) = 2 * (l.length : Int) + 1 := IntWalk.i64_in _ (by have := HN.out; omega)
      have hw4 : IntKind.i64.wrap ((l.length : Int) + 1) = (l.length : Int) + 1 := IntWalk.i64_in _ (by have := HN.out; omega)
      go_wp2_with (first | (at_builtin; refine wpList_append_src _ rfl (.tmp 59) (.tmp 60) 22 rfl w4.heap.size 3 iI (.int .i64 0) 1 8 Tryd.underlying22 hiI hzI0 hzI1 hzI2 rfl (by decide) _ _ _ rfl HO0.out _ rfl l.length _ HSA.out (by unfold maxLen; have := HN.out; omega) (by have := HN.out; omega) (by simp) ?_; intro v7 w7 ho7 hg7; have HB7 : Hid (Below w4.heap.size w4 w7) := HBA.out.grown hg7 (by simp) (fun j e => (HO0.out.lt j e).1); have HO7 : Hid (w7.ownsRow w4.heap.size 3 1 v7 (0 + l.length) ([] ++ cellI l)) := ho7; clear ho7 hg7) | (at_builtin; refine wpList_append_own _ rfl (.tmp 61) (.tmp 62) 22 rfl w4.heap.size 3 iI (.int .i64 0) 1 8 Tryd.underlying22 hiI hzI0 hzI1 hzI2 rfl (by decide) _ _ _ rfl (HO7.out.alloc _) ⟨w7.heap.size, 0, none⟩ 1 1 [.int .i64 32] rfl rfl (World.news_of_block (World.alloc_heap_new _ _)) (by simp [Value.oneCell']) (by unfold maxLen; have := HN.out; omega) (by have := HN.out; omega) (by simp; have := HB7.out.size; omega) ?_; intro v8 w8 ho8 hg8 _; have HB8 : Hid (Below w4.heap.size w4 w8) := (HB7.out.alloc HB7.out.size _).grown hg8 (by simp; have := HB7.out.size; omega) (fun j e => (HO7.out.lt j e).1); have HO8 : Hid (w8.ownsRow w4.heap.size 3 1 v8 (0 + l.length + 1) ([] ++ cellI l ++ [.int .i64 32])) := ho8; clear ho8 hg8) | (at_builtin; refine wpList_append_src _ rfl (.tmp 64) (.tmp 65) 22 rfl w4.heap.size 3 iI (.int .i64 0) 1 8 Tryd.underlying22 hiI hzI0 hzI1 hzI2 rfl (by decide) _ _ _ rfl HO8.out _ rfl l.length _ (HSB.out _ HB8.out) (by unfold maxLen; have := HN.out; omega) (by have := HN.out; omega) (by have := HB8.out.size; omega) ?_; intro v9 w9 ho9 hg9) | fail)
      have HB9 : Hid (Below w4.heap.size w4 w9) := HB8.out.grown hg9 HB8.out.size (fun j e => (HO8.out.lt j e).1)
      have hI9 : IntsAt w9.heap.size w9 v9 (l ++ [32] ++ l) := by
        refine row_ints (base := w4.heap.size) ?_
        rw [cellI_append, cellI_append, List.length_append, List.length_append, List.length_singleton]
        have := ho9
        rw [List.nil_append, Nat.zero_add] at this
        exact this
      have HBW9 : Hid (Below w.heap.size w w9) := HBW4.out.trans (HB9.out.mono HBW4.out.size)
      have HI9 : Hid (IntsAt w9.heap.size w9 v9 (l ++ [32] ++ l)) := hI9
      clear ho9 hg9 hI9
      refine (all_any g _ (l ++ [32] ++ l) (by rw [List.length_append, List.length_append, List.length_singleton]; have := HN.out; omega) w9 (HD1.out.below (HB4.out.trans (HB9.out.mono HB4.out.size))) HI9.out).mono ?_
      rintro e w10 ⟨v10, rfl, ho10, hB10⟩
      have HBW10 : Hid (Below w.heap.size w w10) := HBW9.out.trans (hB10.mono HBW9.out.size)
      have hI10 := all_row ho10
      rw [HA2.out] at hI10
      have HI10 : Hid (IntsAt w10.heap.size w10 v10 [0, (l.length : Int), (l.length : Int) + 1, 2 * (l.length : Int) + 1]) := hI10
      clear ho10 hB10 hI10
      go_wp2_with fail
      have hBb : Below w10.heap.size w10 (w10.alloc (.cells #[.int .i64 0, .int .i64 (l.length : Int), .int .i64 ((l.length : Int) + 1), .int .i64 (2 * (l.length : Int) + 1)] 3)) := (Below.refl _ _).alloc (Nat.le_refl _) _
      refine (sameInts_any [0, (l.length : Int), (l.length : Int) + 1, 2 * (l.length : Int) + 1] (by simp) v10 _ _ (HI10.out.on hBb) (ints_new w10 [0, (l.length : Int), (l.length : Int) + 1, 2 * (l.length : Int) + 1] #[.int .i64 0, .int .i64 (l.length : Int), .int .i64 ((l.length : Int) + 1), .int .i64 (2 * (l.length : Int) + 1)] rfl)).mono ?_
      rintro e w11 ⟨rfl, hB11⟩
      have HBW11 : Hid (Below w.heap.size w w11) := HBW10.out.trans ((hBb.trans (hB11.mono hBb.size)).mono HBW10.out.size)
      clear hB11 hBb
      go_wp2
      go_ret
      exact ⟨rfl, HBW11.out⟩
end Go.Proofs.YtpmlbdfdiebkcaaDoor
