/-
  The step over a sign; the step of the empty word.
-/
import Derived.Test.YtklhjjgnhigbiaaGreatDoorMtPut
namespace Go.Proofs.YtklhjjgnhigbiaaGreatDoor
open Go.RowKit
set_option linter.unusedVariables false

def overL (ws : List Nat) (s : Int) (l : List Nat) : List Nat := (l.filter fun q => bitW ws s q).map (· + 1)
theorem overL_snoc (ws : List Nat) (s : Int) (l : List Nat) (x : Nat) : overL ws s (l ++ [x]) = overL ws s l ++ (if bitW ws s x then [x + 1] else []) := by
  unfold overL
  rw [List.filter_append, List.map_append]
  congr 1
  by_cases h : bitW ws s x = true
  · simp [h]
  · simp [h]

theorem shr_bit {y k : Nat} (hy : y < 18446744073709551616) : (bits .and .u64 ((y : Int) / 2 ^ k) 1 == 1) = y.testBit k := by
  have e : ((y : Int) / 2 ^ k) = ((y / 2 ^ k : Nat) : Int) := by simp
  have hle : y / 2 ^ k ≤ y := Nat.div_le_self _ _
  have := bits_and_u64_nat (y / 2 ^ k) 1 (by omega) (by omega)
  rw [e]
  rw [show ((1 : Nat) : Int) = 1 from rfl] at this
  rw [this, Nat.testBit_eq_decide_div_mod_eq, Nat.and_one_is_mod]
  by_cases h : y / 2 ^ k % 2 = 1
  · rw [h]; simp
  · have h0 : y / 2 ^ k % 2 = 0 := by omega
    rw [h0]; simp

set_option maxRecDepth 100000 in
set_option maxHeartbeats 4000000 in
theorem over_any (b1 b2 : Nat) (wv : Value) (ws : List Nat) (k : Nat) (l : List Nat) (v : Value) (w : World) (b0 B L : Nat) (h1 : w.cell? ⟨b1, 0, none⟩ = some wv) (h2 : w.cell? ⟨b2, 0, none⟩ = some (.int .i64 (k : Int))) (hk : k < 64) (hw : WrdAt w.heap.size w wv ws) (hv : PlcAt b0 B w v l) (hr : Ris L l) (hL : L < 64) :
    Calls Tryz.prog 85 #[v, .pointer (some ⟨b1, 0, none⟩), .pointer (some ⟨b2, 0, none⟩)] w fun e w' => ∃ v', e = .returned v' ∧ w'.ownsRow w.heap.size 3 1 v' (overL ws (k : Int) l).length (cellP (overL ws (k : Int) l)) ∧ Below w.heap.size w w' := by
  obtain ⟨i0, hi0, hz0, hz1, hz2⟩ := info_parts Tryz.infoInt
  have HV : Hid (PlcAt b0 B w v l) := hv
  obtain ⟨a, cap, rfl, hcap, hn, _⟩ := hv
  have HW : Hid (WrdAt w.heap.size w wv ws) := hw
  obtain ⟨wa, wcap, rfl, hwcap, _⟩ := hw
  have hlen : l.length ≤ 64 := by have := hr.len; omega
  obtain ⟨len, hle⟩ : ∃ len, len = l.length := ⟨_, rfl⟩
  obtain ⟨wl, hwl⟩ : ∃ len, len = ws.length := ⟨_, rfl⟩
  rw [← hle] at hcap hlen HV ⊢
  rw [← hwl] at hwcap HW h1
  have HLE : Hid (len = l.length) := hle
  have HWL : Hid (wl = ws.length) := hwl
  have HR : Hid (Ris L l) := hr
  have hb1 := cell_some_lt h1
  have hb2 := cell_some_lt h2
  clear hle hr hn hwl
  go_enter Tryz.func85, Tryz.ntmps85
  go_wp2
  go_loopw [5, 10] (fun x5 x10 wr => ∃ (j : Nat), j ≤ len ∧ x10 = .int .i64 (j : Int) ∧ wr.ownsRow w.heap.size 3 1 x5 (overL ws (k : Int) (l.take j)).length (cellP (overL ws (k : Int) (l.take j))) ∧ Below w.heap.size w wr) (fun _ x10 _ => len - (intOf x10).toNat)
  case atStart => exact ⟨0, Nat.zero_le _, rfl, by simpa [cellP, overL] using World.ownsRow_nil _ _ _ _, Below.refl _ _⟩
  case round =>
    obtain ⟨j, hj, rfl, hown, hB⟩ := hrel
    have d1 : wr.cell? ⟨b1, 0, none⟩ = some (.slice wa wl wcap) := (hB.cell (p := ⟨b1, _, none⟩) hb1).trans h1
    have d2 : wr.cell? ⟨b2, 0, none⟩ = some (.int .i64 (k : Int)) := (hB.cell (p := ⟨b2, _, none⟩) hb2).trans h2
    by_cases hjl : j < len
    · have hjn : j < l.length := by rw [← HLE.out]; exact hjl
      obtain ⟨x, hx⟩ : ∃ x, x = l[j] := ⟨_, rfl⟩
      obtain ⟨ga, oa, rfl, hBg, hga, c0⟩ : ∃ ga oa, a = some ⟨ga, oa, none⟩ ∧ (ga < b0 ∨ B ≤ ga) ∧ ga < w.heap.size ∧ w.cell? ⟨ga, oa + j, none⟩ = some (.int .i64 (x : Int)) := by
        obtain ⟨a', c', e1, _, _, h⟩ := HV.out
        obtain ⟨g, off, e2, h1, h2, h3⟩ := h j hjn
        exact ⟨g, off, by simp at e1; rw [e1.1]; exact e2, h1, h2, by rw [hx]; exact h3⟩
      have hx64 : x < 64 := by have := HR.out.2 l[j] (List.getElem_mem hjn); omega
      have c1 : wr.cell? ⟨ga, oa + j, none⟩ = some (.int .i64 (x : Int)) := (hB.cell (p := ⟨ga, _, none⟩) hga).trans c0
      have hj0 : (0 : Int) ≤ (j : Int) := by omega
      have hj1 : (j : Int) < (len : Int) := by omega
      have HTK : Hid (l.take (j + 1) = l.take j ++ [x]) := by
        show _ = _
        rw [List.take_add_one, List.getElem?_eq_getElem hjn, hx]; rfl
      have HFL : Hid ((overL ws (k : Int) (l.take j)).length ≤ 64) := by
        show _ ≤ _
        unfold overL
        rw [List.length_map]
        exact Nat.le_trans (List.length_filter_le _ _) (by rw [List.length_take]; omega)
      have HB : Hid (Below w.heap.size w wr) := hB
      have hws : w.heap.size ≤ wr.heap.size := hB.size
      have HO : Hid (wr.ownsRow w.heap.size 3 1 u5 (overL ws (k : Int) (l.take j)).length (cellP (overL ws (k : Int) (l.take j)))) := hown
      clear hown hB c0 hx
      by_cases hxw : x < wl
      · have hxn : x < ws.length := by rw [← HWL.out]; exact hxw
        obtain ⟨y, hy⟩ : ∃ y, y = ws[x] := ⟨_, rfl⟩
        obtain ⟨gw, ow, rfl, hgw, e0, hy64⟩ : ∃ ga oa, wa = some ⟨ga, oa, none⟩ ∧ ga < w.heap.size ∧ w.cell? ⟨ga, oa + x, none⟩ = some (.int .u64 (y : Int)) ∧ y < 18446744073709551616 := by
          obtain ⟨a', c', e1, _, h⟩ := HW.out
          obtain ⟨h0, g, off, e2, h1, h3⟩ := h x hxn
          exact ⟨g, off, by simp at e1; rw [e1.1]; exact e2, h1, by rw [hy]; exact h3, by rw [hy]; exact h0⟩
        have e1 : wr.cell? ⟨gw, ow + x, none⟩ = some (.int .u64 (y : Int)) := (HB.out.cell (p := ⟨gw, _, none⟩) hgw).trans e0
        have hx1 : decide ((x : Int) < (wl : Int)) = true := by simp; omega
        have hx2 : (x : Int) < (wl : Int) := by omega
        have HBW : Hid (bitW ws (k : Int) x = y.testBit k) := by
          show _ = _
          rw [bitW_at hxn, hy]; simp
        clear e0 hy
        cases hbit : y.testBit k with
        | false =>
          rw [hbit] at HBW
          have hd : (bits .and .u64 ((y : Int) / 2 ^ k) 1 == 1) = false := by rw [shr_bit hy64, hbit]
          clear hbit
          go_wp2
          go_quiet (fail)
          obtain ⟨W, hW⟩ : ∃ W, W = wr.drewN nq := ⟨_, rfl⟩
          have HBW' : Hid (Below wr.heap.size wr W) := by rw [hW]; exact below_drewN' (Below.refl _ _) nq
          have HOS : Hid (W.ownsRow w.heap.size 3 1 u5 (overL ws (k : Int) (l.take (j + 1))).length (cellP (overL ws (k : Int) (l.take (j + 1))))) := by
            show W.ownsRow _ _ _ _ _ _
            rw [HTK.out, overL_snoc, HBW.out, if_neg (by simp), List.append_nil]
            exact ownsRow_below HO.out HBW'.out
          rw [← hW]
          clear hW
          go_wp2
          go_roundw
          case rel => exact ⟨j + 1, by omega, by go_num, HOS.out, HB.out.trans (HBW'.out.mono hws)⟩
          case measure => simp [intOf]; omega
        | true =>
          rw [hbit] at HBW
          have hd : (bits .and .u64 ((y : Int) / 2 ^ k) 1 == 1) = true := by rw [shr_bit hy64, hbit]
          clear hbit
          go_wp2
          go_quiet (fail)
          obtain ⟨W, hW⟩ : ∃ W, W = wr.drewN nq := ⟨_, rfl⟩
          have HBW' : Hid (Below wr.heap.size wr W) := by rw [hW]; exact below_drewN' (Below.refl _ _) nq
          have HOW : Hid (W.ownsRow w.heap.size 3 1 u5 (overL ws (k : Int) (l.take j)).length (cellP (overL ws (k : Int) (l.take j)))) := ownsRow_below HO.out HBW'.out
          have hWs : wr.heap.size ≤ W.heap.size := HBW'.out.size
          rw [← hW]
          clear hW
          go_wp2_with (at_builtin; go_must (refine wpList_append_own _ rfl _ _ 77 rfl w.heap.size 3 i0 (.int .i64 0) 1 8 Tryz.underlying77 hi0 hz0 hz1 hz2 rfl (by decide) _ _ _ rfl (HOW.out.alloc _) ⟨W.heap.size, 0, none⟩ 1 1 [.int .i64 ((x : Int) + 1)] rfl rfl (World.news_of_block (heap_new' _ _)) (by simp [Value.oneCell']) (by unfold maxLen; have := HFL.out; omega) (by have := HFL.out; omega) (by simp; omega) ?_); intro v2 w2 ho2 hg2 _)
          have HO2 : Hid (w2.ownsRow w.heap.size 3 1 v2 (overL ws (k : Int) (l.take (j + 1))).length (cellP (overL ws (k : Int) (l.take (j + 1))))) := by
            show w2.ownsRow _ _ _ _ _ _
            rw [HTK.out, overL_snoc, HBW.out, if_pos rfl, cellP_snoc, List.length_append]
            simpa using ho2
          have HG2 : Hid (Below w.heap.size w w2) := ((HB.out.trans (HBW'.out.mono hws)).alloc (by omega) _).grown hg2 (by simp; omega) (fun j e => (HOW.out.lt j e).1)
          clear ho2 hg2
          go_wp2
          go_roundw
          case rel => exact ⟨j + 1, by omega, by go_num, HO2.out, HG2.out⟩
          case measure => simp [intOf]; omega
      · have hx1 : decide ((x : Int) < (wl : Int)) = false := by simp; omega
        have HBW : Hid (bitW ws (k : Int) x = false) := by
          show _ = _
          cases h : bitW ws (k : Int) x with
          | false => rfl
          | true => have := bitW_lt h; have := HWL.out; omega
        go_wp2
        go_quiet (fail)
        obtain ⟨W, hW⟩ : ∃ W, W = wr.drewN nq := ⟨_, rfl⟩
        have HBW' : Hid (Below wr.heap.size wr W) := by rw [hW]; exact below_drewN' (Below.refl _ _) nq
        have HOS : Hid (W.ownsRow w.heap.size 3 1 u5 (overL ws (k : Int) (l.take (j + 1))).length (cellP (overL ws (k : Int) (l.take (j + 1))))) := by
          show W.ownsRow _ _ _ _ _ _
          rw [HTK.out, overL_snoc, HBW.out, if_neg (by simp), List.append_nil]
          exact ownsRow_below HO.out HBW'.out
        rw [← hW]
        clear hW
        go_wp2
        go_roundw
        case rel => exact ⟨j + 1, by omega, by go_num, HOS.out, HB.out.trans (HBW'.out.mono hws)⟩
        case measure => simp [intOf]; omega
    · obtain rfl : j = len := by omega
      have HEQ : Hid (l.take j = l) := List.take_of_length_le (by rw [← HLE.out]; exact Nat.le_refl _)
      have HO : Hid (wr.ownsRow w.heap.size 3 1 u5 (overL ws (k : Int) (l.take j)).length (cellP (overL ws (k : Int) (l.take j)))) := hown
      clear hown
      go_wp2
      go_ret
      have h := HO.out
      rw [HEQ.out] at h
      exact ⟨u5, rfl, h, hB⟩
end Go.Proofs.YtklhjjgnhigbiaaGreatDoor
