/-
  trie.draft.put: an entry is laid into the draft.
-/
import Derived.Test.YtmknifnhcgdkaaaX23
namespace Go.Proofs.Ytmknifnhcgdkaaa.S3
open Go.RowKit
set_option linter.unusedVariables false

set_option maxRecDepth 100000 in
set_option maxHeartbeats 16000000 in
theorem put_any (n gd : Nat) (like : List Nat) (bl : List (List Int)) (f : Int → Int) (p : Pp) (w : World) (h : DrAt n w gd like bl) (hs : Says f like bl) (h0 : 0 ≤ p.lo) (h1 : p.lo ≤ p.hi) (h2 : p.hi ≤ 1114111) (hv : 0 ≤ p.v ∧ p.v ≤ 255)
    (hlen : bl.length < 500000000) (hnw : n ≤ w.heap.size) :
    Calls Try.prog 55 #[.pointer (some ⟨gd, 0, none⟩), .agg #[.int .i64 p.lo, .int .i64 p.hi, .int .u8 p.v]] w fun e w' => e = .returned (.tuple #[]) ∧ ∃ like' bl', DrAt n w' gd like' bl' ∧ Says (withP f p) like' bl' ∧ bl'.length ≤ bl.length + 5000 ∧ Below n w w' := by
  have hzb := Try.zeroBlock
  obtain ⟨zb, hzB⟩ : ∃ zb, zb = (i8 zeroB).toArray := ⟨_, rfl⟩
  rw [← hzB] at hzb
  have HZB : Hid (zb = (i8 zeroB).toArray) := hzB
  obtain ⟨wb, hwb⟩ : ∃ wb, wb = w.alloc (.cells #[.int .i64 p.lo, .int .i64 p.hi, .int .u8 p.v] 66) := ⟨_, rfl⟩
  have HWB : Hid (wb = w.alloc (.cells #[.int .i64 p.lo, .int .i64 p.hi, .int .u8 p.v] 66)) := hwb
  have hBb : Below w.heap.size w wb := by rw [hwb]; exact (Below.refl _ _).alloc (Nat.le_refl _) _
  have hpb : wb.heap[w.heap.size]? = some (.cells #[.int .i64 p.lo, .int .i64 p.hi, .int .u8 p.v] 66 (0, 0)) := by rw [hwb]; exact heap_new' w _
  have hsb : wb.heap.size = w.heap.size + 1 := by rw [hwb]; simp
  clear hzB hwb
  go_enter Try.func55, Try.ntmps55
  go_wp2_with fail
  rw [HZB.out, ← HWB.out]
  refine (filled_any zeroB 0 255 p.v wb zeroB_length (by omega) (by omega)).mono ?_
  rintro e w1 ⟨rfl, hB1⟩
  have e256 : ((255 : Nat) : Int) + 1 = 256 := by omega
  rw [e256]
  have hd1 : DrAt n w1 gd like bl := (h.below hBb).below hB1
  have hs1 := hB1.size
  have hp1 : w1.heap[w.heap.size]? = some (.cells #[.int .i64 p.lo, .int .i64 p.hi, .int .u8 p.v] 66 (0, 0)) := (hB1.block _ (by omega)).trans hpb
  go_wp2_with fail
  refine (number_any n gd like bl (fillTo zeroB 0 256 p.v) w1 hd1 (isB_fill isB_zero hv) (by omega) (by omega)).mono ?_
  rintro e w2 ⟨rfl, hd2, hB2, hO2⟩
  have hs2 := hB2.size
  have hp2 : w2.heap[w.heap.size]? = some (.cells #[.int .i64 p.lo, .int .i64 p.hi, .int .u8 p.v] 66 (0, 0)) := (hO2 _ _ _ _ hp1 (by decide) (by decide)).trans hp1
  have hBn2 : Below n w w2 := ((hBb.mono hnw).trans (hB1.mono (by omega))).trans hB2
  obtain ⟨wh, hwh⟩ : ∃ wh : Nat, wh = (addF bl (fillTo zeroB 0 256 p.v)).idxOf (fillTo zeroB 0 256 p.v) := ⟨_, rfl⟩
  obtain ⟨bl2, hbl2⟩ : ∃ bl2, bl2 = addF bl (fillTo zeroB 0 256 p.v) := ⟨_, rfl⟩
  have hwg : bl2[wh]? = some (fillTo zeroB 0 256 p.v) := by rw [hbl2, hwh]; exact addF_get _ _
  obtain ⟨t2, ht2⟩ : ∃ t, bl2 = bl ++ t := by rw [hbl2]; exact addF_ahead _ _
  have hl2 : bl2.length ≤ bl.length + 1 := by rw [hbl2]; exact addF_len _ _
  rw [← hwh]
  rw [← hbl2] at hd2
  have hs2' : Says f like bl2 := ⟨hs.1, fun i hi => by
    obtain ⟨x, q1, q2⟩ := hs.2 i hi
    exact ⟨x, q1, by rw [ht2, List.getElem?_append_left (List.getElem?_eq_some_iff.1 q2).1, q2]⟩⟩
  clear hwh hbl2 ht2 hd1 hs hpb hp1 hBb hB1 hO2 h hB2
  have hx0 : w2.cell? ⟨w.heap.size, 0, none⟩ = some (.int .i64 p.lo) := cell_of_row _ _ 0 _ _ _ hp2
  have hq1 : 0 ≤ p.lo / 256 ∧ p.lo / 256 ≤ 4351 := by omega
  obtain ⟨k0, hk0⟩ : ∃ k0 : Nat, (k0 : Int) = p.lo / 256 := ⟨(p.lo / 256).toNat, by omega⟩
  obtain ⟨k9, hk9⟩ : ∃ k9 : Nat, (k9 : Int) = p.hi / 256 := ⟨(p.hi / 256).toNat, by omega⟩
  have hd0 : p.lo.tdiv 256 = (k0 : Int) := by rw [hk0]; exact Int.tdiv_eq_ediv_of_nonneg h0
  have hd9 : p.hi.tdiv 256 = (k9 : Int) := by rw [hk9]; exact Int.tdiv_eq_ediv_of_nonneg (by omega)
  obtain ⟨HK0, HK9⟩ : Hid ((k0 : Int) = p.lo / 256) ∧ Hid ((k9 : Int) = p.hi / 256) := ⟨hk0, hk9⟩
  have hk09 : k0 ≤ k9 ∧ k9 ≤ 4351 := by omega
  obtain ⟨HP2, HD2, HS2, HBN, HWG⟩ : Hid (w2.heap[w.heap.size]? = some (.cells #[.int .i64 p.lo, .int .i64 p.hi, .int .u8 p.v] 66 (0, 0))) ∧ Hid (DrAt n w2 gd like bl2) ∧ Hid (Says f like bl2) ∧ Hid (Below n w w2) ∧ Hid (bl2[wh]? = some (fillTo zeroB 0 256 p.v)) := ⟨hp2, hd2, hs2', hBn2, hwg⟩
  clear hk0 hk9 hp2 hd2 hs2' hBn2 hwg
  go_wp2
  go_loopw [5] (fun x wr => ∃ k : Nat, k0 ≤ k ∧ k ≤ k9 + 1 ∧ x = .int .i64 k ∧ ∃ like bl, DrAt n wr gd like bl ∧ Says (upTo f p k) like bl ∧ bl.length + k0 ≤ bl2.length + k ∧ bl[wh]? = some (fillTo zeroB 0 256 p.v) ∧ Below n w wr ∧ wr.heap[w.heap.size]? = some (.cells #[.int .i64 p.lo, .int .i64 p.hi, .int .u8 p.v] 66 (0, 0)) ∧ w.heap.size < wr.heap.size) (fun x _ => k9 + 1 - (intOf x).toNat)
  case atStart =>
    refine ⟨k0, Nat.le_refl _, by omega, rfl, like, bl2, HD2.out, says_congr HS2.out (fun i hi => upTo_start (by have := HK0.out; omega) i), Nat.le_refl _, HWG.out, HBN.out, HP2.out, by omega⟩
  case round =>
    obtain ⟨k, hka, hkb, rfl, like, bl, hd, hsy, hbn, hwg, hB, hp, hws⟩ := hrel
    clear HD2 HS2 HBN HWG HP2 hx0
    have hx0 : wr.cell? ⟨w.heap.size, 0, none⟩ = some (.int .i64 p.lo) := cell_of_row _ _ 0 _ _ _ hp
    have hx1 : wr.cell? ⟨w.heap.size, 1, none⟩ = some (.int .i64 p.hi) := cell_of_row _ _ 1 _ _ _ hp
    have hx2 : wr.cell? ⟨w.heap.size, 2, none⟩ = some (.int .u8 p.v) := cell_of_row _ _ 2 _ _ _ hp
    obtain ⟨HD, HSY, HWG, HB, HP⟩ : Hid (DrAt n wr gd like bl) ∧ Hid (Says (upTo f p k) like bl) ∧ Hid (bl[wh]? = some (fillTo zeroB 0 256 p.v)) ∧ Hid (Below n w wr) ∧ Hid (wr.heap[w.heap.size]? = some (.cells #[.int .i64 p.lo, .int .i64 p.hi, .int .u8 p.v] 66 (0, 0))) := ⟨hd, hsy, hwg, hB, hp⟩
    obtain ⟨hng, hgdlt, a, cap, hcv, hck, hfr, hrg⟩ := hd.cells
    clear hd hsy hwg hB hp
    by_cases hlt : k ≤ k9
    · have hlt' : (k : Int) ≤ (k9 : Int) := by omega
      obtain ⟨lo, hlo⟩ : ∃ lo : Nat, (lo : Int) = max (p.lo - 256 * k) 0 := ⟨(max (p.lo - 256 * k) 0).toNat, by omega⟩
      obtain ⟨hi, hhi⟩ : ∃ hi : Nat, (hi : Int) = min (p.hi - 256 * k) 255 := ⟨(min (p.hi - 256 * k) 255).toNat, by have := HK9.out; omega⟩
      obtain ⟨HLO, HHI⟩ : Hid ((lo : Int) = max (p.lo - 256 * k) 0) ∧ Hid ((hi : Int) = min (p.hi - 256 * k) 255) := ⟨hlo, hhi⟩
      have HMX : Hid ((lo : Int) = max (p.lo - (k : Int) * 256) 0) := by show _ = _; rw [hlo]; omega
      have HMN : Hid ((hi : Int) = min (p.hi - (k : Int) * 256) 255) := by show _ = _; rw [hhi]; omega
      clear hlo hhi
      obtain ⟨m, HMK, hmb⟩ : ∃ m : Nat, Hid (like[k]? = some m) ∧ bl[m]? = some (blkF (upTo f p k) k) := HSY.out.2 k (by omega)
      obtain ⟨b, hbd⟩ : ∃ b, b = blkF (upTo f p k) k := ⟨_, rfl⟩
      rw [← hbd] at hmb
      obtain ⟨gb, rfl, hgb, hrgb⟩ := hrg m b hmb
      have hmlt : m < bl.length := (List.getElem?_eq_some_iff.1 hmb).1
      have hkk := hck k m HMK.out
      have hff := hfr k (by omega)
      have HCV : Hid (∀ w', Below wr.heap.size wr w' → w'.cell? ⟨gd, 4352, none⟩ = some (.slice (some ⟨gb, 0, none⟩) bl.length cap)) := fun w' hw' => (hw'.cell (p := ⟨gd, 4352, none⟩) hgdlt).trans hcv
      have HCK : Hid (∀ w', Below wr.heap.size wr w' → w'.cell? ⟨gd, k, none⟩ = some (.int .i64 (m : Int))) := fun w' hw' => (hw'.cell (p := ⟨gd, k, none⟩) hgdlt).trans hkk
      have HRG : Hid (∀ w', Below wr.heap.size wr w' → w'.rangeAt gb (m * 256) (i8 b)) := fun w' hw' j u hj => (hw'.cell (p := ⟨gb, m * 256 + j, none⟩) hgb).trans (hrgb j u hj)
      have HCP : Hid (∀ w', Below wr.heap.size wr w' → w'.cell? ⟨w.heap.size, 2, none⟩ = some (.int .u8 p.v)) := fun w' hw' => (hw'.cell (p := ⟨w.heap.size, 2, none⟩) hws).trans hx2
      have HBB : Hid (IsB b) := by
        obtain ⟨_, _, _, _, _, _, _, hbl, _⟩ := HD.out
        exact hbl b (List.mem_of_getElem? hmb)
      have HI : Hid ((Try.prog.info? 93).map (·.size) = some (i8 b).length) := by show _ = _; rw [i8_length, HBB.out.1]; exact Try.sizeBlock
      have HLH : Hid (hi < 256 ∧ lo ≤ hi + 1) := by have := HLO.out; have := HHI.out; have := HK0.out; have := HK9.out; show _ ∧ _; omega
      obtain ⟨b', hb'⟩ : ∃ b', b' = fillTo b lo ((hi : Int) + 1) p.v := ⟨_, rfl⟩
      have HBE : Hid (fillTo b lo ((hi : Int) + 1) p.v = b') := hb'.symm
      have HBB' : Hid (IsB b') := by show IsB b'; rw [hb']; exact isB_fill HBB.out hv
      have HBK : Hid (b' = blkF (upTo f p (k + 1)) k) := by show _ = _; rw [hb', hbd]; exact upTo_part HLO.out HHI.out
      have HNE : Hid (w.heap.size ≠ gd) := fun e => by
        obtain ⟨_, _, _, _, _, _, _, _, hg, _⟩ := HD.out
        have := HP.out
        rw [e, hg] at this
        simp at this
      have hk51 : (k : Int) < 4352 := by omega
      have hmi : (m : Int) < (bl.length : Int) := by omega
      clear hb' hbd hmb hrgb hrg hck hfr
      by_cases hw : lo = 0 ∧ hi = 255
      · obtain ⟨rfl, rfl⟩ := hw
        go_wp2_with (first | (refine wpList_max rfl _ _ _ rfl (p.lo - (k : Int) * 256) 0 ((0 : Nat) : Int) rfl rfl HMX.out ?_) | (refine wpList_min rfl _ _ _ rfl (p.hi - (k : Int) * 256) 255 ((255 : Nat) : Int) rfl rfl HMN.out ?_) | fail)
        go_roundw
        case rel =>
          have hk4 : k < 4352 := by omega
          refine ⟨k + 1, by omega, by omega, by go_num, like.set k wh, bl, HD.out.setLike hk4 wh, ?_, by omega, HWG.out, HB.out.setCell (show n ≤ gd from hng) _, ?_, by simp [World.setCell]; omega⟩
          · have := says_set (t := []) HSY.out hk4 (g := upTo f p (k + 1)) (m := wh) (by rw [List.append_nil, HWG.out, upTo_whole (by have := HLO.out; omega) (by have := HHI.out; omega)]) (fun i hi hne => upTo_other f p k i hne)
            rwa [List.append_nil] at this
          · rw [heap_setCell_other _ _ _ _ (show w.heap.size ≠ gd from HNE.out)]
            exact HP.out
        case measure => simp [intOf]; omega
      · by_cases q0 : lo = 0
        · have q1 : hi ≠ 255 := fun e => hw ⟨q0, e⟩
          have q2 : ¬ ((hi : Int) = 255) := by omega
          subst q0
          go_wp2_with (first | (refine wpList_max rfl _ _ _ rfl (p.lo - (k : Int) * 256) 0 ((0 : Nat) : Int) rfl rfl HMX.out ?_) | (refine wpList_min rfl _ _ _ rfl (p.hi - (k : Int) * 256) 255 (hi : Int) rfl rfl HMN.out ?_) | fail)
          refine wp_region_bad (fun w' => Below wr.heap.size wr w') [20, 24] (by kernel_rfl) ((Below.refl _ _).drew) (fun hS => ?_)
          have hCV := HCV.out
          have hCK := HCK.out
          have hRG := HRG.out
          have hCP := HCP.out
          refine wpAnyB_pure (i := 0) (v := .pointer (some ⟨gd, 0, none⟩)) rfl (by kernel_rfl) (fun _ _ _ h => h) (Or.inl ⟨by rfl, fun w _ => by go_simp⟩) hS ?_
          simp only [List.getElem_toArray, List.getElem_cons_zero, Act.put, List.setIfInBounds_toArray, List.set_cons_zero, List.set_cons_succ]
          refine wpAnyB_pure (i := 1) (v := .int .i64 (k : Int)) rfl (by kernel_rfl) (fun _ _ _ h => h) (Or.inl ⟨by rfl, fun w _ => by go_simp⟩) hS ?_
          simp only [List.getElem_toArray, List.getElem_cons_succ, List.getElem_cons_zero, Act.put, List.setIfInBounds_toArray, List.set_cons_zero, List.set_cons_succ]
          refine wpAnyB_pure (i := 2) (v := .pointer (some ⟨gd, 0, none⟩)) rfl (by kernel_rfl) (fun _ _ _ h => h) (Or.inl ⟨by rfl, fun w _ => by go_simp⟩) hS ?_
          simp only [List.getElem_toArray, List.getElem_cons_succ, List.getElem_cons_zero, Act.put, List.setIfInBounds_toArray, List.set_cons_zero, List.set_cons_succ]
          refine wpAnyB_pure (i := 3) (v := .pointer (some ⟨gd, 0, none⟩)) rfl (by kernel_rfl) (fun _ _ _ h => h) (Or.inl ⟨by rfl, fun w _ => by go_simp⟩) hS ?_
          simp only [List.getElem_toArray, List.getElem_cons_succ, List.getElem_cons_zero, Act.put, List.setIfInBounds_toArray, List.set_cons_zero, List.set_cons_succ]
          refine wpAnyB_pure (i := 4) (v := .pointer (some ⟨gd, 0, none⟩)) rfl (by kernel_rfl) (fun _ _ _ h => h) (Or.inl ⟨by rfl, fun w _ => by go_simp⟩) hS ?_
          simp only [List.getElem_toArray, List.getElem_cons_succ, List.getElem_cons_zero, Act.put, List.setIfInBounds_toArray, List.set_cons_zero, List.set_cons_succ]
          refine wpAnyB_pure (i := 5) (v := .pointer (some ⟨gd, 4352, none⟩)) rfl (by kernel_rfl) (fun _ _ _ h => h) (Or.inl ⟨by rfl, fun w _ => by go_simp⟩) hS ?_
          simp only [List.getElem_toArray, List.getElem_cons_succ, List.getElem_cons_zero, Act.put, List.setIfInBounds_toArray, List.set_cons_zero, List.set_cons_succ]
          refine wpAnyB_take [6, 13, 14, 19, 20, 24] (i := 6) (v := .slice (some ⟨gb, 0, none⟩) bl.length cap) rfl (by kernel_rfl) (fun _ _ _ h => h) (Or.inl ⟨by rfl, fun w hSw => by have := hCV w hSw; go_simp⟩) hS ?_
          simp only [List.getElem_toArray, List.getElem_cons_succ, List.getElem_cons_zero, Act.put, List.setIfInBounds_toArray, List.set_cons_zero, List.set_cons_succ]
          refine wpAnyB_pure (i := 7) (v := .pointer (some ⟨gd, 0, none⟩)) rfl (by kernel_rfl) (fun _ _ _ h => h) (Or.inl ⟨by rfl, fun w _ => by go_simp⟩) hS ?_
          simp only [List.getElem_toArray, List.getElem_cons_succ, List.getElem_cons_zero, Act.put, List.setIfInBounds_toArray, List.set_cons_zero, List.set_cons_succ]
          refine wpAnyB_pure (i := 8) (v := .int .i64 (k : Int)) rfl (by kernel_rfl) (fun _ _ _ h => h) (Or.inl ⟨by rfl, fun w _ => by go_simp⟩) hS ?_
          simp only [List.getElem_toArray, List.getElem_cons_succ, List.getElem_cons_zero, Act.put, List.setIfInBounds_toArray, List.set_cons_zero, List.set_cons_succ]
          refine wpAnyB_pure (i := 9) (v := .pointer (some ⟨gd, 0, none⟩)) rfl (by kernel_rfl) (fun _ _ _ h => h) (Or.inl ⟨by rfl, fun w _ => by go_simp⟩) hS ?_
          simp only [List.getElem_toArray, List.getElem_cons_succ, List.getElem_cons_zero, Act.put, List.setIfInBounds_toArray, List.set_cons_zero, List.set_cons_succ]
          refine wpAnyB_pure (i := 10) (v := .pointer (some ⟨gd, 0, none⟩)) rfl (by kernel_rfl) (fun _ _ _ h => h) (Or.inl ⟨by rfl, fun w _ => by go_simp⟩) hS ?_
          simp only [List.getElem_toArray, List.getElem_cons_succ, List.getElem_cons_zero, Act.put, List.setIfInBounds_toArray, List.set_cons_zero, List.set_cons_succ]
          refine wpAnyB_pure (i := 11) (v := .pointer (some ⟨gd, k, none⟩)) rfl (by kernel_rfl) (fun _ _ _ h => h) (Or.inl ⟨by rfl, fun w _ => by go_simp⟩) hS ?_
          simp only [List.getElem_toArray, List.getElem_cons_succ, List.getElem_cons_zero, Act.put, List.setIfInBounds_toArray, List.set_cons_zero, List.set_cons_succ]
          refine wpAnyB_take [12, 13, 14, 19, 20, 24] (i := 12) (v := .int .i64 (m : Int)) rfl (by kernel_rfl) (fun _ _ _ h => h) (Or.inl ⟨by rfl, fun w hSw => by have := hCK w hSw; go_simp⟩) hS ?_
          simp only [List.getElem_toArray, List.getElem_cons_succ, List.getElem_cons_zero, Act.put, List.setIfInBounds_toArray, List.set_cons_zero, List.set_cons_succ]
          refine wpAnyB_pure (i := 13) (v := .pointer (some ⟨gb, m * 256, none⟩)) rfl (by kernel_rfl) (fun _ _ _ h => h) (Or.inl ⟨by rfl, fun w _ => by go_simp⟩) hS ?_
          simp only [List.getElem_toArray, List.getElem_cons_succ, List.getElem_cons_zero, Act.put, List.setIfInBounds_toArray, List.set_cons_zero, List.set_cons_succ]
          refine wpAnyB_take [14, 19, 20, 24] (i := 14) (v := .agg (i8 b).toArray) rfl (by kernel_rfl) (fun _ _ _ h => h) (yieldsIf_load_mid (by rfl) 93 _ rfl gb (m * 256) rfl (i8 b) _ (fun w' hw' => hRG w' hw') Try.undB rfl HI.out) hS ?_
          simp only [List.getElem_toArray, List.getElem_cons_succ, List.getElem_cons_zero, Act.put, List.setIfInBounds_toArray, List.set_cons_zero, List.set_cons_succ]
          refine wpAnyB_pure (i := 15) (v := .int .i64 0) rfl (by kernel_rfl) (fun _ _ _ h => h) (Or.inl ⟨by rfl, fun w _ => by go_simp⟩) hS ?_
          simp only [List.getElem_toArray, List.getElem_cons_succ, List.getElem_cons_zero, Act.put, List.setIfInBounds_toArray, List.set_cons_zero, List.set_cons_succ]
          refine wpAnyB_pure (i := 16) (v := .int .i64 (hi : Int)) rfl (by kernel_rfl) (fun _ _ _ h => h) (Or.inl ⟨by rfl, fun w _ => by go_simp⟩) hS ?_
          simp only [List.getElem_toArray, List.getElem_cons_succ, List.getElem_cons_zero, Act.put, List.setIfInBounds_toArray, List.set_cons_zero, List.set_cons_succ]
          refine wpAnyB_pure (i := 17) (v := .pointer (some ⟨w.heap.size, 2, none⟩)) rfl (by kernel_rfl) (fun _ _ _ h => h) (Or.inl ⟨by rfl, fun w _ => by go_simp⟩) hS ?_
          simp only [List.getElem_toArray, List.getElem_cons_succ, List.getElem_cons_zero, Act.put, List.setIfInBounds_toArray, List.set_cons_zero, List.set_cons_succ]
          refine wpAnyB_take [18, 19, 20, 24] (i := 18) (v := .int .u8 p.v) rfl (by kernel_rfl) (fun _ _ _ h => h) (Or.inl ⟨by rfl, fun w hSw => by have := hCP w hSw; go_simp⟩) hS ?_
          simp only [List.getElem_toArray, List.getElem_cons_succ, List.getElem_cons_zero, Act.put, List.setIfInBounds_toArray, List.set_cons_zero, List.set_cons_succ]
          refine wpAnyB_pure (i := 21) (v := .pointer (some ⟨gd, 0, none⟩)) rfl (by kernel_rfl) (fun _ _ _ h => h) (Or.inl ⟨by rfl, fun w _ => by go_simp⟩) hS ?_
          simp only [List.getElem_toArray, List.getElem_cons_succ, List.getElem_cons_zero, Act.put, List.setIfInBounds_toArray, List.set_cons_zero, List.set_cons_succ]
          refine wpAnyB_pure (i := 22) (v := .pointer (some ⟨gd, 0, none⟩)) rfl (by kernel_rfl) (fun _ _ _ h => h) (Or.inl ⟨by rfl, fun w _ => by go_simp⟩) hS ?_
          simp only [List.getElem_toArray, List.getElem_cons_succ, List.getElem_cons_zero, Act.put, List.setIfInBounds_toArray, List.set_cons_zero, List.set_cons_succ]
          refine wpAnyB_one (i := 19) rfl (by kernel_rfl) (fun K hK => ?_)
          clear hCV hCK hRG hCP
          go_simp
          refine (filled_any b 0 hi p.v wr.drew HBB.out.1 HLH.out.1 HLH.out.2).mono ?_
          rintro e w3 ⟨rfl, hB3⟩
          have hB3' : Below wr.heap.size wr w3 := hS.trans hB3
          refine hK.out _ _ hB3' ?_
          clear hK K
          rw [HBE.out]
          refine wpAnyB_last (i := 20) rfl (by kernel_rfl) (fun K hK => ?_)
          go_simp
          refine (number_any n gd like bl b' w3 (HD.out.below hB3') HBB'.out (by omega) (by have := hB3'.size; omega)).mono ?_
          rintro e w4 ⟨rfl, hd4, hB4, hO4⟩
          refine hK.out _ _ ?_
          clear hK K
          have hs3 := hB3'.size
          have hs4 := hB4.size
          have hp4 : w4.heap[w.heap.size]? = some (.cells #[.int .i64 p.lo, .int .i64 p.hi, .int .u8 p.v] 66 (0, 0)) := by
            have e3 := (hB3'.block w.heap.size (by omega)).trans HP.out
            exact (hO4 _ _ _ _ e3 (by decide) (by decide)).trans e3
          obtain ⟨m', hm'⟩ : ∃ m' : Nat, m' = (addF bl b').idxOf b' := ⟨_, rfl⟩
          obtain ⟨bl4, hbl4⟩ : ∃ bl4, bl4 = addF bl b' := ⟨_, rfl⟩
          have hmg : bl4[m']? = some b' := by rw [hbl4, hm']; exact addF_get _ _
          obtain ⟨t4, ht4⟩ : ∃ t, bl4 = bl ++ t := by rw [hbl4]; exact addF_ahead _ _
          have hl4 : bl4.length ≤ bl.length + 1 := by rw [hbl4]; exact addF_len _ _
          rw [← hm']
          rw [← hbl4] at hd4
          obtain ⟨_, _, a4, cap4, _, hck4, hfr4, _⟩ := hd4.cells
          have hc4 : w4.cell? ⟨gd, k, none⟩ = some (.int .i64 (m : Int)) := hck4 k m HMK.out
          have hf4 : w4.frozen? ⟨gd, k, none⟩ = false := hfr4 k (by omega)
          have hBn4 : Below n w w4 := (HB.out.trans (hB3'.mono (by omega))).trans hB4
          obtain ⟨HD4, HP4, HB4, HT4, HMG⟩ : Hid (DrAt n w4 gd like bl4) ∧ Hid (w4.heap[w.heap.size]? = some (.cells #[.int .i64 p.lo, .int .i64 p.hi, .int .u8 p.v] 66 (0, 0))) ∧ Hid (Below n w w4) ∧ Hid (bl4 = bl ++ t4) ∧ Hid (bl4[m']? = some b') := ⟨hd4, hp4, hBn4, ht4, hmg⟩
          clear hm' hbl4 hmg ht4 hck4 hfr4 hd4 hp4 hBn4 hB3 hB3' hB4 hO4 hS
          refine wpAnyB_late (i := 23) (v := .pointer (some ⟨gd, k, none⟩)) rfl (by kernel_rfl) (fun _ _ _ h => h) (Or.inl ⟨by rfl, fun w _ => by go_simp⟩) ?_
          simp only [List.getElem_toArray, List.getElem_cons_succ, List.getElem_cons_zero, Act.put, List.setIfInBounds_toArray, List.set_cons_zero, List.set_cons_succ]
          refine wpAnyB_last (i := 24) rfl (by kernel_rfl) (fun K hK => ?_)
          rw [if_pos (by rfl)]
          go_wp2
          refine hK.out _ _ ?_
          clear hK K
          refine wpAnyB_done (by kernel_rfl) ?_ _
          refine NoPanic.normal ?_
          go_wp2
          go_roundw
          case rel =>
            have hk4 : k < 4352 := by omega
            refine ⟨k + 1, by omega, by omega, by go_num, like.set k m', bl4, HD4.out.setLike hk4 m', ?_, by omega, ?_, HB4.out.setCell (show n ≤ gd from hng) _, ?_, by simp [World.setCell]; omega⟩
            · rw [HT4.out]
              exact says_set HSY.out hk4 (by rw [← HT4.out, HMG.out, HBK.out]) (fun i hi hne => upTo_other f p k i hne)
            · rw [HT4.out, List.getElem?_append_left (List.getElem?_eq_some_iff.1 HWG.out).1]
              exact HWG.out
            · rw [heap_setCell_other _ _ _ _ (show w.heap.size ≠ gd from HNE.out)]
              exact HP4.out
          case measure => simp [intOf]; omega
        · have q3 : ¬ ((lo : Int) = 0) := by omega
          go_wp2_with (first | (refine wpList_max rfl _ _ _ rfl (p.lo - (k : Int) * 256) 0 (lo : Int) rfl rfl HMX.out ?_) | (refine wpList_min rfl _ _ _ rfl (p.hi - (k : Int) * 256) 255 (hi : Int) rfl rfl HMN.out ?_) | fail)
          refine wp_region_bad (fun w' => Below wr.heap.size wr w') [20, 24] (by kernel_rfl) ((Below.refl _ _).drew) (fun hS => ?_)
          have hCV := HCV.out
          have hCK := HCK.out
          have hRG := HRG.out
          have hCP := HCP.out
          refine wpAnyB_pure (i := 0) (v := .pointer (some ⟨gd, 0, none⟩)) rfl (by kernel_rfl) (fun _ _ _ h => h) (Or.inl ⟨by rfl, fun w _ => by go_simp⟩) hS ?_
          simp only [List.getElem_toArray, List.getElem_cons_zero, Act.put, List.setIfInBounds_toArray, List.set_cons_zero, List.set_cons_succ]
          refine wpAnyB_pure (i := 1) (v := .int .i64 (k : Int)) rfl (by kernel_rfl) (fun _ _ _ h => h) (Or.inl ⟨by rfl, fun w _ => by go_simp⟩) hS ?_
          simp only [List.getElem_toArray, List.getElem_cons_succ, List.getElem_cons_zero, Act.put, List.setIfInBounds_toArray, List.set_cons_zero, List.set_cons_succ]
          refine wpAnyB_pure (i := 2) (v := .pointer (some ⟨gd, 0, none⟩)) rfl (by kernel_rfl) (fun _ _ _ h => h) (Or.inl ⟨by rfl, fun w _ => by go_simp⟩) hS ?_
          simp only [List.getElem_toArray, List.getElem_cons_succ, List.getElem_cons_zero, Act.put, List.setIfInBounds_toArray, List.set_cons_zero, List.set_cons_succ]
          refine wpAnyB_pure (i := 3) (v := .pointer (some ⟨gd, 0, none⟩)) rfl (by kernel_rfl) (fun _ _ _ h => h) (Or.inl ⟨by rfl, fun w _ => by go_simp⟩) hS ?_
          simp only [List.getElem_toArray, List.getElem_cons_succ, List.getElem_cons_zero, Act.put, List.setIfInBounds_toArray, List.set_cons_zero, List.set_cons_succ]
          refine wpAnyB_pure (i := 4) (v := .pointer (some ⟨gd, 0, none⟩)) rfl (by kernel_rfl) (fun _ _ _ h => h) (Or.inl ⟨by rfl, fun w _ => by go_simp⟩) hS ?_
          simp only [List.getElem_toArray, List.getElem_cons_succ, List.getElem_cons_zero, Act.put, List.setIfInBounds_toArray, List.set_cons_zero, List.set_cons_succ]
          refine wpAnyB_pure (i := 5) (v := .pointer (some ⟨gd, 4352, none⟩)) rfl (by kernel_rfl) (fun _ _ _ h => h) (Or.inl ⟨by rfl, fun w _ => by go_simp⟩) hS ?_
          simp only [List.getElem_toArray, List.getElem_cons_succ, List.getElem_cons_zero, Act.put, List.setIfInBounds_toArray, List.set_cons_zero, List.set_cons_succ]
          refine wpAnyB_take [6, 13, 14, 19, 20, 24] (i := 6) (v := .slice (some ⟨gb, 0, none⟩) bl.length cap) rfl (by kernel_rfl) (fun _ _ _ h => h) (Or.inl ⟨by rfl, fun w hSw => by have := hCV w hSw; go_simp⟩) hS ?_
          simp only [List.getElem_toArray, List.getElem_cons_succ, List.getElem_cons_zero, Act.put, List.setIfInBounds_toArray, List.set_cons_zero, List.set_cons_succ]
          refine wpAnyB_pure (i := 7) (v := .pointer (some ⟨gd, 0, none⟩)) rfl (by kernel_rfl) (fun _ _ _ h => h) (Or.inl ⟨by rfl, fun w _ => by go_simp⟩) hS ?_
          simp only [List.getElem_toArray, List.getElem_cons_succ, List.getElem_cons_zero, Act.put, List.setIfInBounds_toArray, List.set_cons_zero, List.set_cons_succ]
          refine wpAnyB_pure (i := 8) (v := .int .i64 (k : Int)) rfl (by kernel_rfl) (fun _ _ _ h => h) (Or.inl ⟨by rfl, fun w _ => by go_simp⟩) hS ?_
          simp only [List.getElem_toArray, List.getElem_cons_succ, List.getElem_cons_zero, Act.put, List.setIfInBounds_toArray, List.set_cons_zero, List.set_cons_succ]
          refine wpAnyB_pure (i := 9) (v := .pointer (some ⟨gd, 0, none⟩)) rfl (by kernel_rfl) (fun _ _ _ h => h) (Or.inl ⟨by rfl, fun w _ => by go_simp⟩) hS ?_
          simp only [List.getElem_toArray, List.getElem_cons_succ, List.getElem_cons_zero, Act.put, List.setIfInBounds_toArray, List.set_cons_zero, List.set_cons_succ]
          refine wpAnyB_pure (i := 10) (v := .pointer (some ⟨gd, 0, none⟩)) rfl (by kernel_rfl) (fun _ _ _ h => h) (Or.inl ⟨by rfl, fun w _ => by go_simp⟩) hS ?_
          simp only [List.getElem_toArray, List.getElem_cons_succ, List.getElem_cons_zero, Act.put, List.setIfInBounds_toArray, List.set_cons_zero, List.set_cons_succ]
          refine wpAnyB_pure (i := 11) (v := .pointer (some ⟨gd, k, none⟩)) rfl (by kernel_rfl) (fun _ _ _ h => h) (Or.inl ⟨by rfl, fun w _ => by go_simp⟩) hS ?_
          simp only [List.getElem_toArray, List.getElem_cons_succ, List.getElem_cons_zero, Act.put, List.setIfInBounds_toArray, List.set_cons_zero, List.set_cons_succ]
          refine wpAnyB_take [12, 13, 14, 19, 20, 24] (i := 12) (v := .int .i64 (m : Int)) rfl (by kernel_rfl) (fun _ _ _ h => h) (Or.inl ⟨by rfl, fun w hSw => by have := hCK w hSw; go_simp⟩) hS ?_
          simp only [List.getElem_toArray, List.getElem_cons_succ, List.getElem_cons_zero, Act.put, List.setIfInBounds_toArray, List.set_cons_zero, List.set_cons_succ]
          refine wpAnyB_pure (i := 13) (v := .pointer (some ⟨gb, m * 256, none⟩)) rfl (by kernel_rfl) (fun _ _ _ h => h) (Or.inl ⟨by rfl, fun w _ => by go_simp⟩) hS ?_
          simp only [List.getElem_toArray, List.getElem_cons_succ, List.getElem_cons_zero, Act.put, List.setIfInBounds_toArray, List.set_cons_zero, List.set_cons_succ]
          refine wpAnyB_take [14, 19, 20, 24] (i := 14) (v := .agg (i8 b).toArray) rfl (by kernel_rfl) (fun _ _ _ h => h) (yieldsIf_load_mid (by rfl) 93 _ rfl gb (m * 256) rfl (i8 b) _ (fun w' hw' => hRG w' hw') Try.undB rfl HI.out) hS ?_
          simp only [List.getElem_toArray, List.getElem_cons_succ, List.getElem_cons_zero, Act.put, List.setIfInBounds_toArray, List.set_cons_zero, List.set_cons_succ]
          refine wpAnyB_pure (i := 15) (v := .int .i64 (lo : Int)) rfl (by kernel_rfl) (fun _ _ _ h => h) (Or.inl ⟨by rfl, fun w _ => by go_simp⟩) hS ?_
          simp only [List.getElem_toArray, List.getElem_cons_succ, List.getElem_cons_zero, Act.put, List.setIfInBounds_toArray, List.set_cons_zero, List.set_cons_succ]
          refine wpAnyB_pure (i := 16) (v := .int .i64 (hi : Int)) rfl (by kernel_rfl) (fun _ _ _ h => h) (Or.inl ⟨by rfl, fun w _ => by go_simp⟩) hS ?_
          simp only [List.getElem_toArray, List.getElem_cons_succ, List.getElem_cons_zero, Act.put, List.setIfInBounds_toArray, List.set_cons_zero, List.set_cons_succ]
          refine wpAnyB_pure (i := 17) (v := .pointer (some ⟨w.heap.size, 2, none⟩)) rfl (by kernel_rfl) (fun _ _ _ h => h) (Or.inl ⟨by rfl, fun w _ => by go_simp⟩) hS ?_
          simp only [List.getElem_toArray, List.getElem_cons_succ, List.getElem_cons_zero, Act.put, List.setIfInBounds_toArray, List.set_cons_zero, List.set_cons_succ]
          refine wpAnyB_take [18, 19, 20, 24] (i := 18) (v := .int .u8 p.v) rfl (by kernel_rfl) (fun _ _ _ h => h) (Or.inl ⟨by rfl, fun w hSw => by have := hCP w hSw; go_simp⟩) hS ?_
          simp only [List.getElem_toArray, List.getElem_cons_succ, List.getElem_cons_zero, Act.put, List.setIfInBounds_toArray, List.set_cons_zero, List.set_cons_succ]
          refine wpAnyB_pure (i := 21) (v := .pointer (some ⟨gd, 0, none⟩)) rfl (by kernel_rfl) (fun _ _ _ h => h) (Or.inl ⟨by rfl, fun w _ => by go_simp⟩) hS ?_
          simp only [List.getElem_toArray, List.getElem_cons_succ, List.getElem_cons_zero, Act.put, List.setIfInBounds_toArray, List.set_cons_zero, List.set_cons_succ]
          refine wpAnyB_pure (i := 22) (v := .pointer (some ⟨gd, 0, none⟩)) rfl (by kernel_rfl) (fun _ _ _ h => h) (Or.inl ⟨by rfl, fun w _ => by go_simp⟩) hS ?_
          simp only [List.getElem_toArray, List.getElem_cons_succ, List.getElem_cons_zero, Act.put, List.setIfInBounds_toArray, List.set_cons_zero, List.set_cons_succ]
          refine wpAnyB_one (i := 19) rfl (by kernel_rfl) (fun K hK => ?_)
          clear hCV hCK hRG hCP
          go_simp
          refine (filled_any b lo hi p.v wr.drew HBB.out.1 HLH.out.1 HLH.out.2).mono ?_
          rintro e w3 ⟨rfl, hB3⟩
          have hB3' : Below wr.heap.size wr w3 := hS.trans hB3
          refine hK.out _ _ hB3' ?_
          clear hK K
          rw [HBE.out]
          refine wpAnyB_last (i := 20) rfl (by kernel_rfl) (fun K hK => ?_)
          go_simp
          refine (number_any n gd like bl b' w3 (HD.out.below hB3') HBB'.out (by omega) (by have := hB3'.size; omega)).mono ?_
          rintro e w4 ⟨rfl, hd4, hB4, hO4⟩
          refine hK.out _ _ ?_
          clear hK K
          have hs3 := hB3'.size
          have hs4 := hB4.size
          have hp4 : w4.heap[w.heap.size]? = some (.cells #[.int .i64 p.lo, .int .i64 p.hi, .int .u8 p.v] 66 (0, 0)) := by
            have e3 := (hB3'.block w.heap.size (by omega)).trans HP.out
            exact (hO4 _ _ _ _ e3 (by decide) (by decide)).trans e3
          obtain ⟨m', hm'⟩ : ∃ m' : Nat, m' = (addF bl b').idxOf b' := ⟨_, rfl⟩
          obtain ⟨bl4, hbl4⟩ : ∃ bl4, bl4 = addF bl b' := ⟨_, rfl⟩
          have hmg : bl4[m']? = some b' := by rw [hbl4, hm']; exact addF_get _ _
          obtain ⟨t4, ht4⟩ : ∃ t, bl4 = bl ++ t := by rw [hbl4]; exact addF_ahead _ _
          have hl4 : bl4.length ≤ bl.length + 1 := by rw [hbl4]; exact addF_len _ _
          rw [← hm']
          rw [← hbl4] at hd4
          obtain ⟨_, _, a4, cap4, _, hck4, hfr4, _⟩ := hd4.cells
          have hc4 : w4.cell? ⟨gd, k, none⟩ = some (.int .i64 (m : Int)) := hck4 k m HMK.out
          have hf4 : w4.frozen? ⟨gd, k, none⟩ = false := hfr4 k (by omega)
          have hBn4 : Below n w w4 := (HB.out.trans (hB3'.mono (by omega))).trans hB4
          obtain ⟨HD4, HP4, HB4, HT4, HMG⟩ : Hid (DrAt n w4 gd like bl4) ∧ Hid (w4.heap[w.heap.size]? = some (.cells #[.int .i64 p.lo, .int .i64 p.hi, .int .u8 p.v] 66 (0, 0))) ∧ Hid (Below n w w4) ∧ Hid (bl4 = bl ++ t4) ∧ Hid (bl4[m']? = some b') := ⟨hd4, hp4, hBn4, ht4, hmg⟩
          clear hm' hbl4 hmg ht4 hck4 hfr4 hd4 hp4 hBn4 hB3 hB3' hB4 hO4 hS
          refine wpAnyB_late (i := 23) (v := .pointer (some ⟨gd, k, none⟩)) rfl (by kernel_rfl) (fun _ _ _ h => h) (Or.inl ⟨by rfl, fun w _ => by go_simp⟩) ?_
          simp only [List.getElem_toArray, List.getElem_cons_succ, List.getElem_cons_zero, Act.put, List.setIfInBounds_toArray, List.set_cons_zero, List.set_cons_succ]
          refine wpAnyB_last (i := 24) rfl (by kernel_rfl) (fun K hK => ?_)
          rw [if_pos (by rfl)]
          go_wp2
          refine hK.out _ _ ?_
          clear hK K
          refine wpAnyB_done (by kernel_rfl) ?_ _
          refine NoPanic.normal ?_
          go_wp2
          go_roundw
          case rel =>
            have hk4 : k < 4352 := by omega
            refine ⟨k + 1, by omega, by omega, by go_num, like.set k m', bl4, HD4.out.setLike hk4 m', ?_, by omega, ?_, HB4.out.setCell (show n ≤ gd from hng) _, ?_, by simp [World.setCell]; omega⟩
            · rw [HT4.out]
              exact says_set HSY.out hk4 (by rw [← HT4.out, HMG.out, HBK.out]) (fun i hi hne => upTo_other f p k i hne)
            · rw [HT4.out, List.getElem?_append_left (List.getElem?_eq_some_iff.1 HWG.out).1]
              exact HWG.out
            · rw [heap_setCell_other _ _ _ _ (show w.heap.size ≠ gd from HNE.out)]
              exact HP4.out
          case measure => simp [intOf]; omega
    · have hlt' : ¬ ((k : Int) ≤ (k9 : Int)) := by omega
      obtain rfl : k = k9 + 1 := by omega
      go_wp2
      refine bodyPost_end (results_none rfl _ _ _) rfl ?_
      exact ⟨rfl, like, bl, HD.out, says_congr HSY.out (fun i hi => (upTo_end (by have := HK9.out; omega) i).symm), by omega, HB.out⟩
end Go.Proofs.Ytmknifnhcgdkaaa.S3
