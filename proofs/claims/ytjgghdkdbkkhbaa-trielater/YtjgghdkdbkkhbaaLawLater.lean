/-
  The law TrieLater: true, for all entries.
-/
import Derived.Test.YtjgghdkdbkkhbaaReg2
namespace Go.Proofs.Ytjgghdkdbkkhbaa
open Go.RowKit
set_option linter.unusedVariables false

set_option maxRecDepth 100000 in
set_option maxHeartbeats 4000000 in
theorem trieLater_any (l : List Pp) (v : Value) (x : Pp) (r : Int) (w : World) (hv : PropsIn w v l) (hby : Bytes l) (hsrc : SrcIs w v l.length 3 (cellsPs l)) (hbig : l.length * 24 ≤ 140737488355328) (hx : 0 ≤ x.v ∧ x.v ≤ 255) :
    Calls Try.prog 8 #[v, .agg #[.int .i64 x.lo, .int .i64 x.hi, .int .u8 x.v], .int .i64 r] w fun e w' => e = .returned (.bool true) ∧ Below w.heap.size w w' := by
  obtain ⟨wb, hwb⟩ : ∃ wb, wb = w.alloc (.cells #[.int .i64 x.lo, .int .i64 x.hi, .int .u8 x.v] 45) := ⟨_, rfl⟩
  have HWB : Hid (wb = w.alloc (.cells #[.int .i64 x.lo, .int .i64 x.hi, .int .u8 x.v] 45)) := hwb
  have hBb : Below w.heap.size w wb := by rw [hwb]; exact (Below.refl _ _).alloc (Nat.le_refl _) _
  have hpb : wb.heap[w.heap.size]? = some (.cells #[.int .i64 x.lo, .int .i64 x.hi, .int .u8 x.v] 45 (0, 0)) := by rw [hwb]; exact heap_new' w _
  have hsb : wb.heap.size = w.heap.size + 1 := by rw [hwb]; simp
  obtain ⟨HV, HSRC, HBB, HPB⟩ : Hid (PropsIn w v l) ∧ Hid (SrcIs w v l.length 3 (cellsPs l)) ∧ Hid (Below w.heap.size w wb) ∧ Hid (wb.heap[w.heap.size]? = some (.cells #[.int .i64 x.lo, .int .i64 x.hi, .int .u8 x.v] 45 (0, 0))) := ⟨hv, hsrc, hBb, hpb⟩
  obtain ⟨a, cap, rfl, _, _⟩ := hv
  clear hwb hBb hpb hsrc
  go_enter Try.func8, Try.ntmps8
  go_wp2_with fail
  rw [← HWB.out]
  refine (awake_any wb).mono ?_
  rintro e w1 ⟨rfl, hB1⟩
  have hs1 := hB1.size
  by_cases h30 : 30 < l.length
  · have h30' : (30 : Int) < (l.length : Int) := by omega
    go_wp2
    go_ret
    exact ⟨rfl, HBB.out.trans (hB1.mono (by omega))⟩
  · have h30' : ¬ (30 : Int) < (l.length : Int) := by omega
    have HBW1 : Hid (Below w.heap.size w w1) := HBB.out.trans (hB1.mono (by omega))
    have HP1 : Hid (w1.heap[w.heap.size]? = some (.cells #[.int .i64 x.lo, .int .i64 x.hi, .int .u8 x.v] 45 (0, 0))) := (hB1.block _ (by omega)).trans HPB.out
    clear hB1
    go_wp2_with fail
    refine (build_any l _ w1 ((HV.out.below HBW1.out).mono HBW1.out.size) hby).mono ?_
    rintro e w2 ⟨pv, rfl, hn2, ht2, hB2⟩
    have hs2 := hB2.size
    have HBW2 : Hid (Below w.heap.size w w2) := HBW1.out.trans (hB2.mono HBW1.out.size)
    have HP2 : Hid (w2.heap[w.heap.size]? = some (.cells #[.int .i64 x.lo, .int .i64 x.hi, .int .u8 x.v] 45 (0, 0))) := (hB2.block _ (by omega)).trans HP1.out
    obtain ⟨HN2, HT2⟩ : Hid (errB l ≠ 0 → pv = .pointer none) ∧ Hid (errB l = 0 → TrieAt w2.heap.size w2 pv (likeB l) (firstB l)) := ⟨hn2, ht2⟩
    clear hn2 ht2 hB2
    go_wp2_with fail
    obtain ⟨iP, hiP, hzP0, hzP1, hzP2⟩ := info_parts Try.infoProp
    have hwlt : w.heap.size < w2.heap.size := by omega
    have HX : Hid (∀ w', Below w2.heap.size w2 w' → w'.rangeAt w.heap.size 0 [.int .i64 x.lo, .int .i64 x.hi, .int .u8 x.v]) := fun w' hw' => rangeAt_row (t := 45) ((hw'.block w.heap.size hwlt).trans HP2.out)
    have HBY2 : Hid (Bytes (l ++ [x])) := fun q hq => by
      rcases List.mem_append.1 hq with z | z
      · exact hby q z
      · rw [List.mem_singleton.1 z]; exact hx
    refine wp_region_bad (fun w' => Below w2.heap.size w2 w') [] (by kernel_rfl) ((Below.refl _ _).drew) (fun hS => ?_)
    refine abs_region (fun ops' Q' eo eq => ?_)
    have tail : ∀ (listed' : Array Bool) (v27 v29 : Value) (ga : Nat) (wx : World), (listed' == #[true, true, true, true, true, false, false, false, false, false, false, false]) = true → wx.ownsRow w2.heap.size 45 3 v29 l.length (cellsPs l) → wx.heap[ga]? = some (.cells #[.int .i64 x.lo, .int .i64 x.hi, .int .u8 x.v] 45 (0, 0)) → Below w2.heap.size w2 wx → wpAnyB Try.prog .any ops' Q' (fun w' => Below w2.heap.size w2 w') [] 7 listed' { tmps := #[.slice a l.length cap, .agg #[.int .i64 x.lo, .int .i64 x.hi, .int .u8 x.v], .int .i64 r, undef, .pointer (some ⟨w.heap.size, 0, none⟩), undef, .bool false, .bool true, pv, .int .i64 (errB l), undef, undef, .bool true, .bool true, .bool false, .bool false, .slice a l.length cap, .int .i64 (l.length : Int), .bool (decide ((30 : Int) < (l.length : Int))), .bool (decide ((30 : Int) < (l.length : Int))), undef, .tuple #[pv, .int .i64 (errB l)], .slice a l.length cap, .tuple #[pv, .int .i64 (errB l)], pv, .int .i64 (errB l), undef, v27, .slice a l.length cap, v29, .agg #[.int .i64 x.lo, .int .i64 x.hi, .int .u8 x.v], .slice (some ⟨ga, 0, none⟩) 1 1, undef, undef, undef, undef, undef, undef, undef, undef, undef, undef, undef, undef, undef, undef, undef, undef, undef, undef, undef, undef, undef, undef, undef, undef, undef, undef, undef, undef, undef, undef, undef, undef, undef, undef, undef, undef, undef, undef, undef, undef, undef, undef, undef, undef, undef, undef, undef], defers := [] } wx := by
      intro listed' v27 v29 ga wx hL how hga hSx
      obtain rfl := eq_of_beq hL
      subst eo
      subst eq
      refine wpAnyB_one (i := 5) rfl (by kernel_rfl) (fun K hK => ?_)
      rw [if_pos (by rfl)]
      refine wp_append_own wx _ _ 22 rfl w2.heap.size 45 iP _ 3 24 Try.undPs hiP hzP0 hzP1 hzP2 rfl (by decide) v29 l.length (cellsPs l) rfl how ⟨ga, 0, none⟩ 1 1 (cellsP x) rfl rfl (World.news_of_block hga) (by simp [cellsP, Value.oneCell']) (by unfold maxLen; omega) (by omega) hSx.size ?_
      intro v32 wy hoy hgy _
      simp only [Act.put]
      have hSy : Below w2.heap.size w2 wy := hSx.grown hgy hSx.size (fun k e => (how.lt k e).1)
      refine hK.out _ _ hSy ?_
      clear hK K
      refine wpAnyB_one (i := 6) rfl (by kernel_rfl) (fun K hK => ?_)
      go_simp
      have hpy : PropsIn wy v32 (l ++ [x]) := props_of_row (base := w2.heap.size) (by rw [cellsPs_snoc, List.length_append]; exact hoy)
      refine (build_any (l ++ [x]) v32 wy hpy HBY2.out).mono ?_
      rintro e wz ⟨pu, rfl, hnz, htz, hBz⟩
      have hSz : Below w2.heap.size w2 wz := hSy.trans (hBz.mono hSy.size)
      refine hK.out _ _ hSz ?_
      clear hK K
      refine wpAnyB_pure (i := 7) (v := .tuple #[pu, .int .i64 (errB (l ++ [x]))]) rfl (by kernel_rfl) (fun _ _ _ h => h) (Or.inl ⟨by rfl, fun w _ => by go_simp⟩) hSz ?_
      simp only [List.getElem_toArray, List.getElem_cons_succ, List.getElem_cons_zero, Act.put, List.setIfInBounds_toArray, List.set_cons_zero, List.set_cons_succ]
      refine wpAnyB_pure (i := 8) (v := pu) rfl (by kernel_rfl) (fun _ _ _ h => h) (Or.inl ⟨by rfl, fun w _ => by go_simp⟩) hSz ?_
      simp only [List.getElem_toArray, List.getElem_cons_succ, List.getElem_cons_zero, Act.put, List.setIfInBounds_toArray, List.set_cons_zero, List.set_cons_succ]
      refine wpAnyB_pure (i := 9) (v := .int .i64 (errB (l ++ [x]))) rfl (by kernel_rfl) (fun _ _ _ h => h) (Or.inl ⟨by rfl, fun w _ => by go_simp⟩) hSz ?_
      simp only [List.getElem_toArray, List.getElem_cons_succ, List.getElem_cons_zero, Act.put, List.setIfInBounds_toArray, List.set_cons_zero, List.set_cons_succ]
      refine wpAnyB_pure (i := 10) (v := pu) rfl (by kernel_rfl) (fun _ _ _ h => h) (Or.inl ⟨by rfl, fun w _ => by go_simp⟩) hSz ?_
      simp only [List.getElem_toArray, List.getElem_cons_succ, List.getElem_cons_zero, Act.put, List.setIfInBounds_toArray, List.set_cons_zero, List.set_cons_succ]
      refine wpAnyB_pure (i := 11) (v := .int .i64 (errB (l ++ [x]))) rfl (by kernel_rfl) (fun _ _ _ h => h) (Or.inl ⟨by rfl, fun w _ => by go_simp⟩) hSz ?_
      simp only [List.getElem_toArray, List.getElem_cons_succ, List.getElem_cons_zero, Act.put, List.setIfInBounds_toArray, List.set_cons_zero, List.set_cons_succ]
      refine wpAnyB_done (by kernel_rfl) ?_ _
      refine NoPanic.normal ?_
      have hsz : w2.heap.size ≤ wz.heap.size := hSz.size
      obtain ⟨HNZ, HTZ, HSZ⟩ : Hid (errB (l ++ [x]) ≠ 0 → pu = .pointer none) ∧ Hid (errB (l ++ [x]) = 0 → TrieAt wz.heap.size wz pu (likeB (l ++ [x])) (firstB (l ++ [x]))) ∧ Hid (Below w2.heap.size w2 wz) := ⟨hnz, htz, hSz⟩
      have HBWZ : Hid (Below w.heap.size w wz) := HBW2.out.trans (hSz.mono (by omega))
      have hPz : wz.heap[w.heap.size]? = some (.cells #[.int .i64 x.lo, .int .i64 x.hi, .int .u8 x.v] 45 (0, 0)) := (hSz.block _ hwlt).trans HP2.out
      have z0 : wz.cell? ⟨w.heap.size, 0, none⟩ = some (.int .i64 x.lo) := cell_of_row _ _ 0 _ _ _ hPz
      have z1 : wz.cell? ⟨w.heap.size, 1, none⟩ = some (.int .i64 x.hi) := cell_of_row _ _ 1 _ _ _ hPz
      have z2 : wz.cell? ⟨w.heap.size, 2, none⟩ = some (.int .u8 x.v) := cell_of_row _ _ 2 _ _ _ hPz
      clear hnz htz hSz hPz hSy hpy hoy hgy hBz hS
      by_cases g1 : l.all good1 = true
      · have e1 : errB l = 0 := by rw [errB_small (by omega), if_pos g1]
        by_cases g2 : good1 x = true
        · have e2 : errB (l ++ [x]) = 0 := by rw [errB_small (by simp; omega), if_pos (by rw [List.all_append, g1]; simp [g2])]
          have hT2 := HT2.out e1
          have hTZ := HTZ.out e2
          have hf1 : Fine (likeB l) (firstB l) := fineB hby (errB_zero e1).2.2
          have hf2 : Fine (likeB (l ++ [x])) (firstB (l ++ [x])) := fineB HBY2.out (errB_zero e2).2.2
          have o1 := of_val' (errB_zero e1).2.1 r
          have o2 := of_val' (errB_zero e2).2.1 r
          rw [val_snoc] at o2
          have hbm : ((firstB (l ++ [x])).length : Int) ≤ ((firstB l).length : Int) + 3 := by have := blocks_more l x; unfold firstB; omega
          obtain ⟨gp, rfl⟩ := hT2.ptr
          obtain ⟨gu, rfl⟩ := hTZ.ptr
          obtain ⟨HTA, HTB, HF1, HF2⟩ : Hid (TrieAt wz.heap.size wz (.pointer (some ⟨gp, 0, none⟩)) (likeB l) (firstB l)) ∧ Hid (TrieAt wz.heap.size wz (.pointer (some ⟨gu, 0, none⟩)) (likeB (l ++ [x])) (firstB (l ++ [x]))) ∧ Hid (Fine (likeB l) (firstB l)) ∧ Hid (Fine (likeB (l ++ [x])) (firstB (l ++ [x]))) := ⟨(hT2.below HSZ.out).mono hsz, hTZ, hf1, hf2⟩
          rw [e1, e2]
          obtain ⟨O1, O2⟩ : Hid (ofT (likeB l) (firstB l) r = valP l r) ∧ Hid (ofT (likeB (l ++ [x])) (firstB (l ++ [x])) r = if hasP x r = true then x.v else valP l r) := ⟨o1, o2⟩
          clear hT2 hTZ hf1 hf2 o1 o2 e1 e2 g1 g2
          by_cases hr : x.lo ≤ r ∧ r ≤ x.hi
          · obtain ⟨r1, r2⟩ := hr
            have HV2 : Hid (ofT (likeB (l ++ [x])) (firstB (l ++ [x])) r = x.v) := by show _ = _; rw [O2.out, if_pos (hasP_iff.2 ⟨r1, r2⟩)]
            have r1' : decide (x.lo ≤ r) = true := by simpa using r1
            go_wp2_with fail
            have HZ2 : Hid (∀ w', Below wz.heap.size wz w' → w'.cell? ⟨w.heap.size, 2, none⟩ = some (.int .u8 x.v)) := fun w' hw' => (hw'.cell (p := ⟨w.heap.size, 2, none⟩) (by show w.heap.size < _; omega)).trans z2
            refine wp_region_bad (fun w' => Below wz.heap.size wz w') [] (by kernel_rfl) ((Below.refl _ _).drew) (fun hSr => ?_)
            have hZ2 := HZ2.out
            refine wpAnyB_pure (i := 0) (v := .pointer (some ⟨gu, 0, none⟩)) rfl (by kernel_rfl) (fun _ _ _ h => h) (Or.inl ⟨by rfl, fun w _ => by go_simp⟩) hSr ?_
            simp only [List.getElem_toArray, List.getElem_cons_zero, Act.put, List.setIfInBounds_toArray, List.set_cons_zero, List.set_cons_succ]
            refine wpAnyB_pure (i := 1) (v := .int .i64 r) rfl (by kernel_rfl) (fun _ _ _ h => h) (Or.inl ⟨by rfl, fun w _ => by go_simp⟩) hSr ?_
            simp only [List.getElem_toArray, List.getElem_cons_succ, List.getElem_cons_zero, Act.put, List.setIfInBounds_toArray, List.set_cons_zero, List.set_cons_succ]
            refine wpAnyB_pure (i := 3) (v := .pointer (some ⟨w.heap.size, 2, none⟩)) rfl (by kernel_rfl) (fun _ _ _ h => h) (Or.inl ⟨by rfl, fun w _ => by go_simp⟩) hSr ?_
            simp only [List.getElem_toArray, List.getElem_cons_succ, List.getElem_cons_zero, Act.put, List.setIfInBounds_toArray, List.set_cons_zero, List.set_cons_succ]
            refine wpAnyB_take [] (i := 4) (v := .int .u8 x.v) rfl (by kernel_rfl) (fun _ _ _ h => h) (Or.inl ⟨by rfl, fun w hSw => by have := hZ2 w hSw; go_simp⟩) hSr ?_
            simp only [List.getElem_toArray, List.getElem_cons_succ, List.getElem_cons_zero, Act.put, List.setIfInBounds_toArray, List.set_cons_zero, List.set_cons_succ]
            refine wpAnyB_one (i := 2) rfl (by kernel_rfl) (fun K hK => ?_)
            clear hZ2
            go_simp
            refine (of_any _ _ _ r wz.drew ((HTB.out.below hSr).mono (Nat.le_refl _)) HF2.out).mono ?_
            rintro e wt ⟨rfl, hBt⟩
            rw [HV2.out]
            have hSt : Below wz.heap.size wz wt := hSr.trans hBt
            refine hK.out _ _ hSt ?_
            clear hK K
            refine wpAnyB_pure (i := 5) (v := .bool true) rfl (by kernel_rfl) (fun _ _ _ h => h) (Or.inl ⟨by rfl, fun w _ => by go_simp⟩) hSt ?_
            simp only [List.getElem_toArray, List.getElem_cons_succ, List.getElem_cons_zero, Act.put, List.setIfInBounds_toArray, List.set_cons_zero, List.set_cons_succ]
            refine wpAnyB_pure (i := 6) (v := .bool true) rfl (by kernel_rfl) (fun _ _ _ h => h) (Or.inl ⟨by rfl, fun w _ => by go_simp⟩) hSt ?_
            simp only [List.getElem_toArray, List.getElem_cons_succ, List.getElem_cons_zero, Act.put, List.setIfInBounds_toArray, List.set_cons_zero, List.set_cons_succ]
            refine wpAnyB_done (by kernel_rfl) ?_ _
            refine NoPanic.normal ?_
            have HBT : Hid (Below w.heap.size w wt) := HBWZ.out.trans (hSt.mono HBWZ.out.size)
            clear hSt hSr hBt
            go_wp2
            go_ret
            exact ⟨rfl, HBT.out⟩
          · have HVA : Hid (ofT (likeB (l ++ [x])) (firstB (l ++ [x])) r = valP l r) := by show _ = _; rw [O2.out, if_neg (fun z => hr (hasP_iff.1 z))]
            by_cases r1 : x.lo ≤ r
            · have r2 : ¬ (r ≤ x.hi) := fun z => hr ⟨r1, z⟩
              clear hr
              go_wp2_with fail
              refine (of_any _ _ _ r wz HTB.out HF2.out).mono ?_
              rintro e wk ⟨rfl, hBk⟩
              rw [HVA.out]
              have HTA1 : Hid (TrieAt wk.heap.size wk (.pointer (some ⟨gp, 0, none⟩)) (likeB l) (firstB l)) := (HTA.out.below hBk).mono hBk.size
              have HTB1 : Hid (TrieAt wk.heap.size wk (.pointer (some ⟨gu, 0, none⟩)) (likeB (l ++ [x])) (firstB (l ++ [x]))) := (HTB.out.below hBk).mono hBk.size
              have HB1 : Hid (Below w.heap.size w wk) := HBWZ.out.trans (hBk.mono HBWZ.out.size)
              clear hBk
              go_wp2_with fail
              refine (of_any _ _ _ r wk HTA1.out HF1.out).mono ?_
              rintro e wm ⟨rfl, hBm⟩
              rw [O1.out]
              have HTA2 : Hid (TrieAt wm.heap.size wm (.pointer (some ⟨gp, 0, none⟩)) (likeB l) (firstB l)) := (HTA1.out.below hBm).mono hBm.size
              have HTB2 : Hid (TrieAt wm.heap.size wm (.pointer (some ⟨gu, 0, none⟩)) (likeB (l ++ [x])) (firstB (l ++ [x]))) := (HTB1.out.below hBm).mono hBm.size
              have HB2 : Hid (Below w.heap.size w wm) := HB1.out.trans (hBm.mono HB1.out.size)
              clear hBm
              go_wp2_with fail
              refine (blocks_any _ _ _ wm HTB2.out HF2.out).mono ?_
              rintro e wn ⟨rfl, hBn⟩
              have HTA3 : Hid (TrieAt wn.heap.size wn (.pointer (some ⟨gp, 0, none⟩)) (likeB l) (firstB l)) := (HTA2.out.below hBn).mono hBn.size
              have HB3 : Hid (Below w.heap.size w wn) := HB2.out.trans (hBn.mono HB2.out.size)
              clear hBn
              go_wp2_with fail
              refine (blocks_any _ _ _ wn HTA3.out HF1.out).mono ?_
              rintro e wo ⟨rfl, hBo⟩
              have HB4 : Hid (Below w.heap.size w wo) := HB3.out.trans (hBo.mono HB3.out.size)
              obtain ⟨n1, hn1⟩ : ∃ n1 : Nat, n1 = (firstB l).length := ⟨_, rfl⟩
              obtain ⟨n2, hn2⟩ : ∃ n2 : Nat, n2 = (firstB (l ++ [x])).length := ⟨_, rfl⟩
              have hn3 : n1 ≤ 91 := by have := firstB_le l; omega
              rw [← hn1, ← hn2] at hbm ⊢
              clear hBo hn1 hn2
              go_wp2
              go_ret
              exact ⟨rfl, HB4.out⟩
            · clear hr
              go_wp2_with fail
              refine (of_any _ _ _ r wz HTB.out HF2.out).mono ?_
              rintro e wk ⟨rfl, hBk⟩
              rw [HVA.out]
              have HTA1 : Hid (TrieAt wk.heap.size wk (.pointer (some ⟨gp, 0, none⟩)) (likeB l) (firstB l)) := (HTA.out.below hBk).mono hBk.size
              have HTB1 : Hid (TrieAt wk.heap.size wk (.pointer (some ⟨gu, 0, none⟩)) (likeB (l ++ [x])) (firstB (l ++ [x]))) := (HTB.out.below hBk).mono hBk.size
              have HB1 : Hid (Below w.heap.size w wk) := HBWZ.out.trans (hBk.mono HBWZ.out.size)
              clear hBk
              go_wp2_with fail
              refine (of_any _ _ _ r wk HTA1.out HF1.out).mono ?_
              rintro e wm ⟨rfl, hBm⟩
              rw [O1.out]
              have HTA2 : Hid (TrieAt wm.heap.size wm (.pointer (some ⟨gp, 0, none⟩)) (likeB l) (firstB l)) := (HTA1.out.below hBm).mono hBm.size
              have HTB2 : Hid (TrieAt wm.heap.size wm (.pointer (some ⟨gu, 0, none⟩)) (likeB (l ++ [x])) (firstB (l ++ [x]))) := (HTB1.out.below hBm).mono hBm.size
              have HB2 : Hid (Below w.heap.size w wm) := HB1.out.trans (hBm.mono HB1.out.size)
              clear hBm
              go_wp2_with fail
              refine (blocks_any _ _ _ wm HTB2.out HF2.out).mono ?_
              rintro e wn ⟨rfl, hBn⟩
              have HTA3 : Hid (TrieAt wn.heap.size wn (.pointer (some ⟨gp, 0, none⟩)) (likeB l) (firstB l)) := (HTA2.out.below hBn).mono hBn.size
              have HB3 : Hid (Below w.heap.size w wn) := HB2.out.trans (hBn.mono HB2.out.size)
              clear hBn
              go_wp2_with fail
              refine (blocks_any _ _ _ wn HTA3.out HF1.out).mono ?_
              rintro e wo ⟨rfl, hBo⟩
              have HB4 : Hid (Below w.heap.size w wo) := HB3.out.trans (hBo.mono HB3.out.size)
              obtain ⟨n1, hn1⟩ : ∃ n1 : Nat, n1 = (firstB l).length := ⟨_, rfl⟩
              obtain ⟨n2, hn2⟩ : ∃ n2 : Nat, n2 = (firstB (l ++ [x])).length := ⟨_, rfl⟩
              have hn3 : n1 ≤ 91 := by have := firstB_le l; omega
              rw [← hn1, ← hn2] at hbm ⊢
              clear hBo hn1 hn2
              go_wp2
              go_ret
              exact ⟨rfl, HB4.out⟩
        · have e2 : errB (l ++ [x]) = 1 := by rw [errB_small (by simp; omega), if_neg (by rw [List.all_append]; simp [g2])]
          rw [e1, e2]
          clear e1 e2 g1 g2
          go_wp2
          go_ret
          exact ⟨rfl, HBWZ.out⟩
      · have e1 : errB l = 1 := by rw [errB_small (by omega), if_neg g1]
        have e2 : errB (l ++ [x]) = 1 := by rw [errB_small (by simp; omega), if_neg (by rw [List.all_append]; simp [g1])]
        rw [e1, e2]
        clear e1 e2 g1
        go_wp2
        go_ret
        exact ⟨rfl, HBWZ.out⟩
    subst eo
    subst eq
    have HSd : Hid (Below w2.heap.size w2 w2.drew) := hS
    have hX := HX.out
    obtain ⟨wd, hwd⟩ : ∃ wd, wd = w2.drew := ⟨_, rfl⟩
    have HSwd : Hid (Below w2.heap.size w2 wd) := by rw [hwd]; exact hS
    rw [← hwd]
    have hS' : Below w2.heap.size w2 wd := HSwd.out
    clear hS hwd
    refine wpAnyB_pure (i := 1) (v := .slice a l.length cap) rfl (by kernel_rfl) (fun _ _ _ h => h) (Or.inl ⟨by rfl, fun w _ => by go_simp⟩) hS' ?_
    simp only [List.getElem_toArray, List.getElem_cons_succ, List.getElem_cons_zero, Act.put, List.setIfInBounds_toArray, List.set_cons_zero, List.set_cons_succ]
    refine wpAnyB_take [] (i := 3) (v := .agg #[.int .i64 x.lo, .int .i64 x.hi, .int .u8 x.v]) rfl (by kernel_rfl) (fun _ _ _ h => h) (yieldsIf_load_mid (by rfl) 45 _ rfl w.heap.size 0 rfl [.int .i64 x.lo, .int .i64 x.hi, .int .u8 x.v] _ (fun w' hw' => hX w' hw') Try.underlying45 rfl (by kernel_rfl)) hS' ?_
    simp only [List.getElem_toArray, List.getElem_cons_succ, List.getElem_cons_zero, Act.put, List.setIfInBounds_toArray, List.set_cons_zero, List.set_cons_succ]
    clear hX hS'
    refine wpAnyB_two (i := 0) (j := 4) rfl rfl (by kernel_rfl) (fun K hK => ?_) (fun K hK => ?_)
    · skip
      skip
      rw [if_pos (by rfl)]
      refine wp_buildSlice_none 22 rfl _ (run_buildSlice_none wd Try.undPs hiP) ?_
      simp only [Act.put, List.setIfInBounds_toArray]
      obtain ⟨we, hwwe⟩ : ∃ we, we = wd.alloc (.cells #[] 45) := ⟨_, rfl⟩
      have HSwe : Hid (Below w2.heap.size w2 we) := by show Below _ _ _; rw [hwwe]; exact HSwd.out.alloc HSwd.out.size _
      have HEwe : Hid (we.ownsRow w2.heap.size 45 3 (.slice (some ⟨wd.heap.size, 0, none⟩) 0 0) 0 []) := by show World.ownsRow _ _ _ _ _ _ _; rw [hwwe]; exact owns_empty _ _ _ _ HSwd.out.size
      rw [← hwwe]
      refine hK.out _ _ HSwe.out ?_
      clear hK K hwwe
      refine wpAnyB_two (i := 2) (j := 4) rfl rfl (by kernel_rfl) (fun K hK => ?_) (fun K hK => ?_)
      · skip
        skip
        rw [if_pos (by rfl)]
        refine wp_append_src we _ _ 22 rfl w2.heap.size 45 iP _ 3 24 Try.undPs hiP hzP0 hzP1 hzP2 rfl (by decide) (.slice (some ⟨wd.heap.size, 0, none⟩) 0 0) 0 [] rfl HEwe.out _ rfl l.length (cellsPs l) ((HSRC.out.below HBW2.out).below HSwe.out) (by unfold maxLen; omega) (by omega) HSwe.out.size ?_
        intro v29 wf ho hg
        simp only [Act.put]
        have HOwf : Hid (wf.ownsRow w2.heap.size 45 3 v29 l.length (cellsPs l)) := by show World.ownsRow _ _ _ _ _ _ _; simpa using ho
        have HSwf : Hid (Below w2.heap.size w2 wf) := HSwe.out.grown hg HSwe.out.size (fun k e => (HEwe.out.lt k e).1)
        refine hK.out _ _ HSwf.out ?_
        clear hK K ho hg
        refine wpAnyB_one (i := 4) rfl (by kernel_rfl) (fun K hK => ?_)
        rw [if_pos (by rfl)]
        refine wp_buildSlice_run 22 _ rfl (.agg #[.int .i64 x.lo, .int .i64 x.hi, .int .u8 x.v]) _ rfl (run_buildSlice_one wf #[.int .i64 x.lo, .int .i64 x.hi, .int .u8 x.v] #[.int .i64 0, .int .i64 0, .int .u8 0] Try.undPs hiP hzP1 hzP0 rfl (by simp) (by simp)) ?_
        simp only [Act.put]
        obtain ⟨wg, hwwg⟩ : ∃ wg, wg = wf.alloc (.cells #[.int .i64 x.lo, .int .i64 x.hi, .int .u8 x.v] 45) := ⟨_, rfl⟩
        have HSwg : Hid (Below w2.heap.size w2 wg) := by show Below _ _ _; rw [hwwg]; exact HSwf.out.alloc HSwf.out.size _
        have HGwg : Hid (wg.heap[wf.heap.size]? = some (.cells #[.int .i64 x.lo, .int .i64 x.hi, .int .u8 x.v] 45 (0, 0))) := by show _ = _; rw [hwwg]; exact heap_new' wf _
        have HOwg : Hid (wg.ownsRow w2.heap.size 45 3 v29 l.length (cellsPs l)) := by show World.ownsRow _ _ _ _ _ _ _; rw [hwwg]; exact HOwf.out.alloc _
        rw [← hwwg]
        refine hK.out _ _ HSwg.out ?_
        clear hK K hwwg
        exact tail _ _ _ _ _ (by kernel_rfl) HOwg.out HGwg.out HSwg.out
      · skip
        skip
        rw [if_pos (by rfl)]
        refine wp_buildSlice_run 22 _ rfl (.agg #[.int .i64 x.lo, .int .i64 x.hi, .int .u8 x.v]) _ rfl (run_buildSlice_one we #[.int .i64 x.lo, .int .i64 x.hi, .int .u8 x.v] #[.int .i64 0, .int .i64 0, .int .u8 0] Try.undPs hiP hzP1 hzP0 rfl (by simp) (by simp)) ?_
        simp only [Act.put]
        obtain ⟨wf, hwwf⟩ : ∃ wf, wf = we.alloc (.cells #[.int .i64 x.lo, .int .i64 x.hi, .int .u8 x.v] 45) := ⟨_, rfl⟩
        have HSwf : Hid (Below w2.heap.size w2 wf) := by show Below _ _ _; rw [hwwf]; exact HSwe.out.alloc HSwe.out.size _
        have HGwf : Hid (wf.heap[we.heap.size]? = some (.cells #[.int .i64 x.lo, .int .i64 x.hi, .int .u8 x.v] 45 (0, 0))) := by show _ = _; rw [hwwf]; exact heap_new' we _
        have HEwf : Hid (wf.ownsRow w2.heap.size 45 3 (.slice (some ⟨wd.heap.size, 0, none⟩) 0 0) 0 []) := by show World.ownsRow _ _ _ _ _ _ _; rw [hwwf]; exact HEwe.out.alloc _
        have HLwf : Hid (we.heap.size < wf.heap.size ∧ wd.heap.size < we.heap.size) := by show _ ∧ _; have := HEwe.out.lt wd.heap.size rfl; exact ⟨by rw [hwwf]; simp, this.2⟩
        rw [← hwwf]
        refine hK.out _ _ HSwf.out ?_
        clear hK K hwwf
        refine wpAnyB_one (i := 2) rfl (by kernel_rfl) (fun K hK => ?_)
        rw [if_pos (by rfl)]
        refine wp_append_src wf _ _ 22 rfl w2.heap.size 45 iP _ 3 24 Try.undPs hiP hzP0 hzP1 hzP2 rfl (by decide) (.slice (some ⟨wd.heap.size, 0, none⟩) 0 0) 0 [] rfl HEwf.out _ rfl l.length (cellsPs l) ((HSRC.out.below HBW2.out).below HSwf.out) (by unfold maxLen; omega) (by omega) HSwf.out.size ?_
        intro v29 wg ho hg
        simp only [Act.put]
        have HOwg : Hid (wg.ownsRow w2.heap.size 45 3 v29 l.length (cellsPs l)) := by show World.ownsRow _ _ _ _ _ _ _; simpa using ho
        have HSwg : Hid (Below w2.heap.size w2 wg) := HSwf.out.grown hg HSwf.out.size (fun k e => (HEwf.out.lt k e).1)
        have HGg : Hid (wg.heap[we.heap.size]? = some (.cells #[.int .i64 x.lo, .int .i64 x.hi, .int .u8 x.v] 45 (0, 0))) := (hg.block _ HLwf.out.1 (fun e => by have q : we.heap.size = wd.heap.size := (by simpa [Value.ownBlock] using e); have := HLwf.out.2; omega)).trans HGwf.out
        refine hK.out _ _ HSwg.out ?_
        clear hK K ho hg
        exact tail _ _ _ _ _ (by kernel_rfl) HOwg.out HGg.out HSwg.out
    · skip
      skip
      rw [if_pos (by rfl)]
      refine wp_buildSlice_run 22 _ rfl (.agg #[.int .i64 x.lo, .int .i64 x.hi, .int .u8 x.v]) _ rfl (run_buildSlice_one wd #[.int .i64 x.lo, .int .i64 x.hi, .int .u8 x.v] #[.int .i64 0, .int .i64 0, .int .u8 0] Try.undPs hiP hzP1 hzP0 rfl (by simp) (by simp)) ?_
      simp only [Act.put, List.setIfInBounds_toArray]
      obtain ⟨we, hwwe⟩ : ∃ we, we = wd.alloc (.cells #[.int .i64 x.lo, .int .i64 x.hi, .int .u8 x.v] 45) := ⟨_, rfl⟩
      have HSwe : Hid (Below w2.heap.size w2 we) := by show Below _ _ _; rw [hwwe]; exact HSwd.out.alloc HSwd.out.size _
      have HGwe : Hid (we.heap[wd.heap.size]? = some (.cells #[.int .i64 x.lo, .int .i64 x.hi, .int .u8 x.v] 45 (0, 0))) := by show _ = _; rw [hwwe]; exact heap_new' wd _
      have HLwe : Hid (wd.heap.size < we.heap.size) := by show _ < _; rw [hwwe]; simp
      rw [← hwwe]
      refine hK.out _ _ HSwe.out ?_
      clear hK K hwwe
      refine wpAnyB_one (i := 0) rfl (by kernel_rfl) (fun K hK => ?_)
      rw [if_pos (by rfl)]
      refine wp_buildSlice_none 22 rfl _ (run_buildSlice_none we Try.undPs hiP) ?_
      simp only [Act.put]
      obtain ⟨wf, hwwf⟩ : ∃ wf, wf = we.alloc (.cells #[] 45) := ⟨_, rfl⟩
      have HSwf : Hid (Below w2.heap.size w2 wf) := by show Below _ _ _; rw [hwwf]; exact HSwe.out.alloc HSwe.out.size _
      have HEwf : Hid (wf.ownsRow w2.heap.size 45 3 (.slice (some ⟨we.heap.size, 0, none⟩) 0 0) 0 []) := by show World.ownsRow _ _ _ _ _ _ _; rw [hwwf]; exact owns_empty _ _ _ _ HSwe.out.size
      have HGf : Hid (wf.heap[wd.heap.size]? = some (.cells #[.int .i64 x.lo, .int .i64 x.hi, .int .u8 x.v] 45 (0, 0))) := by show _ = _; rw [hwwf]; exact (heap_alloc_old we _ HLwe.out).trans HGwe.out
      have HLwf : Hid (wd.heap.size < wf.heap.size) := heap_lt HGf.out
      rw [← hwwf]
      refine hK.out _ _ HSwf.out ?_
      clear hK K hwwf
      refine wpAnyB_one (i := 2) rfl (by kernel_rfl) (fun K hK => ?_)
      rw [if_pos (by rfl)]
      refine wp_append_src wf _ _ 22 rfl w2.heap.size 45 iP _ 3 24 Try.undPs hiP hzP0 hzP1 hzP2 rfl (by decide) (.slice (some ⟨we.heap.size, 0, none⟩) 0 0) 0 [] rfl HEwf.out _ rfl l.length (cellsPs l) ((HSRC.out.below HBW2.out).below HSwf.out) (by unfold maxLen; omega) (by omega) HSwf.out.size ?_
      intro v29 wg ho hg
      simp only [Act.put]
      have HOwg : Hid (wg.ownsRow w2.heap.size 45 3 v29 l.length (cellsPs l)) := by show World.ownsRow _ _ _ _ _ _ _; simpa using ho
      have HSwg : Hid (Below w2.heap.size w2 wg) := HSwf.out.grown hg HSwf.out.size (fun k e => (HEwf.out.lt k e).1)
      have HGg : Hid (wg.heap[wd.heap.size]? = some (.cells #[.int .i64 x.lo, .int .i64 x.hi, .int .u8 x.v] 45 (0, 0))) := (hg.block _ HLwf.out (fun e => by have q : wd.heap.size = we.heap.size := (by simpa [Value.ownBlock] using e); have := HLwe.out; omega)).trans HGf.out
      refine hK.out _ _ HSwg.out ?_
      clear hK K ho hg
      exact tail _ _ _ _ _ (by kernel_rfl) HOwg.out HGg.out HSwg.out
end Go.Proofs.Ytjgghdkdbkkhbaa
