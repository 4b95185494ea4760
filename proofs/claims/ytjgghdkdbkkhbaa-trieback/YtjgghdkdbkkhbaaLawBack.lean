/-
  The law TrieBack: true, for all entries and all bytes.
-/
import Derived.Test.YtjgghdkdbkkhbaaStr
namespace Go.Proofs.Ytjgghdkdbkkhbaa
open Go.RowKit
set_option linter.unusedVariables false

theorem saved_bytes {l : List Pp} (h : Bytes l) (h2 : (firstB l).length ≤ 256) : ByL (saveL (blocksF (valP l))) := by
  have hf := fineB h h2
  intro x hx
  rw [← rawB] at hx
  unfold rawSave at hx
  rcases List.mem_cons.1 hx with e | e
  · have := hf.pos; have := hf.le
    rw [e]; omega
  · rcases List.mem_append.1 e with q | q
    · have := hf.lt x q; have := hf.le; omega
    · obtain ⟨b, hb, hxb⟩ := List.mem_flatten.1 q
      exact (hf.isB b hb).2 x hxb
theorem raw_length {like : List Int} {F : List (List Int)} (hf : Fine like F) : (rawSave like F).length = 4353 + 256 * F.length := by
  rw [← rawTo_end]; exact rawTo_length hf (Nat.le_refl _)

set_option maxRecDepth 100000 in
set_option maxHeartbeats 8000000 in
theorem trieBack_any (l : List Pp) (v : Value) (bb : List Int) (vb : Value) (r : Int) (w : World) (hv : PropsIn w v l) (hby : Bytes l) (hb2 : BytesAt w.heap.size w vb bb ∧ ByL bb) :
    Calls Try.prog 6 #[v, vb, .int .i64 r] w fun e w' => e = .returned (.bool true) ∧ Below w.heap.size w w' := by
  have HV : Hid (PropsIn w v l) := hv
  obtain ⟨a, cap, rfl, _, _⟩ := hv
  have HY : Hid (BytesAt w.heap.size w vb bb) := hb2.1
  have HYL : Hid (ByL bb) := hb2.2
  obtain ⟨ay, cy, rfl, _, _⟩ := hb2.1
  clear hb2
  go_enter Try.func6, Try.ntmps6
  go_wp2_with fail
  refine (awake_any w).mono ?_
  rintro e w1 ⟨rfl, hB1⟩
  have HB1 : Hid (Below w.heap.size w w1) := hB1
  clear hB1
  by_cases h30 : 30 < l.length
  · have h30' : (30 : Int) < (l.length : Int) := by omega
    go_wp2
    go_ret
    exact ⟨rfl, HB1.out⟩
  have h30' : ¬ (30 : Int) < (l.length : Int) := by omega
  by_cases h80 : 80000 < bb.length
  · have h80' : (80000 : Int) < (bb.length : Int) := by omega
    go_wp2
    go_ret
    exact ⟨rfl, HB1.out⟩
  have h80' : ¬ (80000 : Int) < (bb.length : Int) := by omega
  go_wp2_with fail
  refine (build_any l _ w1 ((HV.out.below HB1.out).mono HB1.out.size) hby).mono ?_
  rintro e w2 ⟨pv, rfl, hn2, ht2, hB2⟩
  have HB2 : Hid (Below w.heap.size w w2) := HB1.out.trans (hB2.mono HB1.out.size)
  clear hB2
  by_cases g1 : l.all good1 = true
  · have e1 : errB l = 0 := by rw [errB_small (by omega), if_pos g1]
    rw [e1]
    have hT := ht2 e1
    obtain ⟨gt, rfl⟩ := hT.ptr
    have hz := errB_zero e1
    have hFT : Fine (likeB l) (firstB l) := fineB hby hz.2.2
    obtain ⟨bs, hbs⟩ : ∃ bs, bs = blocksF (valP l) := ⟨_, rfl⟩
    have hbl : bs.length = 4352 := by rw [hbs]; exact blocksF_length _
    have hev : Even bs := by rw [hbs]; exact even_blocks _
    have hSB : ByL (saveL bs) := by rw [hbs]; exact saved_bytes hby hz.2.2
    have hok : okL (saveL bs) := okL_save hev hbl
    have hpt := saved_parts hev hbl
    have HEL : Hid (errL (saveL bs) = 0) := by show _ = _; unfold errL; rw [if_pos (okLb_iff.2 hok)]
    have HFU : Hid (Fine (likeL (saveL bs)) (firstL (saveL bs))) := fineL hSB hok
    have HLE : Hid (likeL (saveL bs) = likeB l ∧ firstL (saveL bs) = firstB l) := by
      refine ⟨?_, ?_⟩
      · rw [hpt.2.1, hbs]; rfl
      · rw [hpt.2.2.1, hbs]; rfl
    have HOF : Hid (ofT (likeL (saveL bs)) (firstL (saveL bs)) r = ofT (likeB l) (firstB l) r) := by show _ = _; rw [HLE.out.1, HLE.out.2]
    have HRW : Hid (rawSave (likeL (saveL bs)) (firstL (saveL bs)) = rawSave (likeB l) (firstB l)) := by show _ = _; rw [HLE.out.1, HLE.out.2]
    have HRS : Hid (rawSave (likeB l) (firstB l) = saveL bs) := by show _ = _; rw [rawB, hbs]
    have HRL1 : Hid ((rawSave (likeL (saveL bs)) (firstL (saveL bs))).length = 4353 + 256 * (firstL (saveL bs)).length) := raw_length HFU.out
    have HRL2 : Hid ((rawSave (likeB l) (firstB l)).length = 4353 + 256 * (firstB l).length) := raw_length hFT
    obtain ⟨HT2, HFT, HSB⟩ : Hid (TrieAt w2.heap.size w2 (.pointer (some ⟨gt, 0, none⟩)) (likeB l) (firstB l)) ∧ Hid (Fine (likeB l) (firstB l)) ∧ Hid (ByL (saveL bs)) := ⟨hT, hFT, hSB⟩
    clear hn2 ht2 hT hFT hz hbs hev hSB hok hpt e1 g1
    go_wp2_with fail
    refine (save_any _ _ _ w2 HT2.out HFT.out).mono ?_
    rintro e w3 ⟨v3, rfl, ho3, hB3⟩
    have HB3 : Hid (Below w.heap.size w w3) := HB2.out.trans (hB3.mono HB2.out.size)
    have HT3 : Hid (TrieAt w3.heap.size w3 (.pointer (some ⟨gt, 0, none⟩)) (likeB l) (firstB l)) := (HT2.out.below hB3).mono hB3.size
    have HY3 : Hid (BytesAt w3.heap.size w3 v3 (saveL bs)) := by
      have := bytes_of_row (w := w3) (v := v3) (l := rawSave (likeB l) (firstB l)) (by rw [HRL2.out]; exact ho3)
      rw [HRS.out] at this
      exact this
    clear ho3 hB3
    go_wp2_with fail
    refine (load_any (saveL bs) v3 w3 HY3.out HSB.out).mono ?_
    rintro e w4 ⟨pu, rfl, _, ht4, hB4⟩
    rw [HEL.out]
    have hT4 := ht4 HEL.out
    obtain ⟨gu, rfl⟩ := hT4.ptr
    have HB4 : Hid (Below w.heap.size w w4) := HB3.out.trans (hB4.mono HB3.out.size)
    have HTU4 : Hid (TrieAt w4.heap.size w4 (.pointer (some ⟨gu, 0, none⟩)) (likeL (saveL bs)) (firstL (saveL bs))) := hT4
    have HTT4 : Hid (TrieAt w4.heap.size w4 (.pointer (some ⟨gt, 0, none⟩)) (likeB l) (firstB l)) := (HT3.out.below hB4).mono hB4.size
    clear ht4 hT4 hB4
    go_wp2_with fail
    refine wp_region_bad (fun w' => Below w4.heap.size w4 w') [] (by kernel_rfl) ((Below.refl _ _).drew) (fun hS0 => ?_)
    obtain ⟨wq, hwq⟩ : ∃ wq, wq = w4.drew := ⟨_, rfl⟩
    have hS : Below w4.heap.size w4 wq := by rw [hwq]; exact hS0
    have HTU : Hid (TrieAt wq.heap.size wq (.pointer (some ⟨gu, 0, none⟩)) (likeL (saveL bs)) (firstL (saveL bs))) := (HTU4.out.below hS).mono hS.size
    have HTT : Hid (TrieAt wq.heap.size wq (.pointer (some ⟨gt, 0, none⟩)) (likeB l) (firstB l)) := (HTT4.out.below hS).mono hS.size
    rw [← hwq]
    clear hwq hS0
    refine wpAnyB_pure (i := 0) (v := .int .i64 0) rfl (by kernel_rfl) (fun _ _ _ h => h) (Or.inl ⟨by rfl, fun w _ => by go_simp⟩) hS ?_
    simp only [List.getElem_toArray, List.getElem_cons_zero, Act.put, List.setIfInBounds_toArray, List.set_cons_zero, List.set_cons_succ]
    refine wpAnyB_pure (i := 1) (v := .bool false) rfl (by kernel_rfl) (fun _ _ _ h => h) (Or.inl ⟨by rfl, fun w _ => by go_simp⟩) hS ?_
    simp only [List.getElem_toArray, List.getElem_cons_succ, List.getElem_cons_zero, Act.put, List.setIfInBounds_toArray, List.set_cons_zero, List.set_cons_succ]
    refine wpAnyB_pure (i := 2) (v := .bool false) rfl (by kernel_rfl) (fun _ _ _ h => h) (Or.inl ⟨by rfl, fun w _ => by go_simp⟩) hS ?_
    simp only [List.getElem_toArray, List.getElem_cons_succ, List.getElem_cons_zero, Act.put, List.setIfInBounds_toArray, List.set_cons_zero, List.set_cons_succ]
    refine wpAnyB_pure (i := 3) (v := .pointer (some ⟨gu, 0, none⟩)) rfl (by kernel_rfl) (fun _ _ _ h => h) (Or.inl ⟨by rfl, fun w _ => by go_simp⟩) hS ?_
    simp only [List.getElem_toArray, List.getElem_cons_succ, List.getElem_cons_zero, Act.put, List.setIfInBounds_toArray, List.set_cons_zero, List.set_cons_succ]
    refine wpAnyB_pure (i := 4) (v := .bool false) rfl (by kernel_rfl) (fun _ _ _ h => h) (Or.inl ⟨by rfl, fun w _ => by go_simp⟩) hS ?_
    simp only [List.getElem_toArray, List.getElem_cons_succ, List.getElem_cons_zero, Act.put, List.setIfInBounds_toArray, List.set_cons_zero, List.set_cons_succ]
    refine wpAnyB_pure (i := 5) (v := .bool false) rfl (by kernel_rfl) (fun _ _ _ h => h) (Or.inl ⟨by rfl, fun w _ => by go_simp⟩) hS ?_
    simp only [List.getElem_toArray, List.getElem_cons_succ, List.getElem_cons_zero, Act.put, List.setIfInBounds_toArray, List.set_cons_zero, List.set_cons_succ]
    refine wpAnyB_pure (i := 6) (v := .bool false) rfl (by kernel_rfl) (fun _ _ _ h => h) (Or.inl ⟨by rfl, fun w _ => by go_simp⟩) hS ?_
    simp only [List.getElem_toArray, List.getElem_cons_succ, List.getElem_cons_zero, Act.put, List.setIfInBounds_toArray, List.set_cons_zero, List.set_cons_succ]
    refine wpAnyB_pure (i := 7) (v := .pointer (some ⟨gu, 0, none⟩)) rfl (by kernel_rfl) (fun _ _ _ h => h) (Or.inl ⟨by rfl, fun w _ => by go_simp⟩) hS ?_
    simp only [List.getElem_toArray, List.getElem_cons_succ, List.getElem_cons_zero, Act.put, List.setIfInBounds_toArray, List.set_cons_zero, List.set_cons_succ]
    refine wpAnyB_pure (i := 8) (v := .int .i64 r) rfl (by kernel_rfl) (fun _ _ _ h => h) (Or.inl ⟨by rfl, fun w _ => by go_simp⟩) hS ?_
    simp only [List.getElem_toArray, List.getElem_cons_succ, List.getElem_cons_zero, Act.put, List.setIfInBounds_toArray, List.set_cons_zero, List.set_cons_succ]
    refine wpAnyB_pure (i := 10) (v := .pointer (some ⟨gt, 0, none⟩)) rfl (by kernel_rfl) (fun _ _ _ h => h) (Or.inl ⟨by rfl, fun w _ => by go_simp⟩) hS ?_
    simp only [List.getElem_toArray, List.getElem_cons_succ, List.getElem_cons_zero, Act.put, List.setIfInBounds_toArray, List.set_cons_zero, List.set_cons_succ]
    refine wpAnyB_pure (i := 11) (v := .int .i64 r) rfl (by kernel_rfl) (fun _ _ _ h => h) (Or.inl ⟨by rfl, fun w _ => by go_simp⟩) hS ?_
    simp only [List.getElem_toArray, List.getElem_cons_succ, List.getElem_cons_zero, Act.put, List.setIfInBounds_toArray, List.set_cons_zero, List.set_cons_succ]
    refine wpAnyB_one (i := 9) rfl (by kernel_rfl) (fun K hK => ?_)
    go_simp
    refine (of_any _ _ _ r wq (HTU.out) HFU.out).mono ?_
    rintro e wa ⟨rfl, hBa⟩
    have HBa : Hid (Below wq.heap.size wq wa) := hBa
    refine hK.out _ _ (hS.trans (hBa.mono hS.size)) ?_
    clear hK K hBa
    refine wpAnyB_one (i := 12) rfl (by kernel_rfl) (fun K hK => ?_)
    go_simp
    refine (of_any _ _ _ r wa ((HTT.out.below HBa.out).mono HBa.out.size) HFT.out).mono ?_
    rintro e wb ⟨rfl, hBb⟩
    have HBb : Hid (Below wq.heap.size wq wb) := HBa.out.trans (hBb.mono HBa.out.size)
    have hSb := hS.trans (HBb.out.mono hS.size)
    refine hK.out _ _ hSb ?_
    clear hK K hBb
    rw [HOF.out]
    refine wpAnyB_pure (i := 13) (v := .bool false) rfl (by kernel_rfl) (fun _ _ _ h => h) (Or.inl ⟨by rfl, fun w _ => by go_simp⟩) hSb ?_
    simp only [List.getElem_toArray, List.getElem_cons_succ, List.getElem_cons_zero, Act.put, List.setIfInBounds_toArray, List.set_cons_zero, List.set_cons_succ]
    refine wpAnyB_pure (i := 14) (v := .bool false) rfl (by kernel_rfl) (fun _ _ _ h => h) (Or.inl ⟨by rfl, fun w _ => by go_simp⟩) hSb ?_
    simp only [List.getElem_toArray, List.getElem_cons_succ, List.getElem_cons_zero, Act.put, List.setIfInBounds_toArray, List.set_cons_zero, List.set_cons_succ]
    refine wpAnyB_pure (i := 15) (v := .bool false) rfl (by kernel_rfl) (fun _ _ _ h => h) (Or.inl ⟨by rfl, fun w _ => by go_simp⟩) hSb ?_
    simp only [List.getElem_toArray, List.getElem_cons_succ, List.getElem_cons_zero, Act.put, List.setIfInBounds_toArray, List.set_cons_zero, List.set_cons_succ]
    refine wpAnyB_pure (i := 16) (v := .pointer (some ⟨gu, 0, none⟩)) rfl (by kernel_rfl) (fun _ _ _ h => h) (Or.inl ⟨by rfl, fun w _ => by go_simp⟩) hSb ?_
    simp only [List.getElem_toArray, List.getElem_cons_succ, List.getElem_cons_zero, Act.put, List.setIfInBounds_toArray, List.set_cons_zero, List.set_cons_succ]
    refine wpAnyB_pure (i := 19) (v := .pointer (some ⟨gt, 0, none⟩)) rfl (by kernel_rfl) (fun _ _ _ h => h) (Or.inl ⟨by rfl, fun w _ => by go_simp⟩) hSb ?_
    simp only [List.getElem_toArray, List.getElem_cons_succ, List.getElem_cons_zero, Act.put, List.setIfInBounds_toArray, List.set_cons_zero, List.set_cons_succ]
    refine wpAnyB_one (i := 17) rfl (by kernel_rfl) (fun K hK => ?_)
    go_simp
    refine (save_any _ _ _ wb ((HTU.out.below HBb.out).mono HBb.out.size) HFU.out).mono ?_
    rintro e wc ⟨vc, rfl, hoc, hBc⟩
    have HBc : Hid (Below wq.heap.size wq wc) := HBb.out.trans (hBc.mono HBb.out.size)
    have hSc := hS.trans (HBc.out.mono hS.size)
    have HYc : Hid (BytesAt wc.heap.size wc vc (rawSave (likeL (saveL bs)) (firstL (saveL bs)))) := bytes_of_row (by rw [HRL1.out]; exact hoc)
    refine hK.out _ _ hSc ?_
    clear hK K hBc hoc
    refine wpAnyB_mono (S' := fun w' => Below wc.heap.size wc w') (fun w' h => hSc.trans (h.mono hSc.size)) ?_
    have hSc' : Below wc.heap.size wc wc := Below.refl _ _
    refine wpAnyB_take [] (i := 18) (v := .string (strOfNums (rawSave (likeL (saveL bs)) (firstL (saveL bs))))) rfl (by kernel_rfl) (fun _ _ _ h => h) (yields_convert (by rfl) rfl rfl (fun w' hw' => (HYc.out.below hw').conv)) hSc' ?_
    simp only [List.getElem_toArray, List.getElem_cons_succ, List.getElem_cons_zero, Act.put, List.setIfInBounds_toArray, List.set_cons_zero, List.set_cons_succ]
    refine wpAnyB_one (i := 20) rfl (by kernel_rfl) (fun K hK => ?_)
    go_simp
    refine (save_any _ _ _ wc ((HTT.out.below HBc.out).mono HBc.out.size) HFT.out).mono ?_
    rintro e wd ⟨vd, rfl, hod, hBd⟩
    have HBd : Hid (Below wq.heap.size wq wd) := HBc.out.trans (hBd.mono HBc.out.size)
    have HYd : Hid (BytesAt wd.heap.size wd vd (rawSave (likeB l) (firstB l))) := bytes_of_row (by rw [HRL2.out]; exact hod)
    refine hK.out _ _ hBd ?_
    refine wpAnyB_mono (S' := fun w' => Below wd.heap.size wd w') (fun w' h => hBd.trans (h.mono hBd.size)) ?_
    clear hK K hod
    have hSd' : Below wd.heap.size wd wd := Below.refl _ _
    refine wpAnyB_take [] (i := 21) (v := .string (strOfNums (rawSave (likeB l) (firstB l)))) rfl (by kernel_rfl) (fun _ _ _ h => h) (yields_convert (by rfl) rfl rfl (fun w' hw' => (HYd.out.below hw').conv)) hSd' ?_
    simp only [List.getElem_toArray, List.getElem_cons_succ, List.getElem_cons_zero, Act.put, List.setIfInBounds_toArray, List.set_cons_zero, List.set_cons_succ]
    rw [HRW.out]
    refine wpAnyB_pure (i := 22) (v := .bool false) rfl (by kernel_rfl) (fun _ _ _ h => h) (Or.inl ⟨by rfl, fun w _ => by go_simp⟩) hSd' ?_
    simp only [List.getElem_toArray, List.getElem_cons_succ, List.getElem_cons_zero, Act.put, List.setIfInBounds_toArray, List.set_cons_zero, List.set_cons_succ]
    refine wpAnyB_pure (i := 23) (v := .bool false) rfl (by kernel_rfl) (fun _ _ _ h => h) (Or.inl ⟨by rfl, fun w _ => by go_simp⟩) hSd' ?_
    simp only [List.getElem_toArray, List.getElem_cons_succ, List.getElem_cons_zero, Act.put, List.setIfInBounds_toArray, List.set_cons_zero, List.set_cons_succ]
    refine wpAnyB_done (by kernel_rfl) ?_ _
    refine NoPanic.normal ?_
    have HBk0 : Hid (Below w.heap.size w wd) := HB4.out.trans ((hS.trans (HBd.out.mono hS.size)).mono HB4.out.size)
    clear hSc hSb hS hSc' hSd' hBd
    go_wp2_with fail
    refine (load_any bb _ wd ((HY.out.below HBk0.out).mono HBk0.out.size) HYL.out).mono ?_
    rintro e wk ⟨px, rfl, hnx, htx, hBx⟩
    have HBk : Hid (Below w.heap.size w wk) := HBk0.out.trans (hBx.mono HBk0.out.size)
    clear hBx
    by_cases hb : okLb bb = true
    · have e0 : errL bb = 0 := by unfold errL; rw [if_pos hb]
      rw [e0]
      have hTX := htx e0
      obtain ⟨gx, rfl⟩ := hTX.ptr
      have hFX : Fine (likeL bb) (firstL bb) := fineL HYL.out (okLb_iff.1 hb)
      have HRL3 : Hid ((rawSave (likeL bb) (firstL bb)).length = 4353 + 256 * (firstL bb).length) := raw_length hFX
      have HRB : Hid (rawSave (likeL bb) (firstL bb) = bb) := raw_back HYL.out (okLb_iff.1 hb).1
      obtain ⟨HTX, HFX⟩ : Hid (TrieAt wk.heap.size wk (.pointer (some ⟨gx, 0, none⟩)) (likeL bb) (firstL bb)) ∧ Hid (Fine (likeL bb) (firstL bb)) := ⟨hTX, hFX⟩
      have HYB : Hid (BytesAt wk.heap.size wk (.slice ay bb.length cy) bb) := (HY.out.below HBk.out).mono HBk.out.size
      clear hnx htx hTX hFX e0 hb
      go_wp2_with fail
      refine wp_region_bad (fun w' => Below wk.heap.size wk w') [] (by kernel_rfl) ((Below.refl _ _).drew) (fun hSk => ?_)
      refine wpAnyB_pure (i := 0) (v := .int .i64 0) rfl (by kernel_rfl) (fun _ _ _ h => h) (Or.inl ⟨by rfl, fun w _ => by go_simp⟩) hSk ?_
      simp only [List.getElem_toArray, List.getElem_cons_zero, Act.put, List.setIfInBounds_toArray, List.set_cons_zero, List.set_cons_succ]
      refine wpAnyB_pure (i := 1) (v := .bool false) rfl (by kernel_rfl) (fun _ _ _ h => h) (Or.inl ⟨by rfl, fun w _ => by go_simp⟩) hSk ?_
      simp only [List.getElem_toArray, List.getElem_cons_succ, List.getElem_cons_zero, Act.put, List.setIfInBounds_toArray, List.set_cons_zero, List.set_cons_succ]
      refine wpAnyB_pure (i := 2) (v := .bool false) rfl (by kernel_rfl) (fun _ _ _ h => h) (Or.inl ⟨by rfl, fun w _ => by go_simp⟩) hSk ?_
      simp only [List.getElem_toArray, List.getElem_cons_succ, List.getElem_cons_zero, Act.put, List.setIfInBounds_toArray, List.set_cons_zero, List.set_cons_succ]
      refine wpAnyB_pure (i := 3) (v := undef) rfl (by kernel_rfl) (fun _ _ _ h => h) (Or.inr ⟨by rfl, rfl⟩) hSk ?_
      simp only [List.getElem_toArray, List.getElem_cons_succ, List.getElem_cons_zero, Act.put, List.setIfInBounds_toArray, List.set_cons_zero, List.set_cons_succ]
      refine wpAnyB_pure (i := 4) (v := undef) rfl (by kernel_rfl) (fun _ _ _ h => h) (Or.inr ⟨by rfl, rfl⟩) hSk ?_
      simp only [List.getElem_toArray, List.getElem_cons_succ, List.getElem_cons_zero, Act.put, List.setIfInBounds_toArray, List.set_cons_zero, List.set_cons_succ]
      refine wpAnyB_pure (i := 5) (v := .bool false) rfl (by kernel_rfl) (fun _ _ _ h => h) (Or.inl ⟨by rfl, fun w _ => by go_simp⟩) hSk ?_
      simp only [List.getElem_toArray, List.getElem_cons_succ, List.getElem_cons_zero, Act.put, List.setIfInBounds_toArray, List.set_cons_zero, List.set_cons_succ]
      refine wpAnyB_pure (i := 6) (v := .bool false) rfl (by kernel_rfl) (fun _ _ _ h => h) (Or.inl ⟨by rfl, fun w _ => by go_simp⟩) hSk ?_
      simp only [List.getElem_toArray, List.getElem_cons_succ, List.getElem_cons_zero, Act.put, List.setIfInBounds_toArray, List.set_cons_zero, List.set_cons_succ]
      refine wpAnyB_pure (i := 7) (v := .int .i64 0) rfl (by kernel_rfl) (fun _ _ _ h => h) (Or.inl ⟨by rfl, fun w _ => by go_simp⟩) hSk ?_
      simp only [List.getElem_toArray, List.getElem_cons_succ, List.getElem_cons_zero, Act.put, List.setIfInBounds_toArray, List.set_cons_zero, List.set_cons_succ]
      refine wpAnyB_pure (i := 8) (v := .bool true) rfl (by kernel_rfl) (fun _ _ _ h => h) (Or.inl ⟨by rfl, fun w _ => by go_simp⟩) hSk ?_
      simp only [List.getElem_toArray, List.getElem_cons_succ, List.getElem_cons_zero, Act.put, List.setIfInBounds_toArray, List.set_cons_zero, List.set_cons_succ]
      refine wpAnyB_pure (i := 9) (v := .bool true) rfl (by kernel_rfl) (fun _ _ _ h => h) (Or.inl ⟨by rfl, fun w _ => by go_simp⟩) hSk ?_
      simp only [List.getElem_toArray, List.getElem_cons_succ, List.getElem_cons_zero, Act.put, List.setIfInBounds_toArray, List.set_cons_zero, List.set_cons_succ]
      refine wpAnyB_pure (i := 10) (v := .pointer (some ⟨gx, 0, none⟩)) rfl (by kernel_rfl) (fun _ _ _ h => h) (Or.inl ⟨by rfl, fun w _ => by go_simp⟩) hSk ?_
      simp only [List.getElem_toArray, List.getElem_cons_succ, List.getElem_cons_zero, Act.put, List.setIfInBounds_toArray, List.set_cons_zero, List.set_cons_succ]
      refine wpAnyB_pure (i := 11) (v := .bool true) rfl (by kernel_rfl) (fun _ _ _ h => h) (Or.inl ⟨by rfl, fun w _ => by go_simp⟩) hSk ?_
      simp only [List.getElem_toArray, List.getElem_cons_succ, List.getElem_cons_zero, Act.put, List.setIfInBounds_toArray, List.set_cons_zero, List.set_cons_succ]
      refine wpAnyB_pure (i := 12) (v := .bool true) rfl (by kernel_rfl) (fun _ _ _ h => h) (Or.inl ⟨by rfl, fun w _ => by go_simp⟩) hSk ?_
      simp only [List.getElem_toArray, List.getElem_cons_succ, List.getElem_cons_zero, Act.put, List.setIfInBounds_toArray, List.set_cons_zero, List.set_cons_succ]
      refine wpAnyB_pure (i := 13) (v := .bool true) rfl (by kernel_rfl) (fun _ _ _ h => h) (Or.inl ⟨by rfl, fun w _ => by go_simp⟩) hSk ?_
      simp only [List.getElem_toArray, List.getElem_cons_succ, List.getElem_cons_zero, Act.put, List.setIfInBounds_toArray, List.set_cons_zero, List.set_cons_succ]
      refine wpAnyB_pure (i := 14) (v := .pointer (some ⟨gx, 0, none⟩)) rfl (by kernel_rfl) (fun _ _ _ h => h) (Or.inl ⟨by rfl, fun w _ => by go_simp⟩) hSk ?_
      simp only [List.getElem_toArray, List.getElem_cons_succ, List.getElem_cons_zero, Act.put, List.setIfInBounds_toArray, List.set_cons_zero, List.set_cons_succ]
      refine wpAnyB_pure (i := 17) (v := .slice ay bb.length cy) rfl (by kernel_rfl) (fun _ _ _ h => h) (Or.inl ⟨by rfl, fun w _ => by go_simp⟩) hSk ?_
      simp only [List.getElem_toArray, List.getElem_cons_succ, List.getElem_cons_zero, Act.put, List.setIfInBounds_toArray, List.set_cons_zero, List.set_cons_succ]
      refine wpAnyB_take [] (i := 18) (v := .string (strOfNums bb)) rfl (by kernel_rfl) (fun _ _ _ h => h) (yields_convert (by rfl) rfl rfl (fun w' hw' => (HYB.out.below hw').conv)) hSk ?_
      simp only [List.getElem_toArray, List.getElem_cons_succ, List.getElem_cons_zero, Act.put, List.setIfInBounds_toArray, List.set_cons_zero, List.set_cons_succ]
      refine wpAnyB_one (i := 15) rfl (by kernel_rfl) (fun K hK => ?_)
      go_simp
      refine (save_any _ _ _ wk.drew (HTX.out.below (Below.refl _ _).drew) HFX.out).mono ?_
      rintro e wl ⟨vl, rfl, hol, hBl⟩
      have HYl : Hid (BytesAt wl.heap.size wl vl (rawSave (likeL bb) (firstL bb))) := bytes_of_row (by rw [HRL3.out]; exact hol)
      have HBl : Hid (Below wk.heap.size wk wl) := (Below.refl _ wk).drew.trans hBl
      refine hK.out _ _ HBl.out ?_
      refine wpAnyB_mono (S' := fun w' => Below wl.heap.size wl w') (fun w' h => HBl.out.trans (h.mono HBl.out.size)) ?_
      clear hK K hol hBl
      have hSl' : Below wl.heap.size wl wl := Below.refl _ _
      refine wpAnyB_take [] (i := 16) (v := .string (strOfNums (rawSave (likeL bb) (firstL bb)))) rfl (by kernel_rfl) (fun _ _ _ h => h) (yields_convert (by rfl) rfl rfl (fun w' hw' => (HYl.out.below hw').conv)) hSl' ?_
      simp only [List.getElem_toArray, List.getElem_cons_succ, List.getElem_cons_zero, Act.put, List.setIfInBounds_toArray, List.set_cons_zero, List.set_cons_succ]
      rw [HRB.out]
      refine wpAnyB_pure (i := 19) (v := .bool true) rfl (by kernel_rfl) (fun _ _ _ h => h) (Or.inl ⟨by rfl, fun w _ => by go_simp⟩) hSl' ?_
      simp only [List.getElem_toArray, List.getElem_cons_succ, List.getElem_cons_zero, Act.put, List.setIfInBounds_toArray, List.set_cons_zero, List.set_cons_succ]
      refine wpAnyB_pure (i := 20) (v := .bool true) rfl (by kernel_rfl) (fun _ _ _ h => h) (Or.inl ⟨by rfl, fun w _ => by go_simp⟩) hSl' ?_
      simp only [List.getElem_toArray, List.getElem_cons_succ, List.getElem_cons_zero, Act.put, List.setIfInBounds_toArray, List.set_cons_zero, List.set_cons_succ]
      refine wpAnyB_pure (i := 21) (v := .bool true) rfl (by kernel_rfl) (fun _ _ _ h => h) (Or.inl ⟨by rfl, fun w _ => by go_simp⟩) hSl' ?_
      simp only [List.getElem_toArray, List.getElem_cons_succ, List.getElem_cons_zero, Act.put, List.setIfInBounds_toArray, List.set_cons_zero, List.set_cons_succ]
      refine wpAnyB_pure (i := 22) (v := .bool true) rfl (by kernel_rfl) (fun _ _ _ h => h) (Or.inl ⟨by rfl, fun w _ => by go_simp⟩) hSl' ?_
      simp only [List.getElem_toArray, List.getElem_cons_succ, List.getElem_cons_zero, Act.put, List.setIfInBounds_toArray, List.set_cons_zero, List.set_cons_succ]
      refine wpAnyB_done (by kernel_rfl) ?_ _
      refine NoPanic.normal ?_
      clear hSk hSl'
      go_wp2
      go_ret
      exact ⟨rfl, HBk.out.trans (HBl.out.mono HBk.out.size)⟩
    · have e0 : errL bb = 2 := by unfold errL; rw [if_neg hb]
      obtain rfl := hnx (by rw [e0]; omega)
      rw [e0]
      clear hnx htx e0 hb
      go_wp2_with fail
      refine wp_region_bad (fun w' => Below wk.heap.size wk w') [] (by kernel_rfl) ((Below.refl _ _).drew) (fun hSk => ?_)
      refine wpAnyB_pure (i := 0) (v := .int .i64 2) rfl (by kernel_rfl) (fun _ _ _ h => h) (Or.inl ⟨by rfl, fun w _ => by go_simp⟩) hSk ?_
      simp only [List.getElem_toArray, List.getElem_cons_zero, Act.put, List.setIfInBounds_toArray, List.set_cons_zero, List.set_cons_succ]
      refine wpAnyB_pure (i := 1) (v := .bool true) rfl (by kernel_rfl) (fun _ _ _ h => h) (Or.inl ⟨by rfl, fun w _ => by go_simp⟩) hSk ?_
      simp only [List.getElem_toArray, List.getElem_cons_succ, List.getElem_cons_zero, Act.put, List.setIfInBounds_toArray, List.set_cons_zero, List.set_cons_succ]
      refine wpAnyB_pure (i := 2) (v := .bool true) rfl (by kernel_rfl) (fun _ _ _ h => h) (Or.inl ⟨by rfl, fun w _ => by go_simp⟩) hSk ?_
      simp only [List.getElem_toArray, List.getElem_cons_succ, List.getElem_cons_zero, Act.put, List.setIfInBounds_toArray, List.set_cons_zero, List.set_cons_succ]
      refine wpAnyB_pure (i := 3) (v := .pointer none) rfl (by kernel_rfl) (fun _ _ _ h => h) (Or.inl ⟨by rfl, fun w _ => by go_simp⟩) hSk ?_
      simp only [List.getElem_toArray, List.getElem_cons_succ, List.getElem_cons_zero, Act.put, List.setIfInBounds_toArray, List.set_cons_zero, List.set_cons_succ]
      refine wpAnyB_pure (i := 4) (v := .bool true) rfl (by kernel_rfl) (fun _ _ _ h => h) (Or.inl ⟨by rfl, fun w _ => by go_simp⟩) hSk ?_
      simp only [List.getElem_toArray, List.getElem_cons_succ, List.getElem_cons_zero, Act.put, List.setIfInBounds_toArray, List.set_cons_zero, List.set_cons_succ]
      refine wpAnyB_pure (i := 5) (v := .bool true) rfl (by kernel_rfl) (fun _ _ _ h => h) (Or.inl ⟨by rfl, fun w _ => by go_simp⟩) hSk ?_
      simp only [List.getElem_toArray, List.getElem_cons_succ, List.getElem_cons_zero, Act.put, List.setIfInBounds_toArray, List.set_cons_zero, List.set_cons_succ]
      refine wpAnyB_pure (i := 6) (v := .bool true) rfl (by kernel_rfl) (fun _ _ _ h => h) (Or.inl ⟨by rfl, fun w _ => by go_simp⟩) hSk ?_
      simp only [List.getElem_toArray, List.getElem_cons_succ, List.getElem_cons_zero, Act.put, List.setIfInBounds_toArray, List.set_cons_zero, List.set_cons_succ]
      refine wpAnyB_pure (i := 7) (v := undef) rfl (by kernel_rfl) (fun _ _ _ h => h) (Or.inr ⟨by rfl, rfl⟩) hSk ?_
      simp only [List.getElem_toArray, List.getElem_cons_succ, List.getElem_cons_zero, Act.put, List.setIfInBounds_toArray, List.set_cons_zero, List.set_cons_succ]
      refine wpAnyB_pure (i := 8) (v := undef) rfl (by kernel_rfl) (fun _ _ _ h => h) (Or.inr ⟨by rfl, rfl⟩) hSk ?_
      simp only [List.getElem_toArray, List.getElem_cons_succ, List.getElem_cons_zero, Act.put, List.setIfInBounds_toArray, List.set_cons_zero, List.set_cons_succ]
      refine wpAnyB_pure (i := 9) (v := undef) rfl (by kernel_rfl) (fun _ _ _ h => h) (Or.inr ⟨by rfl, rfl⟩) hSk ?_
      simp only [List.getElem_toArray, List.getElem_cons_succ, List.getElem_cons_zero, Act.put, List.setIfInBounds_toArray, List.set_cons_zero, List.set_cons_succ]
      refine wpAnyB_pure (i := 10) (v := undef) rfl (by kernel_rfl) (fun _ _ _ h => h) (Or.inr ⟨by rfl, rfl⟩) hSk ?_
      simp only [List.getElem_toArray, List.getElem_cons_succ, List.getElem_cons_zero, Act.put, List.setIfInBounds_toArray, List.set_cons_zero, List.set_cons_succ]
      refine wpAnyB_pure (i := 11) (v := undef) rfl (by kernel_rfl) (fun _ _ _ h => h) (Or.inr ⟨by rfl, rfl⟩) hSk ?_
      simp only [List.getElem_toArray, List.getElem_cons_succ, List.getElem_cons_zero, Act.put, List.setIfInBounds_toArray, List.set_cons_zero, List.set_cons_succ]
      refine wpAnyB_pure (i := 12) (v := undef) rfl (by kernel_rfl) (fun _ _ _ h => h) (Or.inr ⟨by rfl, rfl⟩) hSk ?_
      simp only [List.getElem_toArray, List.getElem_cons_succ, List.getElem_cons_zero, Act.put, List.setIfInBounds_toArray, List.set_cons_zero, List.set_cons_succ]
      refine wpAnyB_pure (i := 13) (v := undef) rfl (by kernel_rfl) (fun _ _ _ h => h) (Or.inr ⟨by rfl, rfl⟩) hSk ?_
      simp only [List.getElem_toArray, List.getElem_cons_succ, List.getElem_cons_zero, Act.put, List.setIfInBounds_toArray, List.set_cons_zero, List.set_cons_succ]
      refine wpAnyB_pure (i := 14) (v := undef) rfl (by kernel_rfl) (fun _ _ _ h => h) (Or.inr ⟨by rfl, rfl⟩) hSk ?_
      simp only [List.getElem_toArray, List.getElem_cons_succ, List.getElem_cons_zero, Act.put, List.setIfInBounds_toArray, List.set_cons_zero, List.set_cons_succ]
      refine wpAnyB_pure (i := 15) (v := undef) rfl (by kernel_rfl) (fun _ _ _ h => h) (Or.inr ⟨by rfl, rfl⟩) hSk ?_
      simp only [List.getElem_toArray, List.getElem_cons_succ, List.getElem_cons_zero, Act.put, List.setIfInBounds_toArray, List.set_cons_zero, List.set_cons_succ]
      refine wpAnyB_pure (i := 16) (v := undef) rfl (by kernel_rfl) (fun _ _ _ h => h) (Or.inr ⟨by rfl, rfl⟩) hSk ?_
      simp only [List.getElem_toArray, List.getElem_cons_succ, List.getElem_cons_zero, Act.put, List.setIfInBounds_toArray, List.set_cons_zero, List.set_cons_succ]
      refine wpAnyB_pure (i := 17) (v := undef) rfl (by kernel_rfl) (fun _ _ _ h => h) (Or.inr ⟨by rfl, rfl⟩) hSk ?_
      simp only [List.getElem_toArray, List.getElem_cons_succ, List.getElem_cons_zero, Act.put, List.setIfInBounds_toArray, List.set_cons_zero, List.set_cons_succ]
      refine wpAnyB_pure (i := 18) (v := undef) rfl (by kernel_rfl) (fun _ _ _ h => h) (Or.inr ⟨by rfl, rfl⟩) hSk ?_
      simp only [List.getElem_toArray, List.getElem_cons_succ, List.getElem_cons_zero, Act.put, List.setIfInBounds_toArray, List.set_cons_zero, List.set_cons_succ]
      refine wpAnyB_pure (i := 19) (v := undef) rfl (by kernel_rfl) (fun _ _ _ h => h) (Or.inr ⟨by rfl, rfl⟩) hSk ?_
      simp only [List.getElem_toArray, List.getElem_cons_succ, List.getElem_cons_zero, Act.put, List.setIfInBounds_toArray, List.set_cons_zero, List.set_cons_succ]
      refine wpAnyB_pure (i := 20) (v := undef) rfl (by kernel_rfl) (fun _ _ _ h => h) (Or.inr ⟨by rfl, rfl⟩) hSk ?_
      simp only [List.getElem_toArray, List.getElem_cons_succ, List.getElem_cons_zero, Act.put, List.setIfInBounds_toArray, List.set_cons_zero, List.set_cons_succ]
      refine wpAnyB_pure (i := 21) (v := .bool true) rfl (by kernel_rfl) (fun _ _ _ h => h) (Or.inl ⟨by rfl, fun w _ => by go_simp⟩) hSk ?_
      simp only [List.getElem_toArray, List.getElem_cons_succ, List.getElem_cons_zero, Act.put, List.setIfInBounds_toArray, List.set_cons_zero, List.set_cons_succ]
      refine wpAnyB_pure (i := 22) (v := .bool true) rfl (by kernel_rfl) (fun _ _ _ h => h) (Or.inl ⟨by rfl, fun w _ => by go_simp⟩) hSk ?_
      simp only [List.getElem_toArray, List.getElem_cons_succ, List.getElem_cons_zero, Act.put, List.setIfInBounds_toArray, List.set_cons_zero, List.set_cons_succ]
      refine wpAnyB_done (by kernel_rfl) ?_ _
      refine NoPanic.normal ?_
      go_wp2
      go_ret
      exact ⟨rfl, HBk.out.trans (hSk.mono HBk.out.size)⟩
  · have e1 : errB l = 1 := by rw [errB_small (by omega), if_neg g1]
    rw [e1]
    clear hn2 ht2 e1 g1
    go_wp2
    go_ret
    exact ⟨rfl, HB2.out⟩
end Go.Proofs.Ytjgghdkdbkkhbaa
