/-
  The law TrieLoads: true, for all entries, numbers and bytes.
-/
import Derived.Test.YtpnkljfgdbkffaaRefLoad
import Derived.Test.YtpnkljfgdbkffaaRefBuild
import Derived.Test.YtpnkljfgdbkffaaAppMake
namespace Go.Proofs.Ytpnkljfgdbkffaa
open Go.RowKit
set_option linter.unusedVariables false

theorem raw_length5 {like : List Int} {F : List (List Int)} (hf : Fine like F) : (rawSave like F).length = 4353 + 256 * F.length := by
  rw [← rawTo_end]; exact rawTo_length hf (Nat.le_refl _)
theorem rsTo_saveB (l : List Pp) : rsTo (firstB l) (likeOf (blocksF (valP l))) 4352 ++ (firstB l).flatten = saveL (blocksF (valP l)) := by
  unfold rsTo saveL firstB
  rw [List.take_of_length_le (by rw [like_length, blocksF_length]; omega)]
  rfl

set_option maxRecDepth 100000 in
set_option maxHeartbeats 8000000 in
theorem trieLoads_any (l : List Pp) (v : Value) (at0 : Int) (turn : Int) (w : World) (hv : PropsIn w v l) (hby : Bytes l) (ht0 : (Lit.int .u8 turn).wf = true) :
    Calls Try.prog 4 #[v, .int .i64 at0, .int .u8 turn] w fun e w' => e = .returned (.bool true) ∧ Below w.heap.size w w' := by
  obtain ⟨iU, hiU, hzU0, hzU1, hzU2⟩ := info_parts Try.infoByte
  have HV : Hid (PropsIn w v l) := hv
  obtain ⟨a, cap0, rfl, _, _⟩ := hv
  go_enter Try.func4, Try.ntmps4
  go_wp2_with fail
  refine (awake_any w).mono ?_
  rintro e w1 ⟨rfl, hB1⟩
  have HB1 : Hid (Below w.heap.size w w1) := hB1
  clear hB1
  by_cases h20 : 20 < l.length
  · have h20' : (20 : Int) < (l.length : Int) := by omega
    go_wp2
    go_ret
    exact ⟨rfl, HB1.out⟩
  have h20' : ¬ (20 : Int) < (l.length : Int) := by omega
  go_wp2_with fail
  refine (refBuild_any l _ w1 ((HV.out.below HB1.out).mono HB1.out.size) hby).mono ?_
  rintro e w2 ⟨pw, rfl, hn2, ht2, hB2⟩
  have HB2 : Hid (Below w.heap.size w w2) := HB1.out.trans (hB2.mono HB1.out.size)
  have hs2 := hB2.size
  by_cases g1 : l.all good1 = true
  · have e1 : errB l = 0 := by rw [errB_small (by omega), if_pos g1]
    obtain ⟨gw, rfl, hR⟩ := ht2 e1
    have hz := errB_zero e1
    have hF : Fine (likeB l) (firstB l) := fineB hby hz.2.2
    obtain ⟨bs, hbs⟩ : ∃ bs, bs = blocksF (valP l) := ⟨_, rfl⟩
    have HSV : Hid (rsTo (firstB l) (likeOf bs) 4352 ++ (firstB l).flatten = saveL bs) := by show _ = _; rw [hbs]; exact rsTo_saveB l
    have HPO : Hid (1 ≤ (firstB l).length ∧ (firstB l).length ≤ 256) := ⟨hF.pos, hz.2.2⟩
    have hFB : firstB l = firstsOf bs := by rw [hbs]; rfl
    have HBI : Hid (∀ b ∈ bs, IsB b) := fun b hb => hF.isB b (by rw [hFB]; exact firsts_mem.2 hb)
    have HLL : Hid ((likeOf bs).length = 4352) := by show _ = _; rw [like_length, hbs, blocksF_length]
    have HLT : Hid (∀ x ∈ likeOf bs, x < (firstB l).length) := fun x hx => by
      obtain ⟨i, hi, rfl⟩ := List.getElem_of_mem hx
      rw [like_length] at hi
      rw [hFB]
      exact like_lt hi
    have HSB : Hid (ByL (saveL bs)) := saved_byL (by rw [← hFB]; exact hF.pos) (by rw [← hFB]; exact hz.2.2) HBI.out
    have HSN : Hid ((saveL bs).length = 4353 + (firstB l).length * 256) := by
      show _ = _
      rw [save_length (fun z hz => (HBI.out z hz).1) (by rw [hbs, blocksF_length]), hFB, Nat.mul_comm]
    rw [← hbs] at hR
    have HR : Hid (RefAt w1.heap.size w2 gw (firstB l) (likeOf bs)) := hR
    rw [e1]
    clear hn2 ht2 hB2 hR hF hz g1 e1 hbs hFB
    go_wp2_with fail
    refine (refSave_any w1.heap.size (firstB l) (likeOf bs) gw w2 hs2 HR.out HPO.out.1 HPO.out.2 HLL.out HLT.out).mono ?_
    rintro e w3 ⟨v3, rfl, ho3, hB3⟩
    rw [HSV.out, ← HSN.out] at ho3
    obtain ⟨sv, hsv⟩ : ∃ sv, sv = saveL bs := ⟨_, rfl⟩
    rw [← hsv] at ho3 HSB HSN
    have hs3 := hB3.size
    obtain ⟨HO3, HB3⟩ : Hid (w3.ownsRow w2.heap.size 5 1 v3 sv.length (i8 sv)) ∧ Hid (Below w.heap.size w w3) := ⟨ho3, HB2.out.trans (hB3.mono HB2.out.size)⟩
    obtain ⟨a3, cap3, rfl⟩ := slice_of_row ho3
    clear hsv ho3 hB3 HSV
    obtain ⟨k, hk, hkb⟩ := and_small at0 8191 (by omega)
    have hkb' : bits BinOp.and IntKind.i64 at0 8191 = (k : Int) := hkb
    clear hkb
    by_cases hkl : k < sv.length
    · have hkl' : (k : Int) < (sv.length : Int) := by omega
      obtain ⟨g3, rfl⟩ : ∃ g3, a3 = some ⟨g3, 0, none⟩ := by
        rcases HO3.out.2 with ⟨_, h0⟩ | ⟨g', cap', cur, e, _⟩
        · omega
        · exact ⟨g', by simpa using (by simpa using e : _ ∧ _).1⟩
      obtain ⟨z, hz, hzb⟩ := xor_byte sv[k] turn
      have hzb' : bits BinOp.xor IntKind.u8 sv[k] turn = (z : Int) := hzb
      obtain ⟨ho4, hf4, hc4, hg4⟩ := own_setByte HO3.out hkl (z : Int)
      have HB4 : Hid (Below w.heap.size w (w3.setCell ⟨g3, k, none⟩ (.int .u8 (z : Int)))) := HB3.out.setCell (by show w.heap.size ≤ g3; have := HB2.out.size; omega) _
      obtain ⟨y, hy⟩ : ∃ y, y = sv[k] := ⟨_, rfl⟩
      rw [← hy] at hzb' hc4
      obtain ⟨l2, hl2⟩ : ∃ l2, l2 = sv.set k (z : Int) := ⟨_, rfl⟩
      rw [← hl2] at ho4
      have HY4 : Hid (BytesAt (w3.setCell ⟨g3, k, none⟩ (.int .u8 (z : Int))).heap.size (w3.setCell ⟨g3, k, none⟩ (.int .u8 (z : Int))) (.slice (some ⟨g3, 0, none⟩) sv.length cap3) l2) := by
        have := bytes_of_row ho4
        rw [hl2, List.length_set] at this
        rw [hl2]
        exact this
      have HBY : Hid (ByL l2) := fun x hx => by
        rw [hl2] at hx
        rcases List.mem_or_eq_of_mem_set hx with q | q
        · exact HSB.out x q
        · omega
      clear hzb hy hl2 ho4 hg4
      go_wp2_with fail
      refine (load_any l2 _ _ HY4.out HBY.out).mono ?_
      rintro e w5 ⟨px, rfl, hnx, htx, hB5⟩
      have HY5 : Hid (BytesAt w5.heap.size w5 (.slice (some ⟨g3, 0, none⟩) sv.length cap3) l2) := (HY4.out.below hB5).mono hB5.size
      have HB5 : Hid (Below w.heap.size w w5) := HB4.out.trans (hB5.mono HB4.out.size)
      clear hB5
      go_wp2_with fail
      refine (refLoad_any l2 _ w5 HY5.out HBY.out).mono ?_
      rintro e w6 ⟨py, rfl, hny, hty, hB6⟩
      have HY6 : Hid (BytesAt w6.heap.size w6 (.slice (some ⟨g3, 0, none⟩) sv.length cap3) l2) := (HY5.out.below hB6).mono hB6.size
      have HB6 : Hid (Below w.heap.size w w6) := HB5.out.trans (hB6.mono HB5.out.size)
      by_cases hb : okL l2
      · have e0 : errL l2 = 0 := errL_yes hb
        have hTX := (htx e0).below hB6
        obtain ⟨gx, rfl⟩ := hTX.ptr
        obtain ⟨gy, rfl, _⟩ := hty e0
        rw [e0]
        have hFX : Fine (likeL l2) (firstL l2) := fineL HBY.out hb
        have HRB : Hid (rawSave (likeL l2) (firstL l2) = l2) := raw_back HBY.out hb.1
        obtain ⟨HTX, HFX⟩ : Hid (TrieAt w6.heap.size w6 (.pointer (some ⟨gx, 0, none⟩)) (likeL l2) (firstL l2)) ∧ Hid (Fine (likeL l2) (firstL l2)) := ⟨hTX.mono hB6.size, hFX⟩
        have HRL : Hid ((rawSave (likeL l2) (firstL l2)).length = 4353 + 256 * (firstL l2).length) := raw_length5 hFX
        clear hnx htx hny hty hTX hFX e0 hb hB6
        go_wp2_with fail
        refine wp_region_bad (fun w' => Below w6.heap.size w6 w') [] (by kernel_rfl) ((Below.refl _ _).drew) (fun hS => ?_)
        refine wpAnyB_pure (i := 0) (v := .pointer (some ⟨gx, 0, none⟩)) rfl (by kernel_rfl) (fun _ _ _ h => h) (Or.inl ⟨by rfl, fun w _ => by go_simp⟩) hS ?_
        simp only [List.getElem_toArray, List.getElem_cons_zero, Act.put, List.setIfInBounds_toArray, List.set_cons_zero, List.set_cons_succ]
        refine wpAnyB_pure (i := 1) (v := .bool false) rfl (by kernel_rfl) (fun _ _ _ h => h) (Or.inl ⟨by rfl, fun w _ => by go_simp⟩) hS ?_
        simp only [List.getElem_toArray, List.getElem_cons_succ, List.getElem_cons_zero, Act.put, List.setIfInBounds_toArray, List.set_cons_zero, List.set_cons_succ]
        refine wpAnyB_pure (i := 2) (v := .bool false) rfl (by kernel_rfl) (fun _ _ _ h => h) (Or.inl ⟨by rfl, fun w _ => by go_simp⟩) hS ?_
        simp only [List.getElem_toArray, List.getElem_cons_succ, List.getElem_cons_zero, Act.put, List.setIfInBounds_toArray, List.set_cons_zero, List.set_cons_succ]
        refine wpAnyB_pure (i := 3) (v := .pointer (some ⟨gx, 0, none⟩)) rfl (by kernel_rfl) (fun _ _ _ h => h) (Or.inl ⟨by rfl, fun w _ => by go_simp⟩) hS ?_
        simp only [List.getElem_toArray, List.getElem_cons_succ, List.getElem_cons_zero, Act.put, List.setIfInBounds_toArray, List.set_cons_zero, List.set_cons_succ]
        refine wpAnyB_pure (i := 6) (v := .slice (some ⟨g3, 0, none⟩) sv.length cap3) rfl (by kernel_rfl) (fun _ _ _ h => h) (Or.inl ⟨by rfl, fun w _ => by go_simp⟩) hS ?_
        simp only [List.getElem_toArray, List.getElem_cons_succ, List.getElem_cons_zero, Act.put, List.setIfInBounds_toArray, List.set_cons_zero, List.set_cons_succ]
        refine wpAnyB_take [] (i := 7) (v := .string (strOfNums l2)) rfl (by kernel_rfl) (fun _ _ _ h => h) (yields_convert (by rfl) rfl rfl (fun w' hw' => (HY6.out.below hw').conv)) hS ?_
        simp only [List.getElem_toArray, List.getElem_cons_succ, List.getElem_cons_zero, Act.put, List.setIfInBounds_toArray, List.set_cons_zero, List.set_cons_succ]
        refine wpAnyB_one (i := 4) rfl (by kernel_rfl) (fun K hK => ?_)
        go_simp
        refine (save_any _ _ _ w6.drew (HTX.out.below hS) HFX.out).mono ?_
        rintro e w7 ⟨v7, rfl, ho7, hB7⟩
        have HY7 : Hid (BytesAt w7.heap.size w7 v7 l2) := by
          have := bytes_of_row (w := w7) (v := v7) (l := rawSave (likeL l2) (firstL l2)) (by rw [HRL.out]; exact ho7)
          rw [HRB.out] at this
          exact this
        have HB7 : Hid (Below w6.heap.size w6 w7) := hS.trans hB7
        refine hK.out _ _ HB7.out ?_
        refine wpAnyB_mono (S' := fun w' => Below w7.heap.size w7 w') (fun w' h => HB7.out.trans (h.mono HB7.out.size)) ?_
        clear hK K ho7 hB7 hS
        have hS7 : Below w7.heap.size w7 w7 := Below.refl _ _
        refine wpAnyB_take [] (i := 5) (v := .string (strOfNums l2)) rfl (by kernel_rfl) (fun _ _ _ h => h) (yields_convert (by rfl) rfl rfl (fun w' hw' => (HY7.out.below hw').conv)) hS7 ?_
        simp only [List.getElem_toArray, List.getElem_cons_succ, List.getElem_cons_zero, Act.put, List.setIfInBounds_toArray, List.set_cons_zero, List.set_cons_succ]
        refine wpAnyB_pure (i := 8) (v := .bool true) rfl (by kernel_rfl) (fun _ _ _ h => h) (Or.inl ⟨by rfl, fun w _ => by go_simp⟩) hS7 ?_
        simp only [List.getElem_toArray, List.getElem_cons_succ, List.getElem_cons_zero, Act.put, List.setIfInBounds_toArray, List.set_cons_zero, List.set_cons_succ]
        refine wpAnyB_pure (i := 9) (v := .bool true) rfl (by kernel_rfl) (fun _ _ _ h => h) (Or.inl ⟨by rfl, fun w _ => by go_simp⟩) hS7 ?_
        simp only [List.getElem_toArray, List.getElem_cons_succ, List.getElem_cons_zero, Act.put, List.setIfInBounds_toArray, List.set_cons_zero, List.set_cons_succ]
        refine wpAnyB_pure (i := 10) (v := .bool true) rfl (by kernel_rfl) (fun _ _ _ h => h) (Or.inl ⟨by rfl, fun w _ => by go_simp⟩) hS7 ?_
        simp only [List.getElem_toArray, List.getElem_cons_succ, List.getElem_cons_zero, Act.put, List.setIfInBounds_toArray, List.set_cons_zero, List.set_cons_succ]
        refine wpAnyB_done (by kernel_rfl) ?_ _
        refine NoPanic.normal ?_
        clear hS7
        go_wp2
        go_ret
        exact ⟨rfl, HB6.out.trans (HB7.out.mono HB6.out.size)⟩
      · have e0 : errL l2 = 2 := errL_not hb
        obtain rfl := hnx (by rw [e0]; omega)
        obtain rfl := hny (by rw [e0]; omega)
        rw [e0]
        clear hnx htx hny hty e0 hb hB6
        go_wp2_with fail
        refine wp_region_bad (fun w' => Below w6.heap.size w6 w') [] (by kernel_rfl) ((Below.refl _ _).drew) (fun hS => ?_)
        refine wpAnyB_pure (i := 0) (v := .pointer none) rfl (by kernel_rfl) (fun _ _ _ h => h) (Or.inl ⟨by rfl, fun w _ => by go_simp⟩) hS ?_
        simp only [List.getElem_toArray, List.getElem_cons_zero, Act.put, List.setIfInBounds_toArray, List.set_cons_zero, List.set_cons_succ]
        refine wpAnyB_pure (i := 1) (v := .bool true) rfl (by kernel_rfl) (fun _ _ _ h => h) (Or.inl ⟨by rfl, fun w _ => by go_simp⟩) hS ?_
        simp only [List.getElem_toArray, List.getElem_cons_succ, List.getElem_cons_zero, Act.put, List.setIfInBounds_toArray, List.set_cons_zero, List.set_cons_succ]
        refine wpAnyB_pure (i := 2) (v := .bool true) rfl (by kernel_rfl) (fun _ _ _ h => h) (Or.inl ⟨by rfl, fun w _ => by go_simp⟩) hS ?_
        simp only [List.getElem_toArray, List.getElem_cons_succ, List.getElem_cons_zero, Act.put, List.setIfInBounds_toArray, List.set_cons_zero, List.set_cons_succ]
        refine wpAnyB_pure (i := 3) (v := undef) rfl (by kernel_rfl) (fun _ _ _ h => h) (Or.inr ⟨by rfl, rfl⟩) hS ?_
        simp only [List.getElem_toArray, List.getElem_cons_succ, List.getElem_cons_zero, Act.put, List.setIfInBounds_toArray, List.set_cons_zero, List.set_cons_succ]
        refine wpAnyB_pure (i := 4) (v := undef) rfl (by kernel_rfl) (fun _ _ _ h => h) (Or.inr ⟨by rfl, rfl⟩) hS ?_
        simp only [List.getElem_toArray, List.getElem_cons_succ, List.getElem_cons_zero, Act.put, List.setIfInBounds_toArray, List.set_cons_zero, List.set_cons_succ]
        refine wpAnyB_pure (i := 5) (v := undef) rfl (by kernel_rfl) (fun _ _ _ h => h) (Or.inr ⟨by rfl, rfl⟩) hS ?_
        simp only [List.getElem_toArray, List.getElem_cons_succ, List.getElem_cons_zero, Act.put, List.setIfInBounds_toArray, List.set_cons_zero, List.set_cons_succ]
        refine wpAnyB_pure (i := 6) (v := undef) rfl (by kernel_rfl) (fun _ _ _ h => h) (Or.inr ⟨by rfl, rfl⟩) hS ?_
        simp only [List.getElem_toArray, List.getElem_cons_succ, List.getElem_cons_zero, Act.put, List.setIfInBounds_toArray, List.set_cons_zero, List.set_cons_succ]
        refine wpAnyB_pure (i := 7) (v := undef) rfl (by kernel_rfl) (fun _ _ _ h => h) (Or.inr ⟨by rfl, rfl⟩) hS ?_
        simp only [List.getElem_toArray, List.getElem_cons_succ, List.getElem_cons_zero, Act.put, List.setIfInBounds_toArray, List.set_cons_zero, List.set_cons_succ]
        refine wpAnyB_pure (i := 8) (v := undef) rfl (by kernel_rfl) (fun _ _ _ h => h) (Or.inr ⟨by rfl, rfl⟩) hS ?_
        simp only [List.getElem_toArray, List.getElem_cons_succ, List.getElem_cons_zero, Act.put, List.setIfInBounds_toArray, List.set_cons_zero, List.set_cons_succ]
        refine wpAnyB_pure (i := 9) (v := .bool true) rfl (by kernel_rfl) (fun _ _ _ h => h) (Or.inl ⟨by rfl, fun w _ => by go_simp⟩) hS ?_
        simp only [List.getElem_toArray, List.getElem_cons_succ, List.getElem_cons_zero, Act.put, List.setIfInBounds_toArray, List.set_cons_zero, List.set_cons_succ]
        refine wpAnyB_pure (i := 10) (v := .bool true) rfl (by kernel_rfl) (fun _ _ _ h => h) (Or.inl ⟨by rfl, fun w _ => by go_simp⟩) hS ?_
        simp only [List.getElem_toArray, List.getElem_cons_succ, List.getElem_cons_zero, Act.put, List.setIfInBounds_toArray, List.set_cons_zero, List.set_cons_succ]
        refine wpAnyB_done (by kernel_rfl) ?_ _
        refine NoPanic.normal ?_
        have HS : Hid (Below w6.heap.size w6 w6.drew) := hS
        clear hS
        go_wp2
        go_ret
        exact ⟨rfl, HB6.out.trans (HS.out.mono HB6.out.size)⟩
    · have hkl' : decide ((k : Int) < (sv.length : Int)) = false := by simp; omega
      have hkl2 : decide (k < sv.length) = false := by simp; omega
      obtain ⟨m, hm, hmb⟩ := and_small (k : Int) 511 (by omega)
      have hmb' : bits BinOp.and IntKind.i64 (k : Int) 511 = (m : Int) := hmb
      clear hmb
      obtain ⟨g3, rfl⟩ : ∃ g3, a3 = some ⟨g3, 0, none⟩ := by
        rcases HO3.out.2 with ⟨_, h0⟩ | ⟨g', cap', cur, e, _⟩
        · have := HSN.out; omega
        · exact ⟨g', by simpa using (by simpa using e : _ ∧ _).1⟩
      have HSL : Hid (sv.length ≤ 80000) := by show _ ≤ _; have := HSN.out; have := HPO.out; omega
      obtain ⟨l2, hl2⟩ : ∃ l2, l2 = sv ++ List.replicate m 0 := ⟨_, rfl⟩
      have HL2 : Hid (l2 = sv ++ List.replicate m 0) := hl2
      have HBY : Hid (ByL l2) := fun x hx => by
        rw [hl2] at hx
        rcases List.mem_append.1 hx with q | q
        · exact HSB.out x q
        · have := (List.mem_replicate.1 q).2; omega
      clear hl2 hkl
      go_wp2_with (first | (at_builtin; go_must (refine wpList_append_zeros _ rfl _ _ 33 3 rfl 5 iU Try.undUs Try.undI hiU hzU0 hzU1 hzU2 w2.heap.size g3 sv.length cap3 (i8 sv) rfl HO3.out m rfl (by have := HSL.out; omega) (by omega) ?_; intro v4 w4 ho4 hg4; obtain ⟨a4, cap4, rfl⟩ := slice_of_row ho4; have HY4 : Hid (BytesAt w4.heap.size w4 (.slice a4 (sv.length + m) cap4) l2) := (by have h0 := HL2.out; have h1 : i8 l2 = i8 sv ++ List.replicate m (.int .u8 0) := (by rw [h0, i8_append]; simp [i8]); have h2 : l2.length = sv.length + m := (by rw [h0, List.length_append, List.length_replicate]); have h3 := bytes_of_row (w := w4) (base := w2.heap.size) (v := .slice a4 (sv.length + m) cap4) (l := l2) (by rw [h1, h2]; exact ho4); exact h3); have HB4 : Hid (Below w.heap.size w w4) := HB3.out.grown hg4 HB3.out.size (fun j e => (by have h5 := (HO3.out.lt g3 rfl).1; have h6 : g3 = j := (by simpa using e); have := HB2.out.size; omega)); clear ho4 hg4)) | fail)
      go_wp2_with fail
      refine (load_any l2 _ _ HY4.out HBY.out).mono ?_
      rintro e w5 ⟨px, rfl, hnx, htx, hB5⟩
      have HY5 : Hid (BytesAt w5.heap.size w5 (.slice a4 (sv.length + m) cap4) l2) := (HY4.out.below hB5).mono hB5.size
      have HB5 : Hid (Below w.heap.size w w5) := HB4.out.trans (hB5.mono HB4.out.size)
      clear hB5
      go_wp2_with fail
      refine (refLoad_any l2 _ w5 HY5.out HBY.out).mono ?_
      rintro e w6 ⟨py, rfl, hny, hty, hB6⟩
      have HY6 : Hid (BytesAt w6.heap.size w6 (.slice a4 (sv.length + m) cap4) l2) := (HY5.out.below hB6).mono hB6.size
      have HB6 : Hid (Below w.heap.size w w6) := HB5.out.trans (hB6.mono HB5.out.size)
      by_cases hb : okL l2
      · have e0 : errL l2 = 0 := errL_yes hb
        have hTX := (htx e0).below hB6
        obtain ⟨gx, rfl⟩ := hTX.ptr
        obtain ⟨gy, rfl, _⟩ := hty e0
        rw [e0]
        have hFX : Fine (likeL l2) (firstL l2) := fineL HBY.out hb
        have HRB : Hid (rawSave (likeL l2) (firstL l2) = l2) := raw_back HBY.out hb.1
        obtain ⟨HTX, HFX⟩ : Hid (TrieAt w6.heap.size w6 (.pointer (some ⟨gx, 0, none⟩)) (likeL l2) (firstL l2)) ∧ Hid (Fine (likeL l2) (firstL l2)) := ⟨hTX.mono hB6.size, hFX⟩
        have HRL : Hid ((rawSave (likeL l2) (firstL l2)).length = 4353 + 256 * (firstL l2).length) := raw_length5 hFX
        clear hnx htx hny hty hTX hFX e0 hb hB6
        go_wp2_with fail
        refine wp_region_bad (fun w' => Below w6.heap.size w6 w') [] (by kernel_rfl) ((Below.refl _ _).drew) (fun hS => ?_)
        refine wpAnyB_pure (i := 0) (v := .pointer (some ⟨gx, 0, none⟩)) rfl (by kernel_rfl) (fun _ _ _ h => h) (Or.inl ⟨by rfl, fun w _ => by go_simp⟩) hS ?_
        simp only [List.getElem_toArray, List.getElem_cons_zero, Act.put, List.setIfInBounds_toArray, List.set_cons_zero, List.set_cons_succ]
        refine wpAnyB_pure (i := 1) (v := .bool false) rfl (by kernel_rfl) (fun _ _ _ h => h) (Or.inl ⟨by rfl, fun w _ => by go_simp⟩) hS ?_
        simp only [List.getElem_toArray, List.getElem_cons_succ, List.getElem_cons_zero, Act.put, List.setIfInBounds_toArray, List.set_cons_zero, List.set_cons_succ]
        refine wpAnyB_pure (i := 2) (v := .bool false) rfl (by kernel_rfl) (fun _ _ _ h => h) (Or.inl ⟨by rfl, fun w _ => by go_simp⟩) hS ?_
        simp only [List.getElem_toArray, List.getElem_cons_succ, List.getElem_cons_zero, Act.put, List.setIfInBounds_toArray, List.set_cons_zero, List.set_cons_succ]
        refine wpAnyB_pure (i := 3) (v := .pointer (some ⟨gx, 0, none⟩)) rfl (by kernel_rfl) (fun _ _ _ h => h) (Or.inl ⟨by rfl, fun w _ => by go_simp⟩) hS ?_
        simp only [List.getElem_toArray, List.getElem_cons_succ, List.getElem_cons_zero, Act.put, List.setIfInBounds_toArray, List.set_cons_zero, List.set_cons_succ]
        refine wpAnyB_pure (i := 6) (v := .slice a4 (sv.length + m) cap4) rfl (by kernel_rfl) (fun _ _ _ h => h) (Or.inl ⟨by rfl, fun w _ => by go_simp⟩) hS ?_
        simp only [List.getElem_toArray, List.getElem_cons_succ, List.getElem_cons_zero, Act.put, List.setIfInBounds_toArray, List.set_cons_zero, List.set_cons_succ]
        refine wpAnyB_take [] (i := 7) (v := .string (strOfNums l2)) rfl (by kernel_rfl) (fun _ _ _ h => h) (yields_convert (by rfl) rfl rfl (fun w' hw' => (HY6.out.below hw').conv)) hS ?_
        simp only [List.getElem_toArray, List.getElem_cons_succ, List.getElem_cons_zero, Act.put, List.setIfInBounds_toArray, List.set_cons_zero, List.set_cons_succ]
        refine wpAnyB_one (i := 4) rfl (by kernel_rfl) (fun K hK => ?_)
        go_simp
        refine (save_any _ _ _ w6.drew (HTX.out.below hS) HFX.out).mono ?_
        rintro e w7 ⟨v7, rfl, ho7, hB7⟩
        have HY7 : Hid (BytesAt w7.heap.size w7 v7 l2) := by
          have := bytes_of_row (w := w7) (v := v7) (l := rawSave (likeL l2) (firstL l2)) (by rw [HRL.out]; exact ho7)
          rw [HRB.out] at this
          exact this
        have HB7 : Hid (Below w6.heap.size w6 w7) := hS.trans hB7
        refine hK.out _ _ HB7.out ?_
        refine wpAnyB_mono (S' := fun w' => Below w7.heap.size w7 w') (fun w' h => HB7.out.trans (h.mono HB7.out.size)) ?_
        clear hK K ho7 hB7 hS
        have hS7 : Below w7.heap.size w7 w7 := Below.refl _ _
        refine wpAnyB_take [] (i := 5) (v := .string (strOfNums l2)) rfl (by kernel_rfl) (fun _ _ _ h => h) (yields_convert (by rfl) rfl rfl (fun w' hw' => (HY7.out.below hw').conv)) hS7 ?_
        simp only [List.getElem_toArray, List.getElem_cons_succ, List.getElem_cons_zero, Act.put, List.setIfInBounds_toArray, List.set_cons_zero, List.set_cons_succ]
        refine wpAnyB_pure (i := 8) (v := .bool true) rfl (by kernel_rfl) (fun _ _ _ h => h) (Or.inl ⟨by rfl, fun w _ => by go_simp⟩) hS7 ?_
        simp only [List.getElem_toArray, List.getElem_cons_succ, List.getElem_cons_zero, Act.put, List.setIfInBounds_toArray, List.set_cons_zero, List.set_cons_succ]
        refine wpAnyB_pure (i := 9) (v := .bool true) rfl (by kernel_rfl) (fun _ _ _ h => h) (Or.inl ⟨by rfl, fun w _ => by go_simp⟩) hS7 ?_
        simp only [List.getElem_toArray, List.getElem_cons_succ, List.getElem_cons_zero, Act.put, List.setIfInBounds_toArray, List.set_cons_zero, List.set_cons_succ]
        refine wpAnyB_pure (i := 10) (v := .bool true) rfl (by kernel_rfl) (fun _ _ _ h => h) (Or.inl ⟨by rfl, fun w _ => by go_simp⟩) hS7 ?_
        simp only [List.getElem_toArray, List.getElem_cons_succ, List.getElem_cons_zero, Act.put, List.setIfInBounds_toArray, List.set_cons_zero, List.set_cons_succ]
        refine wpAnyB_done (by kernel_rfl) ?_ _
        refine NoPanic.normal ?_
        clear hS7
        go_wp2
        go_ret
        exact ⟨rfl, HB6.out.trans (HB7.out.mono HB6.out.size)⟩
      · have e0 : errL l2 = 2 := errL_not hb
        obtain rfl := hnx (by rw [e0]; omega)
        obtain rfl := hny (by rw [e0]; omega)
        rw [e0]
        clear hnx htx hny hty e0 hb hB6
        go_wp2_with fail
        refine wp_region_bad (fun w' => Below w6.heap.size w6 w') [] (by kernel_rfl) ((Below.refl _ _).drew) (fun hS => ?_)
        refine wpAnyB_pure (i := 0) (v := .pointer none) rfl (by kernel_rfl) (fun _ _ _ h => h) (Or.inl ⟨by rfl, fun w _ => by go_simp⟩) hS ?_
        simp only [List.getElem_toArray, List.getElem_cons_zero, Act.put, List.setIfInBounds_toArray, List.set_cons_zero, List.set_cons_succ]
        refine wpAnyB_pure (i := 1) (v := .bool true) rfl (by kernel_rfl) (fun _ _ _ h => h) (Or.inl ⟨by rfl, fun w _ => by go_simp⟩) hS ?_
        simp only [List.getElem_toArray, List.getElem_cons_succ, List.getElem_cons_zero, Act.put, List.setIfInBounds_toArray, List.set_cons_zero, List.set_cons_succ]
        refine wpAnyB_pure (i := 2) (v := .bool true) rfl (by kernel_rfl) (fun _ _ _ h => h) (Or.inl ⟨by rfl, fun w _ => by go_simp⟩) hS ?_
        simp only [List.getElem_toArray, List.getElem_cons_succ, List.getElem_cons_zero, Act.put, List.setIfInBounds_toArray, List.set_cons_zero, List.set_cons_succ]
        refine wpAnyB_pure (i := 3) (v := undef) rfl (by kernel_rfl) (fun _ _ _ h => h) (Or.inr ⟨by rfl, rfl⟩) hS ?_
        simp only [List.getElem_toArray, List.getElem_cons_succ, List.getElem_cons_zero, Act.put, List.setIfInBounds_toArray, List.set_cons_zero, List.set_cons_succ]
        refine wpAnyB_pure (i := 4) (v := undef) rfl (by kernel_rfl) (fun _ _ _ h => h) (Or.inr ⟨by rfl, rfl⟩) hS ?_
        simp only [List.getElem_toArray, List.getElem_cons_succ, List.getElem_cons_zero, Act.put, List.setIfInBounds_toArray, List.set_cons_zero, List.set_cons_succ]
        refine wpAnyB_pure (i := 5) (v := undef) rfl (by kernel_rfl) (fun _ _ _ h => h) (Or.inr ⟨by rfl, rfl⟩) hS ?_
        simp only [List.getElem_toArray, List.getElem_cons_succ, List.getElem_cons_zero, Act.put, List.setIfInBounds_toArray, List.set_cons_zero, List.set_cons_succ]
        refine wpAnyB_pure (i := 6) (v := undef) rfl (by kernel_rfl) (fun _ _ _ h => h) (Or.inr ⟨by rfl, rfl⟩) hS ?_
        simp only [List.getElem_toArray, List.getElem_cons_succ, List.getElem_cons_zero, Act.put, List.setIfInBounds_toArray, List.set_cons_zero, List.set_cons_succ]
        refine wpAnyB_pure (i := 7) (v := undef) rfl (by kernel_rfl) (fun _ _ _ h => h) (Or.inr ⟨by rfl, rfl⟩) hS ?_
        simp only [List.getElem_toArray, List.getElem_cons_succ, List.getElem_cons_zero, Act.put, List.setIfInBounds_toArray, List.set_cons_zero, List.set_cons_succ]
        refine wpAnyB_pure (i := 8) (v := undef) rfl (by kernel_rfl) (fun _ _ _ h => h) (Or.inr ⟨by rfl, rfl⟩) hS ?_
        simp only [List.getElem_toArray, List.getElem_cons_succ, List.getElem_cons_zero, Act.put, List.setIfInBounds_toArray, List.set_cons_zero, List.set_cons_succ]
        refine wpAnyB_pure (i := 9) (v := .bool true) rfl (by kernel_rfl) (fun _ _ _ h => h) (Or.inl ⟨by rfl, fun w _ => by go_simp⟩) hS ?_
        simp only [List.getElem_toArray, List.getElem_cons_succ, List.getElem_cons_zero, Act.put, List.setIfInBounds_toArray, List.set_cons_zero, List.set_cons_succ]
        refine wpAnyB_pure (i := 10) (v := .bool true) rfl (by kernel_rfl) (fun _ _ _ h => h) (Or.inl ⟨by rfl, fun w _ => by go_simp⟩) hS ?_
        simp only [List.getElem_toArray, List.getElem_cons_succ, List.getElem_cons_zero, Act.put, List.setIfInBounds_toArray, List.set_cons_zero, List.set_cons_succ]
        refine wpAnyB_done (by kernel_rfl) ?_ _
        refine NoPanic.normal ?_
        have HS : Hid (Below w6.heap.size w6 w6.drew) := hS
        clear hS
        go_wp2
        go_ret
        exact ⟨rfl, HB6.out.trans (HS.out.mono HB6.out.size)⟩
  · have e1 : errB l = 1 := by rw [errB_small (by omega), if_neg g1]
    rw [e1]
    clear hn2 ht2 e1 g1 hB2
    go_wp2
    go_ret
    exact ⟨rfl, HB2.out⟩
end Go.Proofs.Ytpnkljfgdbkffaa
