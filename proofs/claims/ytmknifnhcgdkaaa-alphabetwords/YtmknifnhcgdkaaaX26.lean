/-
  trie.draft.finish: the trie of the draft's values, if there are no more than 256 first blocks.
-/
import Derived.Test.YtmknifnhcgdkaaaX25
namespace Go.Proofs.Ytmknifnhcgdkaaa.S3
open Go.RowKit
set_option linter.unusedVariables false

def intsN (l : List Nat) : List Value := l.map (fun k : Nat => Value.int .i64 (k : Int))
theorem intsN_length (l : List Nat) : (intsN l).length = l.length := by simp [intsN]
theorem Try.zeroTrie (w : World) : (zeroValue 97).run Try.prog w = .ok (.agg (List.replicate 4352 (Value.int .u8 0) ++ [Value.slice none 0 0]).toArray) w := by
  refine (zero_of_info (n := 4353) ?_).1 w
  have := Try.infoTrie
  revert this
  cases Try.prog.info? 97 with
  | none => intro h; cases h
  | some i => intro h; simp only [Option.map_some, Option.some.injEq, Prod.mk.injEq] at h ⊢; exact ⟨h.1, h.2.1⟩
theorem likeTo_zero (bs : List (List Int)) (h : bs.length = 4352) : (List.replicate 4352 (Value.int .u8 0) ++ [Value.slice none 0 0]) = trCells (likeTo bs 0) (.slice none 0 0) := by
  unfold trCells likeTo i8
  rw [List.take_zero, List.map_nil, List.nil_append, h, Nat.sub_zero, List.map_replicate]
theorem blocks_get (f : Int → Int) {i : Nat} (h : i < (blocksF f).length) : (blocksF f)[i] = blkF f i := by simp [blocksF]
theorem Try.undLI : Try.prog.underlying 114 = some (.array 4352 3) := by kernel_rfl

set_option maxRecDepth 100000 in
set_option maxHeartbeats 8000000 in
theorem finish_any (n gd : Nat) (likeD : List Nat) (bl : List (List Int)) (f : Int → Int) (w : World) (h : DrAt n w gd likeD bl) (hs : Says f likeD bl) (hlen : bl.length < 1000000000) :
    Calls Try.prog 56 #[.pointer (some ⟨gd, 0, none⟩)] w fun e w' => ((∃ pv, e = .returned (.tuple #[pv, .int .i64 0]) ∧ (firstsOf (blocksF f)).length ≤ 256 ∧ TrieAt w'.heap.size w' pv ((likeOf (blocksF f)).map (fun k : Nat => (k : Int))) (firstsOf (blocksF f))) ∨ (e = .returned (.tuple #[.pointer none, .int .i64 3]) ∧ 256 < (firstsOf (blocksF f)).length)) ∧ Below w.heap.size w w' := by
  obtain ⟨iB, hiB, hzB0, hzB1, hzB2⟩ := info_parts Try.infoBlock
  have hmm := @run_makeMap Try.prog
  have hzt := Try.zeroTrie
  obtain ⟨bs, hbs⟩ : ∃ bs, bs = blocksF f := ⟨_, rfl⟩
  have hbl : bs.length = 4352 := by rw [hbs, blocksF_length]
  have HGET : Hid (∀ i, (h : i < bs.length) → bs[i] = blkF f i) := by rw [hbs]; exact fun i h => blocks_get f h
  rw [← hbs]
  clear hbs
  obtain ⟨zt, hzT⟩ : ∃ zt, zt = (List.replicate 4352 (Value.int .u8 0) ++ [Value.slice none 0 0]).toArray := ⟨_, rfl⟩
  rw [← hzT] at hzt
  have HZT : Hid (zt = (trCells (likeTo bs 0) (.slice none 0 0)).toArray) := by show _ = _; rw [hzT, likeTo_zero bs hbl]
  clear hzT
  have hDr := h
  obtain ⟨hng, hgdlt, ad, capd, hcd, hck, hfr, hrg⟩ := h.cells
  have HND : Hid (bl.Nodup ∧ ∀ b ∈ bl, IsB b) := by obtain ⟨_, _, _, _, _, _, q1, q2, _⟩ := hDr; exact ⟨q1, q2⟩
  have hld := hs.1
  have hR0 : w.rangeAt gd 0 (intsN likeD) := fun j u hj => by
    obtain ⟨hlt, e⟩ := List.getElem?_eq_some_iff.1 hj
    have hlt' : j < likeD.length := by rw [intsN_length] at hlt; exact hlt
    have h2 := hck j likeD[j] (List.getElem?_eq_getElem hlt')
    rw [Nat.zero_add, h2, ← e]
    simp [intsN]
  have HI4 : Hid ((Try.prog.info? 114).map (·.size) = some (intsN likeD).length) := by show _ = _; rw [intsN_length, hld]; exact Try.sizeLikeI
  obtain ⟨g, hg⟩ : ∃ g, g = w.heap.size := ⟨_, rfl⟩
  obtain ⟨w0, hw0⟩ : ∃ w0, w0 = (w.alloc (.cells zt 97)).alloc (.map #[] 0) := ⟨_, rfl⟩
  have hB0 : Below w.heap.size w w0 := by rw [hw0]; exact ((Below.refl _ _).alloc (Nat.le_refl _) _).alloc (by simp) _
  have hg0 : w0.heap[g]? = some (.cells (trCells (likeTo bs 0) (.slice none 0 0)).toArray 97 (0, 0)) := by rw [hw0, hg, HZT.out]; exact heap_alloc2_old w _ _
  have hm0 : w0.ownsMap Try.prog 3 (plainElem (H := Unit) Try.prog 3) (g + 1) 0 (.map []) := by
    have := World.ownsMap_made (H := Unit) (w.alloc (.cells zt 97)) Try.prog 3 (plainElem Try.prog 3)
    rw [hw0, hg]
    simpa using this
  have hs0 : w0.heap.size = g + 2 := by rw [hw0, hg]; simp
  have hR1 : w0.rangeAt gd 0 (intsN likeD) := fun j u hj => (hB0.cell (p := ⟨gd, 0 + j, none⟩) hgdlt).trans (hR0 j u hj)
  have hLI : ∀ i, i < 4352 → ∃ m b, (intsN likeD).toArray[i]? = some (.int .i64 ((m : Nat) : Int)) ∧ bl[m]? = some b ∧ b = blkF f i := fun i hi => by
    obtain ⟨m, q1, q2⟩ := hs.2 i hi
    refine ⟨m, _, ?_, q2, rfl⟩
    rw [List.getElem?_toArray]
    unfold intsN
    rw [List.getElem?_map, q1]
    rfl
  obtain ⟨LI, hLId⟩ : ∃ LI, LI = (intsN likeD).toArray := ⟨_, rfl⟩
  rw [← hLId] at hLI
  have HLId : Hid (LI = (intsN likeD).toArray) := hLId
  obtain ⟨HW0, HB0, HG0, HM0, HLI, HCD, HRG, HR1, HGE⟩ : Hid (w0 = (w.alloc (.cells zt 97)).alloc (.map #[] 0)) ∧ Hid (Below w.heap.size w w0) ∧ Hid (w0.heap[g]? = some (.cells (trCells (likeTo bs 0) (.slice none 0 0)).toArray 97 (0, 0))) ∧ Hid (w0.ownsMap Try.prog 3 (plainElem (H := Unit) Try.prog 3) (g + 1) 0 (.map [])) ∧ Hid (∀ i, i < 4352 → ∃ m b, LI[i]? = some (.int .i64 ((m : Nat) : Int)) ∧ bl[m]? = some b ∧ b = blkF f i) ∧ Hid (w.cell? ⟨gd, 4352, none⟩ = some (.slice ad bl.length capd)) ∧ Hid (∀ (k : Nat) (b : List Int), bl[k]? = some b → ∃ g, ad = some ⟨g, 0, none⟩ ∧ g < w.heap.size ∧ w.rangeAt g (k * 256) (i8 b)) ∧ Hid (w0.rangeAt gd 0 (intsN likeD)) ∧ Hid (g = w.heap.size) := ⟨hw0, hB0, hg0, hm0, hLI, hcd, hrg, hR1, hg⟩
  have hgw : w.heap.size = g := hg.symm
  have hLsz : LI.size = 4352 := by rw [hLId, List.size_toArray, intsN_length, hld]
  clear hw0 hB0 hg0 hm0 hLI hcd hrg hR1 hR0 hg hck hfr hDr h hs hLId
  go_enter Try.func56, Try.ntmps56
  go_wp2_with (first | (refine wpList_load_mid rfl 114 _ rfl gd 0 rfl (intsN likeD) _ (by first | exact HR1.out | (rw [← HW0.out]; exact HR1.out) | (rw [HW0.out] at HR1; exact HR1.out)) Try.undLI rfl HI4.out ?_) | fail)
  rw [← HLId.out, ← HW0.out]
  go_loopw [17] (fun x wr => ∃ i : Nat, i ≤ 4352 ∧ x = .int .i64 i ∧ ∃ v D, wr.heap[g]? = some (.cells (trCells (likeTo bs i) v).toArray 97 (0, 0)) ∧ wr.ownsRow g 93 256 v (firstsOf (bs.take i)).length (cellsBl (firstsOf (bs.take i))) ∧ wr.ownsMap Try.prog 3 (plainElem (H := Unit) Try.prog 3) (g + 1) (firstsOf (bs.take i)).length D ∧ Placed D bl (firstsOf (bs.take i)) ∧ (firstsOf (bs.take i)).length ≤ 256 ∧ Below w.heap.size w wr ∧ g + 2 ≤ wr.heap.size) (fun x _ => 4352 - (intOf x).toNat)
  case atStart =>
    refine ⟨0, by omega, rfl, .slice none 0 0, .map [], HG0.out, World.ownsRow_nil _ _ _ _, HM0.out, fun m b hm => ⟨by simp [Maps.has, firstsOf, firstsF], fun q => by simp [firstsOf, firstsF] at q⟩, by simp [firstsOf, firstsF], HB0.out, by omega⟩
  case round =>
    obtain ⟨i, hi, rfl, v, D, htr, hrow, hmp, hpl, hF, hB, hws⟩ := hrel
    clear HM0 HG0 HB0
    obtain ⟨F, hFd⟩ : ∃ F, F = firstsOf (bs.take i) := ⟨_, rfl⟩
    rw [← hFd] at hrow hmp hpl hF
    obtain ⟨a, cap, rfl⟩ := slice_of_row hrow
    obtain ⟨HTR, HROW, HMP, HPL, HB, HFD⟩ : Hid (wr.heap[g]? = some (.cells (trCells (likeTo bs i) (.slice a F.length cap)).toArray 97 (0, 0))) ∧ Hid (wr.ownsRow g 93 256 (.slice a F.length cap) F.length (cellsBl F)) ∧ Hid (wr.ownsMap Try.prog 3 (plainElem (H := Unit) Try.prog 3) (g + 1) F.length D) ∧ Hid (Placed D bl F) ∧ Hid (Below w.heap.size w wr) ∧ Hid (F = firstsOf (bs.take i)) := ⟨htr, hrow, hmp, hpl, hB, hFd⟩
    clear htr hrow hmp hpl hB hFd
    by_cases hlt : i < 4352
    · have hlt' : (i : Int) < 4352 := by omega
      obtain ⟨m, b, hL, hmb, hbe⟩ := HLI.out i hlt
      obtain ⟨gb, had, hgb, hrgb⟩ := HRG.out m b hmb
      have hmlt : m < bl.length := (List.getElem?_eq_some_iff.1 hmb).1
      have hbB : IsB b := HND.out.2 b (List.mem_of_getElem? hmb)
      have HBG : Hid (bs[i] = b) := by show _ = _; rw [HGET.out i (by omega), hbe]
      obtain ⟨hst1, hst2⟩ := firsts_step (bs := bs) (i := i) (by omega)
      have HST1 : Hid (firstsOf (bs.take (i + 1)) = addF F b) := by show _ = _; rw [hst1, HBG.out, HFD.out]
      have HST2 : Hid (((likeOf bs)[i]'(by rw [like_length]; omega) : Nat) = (addF F b).idxOf b) := by
        show _ = _
        rw [hst2, HBG.out, HST1.out]
      have HLS : Hid ((likeTo bs i).set i (((addF F b).idxOf b : Nat) : Int) = likeTo bs (i + 1)) := by
        show _ = _
        rw [← HST2.out]
        exact likeTo_step (by omega)
      have hll : (likeTo bs i).length = 4352 := by rw [likeTo_length (by omega), hbl]
      obtain ⟨x8, hcl⟩ : ∃ x8, wr.cell? ⟨g, i, none⟩ = some x8 := ⟨_, cell_row HTR.out (trCells_like (by omega))⟩
      have hfl : wr.frozen? ⟨g, i, none⟩ = false := frozen_of_row _ _ _ _ _ HTR.out
      have HP := HPL.out m b hmb
      have hIX : ∀ w', (Instr.index 114 (.agg LI) (.int .i64 (i : Int))).run Try.prog w' = .ok (.int .i64 (m : Int)) w' := fun w' => run_index_at Try.undLI Try.undI Try.sizeInt hlt hL rfl w'
      clear hL
      obtain ⟨HMB, HRGB, HLL, HAD⟩ : Hid (bl[m]? = some b) ∧ Hid (w.rangeAt gb (m * 256) (i8 b)) ∧ Hid ((likeTo bs i).length = 4352) ∧ Hid (ad = some ⟨gb, 0, none⟩) := ⟨hmb, hrgb, hll, had⟩
      by_cases q : b ∈ F
      · have hh : Maps.has D (.int .i64 (m : Int)) = true := HP.1.2 q
        have hat0 := HP.2 q
        have HQ : Hid (addF F b = F) := addF_of_mem q
        have hix : F.idxOf b < 256 := Nat.lt_of_lt_of_le (List.idxOf_lt_length_of_mem q) hF
        obtain ⟨ix, hixd⟩ : ∃ ix : Nat, ix = F.idxOf b := ⟨_, rfl⟩
        have HIX : Hid (ix = F.idxOf b) := hixd
        rw [← hixd] at hat0 hix
        have HAT : Hid (D.atKey (.int .i64 (m : Int)) (.lit (.int .i64 0)) = .lit (.int .i64 (ix : Nat))) := hat0
        clear hst1 hst2 hmb hbe hrgb hll HP hat0 had q hixd
        have hix2 : (ix : Int) < 256 := by omega
        go_wp2_with (first | (refine wpList_lookup_own_ok_int _ rfl _ _ 119 rfl 3 3 .i64 Try.keyLawI Try.undMI Try.undI (Try.zeroInt _) (g + 1) F.length D rfl HMP.out _ (.int .i64 (m : Int)) rfl (Maps.keyOf_int_mk Try.undI (WalkArith.wf_i64 (by omega))) ?_; intro c hat hwc; obtain rfl : (ix : Int) = c := (by rw [HAT.out] at hat; simpa using hat); clear hat hwc) | fail)
        go_roundw
        case rel =>
          refine ⟨i + 1, by omega, by go_num, .slice a F.length cap, D, ?_, ?_, ?_, ?_, ?_, HB.out.setCell (show w.heap.size ≤ g by omega) _, by simp [World.setCell]; omega⟩
          · refine heap_set_row HTR.out ?_
            rw [trCells_setLike (by have := HLL.out; omega), ← HLS.out, HQ.out, HIX.out]
          · rw [HST1.out, HQ.out]
            have e2 := own_ne HROW.out HTR.out (by decide)
            have hsc : wr.grownBy (wr.setCell ⟨g, i, none⟩ (.int .u8 (ix : Int))) (some g) := ⟨rfl, rfl, rfl, by simp [World.setCell], fun k hk hne => heap_setCell_other _ _ _ _ (fun e => hne (by rw [e]))⟩
            exact HROW.out.kept hsc (.inr e2)
          · rw [HST1.out, HQ.out]
            exact HMP.out.setCell (by show g + 1 ≠ g; omega) _
          · rw [HST1.out, HQ.out]; exact HPL.out
          · rw [HST1.out, HQ.out]; exact hF
        case measure => simp [intOf]; omega
      · have hh : Maps.has D (.int .i64 (m : Int)) = false := by
          cases z : Maps.has D (.int .i64 (m : Int)) with
          | false => rfl
          | true => exact absurd (HP.1.1 z) q
        have HQ : Hid (¬ b ∈ F) := q
        have hcf : wr.cell? ⟨g, 4352, none⟩ = some (.slice a F.length cap) := cell_row HTR.out (trCells_at HLL.out)
        have HI : Hid ((Try.prog.info? 93).map (·.size) = some (i8 b).length) := by show _ = _; rw [i8_length, hbB.1]; exact Try.sizeBlock
        clear hst1 hst2 hmb hbe hrgb hll HP had q
        by_cases q256 : F.length = 256
        · have q3 : ((F.length : Int)) = 256 := by omega
          go_wp2_with (first | (refine wpList_lookup_own_ok_int _ rfl _ _ 119 rfl 3 3 .i64 Try.keyLawI Try.undMI Try.undI (Try.zeroInt _) (g + 1) F.length D rfl HMP.out _ (.int .i64 (m : Int)) rfl (Maps.keyOf_int_mk Try.undI (WalkArith.wf_i64 (by omega))) ?_; intro c hat hwc) | fail)
          go_ret2
          refine ⟨.inr ⟨rfl, ?_⟩, HB.out⟩
          have h1 := firsts_take_le bs (i + 1)
          rw [HST1.out, addF_new HQ.out, List.length_append] at h1
          simp only [List.length_cons, List.length_nil] at h1
          omega
        · have q3 : ¬ ((F.length : Int) = 256) := by omega
          have hf2 : (F.length : Int) < 256 := by omega
          clear hcl hfl
          go_wp2_with (first | (refine wpList_lookup_own_ok_int _ rfl _ _ 119 rfl 3 3 .i64 Try.keyLawI Try.undMI Try.undI (Try.zeroInt _) (g + 1) F.length D rfl HMP.out _ (.int .i64 (m : Int)) rfl (Maps.keyOf_int_mk Try.undI (WalkArith.wf_i64 (by omega))) ?_; intro c hat hwc) | (refine wpList_mapUpdate_own _ rfl _ _ _ 119 rfl 3 3 Try.keyLawI Try.undMI _ (g + 1) F.length D rfl HMP.out (by unfold maxLen; omega) _ _ (.int .i64 (m : Int)) rfl rfl (Maps.keyOf_int_mk Try.undI (WalkArith.wf_i64 (by omega))) (.lit (.int .i64 (F.length : Int))) [] (plainElem_int Try.undI (WalkArith.wf_i64 (by omega))) ?_; intro w1 hm1 hg1) | fail)
          simp only [Act.put]
          have hs1 := hg1.size
          have htr1 : w1.heap[g]? = some (.cells (trCells (likeTo bs i) (.slice a F.length cap)).toArray 97 (0, 0)) := (hg1.block g (by omega) (by simp)).trans HTR.out
          have hrow1 : w1.ownsRow g 93 256 (.slice a F.length cap) F.length (cellsBl F) := HROW.out.kept hg1 (.inr (own_ne_map HMP.out HROW.out))
          have hB1 : Below w.heap.size w w1 := HB.out.grown hg1 (by omega) (fun k hk => by
            have : g + 1 = k := by simpa using hk
            omega)
          have HCF : Hid (∀ w', Below w1.heap.size w1 w' → w'.cell? ⟨g, 4352, none⟩ = some (.slice a F.length cap)) := fun w' hw' => (hw'.cell (p := ⟨g, 4352, none⟩) (by show g < _; omega)).trans (cell_row htr1 (trCells_at HLL.out))
          have HCD1 : Hid (∀ w', Below w1.heap.size w1 w' → w'.cell? ⟨gd, 4352, none⟩ = some (.slice (some ⟨gb, 0, none⟩) bl.length capd)) := fun w' hw' => (hw'.cell (p := ⟨gd, 4352, none⟩) (by show gd < _; omega)).trans ((hB1.cell (p := ⟨gd, 4352, none⟩) hgdlt).trans (by rw [← HAD.out]; exact HCD.out))
          have HRG1 : Hid (∀ w', Below w1.heap.size w1 w' → w'.rangeAt gb (m * 256) (i8 b)) := fun w' hw' j u hj => (hw'.cell (p := ⟨gb, m * 256 + j, none⟩) (by show gb < _; omega)).trans ((hB1.cell (p := ⟨gb, m * 256 + j, none⟩) hgb).trans (HRGB.out j u hj))
          obtain ⟨HTR1, HROW1, HB1, HM1⟩ : Hid (w1.heap[g]? = some (.cells (trCells (likeTo bs i) (.slice a F.length cap)).toArray 97 (0, 0))) ∧ Hid (w1.ownsRow g 93 256 (.slice a F.length cap) F.length (cellsBl F)) ∧ Hid (Below w.heap.size w w1) ∧ Hid (w1.ownsMap Try.prog 3 (plainElem (H := Unit) Try.prog 3) (g + 1) (F.length + 1) (D.put (.int .i64 (m : Int)) (.lit (.int .i64 (F.length : Int))))) := ⟨htr1, hrow1, hB1, hm1⟩
          have HIM : Hid (Maps.IsMap D) := HMP.out.isMap
          have hmi : (m : Int) < (bl.length : Int) := by omega
          clear hm1 hg1 htr1 hrow1 hB1 hat hwc hcf hIX
          refine wp_region_bad (fun w' => Below w1.heap.size w1 w') [13, 16] (by kernel_rfl) ((Below.refl _ _).drew) (fun hS => ?_)
          have hCF := HCF.out
          have hCD := HCD1.out
          have hRG := HRG1.out
          refine wpAnyB_pure (i := 0) (v := .pointer (some ⟨g, 0, none⟩)) rfl (by kernel_rfl) (fun _ _ _ h => h) (Or.inl ⟨by rfl, fun w _ => by go_simp⟩) hS ?_
          simp only [List.getElem_toArray, List.getElem_cons_zero, Act.put, List.setIfInBounds_toArray, List.set_cons_zero, List.set_cons_succ]
          refine wpAnyB_pure (i := 1) (v := .pointer (some ⟨g, 0, none⟩)) rfl (by kernel_rfl) (fun _ _ _ h => h) (Or.inl ⟨by rfl, fun w _ => by go_simp⟩) hS ?_
          simp only [List.getElem_toArray, List.getElem_cons_succ, List.getElem_cons_zero, Act.put, List.setIfInBounds_toArray, List.set_cons_zero, List.set_cons_succ]
          refine wpAnyB_pure (i := 2) (v := .pointer (some ⟨g, 0, none⟩)) rfl (by kernel_rfl) (fun _ _ _ h => h) (Or.inl ⟨by rfl, fun w _ => by go_simp⟩) hS ?_
          simp only [List.getElem_toArray, List.getElem_cons_succ, List.getElem_cons_zero, Act.put, List.setIfInBounds_toArray, List.set_cons_zero, List.set_cons_succ]
          refine wpAnyB_pure (i := 3) (v := .pointer (some ⟨g, 4352, none⟩)) rfl (by kernel_rfl) (fun _ _ _ h => h) (Or.inl ⟨by rfl, fun w _ => by go_simp⟩) hS ?_
          simp only [List.getElem_toArray, List.getElem_cons_succ, List.getElem_cons_zero, Act.put, List.setIfInBounds_toArray, List.set_cons_zero, List.set_cons_succ]
          refine wpAnyB_take [4, 13, 16] (i := 4) (v := .slice a F.length cap) rfl (by kernel_rfl) (fun _ _ _ h => h) (Or.inl ⟨by rfl, fun w hSw => by have := hCF w hSw; go_simp⟩) hS ?_
          simp only [List.getElem_toArray, List.getElem_cons_succ, List.getElem_cons_zero, Act.put, List.setIfInBounds_toArray, List.set_cons_zero, List.set_cons_succ]
          refine wpAnyB_pure (i := 5) (v := .pointer (some ⟨gd, 0, none⟩)) rfl (by kernel_rfl) (fun _ _ _ h => h) (Or.inl ⟨by rfl, fun w _ => by go_simp⟩) hS ?_
          simp only [List.getElem_toArray, List.getElem_cons_succ, List.getElem_cons_zero, Act.put, List.setIfInBounds_toArray, List.set_cons_zero, List.set_cons_succ]
          refine wpAnyB_pure (i := 6) (v := .pointer (some ⟨gd, 0, none⟩)) rfl (by kernel_rfl) (fun _ _ _ h => h) (Or.inl ⟨by rfl, fun w _ => by go_simp⟩) hS ?_
          simp only [List.getElem_toArray, List.getElem_cons_succ, List.getElem_cons_zero, Act.put, List.setIfInBounds_toArray, List.set_cons_zero, List.set_cons_succ]
          refine wpAnyB_pure (i := 7) (v := .pointer (some ⟨gd, 4352, none⟩)) rfl (by kernel_rfl) (fun _ _ _ h => h) (Or.inl ⟨by rfl, fun w _ => by go_simp⟩) hS ?_
          simp only [List.getElem_toArray, List.getElem_cons_succ, List.getElem_cons_zero, Act.put, List.setIfInBounds_toArray, List.set_cons_zero, List.set_cons_succ]
          refine wpAnyB_take [8, 10, 11, 12, 13, 16] (i := 8) (v := .slice (some ⟨gb, 0, none⟩) bl.length capd) rfl (by kernel_rfl) (fun _ _ _ h => h) (Or.inl ⟨by rfl, fun w hSw => by have := hCD w hSw; go_simp⟩) hS ?_
          simp only [List.getElem_toArray, List.getElem_cons_succ, List.getElem_cons_zero, Act.put, List.setIfInBounds_toArray, List.set_cons_zero, List.set_cons_succ]
          refine wpAnyB_pure (i := 9) (v := .int .i64 (m : Int)) rfl (by kernel_rfl) (fun _ _ _ h => h) (Or.inl ⟨by rfl, fun w _ => by go_simp⟩) hS ?_
          simp only [List.getElem_toArray, List.getElem_cons_succ, List.getElem_cons_zero, Act.put, List.setIfInBounds_toArray, List.set_cons_zero, List.set_cons_succ]
          refine wpAnyB_pure (i := 10) (v := .pointer (some ⟨gb, m * 256, none⟩)) rfl (by kernel_rfl) (fun _ _ _ h => h) (Or.inl ⟨by rfl, fun w _ => by go_simp⟩) hS ?_
          simp only [List.getElem_toArray, List.getElem_cons_succ, List.getElem_cons_zero, Act.put, List.setIfInBounds_toArray, List.set_cons_zero, List.set_cons_succ]
          refine wpAnyB_take [11, 12, 13, 16] (i := 11) (v := .agg (i8 b).toArray) rfl (by kernel_rfl) (fun _ _ _ h => h) (yieldsIf_load_mid (by rfl) 93 _ rfl gb (m * 256) rfl (i8 b) _ (fun w' hw' => hRG w' hw') Try.undB rfl HI.out) hS ?_
          simp only [List.getElem_toArray, List.getElem_cons_succ, List.getElem_cons_zero, Act.put, List.setIfInBounds_toArray, List.set_cons_zero, List.set_cons_succ]
          refine wpAnyB_one (i := 12) rfl (by kernel_rfl) (fun K hK => ?_)
          rw [if_pos (by rfl)]
          refine wp_buildSlice_run 95 _ rfl (.agg (i8 b).toArray) _ rfl (run_buildSlice_one w1.drew (i8 b).toArray (i8 zeroB).toArray Try.undBs hiB (by rw [hzB1, List.size_toArray, i8_length, hbB.1]) (by rw [hzB0, i8_zeroB]) (by simp [i8_length, zeroB_length, hbB.1]) (by simp [i8_length, hbB.1]) (by simp [i8_length, hbB.1])) ?_
          simp only [Act.put, List.setIfInBounds_toArray]
          refine hK.out _ _ (hS.alloc (by show w1.heap.size ≤ w1.heap.size; omega) _) ?_
          clear hK K
          obtain ⟨w2, hw2⟩ : ∃ w2, w2 = w1.drew.alloc (.cells (i8 b).toArray 93) := ⟨_, rfl⟩
          have hS2 : Below w1.heap.size w1 w2 := by rw [hw2]; exact hS.alloc (by show w1.heap.size ≤ w1.heap.size; omega) _
          have hs2 : w2.heap.size = w1.heap.size + 1 := by rw [hw2]; simp
          have hnew : w2.heap[w1.heap.size]? = some (.cells (i8 b).toArray 93 (0, 0)) := by rw [hw2]; exact heap_new' w1.drew _
          rw [← hw2]
          clear hw2
          refine wpAnyB_last (i := 13) rfl (by kernel_rfl) (fun K hK => ?_)
          rw [if_pos (by rfl)]
          refine wp_append_own w2 _ _ 95 rfl g 93 iB _ 256 256 Try.undBs hiB hzB0 hzB1 hzB2 (by simp [Value.cells]) (by omega) (.slice a F.length cap) F.length (cellsBl F) rfl (ownsRow_below HROW1.out hS2) ⟨w1.heap.size, 0, none⟩ 1 1 (i8 b) rfl (by rw [i8_length, hbB.1]) (fun j u hj => by rw [Addr.add_mid, Nat.zero_add]; exact cell_row hnew hj) (i8_one b) (by unfold maxLen; omega) (by omega) (by omega) ?_
          intro v3 w3 hr3 hg3 _
          simp only [Act.put]
          refine hK.out _ _ ?_
          clear hK K
          have htr2 : w2.heap[g]? = some (.cells (trCells (likeTo bs i) (.slice a F.length cap)).toArray 97 (0, 0)) := (hS2.block g (by omega)).trans HTR1.out
          have hon := own_ne (ownsRow_below HROW1.out hS2) htr2 (by decide)
          have htr3 : w3.heap[g]? = some (.cells (trCells (likeTo bs i) (.slice a F.length cap)).toArray 97 (0, 0)) := (hg3.block g (by omega) (fun e => hon e.symm)).trans htr2
          have hm3 : w3.ownsMap Try.prog 3 (plainElem (H := Unit) Try.prog 3) (g + 1) (F.length + 1) (D.put (.int .i64 (m : Int)) (.lit (.int .i64 (F.length : Int)))) := by
            have e2 := own_ne_map (ownsMap_below HM1.out hS2) (ownsRow_below HROW1.out hS2)
            exact (ownsMap_below HM1.out hS2).kept hg3 (fun e => e2 e.symm)
          have hc3 : w3.cell? ⟨g, 4352, none⟩ = some (.slice a F.length cap) := cell_row htr3 (trCells_at HLL.out)
          have hf3 : w3.frozen? ⟨g, 4352, none⟩ = false := frozen_of_row _ _ _ _ _ htr3
          have hs3 := hg3.size
          have hB3 : Below w.heap.size w w3 := by
            have hr := (ownsRow_below HROW1.out hS2).lt
            exact (HB1.out.trans (hS2.mono (by omega))).grown hg3 (by omega) (fun k hk => by have := (hr k hk).1; omega)
          obtain ⟨a3, cap3, rfl⟩ := slice_of_row hr3
          refine wpAnyB_late (i := 14) (v := .pointer (some ⟨g, 0, none⟩)) rfl (by kernel_rfl) (fun _ _ _ h => h) (Or.inl ⟨by rfl, fun w _ => by go_simp⟩) ?_
          simp only [List.getElem_toArray, List.getElem_cons_succ, List.getElem_cons_zero, Act.put, List.setIfInBounds_toArray, List.set_cons_zero, List.set_cons_succ]
          refine wpAnyB_late (i := 15) (v := .pointer (some ⟨g, 4352, none⟩)) rfl (by kernel_rfl) (fun _ _ _ h => h) (Or.inl ⟨by rfl, fun w _ => by go_simp⟩) ?_
          simp only [List.getElem_toArray, List.getElem_cons_succ, List.getElem_cons_zero, Act.put, List.setIfInBounds_toArray, List.set_cons_zero, List.set_cons_succ]
          refine wpAnyB_last (i := 16) rfl (by kernel_rfl) (fun K hK => ?_)
          rw [if_pos (by rfl)]
          obtain ⟨HTR3, HM3, HR3, HB3⟩ : Hid (w3.heap[g]? = some (.cells (trCells (likeTo bs i) (.slice a F.length cap)).toArray 97 (0, 0))) ∧ Hid (w3.ownsMap Try.prog 3 (plainElem (H := Unit) Try.prog 3) (g + 1) (F.length + 1) (D.put (.int .i64 (m : Int)) (.lit (.int .i64 (F.length : Int))))) ∧ Hid (w3.ownsRow g 93 256 (.slice a3 (F.length + 1) cap3) (F.length + 1) (cellsBl F ++ i8 b)) ∧ Hid (Below w.heap.size w w3) := ⟨htr3, hm3, hr3, hB3⟩
          clear htr3 hm3 hr3 hg3 htr2 hon hnew hS hS2 hCF hCD hRG hB3
          go_wp2
          refine hK.out _ _ ?_
          refine wpAnyB_done (by kernel_rfl) ?_ _
          refine NoPanic.normal ?_
          clear hK K hc3 hf3
          obtain ⟨w4, hw4⟩ : ∃ w4, w4 = w3.setCell ⟨g, 4352, none⟩ (.slice a3 (F.length + 1) cap3) := ⟨_, rfl⟩
          have htr4 : w4.heap[g]? = some (.cells (trCells (likeTo bs i) (.slice a3 (F.length + 1) cap3)).toArray 97 (0, 0)) := by rw [hw4]; exact heap_set_row HTR3.out (trCells_set HLL.out)
          have hB4 : Below w.heap.size w w4 := by rw [hw4]; exact HB3.out.setCell (show w.heap.size ≤ g by omega) _
          have hr4 : w4.ownsRow g 93 256 (.slice a3 (F.length + 1) cap3) (F.length + 1) (cellsBl F ++ i8 b) := by
            have e2 := own_ne HR3.out HTR3.out (by decide)
            have hsc : w3.grownBy (w3.setCell ⟨g, 4352, none⟩ (.slice a3 (F.length + 1) cap3)) (some g) := ⟨rfl, rfl, rfl, by simp [World.setCell], fun k hk hne => heap_setCell_other _ _ _ _ (fun e => hne (by rw [e]))⟩
            rw [hw4]
            exact HR3.out.kept hsc (.inr e2)
          have hm4 : w4.ownsMap Try.prog 3 (plainElem (H := Unit) Try.prog 3) (g + 1) (F.length + 1) (D.put (.int .i64 (m : Int)) (.lit (.int .i64 (F.length : Int)))) := by
            rw [hw4]
            exact HM3.out.setCell (by show g + 1 ≠ g; omega) _
          have hs4 : w4.heap.size = w3.heap.size := by rw [hw4]; simp [World.setCell]
          rw [← hw4]
          clear hw4
          obtain ⟨x8, hcl⟩ : ∃ x8, w4.cell? ⟨g, i, none⟩ = some x8 := ⟨_, cell_row htr4 (trCells_like (by have := HLL.out; omega))⟩
          have hfl : w4.frozen? ⟨g, i, none⟩ = false := frozen_of_row _ _ _ _ _ htr4
          obtain ⟨HTR4, HM4, HR4, HB4⟩ : Hid (w4.heap[g]? = some (.cells (trCells (likeTo bs i) (.slice a3 (F.length + 1) cap3)).toArray 97 (0, 0))) ∧ Hid (w4.ownsMap Try.prog 3 (plainElem (H := Unit) Try.prog 3) (g + 1) (F.length + 1) (D.put (.int .i64 (m : Int)) (.lit (.int .i64 (F.length : Int))))) ∧ Hid (w4.ownsRow g 93 256 (.slice a3 (F.length + 1) cap3) (F.length + 1) (cellsBl F ++ i8 b)) ∧ Hid (Below w.heap.size w w4) := ⟨htr4, hm4, hr4, hB4⟩
          clear htr4 hm4 hr4 hB4
          go_wp2
          go_roundw
          case rel =>
            have e1 : addF F b = F ++ [b] := addF_new HQ.out
            have e0 : (F ++ [b]).length = F.length + 1 := by simp
            refine ⟨i + 1, by omega, by go_num, .slice a3 (F.length + 1) cap3, D.put (.int .i64 (m : Int)) (.lit (.int .i64 (F.length : Int))), ?_, ?_, ?_, ?_, ?_, HB4.out.setCell (show w.heap.size ≤ g by omega) _, by simp [World.setCell]; omega⟩
            · refine heap_set_row HTR4.out ?_
              rw [trCells_setLike (by have := HLL.out; omega), ← HLS.out, idx_addF HQ.out]
            · rw [HST1.out, e1, e0, cellsBl_snoc]
              have e2 := own_ne HR4.out HTR4.out (by decide)
              have hsc : w4.grownBy (w4.setCell ⟨g, i, none⟩ (.int .u8 (F.length : Int))) (some g) := ⟨rfl, rfl, rfl, by simp [World.setCell], fun k hk hne => heap_setCell_other _ _ _ _ (fun e => hne (by rw [e]))⟩
              exact HR4.out.kept hsc (.inr e2)
            · rw [HST1.out, e1, e0]
              exact HM4.out.setCell (by show g + 1 ≠ g; omega) _
            · rw [HST1.out, e1]; exact placed_put HIM.out HPL.out HND.out.1 HMB.out HQ.out
            · rw [HST1.out, e1, e0]; omega
          case measure => simp [intOf]; omega
    · obtain rfl : i = 4352 := by omega
      go_wp2
      go_ret2
      have e1 : bs.take 4352 = bs := List.take_of_length_le (by omega)
      have e2 : likeTo bs 4352 = (likeOf bs).map (fun k : Nat => (k : Int)) := by rw [← hbl]; exact likeTo_end bs
      have hFe : F = firstsOf bs := by rw [HFD.out, e1]
      refine ⟨.inl ⟨_, rfl, by rw [← hFe]; exact hF, ?_⟩, HB.out⟩
      have hne : 1 ≤ (firstsOf bs).length := firsts_pos (fun e => by rw [e] at hbl; simp at hbl)
      have htr := HTR.out
      have hrw := HROW.out
      rw [e2] at htr
      rw [← hFe]
      rcases hrw.2 with ⟨e, h0⟩ | ⟨gr, cap', cur, e, _, hgg, hc, _⟩
      · rw [← hFe] at hne; omega
      · obtain ⟨rfl, rfl⟩ : a = some ⟨gr, 0, none⟩ ∧ cap = cap' := by simpa using e
        refine ⟨g, gr, cap, rfl, by omega, heap_lt hgg, htr, fun j u hj => ?_, hc⟩
        have := hrw.cells (g := gr) rfl j u hj
        rw [Addr.add_mid] at this
        exact this
end Go.Proofs.Ytmknifnhcgdkaaa.S3
