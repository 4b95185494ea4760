/-
  alphabet.draft.take: the numbers from an edge on, up to the next one, are put into their class.
-/
import Derived.Test.YtmknifnhcgdkaaaX40
namespace Go.Proofs.Ytmknifnhcgdkaaa
open Go.RowKit
set_option linter.unusedVariables false

theorem wf_u64 {m : Nat} (h : m < 18446744073709551616) : (Lit.int .u64 (m : Int)).wf = true := by
  have e1 : IntKind.u64.min = 0 := by decide
  have e2 : IntKind.u64.max = 18446744073709551615 := by decide
  simp [Lit.wf, e1, e2]
  omega
theorem mask_small (S : List (List Rg)) (x : Int) (h : S.length ≤ 60) : maskN S x < 2305843009213693952 := by
  have h1 := mask_lt S x
  have h2 : 2 ^ S.length ≤ 2 ^ 60 := Nat.pow_le_pow_right (by omega) h
  have h3 : (2 : Nat) ^ 60 = 1152921504606846976 := by decide
  omega
theorem Try.zeroInt9 (w : World) : (zeroValue 3).run Try.prog w = .ok (.int .i64 0) w := S3.Try.zeroInt w
theorem Try.undInt9 : Try.prog.underlying 3 = some (.int .i64) := by kernel_rfl
/-- What take tells. -/
def TakeT (n gd : Nat) (S : List (List Rg)) (k : Nat) (low : Int) (w : World) (e : Ending) (w' : World) : Prop :=
  ((e = .returned (.tuple #[.int .i64 (nxtE (edgS S) k), .int .i64 0]) ∧ DrfAt n w' gd (S.map (fun s => restF s low)) (clsK S (k + 1)) ((clsK S (k + 1)).map (fstS S)) (entsK S (k + 1)) ∧ (clsK S (k + 1)).length ≤ 200)
    ∨ (e = .returned (.tuple #[.int .i64 0, .int .i64 3]) ∧ 200 < (clsK S (k + 1)).length)) ∧ Below n w w'

set_option maxRecDepth 100000 in
set_option maxHeartbeats 8000000 in
theorem take9_any (n gd : Nat) (S R : List (List Rg)) (k : Nat) (low : Int) (w : World) (hk : k < (edgS S).length) (hlow : low = (edgS S)[k]) (hS : AllS S) (hlen : S.length ≤ 60) (hbig : k ≤ 20000000) (hcl : (clsK S k).length ≤ 200) (hR : R.length = S.length)
    (hok : ∀ i, (h : i < S.length) → RestOk S[i] (R[i]'(by omega)) low) (hd : DrfAt n w gd R (clsK S k) ((clsK S k).map (fstS S)) (entsK S k)) :
    Calls Try.prog 28 #[.pointer (some ⟨gd, 0, none⟩), .int .i64 low] w fun e w' => TakeT n gd S k low w e w' := by
  obtain ⟨gm, vr, vm, vl, ve, D, hdv, hkn⟩ := hd
  obtain ⟨iU, hiU, hzU0, hzU1, hzU2⟩ := info_parts Try.infoU64
  obtain ⟨iI, hiI, hzI0, hzI1, hzI2⟩ := info_parts Try.infoInt
  obtain ⟨iP, hiP, hzP0, hzP1, hzP2⟩ := info_parts S3.Try.infoProp
  have hlb := edg_bounds hS low (by rw [hlow]; exact List.getElem_mem hk)
  have HST := stretch9_any n gd S R _ _ _ low w gm vr vm vl ve _ D hdv hS hlen hR hok hlb.1 hlb.2
  have hhi : highS S low = nxtE (edgS S) k := by rw [hlow]; exact high_next hS hk
  have hm := mask_small S low hlen
  have hstep : clsK S (k + 1) = S3.addF (clsK S k) (maskN S low) := by rw [hlow]; exact cls_step hk
  have hent : entS S k = ⟨low, nxtE (edgS S) k, (((clsK S (k + 1)).idxOf (maskN S low) : Nat) : Int)⟩ := by rw [ent_at hk, cls_idx hk, hlow]
  have hnew : ¬ maskN S low ∈ clsK S k → fstS S (maskN S low) = low := fun q => by rw [hlow] at q ⊢; exact fst_new hk q
  have hpl : (entsK S k).length = k := ents_length S k
  have hps := ents_step S k
  have hnx : nxtE (edgS S) k ≤ 1114111 := nxt_le hS
  rw [hhi] at HST
  unfold TakeT
  obtain ⟨R', hR'⟩ : ∃ R', R' = S.map (fun s => restF s low) := ⟨_, rfl⟩
  obtain ⟨M, hM⟩ : ∃ M, M = clsK S k := ⟨_, rfl⟩
  obtain ⟨M', hM'⟩ : ∃ M', M' = clsK S (k + 1) := ⟨_, rfl⟩
  obtain ⟨P, hP⟩ : ∃ P, P = entsK S k := ⟨_, rfl⟩
  obtain ⟨P', hP'⟩ : ∃ P', P' = entsK S (k + 1) := ⟨_, rfl⟩
  obtain ⟨m, hm0⟩ : ∃ m, m = maskN S low := ⟨_, rfl⟩
  obtain ⟨hi, hhi0⟩ : ∃ hi, hi = nxtE (edgS S) k := ⟨_, rfl⟩
  rw [← hR', ← hM', ← hP', ← hhi0]
  rw [← hR', ← hM, ← hP, ← hm0, ← hhi0] at HST
  rw [← hM', ← hM, ← hm0] at hstep
  rw [← hM', ← hm0, ← hhi0] at hent
  rw [← hM, ← hm0] at hnew
  rw [← hP] at hpl hps
  rw [← hP'] at hps
  rw [← hm0] at hm
  rw [← hhi0] at hnx
  rw [← hM] at hkn hcl
  obtain ⟨HSTEP, HENT, HNEW, HKN, HPS⟩ : Hid (M' = S3.addF M m) ∧ Hid (entS S k = ⟨low, hi, ((M'.idxOf m : Nat) : Int)⟩) ∧ Hid (¬ m ∈ M → fstS S m = low) ∧ Hid (Knows9 D M) ∧ Hid (P' = P ++ [entS S k]) := ⟨hstep, hent, hnew, hkn, hps⟩
  have hP3 : P.length ≤ 20000000 := by omega
  clear hdv hkn hstep hent hnew hps hpl hhi hM hM' hP hP' hm0 hR' hhi0 hlow hok hR hS
  go_enter Try.func28, Try.ntmps28
  go_wp2_with fail
  refine HST.mono ?_
  rintro e w1 ⟨rfl, hd1, hB1⟩
  clear HST
  obtain ⟨HD1, HB1⟩ : Hid (DrfV n w1 gd gm vr vm vl ve R' M (M.map (fstS S)) P M.length D) ∧ Hid (Below n w w1) := ⟨hd1, hB1⟩
  have hc1 : w1.cell? ⟨gd, 1, none⟩ = some (.map (some gm)) := S3.cell_row hd1.heap rfl
  have HMP : Hid (w1.ownsMap Try.prog 34 (plainElem Try.prog 3) gm M.length D) := hd1.map
  clear hd1 hB1
  by_cases q : m ∈ M
  · have hME : M' = M := by rw [HSTEP.out]; exact if_pos q
    have hh : Maps.has D (.int .u64 (m : Int)) = true := (HKN.out.1 m).2 q
    have hat0 := HKN.out.2 m q
    have hixl := List.idxOf_lt_length_of_mem q
    have hent : entS S k = ⟨low, hi, ((M.idxOf m : Nat) : Int)⟩ := by rw [HENT.out, hME]
    obtain ⟨ix, hix⟩ : ∃ ix, ix = M.idxOf m := ⟨_, rfl⟩
    rw [← hix] at hat0 hixl hent
    have HAT : Hid (D.atKey (.int .u64 (m : Int)) (.lit (.int .i64 0)) = .lit (.int .i64 (ix : Nat))) := hat0
    have HPE : Hid (P' = P ++ [⟨low, hi, (ix : Int)⟩]) := by show _ = _; rw [HPS.out, hent]
    obtain ⟨ae, ce, rfl⟩ := S3.slice_of_row HD1.out.ents
    have hc4 : w1.cell? ⟨gd, 4, none⟩ = some (.slice ae P.length ce) := S3.cell_row HD1.out.heap rfl
    have HBA : Hid (Below w1.heap.size w1 (w1.alloc (.cells #[.int .i64 low, .int .i64 hi, .int .u8 (ix : Int)] 66))) := (Below.refl _ _).alloc (Nat.le_refl _) _
    have HDA : Hid (DrfV n (w1.alloc (.cells #[.int .i64 low, .int .i64 hi, .int .u8 (ix : Int)] 66)) gd gm vr vm vl (.slice ae P.length ce) R' M (M.map (fstS S)) P M.length D) := HD1.out.below HBA.out
    have HNA : Hid ((w1.alloc (.cells #[.int .i64 low, .int .i64 hi, .int .u8 (ix : Int)] 66)).heap[w1.heap.size]? = some (.cells #[.int .i64 low, .int .i64 hi, .int .u8 (ix : Int)] 66 (0, 0))) := heap_new' w1 _
    have hix2 : (ix : Int) ≤ 200 := by omega
    have hnl := HD1.out.nlt
    have HFIN : Hid (∀ w', DrfAt n w' gd R' M (M.map (fstS S)) P' → DrfAt n w' gd R' M' (M'.map (fstS S)) P') := fun w' h => by rw [hME]; exact h
    have hcl' : M'.length ≤ 200 := by rw [hME]; exact hcl
    clear hat0 hixl hix hent q hME
    go_wp2_with (first | (refine wpList_lookup_own_ok_int _ rfl _ _ 76 rfl 34 3 .i64 Try.keyLaw9 Try.undM9 Try.undInt9 (Try.zeroInt9 _) gm M.length D rfl HMP.out _ (.int .u64 (m : Int)) rfl (Maps.keyOf_int_mk Try.undU64 (wf_u64 (by omega))) ?_; intro c hat hwc; obtain rfl : (ix : Int) = c := (by rw [HAT.out] at hat; simpa using hat); clear hat hwc) | (at_builtin; refine wpList_append_own _ rfl (.tmp 64) (.tmp 70) 62 rfl n 66 iP (.agg #[.int .i64 0, .int .i64 0, .int .u8 0]) 3 24 S3.Try.undPs hiP hzP0 hzP1 hzP2 rfl (by decide) _ _ _ rfl HDA.out.ents ⟨w1.heap.size, 0, none⟩ 1 1 (S3.cellsP ⟨low, hi, (ix : Int)⟩) rfl rfl (World.news_of_block HNA.out) (by simp [S3.cellsP, Value.oneCell']) (by unfold maxLen; omega) (by omega) HDA.out.nlt ?_; intro v9 w9 ho9 hg9 _; obtain ⟨a9, cap9, rfl⟩ := S3.slice_of_row ho9; have hr9 := HDA.out.rowP (P' := P') (v' := .slice a9 (P.length + 1) cap9) hg9 (by rw [HPE.out, List.length_append, S3.cellsPs_snoc]; exact ho9); obtain ⟨⟨hc9, hf9⟩, hd9, hB9⟩ := hr9; have HD9 : Hid (DrfV n (w9.setCell ⟨gd, 4, none⟩ (.slice a9 (P.length + 1) cap9)) _ _ _ _ _ _ _ _ _ _ _ _) := hd9; have HB9 : Hid (Below n _ (w9.setCell ⟨gd, 4, none⟩ (.slice a9 (P.length + 1) cap9))) := hB9; clear ho9 hg9 hd9 hB9) | fail)
    go_ret2
    exact ⟨.inl ⟨rfl, HFIN.out _ ⟨gm, _, _, _, _, D, HD9.out, HKN.out⟩, hcl'⟩, (HB1.out.trans (HBA.out.mono hnl)).trans HB9.out⟩
  · have hh : Maps.has D (.int .u64 (m : Int)) = false := by
      cases z : Maps.has D (.int .u64 (m : Int)) with
      | false => rfl
      | true => exact absurd ((HKN.out.1 m).1 z) q
    have hME : M' = M ++ [m] := by rw [HSTEP.out]; exact if_neg q
    obtain ⟨am, cm, rfl⟩ := S3.slice_of_row HD1.out.masks
    have hc2 : w1.cell? ⟨gd, 2, none⟩ = some (.slice am M.length cm) := S3.cell_row HD1.out.heap rfl
    by_cases q2 : M.length = 200
    · have q3 : (M.length : Int) = 200 := by omega
      have hcl' : 200 < M'.length := by rw [hME, List.length_append]; simp; omega
      clear hME q2
      go_wp2_with (first | (refine wpList_lookup_own_ok_int _ rfl _ _ 76 rfl 34 3 .i64 Try.keyLaw9 Try.undM9 Try.undInt9 (Try.zeroInt9 _) gm M.length D rfl HMP.out _ (.int .u64 (m : Int)) rfl (Maps.keyOf_int_mk Try.undU64 (wf_u64 (by omega))) ?_; intro c hat hwc; clear hat hwc) | fail)
      go_ret2
      exact ⟨.inr ⟨rfl, hcl'⟩, HB1.out⟩
    · have q3 : ¬ ((M.length : Int) = 200) := by omega
      have q4 : ((M.length : Int) == 200) = false := by simp; omega
      have hidx : M'.idxOf m = M.length := by rw [hME, List.idxOf_append, if_neg q]; simp
      have HPE : Hid (P' = P ++ [⟨low, hi, (M.length : Int)⟩]) := by show _ = _; rw [HPS.out, HENT.out, hidx]
      have HFL : Hid (fstS S m = low) := HNEW.out q
      obtain ⟨al, cl, rfl⟩ := S3.slice_of_row HD1.out.least
      obtain ⟨ae, ce, rfl⟩ := S3.slice_of_row HD1.out.ents
      have hcl' : M'.length ≤ 200 := by rw [hME, List.length_append]; simp; omega
      have hm2 : (M.length : Int) < 200 := by omega
      have HFIN : Hid (∀ w', DrfAt n w' gd R' (M ++ [m]) ((M ++ [m]).map (fstS S)) P' → DrfAt n w' gd R' M' (M'.map (fstS S)) P') := fun w' h => by rw [hME]; exact h
      have HK2 : Hid (Knows9 (D.put (.int .u64 (m : Int)) (.lit (.int .i64 (M.length : Nat)))) (M ++ [m])) := HKN.out.put HD1.out.map.isMap q
      have HDL : Hid ((M.map (fstS S)).length = M.length) := List.length_map _
      have HD1' : Hid (DrfV n w1 gd gm vr (.slice am M.length cm) (.slice al M.length cl) (.slice ae P.length ce) R' M (M.map (fstS S)) P M.length D) := by
        have := HD1.out
        rw [List.length_map] at this
        exact this
      clear hME q2 hidx HD1
      have HD1 := HD1'
      clear HD1' q
      go_wp2_with (first | (refine wpList_lookup_own_ok_int _ rfl _ _ 76 rfl 34 3 .i64 Try.keyLaw9 Try.undM9 Try.undInt9 (Try.zeroInt9 _) gm M.length D rfl HMP.out _ (.int .u64 (m : Int)) rfl (Maps.keyOf_int_mk Try.undU64 (wf_u64 (by omega))) ?_; intro c hat hwc; clear hat hwc) | (at_mapUpdate; refine wpList_mapUpdate_own _ rfl _ _ _ 76 rfl 34 3 Try.keyLaw9 Try.undM9 _ gm M.length D rfl HMP.out (by unfold maxLen; omega) _ _ (.int .u64 (m : Int)) rfl rfl (Maps.keyOf_int_mk Try.undU64 (wf_u64 (by omega))) (.lit (.int .i64 (M.length : Int))) [] (plainElem_int Try.undInt9 (WalkArith.wf_i64 (by omega))) ?_; intro w2 hm2 hg2; obtain ⟨hd2, hB2⟩ := HD1.out.upd hg2 hm2; have HB2 : Hid (Below n w w2) := HB1.out.trans hB2; have h22 : w2.cell? ⟨gd, 2, none⟩ = some (.slice am M.length cm) := S3.cell_row hd2.heap rfl; have HD2 : Hid (DrfV n (w2.alloc (.cells #[.int .u64 (m : Int)] 34)) gd gm vr (.slice am M.length cm) (.slice al M.length cl) (.slice ae P.length ce) R' M (M.map (fstS S)) P (M.length + 1) (D.put (.int .u64 (m : Int)) (.lit (.int .i64 (M.length : Int))))) := hd2.below ((Below.refl _ _).alloc (Nat.le_refl _) _); have HN2 : Hid ((w2.alloc (.cells #[.int .u64 (m : Int)] 34)).heap[w2.heap.size]? = some (.cells #[.int .u64 (m : Int)] 34 (0, 0))) := heap_new' w2 _; have HA2 : Hid (Below n w2 (w2.alloc (.cells #[.int .u64 (m : Int)] 34))) := (Below.refl _ _).alloc hd2.nlt _; clear hm2 hg2 hd2 hB2 hc1 hc2) | (at_builtin; refine wpList_append_own _ rfl (.tmp 44) (.tmp 46) 38 rfl n 34 iU (.int .u64 0) 1 8 Try.underlying38 hiU hzU0 hzU1 hzU2 rfl (by decide) _ _ _ rfl HD2.out.masks ⟨w2.heap.size, 0, none⟩ 1 1 [.int .u64 (m : Int)] rfl rfl (World.news_of_block HN2.out) (by simp [Value.oneCell']) (by unfold maxLen; omega) (by omega) HD2.out.nlt ?_; intro v3 w3 ho3 hg3 _; obtain ⟨a3, cap3, rfl⟩ := S3.slice_of_row ho3; have hr3 := HD2.out.rowM (M' := M ++ [m]) (v' := .slice a3 (M.length + 1) cap3) hg3 (by rw [List.length_append]; simpa [u64s] using ho3); obtain ⟨⟨hc3, hf3⟩, hd3, hB3⟩ := hr3; have h33 : (w3.setCell ⟨gd, 2, none⟩ (.slice a3 (M.length + 1) cap3)).cell? ⟨gd, 3, none⟩ = some (.slice al M.length cl) := S3.cell_row hd3.heap rfl; have HB3 : Hid (Below n w2 (w3.setCell ⟨gd, 2, none⟩ (.slice a3 (M.length + 1) cap3))) := HA2.out.trans hB3; have HD3 : Hid (DrfV n ((w3.setCell ⟨gd, 2, none⟩ (.slice a3 (M.length + 1) cap3)).alloc (.cells #[.int .i64 low] 3)) gd gm vr (.slice a3 (M.length + 1) cap3) (.slice al M.length cl) (.slice ae P.length ce) R' (M ++ [m]) (M.map (fstS S)) P (M.length + 1) (D.put (.int .u64 (m : Int)) (.lit (.int .i64 (M.length : Int))))) := hd3.below ((Below.refl _ _).alloc (Nat.le_refl _) _); have HSZ3 : Hid ((w3.setCell ⟨gd, 2, none⟩ (.slice a3 (M.length + 1) cap3)).heap.size = w3.heap.size) := (by show _ = _; simp [World.setCell]); have HN3 : Hid (((w3.setCell ⟨gd, 2, none⟩ (.slice a3 (M.length + 1) cap3)).alloc (.cells #[.int .i64 low] 3)).heap[w3.heap.size]? = some (.cells #[.int .i64 low] 3 (0, 0))) := (by rw [← HSZ3.out]; exact heap_new' _ _); have HA3 : Hid (Below n (w3.setCell ⟨gd, 2, none⟩ (.slice a3 (M.length + 1) cap3)) ((w3.setCell ⟨gd, 2, none⟩ (.slice a3 (M.length + 1) cap3)).alloc (.cells #[.int .i64 low] 3))) := (Below.refl _ _).alloc hd3.nlt _; clear ho3 hg3 hd3 hB3 h22) | (at_builtin; refine wpList_append_own _ rfl (.tmp 54) (.tmp 56) 23 rfl n 3 iI (.int .i64 0) 1 8 Try.underlying23 hiI hzI0 hzI1 hzI2 rfl (by decide) _ _ _ rfl (by have := HD3.out.least; rw [List.length_map] at this; exact this : (((w3.setCell ⟨gd, 2, none⟩ (.slice a3 (M.length + 1) cap3)).alloc (.cells #[.int .i64 low] 3)).ownsRow n 3 1 (.slice al M.length cl) M.length ((M.map (fstS S)).map (Value.int .i64)))) ⟨w3.heap.size, 0, none⟩ 1 1 [.int .i64 low] rfl rfl (World.news_of_block HN3.out) (by simp [Value.oneCell']) (by unfold maxLen; omega) (by omega) HD3.out.nlt ?_; intro v4 w4 ho4 hg4 _; obtain ⟨a4, cap4, rfl⟩ := S3.slice_of_row ho4; have hr4 := HD3.out.rowL (L' := (M ++ [m]).map (fstS S)) (v' := .slice a4 (M.length + 1) cap4) hg4 (by simpa [HFL.out] using ho4); obtain ⟨⟨hc4, hf4⟩, hd4, hB4⟩ := hr4; have h44 : (w4.setCell ⟨gd, 3, none⟩ (.slice a4 (M.length + 1) cap4)).cell? ⟨gd, 4, none⟩ = some (.slice ae P.length ce) := S3.cell_row hd4.heap rfl; have HB4 : Hid (Below n (w3.setCell ⟨gd, 2, none⟩ (.slice a3 (M.length + 1) cap3)) (w4.setCell ⟨gd, 3, none⟩ (.slice a4 (M.length + 1) cap4))) := HA3.out.trans hB4; have HDA : Hid (DrfV n ((w4.setCell ⟨gd, 3, none⟩ (.slice a4 (M.length + 1) cap4)).alloc (.cells #[.int .i64 low, .int .i64 hi, .int .u8 (M.length : Int)] 66)) gd gm vr (.slice a3 (M.length + 1) cap3) (.slice a4 (M.length + 1) cap4) (.slice ae P.length ce) R' (M ++ [m]) ((M ++ [m]).map (fstS S)) P (M.length + 1) (D.put (.int .u64 (m : Int)) (.lit (.int .i64 (M.length : Int))))) := hd4.below ((Below.refl _ _).alloc (Nat.le_refl _) _); have HSZ4 : Hid ((w4.setCell ⟨gd, 3, none⟩ (.slice a4 (M.length + 1) cap4)).heap.size = w4.heap.size) := (by show _ = _; simp [World.setCell]); have HNA : Hid (((w4.setCell ⟨gd, 3, none⟩ (.slice a4 (M.length + 1) cap4)).alloc (.cells #[.int .i64 low, .int .i64 hi, .int .u8 (M.length : Int)] 66)).heap[w4.heap.size]? = some (.cells #[.int .i64 low, .int .i64 hi, .int .u8 (M.length : Int)] 66 (0, 0))) := (by rw [← HSZ4.out]; exact heap_new' _ _); have HA4 : Hid (Below n (w4.setCell ⟨gd, 3, none⟩ (.slice a4 (M.length + 1) cap4)) ((w4.setCell ⟨gd, 3, none⟩ (.slice a4 (M.length + 1) cap4)).alloc (.cells #[.int .i64 low, .int .i64 hi, .int .u8 (M.length : Int)] 66))) := (Below.refl _ _).alloc hd4.nlt _; clear ho4 hg4 hd4 hB4 h33) | (at_builtin; refine wpList_append_own _ rfl (.tmp 64) (.tmp 70) 62 rfl n 66 iP (.agg #[.int .i64 0, .int .i64 0, .int .u8 0]) 3 24 S3.Try.undPs hiP hzP0 hzP1 hzP2 rfl (by decide) _ _ _ rfl HDA.out.ents ⟨w4.heap.size, 0, none⟩ 1 1 (S3.cellsP ⟨low, hi, (M.length : Int)⟩) rfl rfl (World.news_of_block HNA.out) (by simp [S3.cellsP, Value.oneCell']) (by unfold maxLen; omega) (by omega) HDA.out.nlt ?_; intro v9 w9 ho9 hg9 _; obtain ⟨a9, cap9, rfl⟩ := S3.slice_of_row ho9; have hr9 := HDA.out.rowP (P' := P') (v' := .slice a9 (P.length + 1) cap9) hg9 (by rw [HPE.out, List.length_append, S3.cellsPs_snoc]; exact ho9); obtain ⟨⟨hc9, hf9⟩, hd9, hB9⟩ := hr9; have HD9 : Hid (DrfV n (w9.setCell ⟨gd, 4, none⟩ (.slice a9 (P.length + 1) cap9)) _ _ _ _ _ _ _ _ _ _ _ _) := hd9; have HB9 : Hid (Below n _ (w9.setCell ⟨gd, 4, none⟩ (.slice a9 (P.length + 1) cap9))) := hB9; clear ho9 hg9 hd9 hB9) | fail)
      go_ret2
      have e9 : M.length + 1 = (M ++ [m]).length := by simp
      have h9 := HD9.out
      rw [e9] at h9
      have hd9 : DrfAt n (w9.setCell ⟨gd, 4, none⟩ (.slice a9 (P.length + 1) cap9)) gd R' (M ++ [m]) ((M ++ [m]).map (fstS S)) P' := ⟨gm, _, _, _, _, _, h9, HK2.out⟩
      exact ⟨.inl ⟨rfl, HFIN.out _ hd9, hcl'⟩, (((HB2.out.trans HB3.out).trans HB4.out).trans HA4.out).trans HB9.out⟩
end Go.Proofs.Ytmknifnhcgdkaaa
