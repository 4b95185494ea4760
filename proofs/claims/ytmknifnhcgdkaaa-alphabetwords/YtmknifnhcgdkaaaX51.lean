/-
  The document's New.
-/
import Derived.Test.YtmknifnhcgdkaaaX49
namespace Go.Proofs.Ytmknifnhcgdkaaa
open Go.RowKit Go.Shelf
set_option linter.unusedVariables false

/-- What the document's New tells. -/
def RNewT (S : List (List Rg)) (v : Value) (w : World) (e : Ending) (w' : World) : Prop :=
  ∃ pv, e = .returned (.tuple #[pv, .int .i64 (errN S)]) ∧ (errN S ≠ 0 → pv = .pointer none) ∧ (errN S = 0 → ∃ g vm vl, pv = .pointer (some ⟨g, 0, none⟩) ∧ RAlp w' g v vm vl (clsS S) ((clsS S).map (fstS S))) ∧ Below w.heap.size w w'
theorem ent_low {S : List (List Rg)} {k : Nat} (hk : k < (edgS S).length) : entS S k = ⟨(edgS S)[k], nxtE (edgS S) k, (((clsK S (k + 1)).idxOf (maskN S (edgS S)[k]) : Nat) : Int)⟩ := by rw [ent_at hk, cls_idx hk]
set_option maxRecDepth 100000 in
set_option maxHeartbeats 16000000 in
theorem rnew_any (S : List (List Rg)) (v : Value) (w : World) (hlen : S.flatten.length ≤ 40000) (hl1 : ∀ s ∈ S, s.length ≤ 20000) (hbig : S.length ≤ 1000000) (hv : StsIn w v S) :
    Calls Try.prog 11 #[v] w fun e w' => RNewT S v w e w' := by
  obtain ⟨iU, hiU, hzU0, hzU1, hzU2⟩ := info_parts Try.infoU64
  obtain ⟨iI, hiI, hzI0, hzI1, hzI2⟩ := info_parts Try.infoInt
  obtain ⟨iP, hiP, hzP0, hzP1, hzP2⟩ := info_parts S3.Try.infoProp
  have HV : Hid (StsIn w v S) := hv
  obtain ⟨a, cap, rfl, hc, hcell0⟩ := hv
  unfold RNewT
  obtain ⟨er, her⟩ : ∃ er, er = errN S := ⟨_, rfl⟩
  rw [← her]
  have HER : Hid (er = errN S) := her
  clear her hcell0
  by_cases h60 : 60 < S.length
  · have e0 : er = 3 := by rw [HER.out]; unfold errN; rw [if_pos h60]
    subst e0
    have h60' : (60 : Int) < (S.length : Int) := by omega
    go_enter Try.func11, Try.ntmps11
    go_wp2
    go_ret2
    exact ⟨_, rfl, (fun _ => rfl), (fun h => absurd h (by omega)), Below.refl _ _⟩
  have h60' : ¬ ((60 : Int) < (S.length : Int)) := by omega
  have HEL : Hid ((edgS S).length ≤ 80001) := by
    have := edges_length S.flatten [0]
    show (edgesL S.flatten).length ≤ _
    unfold edgesL
    simp at this hlen ⊢
    omega
  go_enter Try.func11, Try.ntmps11
  go_wp2
  go_loopw [4] (fun x wr => ∃ k : Nat, k ≤ S.length ∧ x = .int .i64 k ∧ (∀ i, (h : i < S.length) → i < k → isSB S[i] = true) ∧ Below w.heap.size w wr) (fun x _ => S.length - (intOf x).toNat)
  case atStart => exact ⟨0, Nat.zero_le _, rfl, (fun i h q => by omega), Below.refl _ _⟩
  case round =>
    obtain ⟨k, hk, rfl, hgd, hB⟩ := hrel
    obtain ⟨HGD, HB⟩ : Hid (∀ i, (h : i < S.length) → i < k → isSB S[i] = true) ∧ Hid (Below w.heap.size w wr) := ⟨hgd, hB⟩
    have hbs := hB.size
    clear hgd
    by_cases hlt : k < S.length
    · obtain ⟨a', cap', e, _, hcell⟩ := HV.out
      obtain ⟨rfl, rfl⟩ : a = a' ∧ cap = cap' := by simpa using e
      obtain ⟨gx, off, x, rfl, hg, hcx, hrx⟩ := hcell k hlt
      have HCX : Hid (∀ W, Below w.heap.size w W → W.cell? ⟨gx, off + k, none⟩ = some x ∧ RngSrc W x S[k]) := fun W hW => ⟨(hW.cell (p := ⟨gx, _, none⟩) hg).trans hcx, hrx.below hW⟩
      have hcx2 := (HCX.out wr hB).1
      have HR := refMake_any S[k] x wr (hl1 _ (List.getElem_mem hlt)) (HCX.out wr hB).2
      have hsk : S[k].length ≤ 20000 := hl1 _ (List.getElem_mem hlt)
      obtain ⟨ax, cx, rfl, hj1, hj2⟩ := hrx.1
      have hlt' : (k : Int) < (S.length : Int) := by omega
      have HER1 : Hid (isSB S[k] = false → er = 1) := fun hb => by
        rw [HER.out]; unfold errN; rw [if_neg h60, if_pos]
        rw [← Bool.not_eq_true]
        intro h
        have := List.all_eq_true.1 h _ (List.getElem_mem hlt)
        rw [hb] at this
        cases this
      clear hcell hcx hrx hB e hj1 hj2
      go_wp2_with fail
      refine HR.mono ?_
      rintro e w1 ⟨⟨hnf, rfl⟩ | ⟨hf, s, v', hu, rfl, ho⟩, hB1⟩
      · have hB1' : Below w.heap.size w w1 := HB.out.trans (hB1.mono hbs)
        obtain ⟨c1, r1⟩ := HCX.out w1 hB1'
        have HS := sameG_any [] S[k] (by simp) (.slice none 0 0) _ w1 (RngAt.nil _ _) r1.1
        have e0 : er = 1 := HER1.out (by
          cases q : isSB S[k] with
          | false => rfl
          | true => exact absurd (isSB_iff.1 q).upto.fits hnf)
        subst e0
        have HB1 : Hid (Below w.heap.size w w1) := hB1'
        have hs1 := hB1'.size
        obtain ⟨q, hq⟩ : ∃ q, q = sameS [] S[k] := ⟨_, rfl⟩
        rw [← hq] at HS
        clear HR hnf hB1 hB1' hcx2 r1 hq
        go_wp2_with fail
        refine HS.mono ?_
        rintro e w3 ⟨rfl, hB3⟩
        clear HS
        have HB3 : Hid (Below w.heap.size w w3) := HB1.out.trans (hB3.mono hs1)
        clear hB3
        go_wp2
        go_ret2
        exact ⟨_, rfl, (fun _ => rfl), (fun h => absurd h (by omega)), HB3.out⟩
      · have hB1' : Below w.heap.size w w1 := HB.out.trans (hB1.mono hbs)
        obtain ⟨c1, r1⟩ := HCX.out w1 hB1'
        have hsl := upto_few9 hf hu
        have HS := sameG_any s S[k] (by omega) v' _ w1 (rng_of_row ho) r1.1
        have e0 : sameS s S[k] = isSB S[k] := by
          rw [Bool.eq_iff_iff, sameS_iff, isSB_iff]
          constructor
          · intro e; rw [← e]; exact hu.isSet
          · intro h; exact hu.unique h.upto
        rw [e0] at HS
        obtain ⟨a1, cap1, rfl⟩ := S3.slice_of_row ho
        have HB1 : Hid (Below w.heap.size w w1) := hB1'
        have hs1 := hB1'.size
        obtain ⟨b, hb⟩ : ∃ b, b = isSB S[k] := ⟨_, rfl⟩
        rw [← hb] at HS HER1
        have HBB : Hid (b = isSB S[k]) := hb
        clear HR hf hu ho hB1 hB1' hcx2 r1 e0 hb hsl
        cases b with
        | true =>
          go_wp2_with fail
          refine HS.mono ?_
          rintro e w3 ⟨rfl, hB3⟩
          clear HS
          have HB3 : Hid (Below w.heap.size w w3) := HB1.out.trans (hB3.mono hs1)
          clear hB3
          go_wp2
          go_roundw
          case rel =>
            refine ⟨k + 1, by omega, by go_num, (fun i h q => ?_), HB3.out⟩
            by_cases e : i = k
            · subst e; exact HBB.out.symm
            · exact HGD.out i h (by omega)
          case measure => simp [intOf]; omega
        | false =>
          have e1 : er = 1 := HER1.out rfl
          subst e1
          go_wp2_with fail
          refine HS.mono ?_
          rintro e w3 ⟨rfl, hB3⟩
          clear HS
          have HB3 : Hid (Below w.heap.size w w3) := HB1.out.trans (hB3.mono hs1)
          clear hB3
          go_wp2
          go_ret2
          exact ⟨_, rfl, (fun _ => rfl), (fun h => absurd h (by omega)), HB3.out⟩
    · have hlt' : ¬ ((k : Int) < (S.length : Int)) := by omega
      have hall : S.all isSB = true := List.all_eq_true.2 (fun s hs => by
        obtain ⟨i, hi, rfl⟩ := List.getElem_of_mem hs
        exact HGD.out i hi (by omega))
      have HS : Hid (AllS S) := allS_iff.1 hall
      have HER2 : Hid (er = if 200 < (clsS S).length then 3 else S3.errB (entsS S)) := by
        show _ = _
        rw [HER.out]; unfold errN; rw [if_neg h60, if_neg (by rw [hall]; simp)]
      have HBa : Hid (Below w.heap.size w (wr.alloc (.cells #[.slice a S.length cap, .slice none 0 0, .slice none 0 0] 41))) := hB.alloc hbs _
      have HED := edges9_any S (.slice a S.length cap) (wr.alloc (.cells #[.slice a S.length cap, .slice none 0 0, .slice none 0 0] 41)) hbig hlen HS.out.fits (HV.out.below HBa.out)
      clear hall HGD hB
      go_wp2_with fail
      refine HED.mono ?_
      rintro e w2 ⟨vE, rfl, hE, hB2⟩
      clear HED
      obtain ⟨g, hg⟩ : ∃ g, g = wr.heap.size := ⟨_, rfl⟩
      have hgs : g < w2.heap.size := by have := hB2.size; simp at this; omega
      have hgh : w2.heap[g]? = some (.cells [.slice a S.length cap, .slice none 0 0, .slice none 0 0].toArray 41 (0, 0)) := (hB2.block g (by simp; omega)).trans (by rw [hg]; exact heap_new' wr _)
      have HB2 : Hid (Below w.heap.size w w2) := HBa.out.trans (hB2.mono (by simp; omega))
      have hs2 := HB2.out.size
      have hwg : w.heap.size ≤ g := by omega
      have HDR : Hid (RDrf w2 w2 g (.slice a S.length cap) (.slice none 0 0) (.slice none 0 0) (.slice none 0 0) [] [] []) := ⟨hgs, hgh, World.grownBy.refl _ _, World.ownsRow_nil _ _ _ _, World.ownsRow_nil _ _ _ _, World.ownsRow_nil _ _ _ _⟩
      have HEA : Hid (∀ W, w2.grownBy W (some g) → IntsIn W vE (edgS S)) := fun W hW => ints_apart ⟨_, _, _, rfl⟩ ⟨_, _, _, rfl⟩ ⟨_, _, _, rfl⟩ hgh hE hW
      have HBG : Hid (∀ W, w2.grownBy W (some g) → Below w.heap.size w W) := fun W hW => HB2.out.trans ⟨hW.os, hW.tape, hW.output, hW.size, fun j hj => hW.block j (by omega) (by simp; omega)⟩
      obtain ⟨aE, cE, rfl, _, _⟩ := hE
      rw [← hg]
      clear hg hgh hB2 HBa
      go_wp2
      go_loopw [10, 11] (fun ve x wr => ∃ k : Nat, k ≤ (edgS S).length ∧ x = .int .i64 k ∧ (clsK S k).length ≤ 200 ∧ ∃ vm vl, RDrf w2 wr g (.slice a S.length cap) vm vl ve (clsK S k) ((clsK S k).map (fstS S)) (entsK S k)) (fun _ x _ => (edgS S).length - (intOf x).toNat)
      case atStart => exact ⟨0, Nat.zero_le _, rfl, Nat.zero_le _, _, _, HDR.out⟩
      case round =>
        obtain ⟨k, hk2, rfl, hcl, vm, vl, hd⟩ := hrel
        clear HDR
        obtain ⟨ae, ce, rfl⟩ := S3.slice_of_row hd.ents
        obtain ⟨am, cm, rfl⟩ := S3.slice_of_row hd.masks
        obtain ⟨al, cl, rfl⟩ := S3.slice_of_row hd.least
        rw [List.length_map] at hd
        have hel := HEL.out
        by_cases hke : k < (edgS S).length
        · have hke' : (k : Int) < ((edgS S).length : Int) := by omega
          have hEr := HEA.out wr hd.fr
          obtain ⟨a', c', e, _, hcellE⟩ := hEr
          obtain ⟨rfl, rfl⟩ : aE = a' ∧ cE = c' := by simpa using e
          obtain ⟨gE, oE, rfl, hgE, hck⟩ := hcellE k hke
          have HCE : Hid (∀ W, w2.grownBy W (some g) → ∀ i, (h : i < (edgS S).length) → W.cell? ⟨gE, oE + i, none⟩ = some (.int .i64 (edgS S)[i])) := fun W hW i h => by
            obtain ⟨a', c', e, _, hc'⟩ := HEA.out W hW
            obtain ⟨g', o', e2, _, h5⟩ := hc' i h
            obtain ⟨rfl, _⟩ : some ⟨gE, oE, none⟩ = a' ∧ cE = c' := by simpa using e
            obtain ⟨rfl, rfl⟩ : gE = g' ∧ oE = o' := by simpa using e2
            exact h5
          have HM := rmask_any S (.slice a S.length cap) (edgS S)[k] wr (by omega) (fun s hs => by have := hl1 s hs; omega) (HV.out.below (HBG.out wr hd.fr))
          have HFN := rfind_any g _ _ _ _ _ (maskN S (edgS S)[k]) wr (by omega) hd.alp
          have hm := mask_small S (edgS S)[k] (by omega)
          have hstep := cls_step hke
          have hent := ent_low hke
          have hnew := fst_new hke
          have hpl : (entsK S k).length = k := ents_length S k
          have hps := ents_step S k
          have hnx : nxtE (edgS S) k ≤ 1114111 := nxt_le HS.out
          have hlb := edg_bounds HS.out _ (List.getElem_mem hke)
          have hnxs := @nxt_some (edgS S) k
          have hnxn := @nxt_none (edgS S) k
          obtain ⟨low, hlow⟩ : ∃ low, low = (edgS S)[k] := ⟨_, rfl⟩
          obtain ⟨M, hM⟩ : ∃ M, M = clsK S k := ⟨_, rfl⟩
          obtain ⟨M', hM'⟩ : ∃ M', M' = clsK S (k + 1) := ⟨_, rfl⟩
          obtain ⟨L, hL⟩ : ∃ L, L = (clsK S k).map (fstS S) := ⟨_, rfl⟩
          obtain ⟨P, hP⟩ : ∃ P, P = entsK S k := ⟨_, rfl⟩
          obtain ⟨P', hP'⟩ : ∃ P', P' = entsK S (k + 1) := ⟨_, rfl⟩
          obtain ⟨m, hm0⟩ : ∃ m, m = maskN S (edgS S)[k] := ⟨_, rfl⟩
          obtain ⟨hi, hhi0⟩ : ∃ hi, hi = nxtE (edgS S) k := ⟨_, rfl⟩
          have HLL : Hid (L = M.map (fstS S)) := by show _ = _; rw [hL, hM]
          have hLl : L.length = M.length := by rw [hL, hM, List.length_map]
          rw [← hL, ← hM, ← hP] at hd
          rw [← hM] at HFN
          rw [← hP]
          rw [← hm0] at HM HFN hm
          rw [← hlow] at hck HM hlb hnew
          rw [← hM', ← hM, ← hm0] at hstep
          rw [← hM', ← hm0, ← hhi0, ← hlow] at hent
          rw [← hM] at hnew hcl
          rw [← hP] at hpl hps
          rw [← hP'] at hps
          rw [← hhi0] at hnx hnxs hnxn
          have hnew2 : ¬ m ∈ M → fstS S m = low := fun q => by
            have e : m = maskN S low := by rw [hm0, hlow]
            rw [e] at q ⊢
            exact hnew q
          obtain ⟨HSTEP, HENT, HNEW, HPS, HMO, HPO, HNXS, HNXN⟩ : Hid (M' = S3.addF M m) ∧ Hid (entS S k = ⟨low, hi, ((M'.idxOf m : Nat) : Int)⟩) ∧ Hid (¬ m ∈ M → fstS S m = low) ∧ Hid (P' = P ++ [entS S k]) ∧ Hid (M' = clsK S (k + 1)) ∧ Hid (P' = entsK S (k + 1)) ∧ Hid (∀ h : k + 1 < (edgS S).length, hi = (edgS S)[k + 1] - 1) ∧ Hid (¬ k + 1 < (edgS S).length → hi = 1114111) := ⟨hstep, hent, hnew2, hps, hM', hP', hnxs, hnxn⟩
          have HLOW : Hid (low = (edgS S)[k]) := hlow
          have hP3 : P.length ≤ 80001 := by omega
          have hg1 : wr.cell? ⟨g, 1, none⟩ = some (.slice am M.length cm) := S3.cell_row hd.heap rfl
          have HD : Hid (RDrf w2 wr g (.slice a S.length cap) (.slice am M.length cm) (.slice al M.length cl) (.slice ae P.length ce) M L P) := hd
          have hM2 : M.length ≤ 200 := hcl
          clear hd hstep hent hnew hnew2 hps hpl hM hM' hP hP' hL hm0 hhi0 hlow hcellE e hnxs hnxn
          -- the next edge, read
          have HNEXT : Hid (∀ W, w2.grownBy W (some g) → k + 1 < (edgS S).length → W.cell? ⟨gE, oE + (k + 1), none⟩ = some (.int .i64 (hi + 1))) := fun W hW h => by
            have h1 := HCE.out W hW (k + 1) h
            have h2 := HNXS.out h
            rw [h1]
            congr 2
            omega
          have HCK : Hid (∀ W, w2.grownBy W (some g) → W.cell? ⟨gE, oE + k, none⟩ = some (.int .i64 low)) := fun W hW => by rw [HLOW.out]; exact HCE.out W hW k hke
          go_wp2_with fail
          refine HM.mono ?_
          rintro e w3 ⟨rfl, rfl⟩
          clear HM
          go_wp2_with fail
          refine HFN.mono ?_
          rintro e w4 ⟨rfl, rfl⟩
          clear HFN
          obtain ⟨wr, rfl⟩ : ∃ wr, wr = w4 := ⟨_, rfl⟩
          by_cases q : m ∈ M
          · rw [findR_cls q]
            have hME : M' = M := by rw [HSTEP.out]; exact if_pos q
            have hixl := List.idxOf_lt_length_of_mem q
            have hent : entS S k = ⟨low, hi, ((M.idxOf m : Nat) : Int)⟩ := by rw [HENT.out, hME]
            obtain ⟨ix, hix⟩ : ∃ ix, ix = M.idxOf m := ⟨_, rfl⟩
            rw [← hix] at hixl hent ⊢
            have HPE : Hid (P' = P ++ [⟨low, hi, (ix : Int)⟩]) := by show _ = _; rw [HPS.out, hent]
            have HBA : Hid (Below wr.heap.size wr (wr.alloc (.cells #[.int .i64 low, .int .i64 hi, .int .u8 (ix : Int)] 66))) := (Below.refl _ _).alloc (Nat.le_refl _) _
            have HDA : Hid (RDrf w2 (wr.alloc (.cells #[.int .i64 low, .int .i64 hi, .int .u8 (ix : Int)] 66)) g (.slice a S.length cap) (.slice am M.length cm) (.slice al M.length cl) (.slice ae P.length ce) M L P) := HD.out.below HBA.out
            have HNA : Hid ((wr.alloc (.cells #[.int .i64 low, .int .i64 hi, .int .u8 (ix : Int)] 66)).heap[wr.heap.size]? = some (.cells #[.int .i64 low, .int .i64 hi, .int .u8 (ix : Int)] 66 (0, 0))) := heap_new' wr _
            have hix2 : (ix : Int) ≤ 200 := by omega
            have hnix : ¬ ((ix : Int) < 0) := by omega
            have hM3 : ¬ ((200 : Int) < (M.length : Int)) := by omega
            have hck2 := HCK.out wr HD.out.fr
            have HFIN : Hid (∀ w' ve vm vl, RDrf w2 w' g (.slice a S.length cap) vm vl ve M L P' → (clsK S (k + 1)).length ≤ 200 ∧ RDrf w2 w' g (.slice a S.length cap) vm vl ve (clsK S (k + 1)) ((clsK S (k + 1)).map (fstS S)) (entsK S (k + 1))) := fun w' ve vm vl h => by
              rw [← HMO.out, ← HPO.out, hME, ← HLL.out]
              exact ⟨hM2, h⟩
            clear hixl hix hent q hME hck
            by_cases hk1 : k + 1 < (edgS S).length
            · have hk1' : (k : Int) + 1 < ((edgS S).length : Int) := by omega
              have hnx2 := HNEXT.out wr HD.out.fr hk1
              have hhb : 0 ≤ hi ∧ hi ≤ 1114111 := by
                have := HNXS.out hk1
                have := edg_bounds HS.out _ (List.getElem_mem hk1)
                have := up_get (edg_up S) k (k + 1) hke hk1 (by omega)
                have := HLOW.out
                omega
              go_wp2_with (first | (at_builtin; refine wpList_append_own _ rfl (.tmp 113) (.tmp 122) 62 rfl w2.heap.size 66 iP (.agg #[.int .i64 0, .int .i64 0, .int .u8 0]) 3 24 S3.Try.undPs hiP hzP0 hzP1 hzP2 rfl (by decide) _ _ _ rfl HDA.out.ents ⟨wr.heap.size, 0, none⟩ 1 1 (S3.cellsP ⟨low, hi, (ix : Int)⟩) rfl rfl (World.news_of_block HNA.out) (by simp [S3.cellsP, Value.oneCell']) (by unfold maxLen; omega) (by omega) (HDA.out.fr.size) ?_; intro v9 w9 ho9 hg9 _; obtain ⟨a9, cap9, rfl⟩ := S3.slice_of_row ho9; have hr9 := HDA.out.rowP (P' := P') (v' := .slice a9 (P.length + 1) cap9) hg9 (by rw [HPE.out, List.length_append, S3.cellsPs_snoc]; exact ho9); have HD9 : Hid (RDrf w2 w9 _ _ _ _ _ _ _ _) := hr9; clear ho9 hg9 hr9) | fail)
              go_roundw
              case rel => exact ⟨k + 1, by omega, by go_num, (HFIN.out _ _ _ _ HD9.out).1, _, _, (HFIN.out _ _ _ _ HD9.out).2⟩
              case measure => simp [intOf]; omega
            · have hk1' : ¬ ((k : Int) + 1 < ((edgS S).length : Int)) := by omega
              have hhi := HNXN.out hk1
              subst hhi
              go_wp2_with (first | (at_builtin; refine wpList_append_own _ rfl (.tmp 113) (.tmp 122) 62 rfl w2.heap.size 66 iP (.agg #[.int .i64 0, .int .i64 0, .int .u8 0]) 3 24 S3.Try.undPs hiP hzP0 hzP1 hzP2 rfl (by decide) _ _ _ rfl HDA.out.ents ⟨wr.heap.size, 0, none⟩ 1 1 (S3.cellsP ⟨low, 1114111, (ix : Int)⟩) rfl rfl (World.news_of_block HNA.out) (by simp [S3.cellsP, Value.oneCell']) (by unfold maxLen; omega) (by omega) (HDA.out.fr.size) ?_; intro v9 w9 ho9 hg9 _; obtain ⟨a9, cap9, rfl⟩ := S3.slice_of_row ho9; have hr9 := HDA.out.rowP (P' := P') (v' := .slice a9 (P.length + 1) cap9) hg9 (by rw [HPE.out, List.length_append, S3.cellsPs_snoc]; exact ho9); have HD9 : Hid (RDrf w2 w9 _ _ _ _ _ _ _ _) := hr9; clear ho9 hg9 hr9) | fail)
              go_roundw
              case rel => exact ⟨k + 1, by omega, by go_num, (HFIN.out _ _ _ _ HD9.out).1, _, _, (HFIN.out _ _ _ _ HD9.out).2⟩
              case measure => simp [intOf]; omega
          · rw [findR_no q]
            have hME : M' = M ++ [m] := by rw [HSTEP.out]; exact if_neg q
            have hidx : M'.idxOf m = M.length := by rw [hME, List.idxOf_append, if_neg q]; simp
            have HPE : Hid (P' = P ++ [⟨low, hi, (M.length : Int)⟩]) := by show _ = _; rw [HPS.out, HENT.out, hidx]
            have HFL : Hid (fstS S m = low) := HNEW.out q
            have HLM : Hid (L ++ [low] = (M ++ [m]).map (fstS S)) := by show _ = _; rw [List.map_append, ← HLL.out, List.map_singleton, HFL.out]
            have HBA : Hid (Below wr.heap.size wr (wr.alloc (.cells #[.int .u64 (m : Int)] 34))) := (Below.refl _ _).alloc (Nat.le_refl _) _
            have HD2 : Hid (RDrf w2 (wr.alloc (.cells #[.int .u64 (m : Int)] 34)) g (.slice a S.length cap) (.slice am M.length cm) (.slice al M.length cl) (.slice ae P.length ce) M L P) := HD.out.below HBA.out
            have HN2 : Hid ((wr.alloc (.cells #[.int .u64 (m : Int)] 34)).heap[wr.heap.size]? = some (.cells #[.int .u64 (m : Int)] 34 (0, 0))) := heap_new' wr _
            have HFIN : Hid (M.length + 1 ≤ 200 → ∀ w' ve vm vl, RDrf w2 w' g (.slice a S.length cap) vm vl ve (M ++ [m]) (L ++ [low]) P' → (clsK S (k + 1)).length ≤ 200 ∧ RDrf w2 w' g (.slice a S.length cap) vm vl ve (clsK S (k + 1)) ((clsK S (k + 1)).map (fstS S)) (entsK S (k + 1))) := fun h2 w' ve vm vl h => by
              rw [← HMO.out, ← HPO.out, hME, ← HLM.out]
              exact ⟨by rw [List.length_append]; exact h2, h⟩
            have HFULL : Hid (200 < M.length + 1 → er = 3) := fun h => by
              rw [HER2.out, if_pos]
              have h1 := clsK_le S (k + 1)
              rw [← HMO.out, hME, List.length_append] at h1
              simp at h1
              omega
            have HLSl : Hid (L.length = M.length) := hLl
            clear hidx q hME hck hLl
            go_wp2_with (first | (at_builtin; refine wpList_append_own _ rfl (.tmp 77) (.tmp 79) 38 rfl w2.heap.size 34 iU (.int .u64 0) 1 8 Try.underlying38 hiU hzU0 hzU1 hzU2 rfl (by decide) _ _ _ rfl HD2.out.masks ⟨wr.heap.size, 0, none⟩ 1 1 [.int .u64 (m : Int)] rfl rfl (World.news_of_block HN2.out) (by simp [Value.oneCell']) (by unfold maxLen; omega) (by omega) HD2.out.fr.size ?_; intro v3 w3 ho3 hg3 _; obtain ⟨a3, cap3, rfl⟩ := S3.slice_of_row ho3; have hr3 := HD2.out.rowM (M' := M ++ [m]) (v' := .slice a3 (M.length + 1) cap3) hg3 (by rw [List.length_append]; simpa [u64s] using ho3); obtain ⟨⟨hc3, hf3⟩, hd3⟩ := hr3; have HD3 : Hid (RDrf w2 (w3.setCell ⟨g, 1, none⟩ (.slice a3 (M.length + 1) cap3)) g (.slice a S.length cap) (.slice a3 (M.length + 1) cap3) (.slice al M.length cl) (.slice ae P.length ce) (M ++ [m]) L P) := hd3; clear ho3 hg3 hd3 hg1) | fail)
            obtain ⟨W1, hW1⟩ : ∃ W1, W1 = w3.setCell ⟨g, 1, none⟩ (.slice a3 (M.length + 1) cap3) := ⟨_, rfl⟩
            rw [← hW1] at HD3 ⊢
            have hg2 : W1.cell? ⟨g, 2, none⟩ = some (.slice al M.length cl) := S3.cell_row HD3.out.heap rfl
            have hckW := HCK.out W1 HD3.out.fr
            have hgW := HD3.out.lt
            have HNP : Hid ((Value.slice al M.length cl).ownBlock ≠ some g) := S3.own_ne HD3.out.least HD3.out.heap (by decide)
            have HLSR : Hid (W1.ownsRow w2.heap.size 3 1 (.slice al M.length cl) M.length (L.map (Value.int .i64))) := by have := HD3.out.least; rw [HLSl.out] at this; exact this
            have HBW : Hid (Below W1.heap.size W1 (W1.alloc (.cells #[.int .i64 low] 3)).drew) := ((Below.refl _ _).alloc (Nat.le_refl _) _).drew
            have hszW := HD3.out.fr.size
            have HC3 : Hid ((W1.alloc (.cells #[.int .i64 low] 3)).drew.cell? ⟨g, 2, none⟩ = some (.slice al M.length cl)) := (HBW.out.cell (p := ⟨g, 2, none⟩) hgW).trans hg2
            have HF3 : Hid ((W1.alloc (.cells #[.int .i64 low] 3)).drew.frozen? ⟨g, 2, none⟩ = false) := (World.frozen?_of_block (a := ⟨g, 2, none⟩) (HBW.out.block g hgW)).trans (frozen_of_row _ _ _ _ _ HD3.out.heap)
            clear hW1
            go_region_law (refine step_append_lies _ (by rfl) (.tmp 87) (.tmp 92) 23 (by rfl) w2.heap.size 3 iI (.int .i64 0) 1 8 Try.underlying23 hiI hzI0 hzI1 hzI2 rfl (by decide) (.slice al M.length cl) M.length (L.map (Value.int .i64)) (by rfl) (by exact (HLSR.out.alloc _).drew) ⟨W1.heap.size, 0, none⟩ 1 1 [.int .i64 low] (by rfl) rfl (by exact World.news_of_block (heap_new' W1 _)) (by simp [Value.oneCell']) (by omega) (by unfold maxLen; omega) (by omega) (by simp [World.drew]; omega) _ rfl ?_; intro gL capL w5 hownL hgrowL hatL hltL; have c32 : w5.cell? ⟨g, 2, none⟩ = some (.slice al M.length cl) := hgrowL.cell HC3.out (Ne.symm HNP.out); have f32 : w5.frozen? ⟨g, 2, none⟩ = false := (World.frozen?_of_block (a := ⟨g, 2, none⟩) (hgrowL.block g (by simp [World.drew]; omega) (Ne.symm HNP.out))).trans HF3.out)
            all_goals
              have hdL := (HD3.out.below HBW.out).rowL (L' := L ++ [low]) (v' := .slice (some ⟨gL, 0, none⟩) (M.length + 1) capL) hgrowL (by rw [List.length_append, HLSl.out, List.map_append]; exact hownL)
              obtain ⟨w6, hw6⟩ : ∃ w6, w6 = w5.setCell ⟨g, 2, none⟩ (.slice (some ⟨gL, 0, none⟩) (M.length + 1) capL) := ⟨_, rfl⟩
              have HD6 : Hid (RDrf w2 w6 g (.slice a S.length cap) (.slice a3 (M.length + 1) cap3) (.slice (some ⟨gL, 0, none⟩) (M.length + 1) capL) (.slice ae P.length ce) (M ++ [m]) (L ++ [low]) P) := by rw [hw6]; exact hdL.2
              rw [← hw6]
              have hg16 : w6.cell? ⟨g, 1, none⟩ = some (.slice a3 (M.length + 1) cap3) := S3.cell_row HD6.out.heap rfl
              have hck6 := HCK.out w6 HD6.out.fr
              clear hw6 hdL hownL hgrowL hatL hltL c32 f32 hg2 hckW HC3 HF3
              by_cases hfull : 200 < M.length + 1
              · have hfull' : (200 : Int) < (M.length : Int) + 1 := by omega
                have e3 : er = 3 := HFULL.out hfull
                subst e3
                have HBe : Hid (Below w.heap.size w w6) := HBG.out w6 HD6.out.fr
                clear hck6
                go_wp2
                go_ret2
                first | exact ⟨_, rfl, (fun _ => rfl), (fun h => absurd h (by omega)), HBe.out⟩ | exact ⟨_, rfl, rfl, HBe.out⟩
              · have hfull' : ¬ ((200 : Int) < (M.length : Int) + 1) := by omega
                have HFIN2 : Hid (∀ w' ve vm vl, RDrf w2 w' g (.slice a S.length cap) vm vl ve (M ++ [m]) (L ++ [low]) P' → (clsK S (k + 1)).length ≤ 200 ∧ RDrf w2 w' g (.slice a S.length cap) vm vl ve (clsK S (k + 1)) ((clsK S (k + 1)).map (fstS S)) (entsK S (k + 1))) := HFIN.out (by omega)
                have hM7 : (M.length : Int) < 200 := by omega
                by_cases hk1 : k + 1 < (edgS S).length
                · have hk1' : (k : Int) + 1 < ((edgS S).length : Int) := by omega
                  have hnx2 := HNEXT.out w6 HD6.out.fr hk1
                  have hhb : 0 ≤ hi ∧ hi ≤ 1114111 := by
                    have := HNXS.out hk1
                    have := edg_bounds HS.out _ (List.getElem_mem hk1)
                    have := up_get (edg_up S) k (k + 1) hke hk1 (by omega)
                    have := HLOW.out
                    omega
                  have HBA6 : Hid (Below w6.heap.size w6 (w6.alloc (.cells #[.int .i64 low, .int .i64 hi, .int .u8 (M.length : Int)] 66))) := (Below.refl _ _).alloc (Nat.le_refl _) _
                  have HDA : Hid (RDrf w2 (w6.alloc (.cells #[.int .i64 low, .int .i64 hi, .int .u8 (M.length : Int)] 66)) g (.slice a S.length cap) (.slice a3 (M.length + 1) cap3) (.slice (some ⟨gL, 0, none⟩) (M.length + 1) capL) (.slice ae P.length ce) (M ++ [m]) (L ++ [low]) P) := HD6.out.below HBA6.out
                  have HNA : Hid ((w6.alloc (.cells #[.int .i64 low, .int .i64 hi, .int .u8 (M.length : Int)] 66)).heap[w6.heap.size]? = some (.cells #[.int .i64 low, .int .i64 hi, .int .u8 (M.length : Int)] 66 (0, 0))) := heap_new' w6 _
                  go_wp2_with (first | (at_builtin; refine wpList_append_own _ rfl (.tmp 113) (.tmp 122) 62 rfl w2.heap.size 66 iP (.agg #[.int .i64 0, .int .i64 0, .int .u8 0]) 3 24 S3.Try.undPs hiP hzP0 hzP1 hzP2 rfl (by decide) _ _ _ rfl HDA.out.ents ⟨w6.heap.size, 0, none⟩ 1 1 (S3.cellsP ⟨low, hi, (M.length : Int)⟩) rfl rfl (World.news_of_block HNA.out) (by simp [S3.cellsP, Value.oneCell']) (by unfold maxLen; omega) (by omega) (HDA.out.fr.size) ?_; intro v9 w9 ho9 hg9 _; obtain ⟨a9, cap9, rfl⟩ := S3.slice_of_row ho9; have hr9 := HDA.out.rowP (P' := P') (v' := .slice a9 (P.length + 1) cap9) hg9 (by rw [HPE.out, List.length_append, S3.cellsPs_snoc]; exact ho9); have HD9 : Hid (RDrf w2 w9 _ _ _ _ _ _ _ _) := hr9; clear ho9 hg9 hr9) | fail)
                  go_roundw
                  case rel => exact ⟨k + 1, by omega, by go_num, (HFIN2.out _ _ _ _ HD9.out).1, _, _, (HFIN2.out _ _ _ _ HD9.out).2⟩
                  case measure => simp [intOf]; omega
                · have hk1' : ¬ ((k : Int) + 1 < ((edgS S).length : Int)) := by omega
                  have hhi := HNXN.out hk1
                  subst hhi
                  have HBA6 : Hid (Below w6.heap.size w6 (w6.alloc (.cells #[.int .i64 low, .int .i64 1114111, .int .u8 (M.length : Int)] 66))) := (Below.refl _ _).alloc (Nat.le_refl _) _
                  have HDA : Hid (RDrf w2 (w6.alloc (.cells #[.int .i64 low, .int .i64 1114111, .int .u8 (M.length : Int)] 66)) g (.slice a S.length cap) (.slice a3 (M.length + 1) cap3) (.slice (some ⟨gL, 0, none⟩) (M.length + 1) capL) (.slice ae P.length ce) (M ++ [m]) (L ++ [low]) P) := HD6.out.below HBA6.out
                  have HNA : Hid ((w6.alloc (.cells #[.int .i64 low, .int .i64 1114111, .int .u8 (M.length : Int)] 66)).heap[w6.heap.size]? = some (.cells #[.int .i64 low, .int .i64 1114111, .int .u8 (M.length : Int)] 66 (0, 0))) := heap_new' w6 _
                  go_wp2_with (first | (at_builtin; refine wpList_append_own _ rfl (.tmp 113) (.tmp 122) 62 rfl w2.heap.size 66 iP (.agg #[.int .i64 0, .int .i64 0, .int .u8 0]) 3 24 S3.Try.undPs hiP hzP0 hzP1 hzP2 rfl (by decide) _ _ _ rfl HDA.out.ents ⟨w6.heap.size, 0, none⟩ 1 1 (S3.cellsP ⟨low, 1114111, (M.length : Int)⟩) rfl rfl (World.news_of_block HNA.out) (by simp [S3.cellsP, Value.oneCell']) (by unfold maxLen; omega) (by omega) (HDA.out.fr.size) ?_; intro v9 w9 ho9 hg9 _; obtain ⟨a9, cap9, rfl⟩ := S3.slice_of_row ho9; have hr9 := HDA.out.rowP (P' := P') (v' := .slice a9 (P.length + 1) cap9) hg9 (by rw [HPE.out, List.length_append, S3.cellsPs_snoc]; exact ho9); have HD9 : Hid (RDrf w2 w9 _ _ _ _ _ _ _ _) := hr9; clear ho9 hg9 hr9) | fail)
                  go_roundw
                  case rel => exact ⟨k + 1, by omega, by go_num, (HFIN2.out _ _ _ _ HD9.out).1, _, _, (HFIN2.out _ _ _ _ HD9.out).2⟩
                  case measure => simp [intOf]; omega
        · have hke' : ¬ ((k : Int) < ((edgS S).length : Int)) := by omega
          obtain rfl : k = (edgS S).length := by omega
          rw [cls_all] at hcl hd
          have e3 : er = S3.errB (entsS S) := by rw [HER2.out, if_neg (by omega)]
          have HBU := S3.refBuild_any (entsS S) _ wr (S3.props_of_row hd.ents) (ents_bytes (Nat.le_refl _) hcl)
          rw [← e3] at HBU
          have herr := errB_ents HS.out
          rw [← e3] at herr
          have HBe : Hid (Below w.heap.size w wr) := HBG.out wr hd.fr
          have hse := HBe.out.size
          have HD : Hid (RDrf w2 wr g (.slice a S.length cap) (.slice am (clsS S).length cm) (.slice al (clsS S).length cl) (.slice ae (entsS S).length ce) (clsS S) ((clsS S).map (fstS S)) (entsS S)) := hd
          clear hd hcl e3 HER2
          go_wp2_with fail
          refine HBU.mono ?_
          rintro e w5 ⟨pv, rfl, hp1, hp2, hB5⟩
          clear HBU
          have HB5 : Hid (Below w.heap.size w w5) := HBe.out.trans (hB5.mono hse)
          have HA5 : Hid (RAlp w5 g (.slice a S.length cap) (.slice am (clsS S).length cm) (.slice al (clsS S).length cl) (clsS S) ((clsS S).map (fstS S))) := HD.out.alp.below hB5
          rcases herr with rfl | rfl
          · clear hp1 hp2 hB5
            go_wp2
            go_ret2
            first | exact ⟨_, rfl, ⟨g, _, _, rfl, HA5.out⟩, HB5.out⟩ | exact ⟨_, rfl, ⟨g, rfl, _, _, HA5.out⟩, HB5.out⟩ | exact ⟨_, rfl, ⟨g, rfl, ⟨_, _, HA5.out⟩⟩, HB5.out⟩ | exact ⟨_, rfl, ⟨g, ⟨rfl, ⟨_, ⟨_, HA5.out⟩⟩⟩⟩, HB5.out⟩
          · clear hp1 hp2 hB5
            go_wp2
            go_ret2
            first | exact ⟨_, rfl, (fun _ => rfl), (fun h => absurd h (by omega)), HB5.out⟩ | exact ⟨_, rfl, rfl, HB5.out⟩
end Go.Proofs.Ytmknifnhcgdkaaa
