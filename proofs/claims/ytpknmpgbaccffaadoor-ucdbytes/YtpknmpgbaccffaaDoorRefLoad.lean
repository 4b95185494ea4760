/-
  scansionref03.Load: the document's trie of bytes.
-/
import Derived.Test.YtpknmpgbaccffaaDoorRefSave
import Derived.Test.YtpknmpgbaccffaaDoorRefLoadMath
import Derived.Test.YtpknmpgbaccffaaDoorStr
namespace Go.Proofs.YtpknmpgbaccffaaDoor
open Go.RowKit
set_option linter.unusedVariables false

theorem errL_not {l : List Int} (h : ¬ okL l) : errL l = 2 := by unfold errL; rw [if_neg (fun z => h (okLb_iff.1 z))]
theorem errL_yes {l : List Int} (h : okL l) : errL l = 0 := by unfold errL; rw [if_pos (okLb_iff.2 h)]
theorem addF_len2 (F : List (List Int)) (b : List Int) : (addF F b).length ≤ F.length + 1 := by
  unfold addF; split
  · omega
  · simp
theorem firsts_take_len {bs F : List (List Int)} (h : ∀ x ∈ bs, x ∈ F) (k : Nat) : (firstsOf (bs.take k)).length ≤ F.length := firsts_le (fun x hx => h x (List.mem_of_mem_take hx))
theorem str_other2 {x y : List Int} (hx : ByL x) (hy : ByL y) (h : ¬ x = y) : ((strOfNums x).toList == (strOfNums y).toList) = false := by
  have : (strOfNums x).toList ≠ (strOfNums y).toList := fun q => h (nums_inj hx hy (by simpa [strOfNums, ByteArray.toList_eq] using q))
  simpa using this
theorem saved_byL {bs : List (List Int)} (h1 : 1 ≤ (firstsOf bs).length) (h2 : (firstsOf bs).length ≤ 256) (hb : ∀ b ∈ bs, IsB b) : ByL (saveL bs) := fun x hx => by
  unfold saveL at hx
  rcases List.mem_cons.1 hx with e | e
  · omega
  · rcases List.mem_append.1 e with q | q
    · obtain ⟨n, hn, rfl⟩ := List.mem_map.1 q
      obtain ⟨i, hi, rfl⟩ := List.getElem_of_mem hn
      rw [like_length] at hi
      have := like_lt hi
      constructor <;> omega
    · obtain ⟨b, hb1, hxb⟩ := List.mem_flatten.1 q
      exact (hb b (firsts_mem.1 hb1)).2 x hxb
/-- A block of the bytes. -/
theorem BytesAt.part {n : Nat} {w : World} {g off cap : Nat} {l : List Int} (h : BytesAt n w (.slice (some ⟨g, off, none⟩) l.length cap) l) {i m : Nat} (hi : i + m ≤ l.length) : BytesAt n w (.slice (some ⟨g, off + i, none⟩) m (cap - i)) ((l.drop i).take m) := by
  obtain ⟨a, c, e, hc, hcl⟩ := h
  obtain ⟨rfl, rfl⟩ : some ⟨g, off, none⟩ = a ∧ cap = c := by simpa using e
  have hl : ((l.drop i).take m).length = m := by rw [List.length_take, List.length_drop]; omega
  refine ⟨some ⟨g, off + i, none⟩, cap - i, by rw [hl], by rw [hl]; omega, fun j hj => ?_⟩
  rw [hl] at hj
  obtain ⟨g', o', e', hg', hc'⟩ := hcl (i + j) (by omega)
  obtain ⟨rfl, rfl⟩ : g = g' ∧ off = o' := by simpa using e'
  refine ⟨g, off + i, rfl, hg', ?_⟩
  rw [Nat.add_assoc, hc']
  simp
theorem bs_get_l {l : List Int} {k : Nat} (hk : k < 4352) (hl : 4353 ≤ l.length) : (bsB l)[k]'(by rw [bsB_length]; exact hk) = blkB l (l[1 + k]'(by omega)).toNat := by
  rw [bsB_get, List.getElem?_eq_getElem (by omega), Option.getD_some]

set_option maxRecDepth 100000 in
set_option maxHeartbeats 8000000 in
theorem refLoad_any (l : List Int) (v : Value) (w : World) (hv : BytesAt w.heap.size w v l) (hby : ByL l) :
    Calls Tryd.prog 35 #[v] w fun e w' => ∃ pv, e = .returned (.tuple #[pv, .int .i64 (errL l)]) ∧ (errL l ≠ 0 → pv = .pointer none) ∧ (errL l = 0 → ∃ g, pv = .pointer (some ⟨g, 0, none⟩) ∧ RefAt w.heap.size w' g (firstL l) (likeN l)) ∧ Below w.heap.size w w' := by
  have HV : Hid (BytesAt w.heap.size w v l) := hv
  have HBY : Hid (ByL l) := hby
  obtain ⟨a, cap, rfl, hcap, hcl⟩ := hv
  have HCL : Hid (∀ i, (h : i < l.length) → ∃ g off, a = some ⟨g, off, none⟩ ∧ g < w.heap.size ∧ w.cell? ⟨g, off + i, none⟩ = some (.int .u8 l[i])) := hcl
  clear hcl hby
  by_cases hs : l.length < 4353
  · have hs' : (l.length : Int) < 4353 := by omega
    have e2 : errL l = 2 := errL_not (fun h => by have := h.1.2; omega)
    rw [e2]
    go_enter Tryd.func35, Tryd.ntmps35
    go_wp2
    go_ret2
    first | exact ⟨_, rfl, fun _ => rfl, fun h => by omega, Below.refl _ _⟩ | exact ⟨_, rfl, rfl, Below.refl _ _⟩ | done
  have hs' : decide ((l.length : Int) < 4353) = false := by simp; omega
  obtain ⟨g, off, rfl, hg, c0⟩ := HCL.out 0 (by omega)
  rw [Nat.add_zero] at c0
  obtain ⟨x, hx⟩ : ∃ x : Nat, l[0] = (x : Int) := ⟨(l[0]).toNat, by have := HBY.out l[0] (List.getElem_mem _); omega⟩
  have hx2 : x ≤ 255 := by have := HBY.out l[0] (List.getElem_mem _); omega
  have hcnt : cntL l = x + 1 := by
    unfold cntL
    rw [List.getElem?_eq_getElem (by omega), Option.getD_some, hx]
    omega
  rw [hx] at c0
  have HCN : Hid (cntL l = x + 1) := hcnt
  have hw1 : IntKind.i64.wrap ((x : Int) + 1) = (x : Int) + 1 := IntWalk.i64_in _ (by omega)
  have hw2 : IntKind.i64.wrap (256 * ((x : Int) + 1)) = 256 * ((x : Int) + 1) := IntWalk.i64_in _ (by omega)
  have hw3 : IntKind.i64.wrap (4353 + 256 * ((x : Int) + 1)) = 4353 + 256 * ((x : Int) + 1) := IntWalk.i64_in _ (by omega)
  have hw4 : IntKind.i64.wrap (x : Int) = (x : Int) := IntWalk.i64_in _ (by omega)
  have hl0 : (0 : Int) < (l.length : Int) := by omega
  by_cases hne : l.length = 4353 + 256 * (x + 1)
  · have HLL : Hid (lenL l) := ⟨fun e => by rw [e] at hs; simp at hs, by rw [hcnt]; exact hne⟩
    obtain ⟨M, hM⟩ : ∃ M, M = l.length := ⟨_, rfl⟩
    have HM : Hid (M = l.length) := hM
    have HMX : Hid (M = 4353 + 256 * (x + 1)) := by show _ = _; omega
    have hM1 : decide ((M : Int) < 4353) = false := by simp; omega
    have hM2 : ((M : Int) == 4353 + 256 * ((x : Int) + 1)) = true := by simp; omega
    have hM3 : ((M : Int) != 4353 + 256 * ((x : Int) + 1)) = false := by simp; omega
    have hM0 : (0 : Int) < (M : Int) := by omega
    have hMc : M ≤ cap := by omega
    obtain ⟨bs, hbs⟩ : ∃ bs, bs = bsB l := ⟨_, rfl⟩
    have HBS : Hid (bs = bsB l) := hbs
    have hbl : bs.length = 4352 := by rw [hbs, bsB_length]
    have HBL : Hid (bs.length = 4352) := hbl
    have HR0 : Hid (RefAt w.heap.size (w.alloc (.cells #[.slice none 0 0, .slice none 0 0] 85)) w.heap.size [] []) := ⟨.slice none 0 0, .slice none 0 0, Nat.le_refl _, heap_new' w _, World.ownsRow_nil _ _ _ _, World.ownsRow_nil _ _ _ _, fun b hb => by cases hb⟩
    have HB0 : Hid (Below w.heap.size w (w.alloc (.cells #[.slice none 0 0, .slice none 0 0] 85))) := (Below.refl _ _).alloc (Nat.le_refl _) _
    obtain ⟨er, her⟩ : ∃ er, er = errL l := ⟨_, rfl⟩
    have HER : Hid (er = errL l) := her
    rw [← her, ← hM]
    rw [← hM] at hcap HV
    clear hx hs hs' hne hcnt hbl hbs her hl0 hM
    go_enter Tryd.func35, Tryd.ntmps35
    go_wp2_with fail
    obtain ⟨w1, hw1'⟩ : ∃ w1, w1 = w.alloc (.cells #[.slice none 0 0, .slice none 0 0] 85) := ⟨_, rfl⟩
    rw [← hw1'] at HR0 HB0
    rw [← hw1']
    obtain ⟨gt, hgt⟩ : ∃ gt, gt = w.heap.size := ⟨_, rfl⟩
    have HR1 : Hid (RefAt w.heap.size w1 gt [] []) := by rw [hgt]; exact HR0.out
    have hgtl : w.heap.size ≤ gt := by omega
    rw [← hgt]
    clear HR0 hw1' hgt
    go_loopw [5] (fun z wr => ∃ k : Nat, k ≤ 4352 ∧ z = .int .i64 k ∧ RefAt w.heap.size wr gt (firstsOf (bs.take k)) ((likeOf bs).take k) ∧ (∀ j, (h : j < k) → ∀ (h2 : 1 + j < l.length), (l[1 + j]).toNat ≤ x) ∧ Below w.heap.size w wr) (fun z _ => 4352 - (intOf z).toNat)
    case atStart => exact ⟨0, Nat.zero_le _, rfl, HR1.out, fun j h => by omega, HB0.out⟩
    case round =>
      obtain ⟨k, hk, rfl, hR, hno, hB⟩ := hrel
      have hbs := hB.size
      obtain ⟨HR, HNO, HB⟩ : Hid (RefAt w.heap.size wr gt (firstsOf (bs.take k)) ((likeOf bs).take k)) ∧ Hid (∀ j, (h : j < k) → ∀ (h2 : 1 + j < l.length), (l[1 + j]).toNat ≤ x) ∧ Hid (Below w.heap.size w wr) := ⟨hR, hno, hB⟩
      have c0' : wr.cell? ⟨g, off, none⟩ = some (.int .u8 (x : Int)) := (hB.cell (p := ⟨g, off, none⟩) hg).trans c0
      clear hR hno hB HR1 HB0
      by_cases hlt : k < 4352
      · have hlt' : (k : Int) < 4352 := by omega
        have hkl : 1 + k < l.length := by have := HM.out; have := HMX.out; omega
        obtain ⟨y, hy⟩ : ∃ y : Nat, l[1 + k] = (y : Int) := ⟨(l[1 + k]).toNat, by have := HBY.out l[1 + k] (List.getElem_mem _); omega⟩
        have hy2 : y ≤ 255 := by have := HBY.out l[1 + k] (List.getElem_mem _); omega
        have ck : wr.cell? ⟨g, off + (1 + k), none⟩ = some (.int .u8 (y : Int)) := by
          obtain ⟨g', off', e, hg', hc'⟩ := HCL.out (1 + k) hkl
          obtain ⟨rfl, rfl⟩ : g = g' ∧ off = off' := by simpa using e
          rw [hy] at hc'
          exact (HB.out.cell (p := ⟨g, off + (1 + k), none⟩) hg).trans hc'
        have HY : Hid (l[1 + k] = (y : Int)) := hy
        have hw5 : IntKind.i64.wrap (1 + (k : Int)) = 1 + (k : Int) := IntWalk.i64_in _ (by omega)
        have hw6 : IntKind.i64.wrap (y : Int) = (y : Int) := IntWalk.i64_in _ (by omega)
        have hi1 : (0 : Int) ≤ 1 + (k : Int) := by omega
        have hi2 : 1 + (k : Int) < (M : Int) := by have := HM.out; omega
        have hi3 : (1 + (k : Int)).toNat = 1 + k := by omega
        clear hy
        by_cases hyx : x < y
        · have hyx' : decide ((x : Int) < (y : Int)) = true := by simp; omega
          have e2 : er = 2 := by
            rw [HER.out]
            refine errL_not (fun h => ?_)
            have := like_small HBY.out h k hlt
            rw [List.getElem?_eq_getElem hkl, Option.getD_some, HY.out, HCN.out] at this
            omega
          subst e2
          go_wp2
          go_ret2
          first | exact ⟨_, rfl, fun _ => rfl, fun h => by omega, HB.out⟩ | exact ⟨_, rfl, rfl, HB.out⟩ | done
        · have hyx' : decide ((x : Int) < (y : Int)) = false := by simp; omega
          have hyx2 : decide (x < y) = false := by simp; omega
          have hw7 : IntKind.i64.wrap ((y : Int) * 256) = (y : Int) * 256 := IntWalk.i64_in _ (by omega)
          obtain ⟨at0, hat⟩ : ∃ at0 : Nat, at0 = 4353 + y * 256 := ⟨_, rfl⟩
          have HAT : Hid (at0 = 4353 + y * 256) := hat
          have hAT1 : 4353 + (y : Int) * 256 = (at0 : Int) := by omega
          have hAM : at0 + 256 ≤ M := by have := HMX.out; omega
          have hw8 : IntKind.i64.wrap (4353 + (y : Int) * 256) = (at0 : Int) := by rw [hAT1]; exact IntWalk.i64_in _ (by omega)
          have hw9 : IntKind.i64.wrap ((at0 : Int) + 256) = (at0 : Int) + 256 := IntWalk.i64_in _ (by omega)
          have hs1 : (at0 : Int) ≤ (at0 : Int) + 256 := by omega
          have hs2 : (at0 : Int) + 256 ≤ (cap : Int) := by omega
          have hs3 : (0 : Int) ≤ (at0 : Int) + 256 := by omega
          have hs4 : ((at0 : Int) + 256).toNat = at0 + 256 := by omega
          have hs5 : at0 + 256 - at0 = 256 := by omega
          have hs6 : ¬ (cap - at0 = 0) := by omega
          have hs7 : ¬ (cap = at0) := by omega
          have hMl : l.length = M := HM.out.symm
          have HPT : Hid (BytesAt wr.heap.size wr (.slice (some ⟨g, off + at0, none⟩) 256 (cap - at0)) (blkB l y)) := by
            have h1 : BytesAt w.heap.size wr (.slice (some ⟨g, off, none⟩) l.length cap) l := by rw [hMl]; exact HV.out.below HB.out
            have h2 := (h1.part (i := at0) (m := 256) (by omega)).mono hbs
            have h3 : blkB l y = (l.drop at0).take 256 := by
              have e : at0 = 4353 + 256 * y := by have := HAT.out; omega
              rw [e]; rfl
            show BytesAt _ _ _ _
            rw [h3]; exact h2
          have hkb : k < bs.length := by have := HBL.out; omega
          have HBK : Hid (bs[k] = blkB l y) := by
            show _ = _
            have h1 := bs_get_l (l := l) hlt (by omega)
            have h2 : ∀ (h : k < (bsB l).length), bs[k] = (bsB l)[k] := fun h => by congr 1
            rw [h2 (by rw [bsB_length]; exact hlt), h1, HY.out]; rfl
          have HIB : Hid (IsB (blkB l y)) := ⟨by unfold blkB; rw [List.length_take, List.length_drop]; omega, (HBY.out.drop _).take _⟩
          have HST : Hid (firstsOf (bs.take (k + 1)) = addF (firstsOf (bs.take k)) (blkB l y)) := by show _ = _; rw [← HBK.out]; exact (firsts_step hkb).1
          have HSL : Hid ((likeOf bs).take (k + 1) = (likeOf bs).take k ++ [(addF (firstsOf (bs.take k)) (blkB l y)).idxOf (blkB l y)]) := by
            show _ = _
            rw [List.take_succ_eq_append_getElem (by rw [like_length]; exact hkb), (firsts_step hkb).2, (firsts_step hkb).1, HBK.out]
          have HFL : Hid ((firstsOf (bs.take k)).length ≤ 4352) := by
            show _ ≤ _
            have := firsts_le (bs := bs.take k) (m := bs.take k) (fun x hx => hx)
            rw [List.length_take] at this
            omega
          have HLK : Hid (((likeOf bs).take k).length ≤ 4352) := by show _ ≤ _; rw [List.length_take]; omega
          obtain ⟨b, hb⟩ : ∃ b, b = blkB l y := ⟨_, rfl⟩
          rw [← hb] at HPT HIB HST HSL
          obtain ⟨F, hF⟩ : ∃ F, F = firstsOf (bs.take k) := ⟨_, rfl⟩
          obtain ⟨L, hL⟩ : ∃ L, L = (likeOf bs).take k := ⟨_, rfl⟩
          rw [← hF] at HR HST HSL HFL
          rw [← hL] at HR HSL HLK
          have HYX : Hid (y ≤ x) := by show _ ≤ _; omega
          clear hat hAT1 hAM hMl hb hF hL HBK hyx
          go_wp2_with fail
          refine (add_any w.heap.size F L gt b _ wr hbs HR.out HPT.out HIB.out HFL.out HLK.out).mono ?_
          rintro e w4 ⟨rfl, hR4, hB4⟩
          obtain ⟨HR4, HB4⟩ : Hid (RefAt w.heap.size w4 gt (addF F b) (L ++ [(addF F b).idxOf b])) ∧ Hid (Below w.heap.size w w4) := ⟨hR4, HB.out.trans hB4⟩
          clear hR4 hB4
          go_wp2_with fail
          go_roundw
          case rel =>
            refine ⟨k + 1, by omega, by go_num, by rw [HST.out, HSL.out]; exact HR4.out, fun j h h2 => ?_, HB4.out⟩
            by_cases q : j < k
            · exact HNO.out j q h2
            · have : j = k := by omega
              subst this
              rw [HY.out, Int.toNat_natCast]; exact HYX.out
          case measure => simp [intOf]; omega
      · have hk4 : k = 4352 := by omega
        have hlt' : decide ((k : Int) < 4352) = false := by simp; omega
        have hje : bs.take k = bs := List.take_of_length_le (by have := HBL.out; omega)
        have hje2 : (likeOf bs).take k = likeOf bs := List.take_of_length_le (by rw [like_length]; have := HBL.out; omega)
        rw [hje, hje2] at HR
        have HSM : Hid (∀ j, j < 4352 → (l[1 + j]?.getD 0).toNat < cntL l) := fun j hj => by
          have hjl : 1 + j < l.length := by have := HM.out; have := HMX.out; omega
          have := HNO.out j (by omega) hjl
          rw [List.getElem?_eq_getElem hjl, Option.getD_some, HCN.out]
          omega
        have hbsm : ∀ z ∈ bs, z ∈ firstL l := fun z hz => by
          rw [HBS.out, bsB_like HLL.out HSM.out] at hz
          obtain ⟨q, hq, rfl⟩ := List.mem_map.1 hz
          obtain ⟨i, hi, rfl⟩ := List.getElem_of_mem hq
          have hi4 : i < 4352 := by rw [likeN_length HLL.out] at hi; exact hi
          have hjl : 1 + i < l.length := by have := HM.out; have := HMX.out; omega
          have e : (likeN l)[i] < (firstL l).length := by
            rw [firstL_length]
            have := HSM.out i hi4
            rw [List.getElem?_eq_getElem hjl, Option.getD_some] at this
            have e2 : (likeN l)[i] = (l[1 + i]).toNat := by simp [likeN, likeL, Nat.add_comm]
            rw [e2]; exact this
          rw [List.getElem?_eq_getElem e, Option.getD_some]
          exact List.getElem_mem e
        have hfl : (firstsOf bs).length ≤ 256 := by
          have h1 := firsts_le hbsm
          rw [firstL_length] at h1
          have := HCN.out
          omega
        have hfp : 1 ≤ (firstsOf bs).length := firsts_pos (fun e => by have := HBL.out; rw [e] at this; simp at this)
        have hfi : ∀ b ∈ bs, IsB b := fun b hb => firstL_isB HLL.out HBY.out b (hbsm b hb)
        have HSB : Hid (ByL (saveL bs)) := saved_byL hfp hfl hfi
        have HFP : Hid (1 ≤ (firstsOf bs).length ∧ (firstsOf bs).length ≤ 256) := ⟨hfp, hfl⟩
        have HLK : Hid ((likeOf bs).length = 4352) := by show _ = _; rw [like_length]; exact HBL.out
        have HLT : Hid (∀ z ∈ likeOf bs, z < (firstsOf bs).length) := fun z hz => by
          obtain ⟨i, hi, rfl⟩ := List.getElem_of_mem hz
          rw [like_length] at hi
          exact like_lt hi
        have HSV : Hid (rsTo (firstsOf bs) (likeOf bs) 4352 ++ (firstsOf bs).flatten = saveL bs) := by
          show _ = _
          unfold rsTo saveL
          rw [List.take_of_length_le (by rw [HLK.out]; omega)]
          rfl
        have HSN : Hid ((saveL bs).length = 4353 + 256 * (firstsOf bs).length) := save_length (fun z hz => (hfi z hz).1) HBL.out
        have HIFF : Hid (saveL bs = l ↔ okL l) := by show _ ↔ _; rw [HBS.out]; exact ref_okL HBY.out HLL.out HSM.out
        clear hje hje2 hbsm hfl hfp hfi hk4 hk hlt
        go_wp2_with fail
        have HYL : Hid (BytesAt wr.heap.size wr (.slice (some ⟨g, off, none⟩) M cap) l) := (HV.out.below HB.out).mono hbs
        by_cases hq : saveL bs = l
        · have hok : okL l := HIFF.out.1 hq
          have e0 : er = 0 := by rw [HER.out]; exact errL_yes hok
          have HREF : Hid (firstsOf bs = firstL l ∧ likeOf bs = likeN l) := by show _ ∧ _; rw [HBS.out]; exact okL_ref HBY.out hok
          have HSE : Hid (((strOfNums (saveL bs)).toList == (strOfNums l).toList) = true) := str_same hq
          subst e0
          clear hq hok
          refine wp_region_bad (fun w' => Below wr.heap.size wr w') [] (by kernel_rfl) ((Below.refl _ _).drew) (fun hS => ?_)
          refine wpAnyB_pure (i := 0) (v := .pointer (some ⟨gt, 0, none⟩)) rfl (by kernel_rfl) (fun _ _ _ h => h) (Or.inl ⟨by rfl, fun w _ => by go_simp⟩) hS ?_
          simp only [List.getElem_toArray, List.getElem_cons_zero, Act.put, List.setIfInBounds_toArray, List.set_cons_zero, List.set_cons_succ]
          refine wpAnyB_pure (i := 3) (v := .slice (some ⟨g, off, none⟩) M cap) rfl (by kernel_rfl) (fun _ _ _ h => h) (Or.inl ⟨by rfl, fun w _ => by go_simp⟩) hS ?_
          simp only [List.getElem_toArray, List.getElem_cons_succ, List.getElem_cons_zero, Act.put, List.setIfInBounds_toArray, List.set_cons_zero, List.set_cons_succ]
          refine wpAnyB_take [] (i := 4) (v := .string (strOfNums l)) rfl (by kernel_rfl) (fun _ _ _ h => h) (yields_convert (by rfl) rfl rfl (fun w' hw' => (HYL.out.below hw').conv)) hS ?_
          simp only [List.getElem_toArray, List.getElem_cons_succ, List.getElem_cons_zero, Act.put, List.setIfInBounds_toArray, List.set_cons_zero, List.set_cons_succ]
          refine wpAnyB_one (i := 1) rfl (by kernel_rfl) (fun K hK => ?_)
          go_simp
          refine (refSave_any w.heap.size (firstsOf bs) (likeOf bs) gt wr.drew hbs (HR.out.below hS) HFP.out.1 HFP.out.2 HLK.out HLT.out).mono ?_
          rintro e w7 ⟨v7, rfl, ho7, hB7⟩
          have HY7 : Hid (BytesAt w7.heap.size w7 v7 (saveL bs)) := by
            rw [HSV.out] at ho7
            exact bytes_of_row (by rw [HSN.out, Nat.mul_comm 256]; exact ho7)
          have HB7 : Hid (Below wr.heap.size wr w7) := hS.trans hB7
          refine hK.out _ _ HB7.out ?_
          refine wpAnyB_mono (S' := fun w' => Below w7.heap.size w7 w') (fun w' h => HB7.out.trans (h.mono HB7.out.size)) ?_
          clear hK K ho7 hB7 hS
          have hS7 : Below w7.heap.size w7 w7 := Below.refl _ _
          refine wpAnyB_take [] (i := 2) (v := .string (strOfNums (saveL bs))) rfl (by kernel_rfl) (fun _ _ _ h => h) (yields_convert (by rfl) rfl rfl (fun w' hw' => (HY7.out.below hw').conv)) hS7 ?_
          simp only [List.getElem_toArray, List.getElem_cons_succ, List.getElem_cons_zero, Act.put, List.setIfInBounds_toArray, List.set_cons_zero, List.set_cons_succ]
          refine wpAnyB_pure (i := 5) (v := Value.bool false) rfl (by kernel_rfl) (fun _ _ _ h => h) (Or.inl ⟨by rfl, fun w _ => by have := HSE.out; go_simp⟩) hS7 ?_
          simp only [List.getElem_toArray, List.getElem_cons_succ, List.getElem_cons_zero, Act.put, List.setIfInBounds_toArray, List.set_cons_zero, List.set_cons_succ]
          refine wpAnyB_done (by kernel_rfl) ?_ _
          refine NoPanic.normal ?_
          clear hS7
          go_wp2
          go_ret2
          first | exact ⟨_, rfl, fun h => absurd rfl h, fun _ => ⟨gt, rfl, by rw [← HREF.out.1, ← HREF.out.2]; exact HR.out.below HB7.out⟩, HB.out.trans (HB7.out.mono hbs)⟩ | exact ⟨_, rfl, ⟨gt, rfl, by rw [← HREF.out.1, ← HREF.out.2]; exact HR.out.below HB7.out⟩, HB.out.trans (HB7.out.mono hbs)⟩
        · have e2 : er = 2 := by rw [HER.out]; exact errL_not (fun h => hq (HIFF.out.2 h))
          have HSE : Hid (((strOfNums (saveL bs)).toList == (strOfNums l).toList) = false) := str_other2 HSB.out HBY.out hq
          subst e2
          clear hq
          refine wp_region_bad (fun w' => Below wr.heap.size wr w') [] (by kernel_rfl) ((Below.refl _ _).drew) (fun hS => ?_)
          refine wpAnyB_pure (i := 0) (v := .pointer (some ⟨gt, 0, none⟩)) rfl (by kernel_rfl) (fun _ _ _ h => h) (Or.inl ⟨by rfl, fun w _ => by go_simp⟩) hS ?_
          simp only [List.getElem_toArray, List.getElem_cons_zero, Act.put, List.setIfInBounds_toArray, List.set_cons_zero, List.set_cons_succ]
          refine wpAnyB_pure (i := 3) (v := .slice (some ⟨g, off, none⟩) M cap) rfl (by kernel_rfl) (fun _ _ _ h => h) (Or.inl ⟨by rfl, fun w _ => by go_simp⟩) hS ?_
          simp only [List.getElem_toArray, List.getElem_cons_succ, List.getElem_cons_zero, Act.put, List.setIfInBounds_toArray, List.set_cons_zero, List.set_cons_succ]
          refine wpAnyB_take [] (i := 4) (v := .string (strOfNums l)) rfl (by kernel_rfl) (fun _ _ _ h => h) (yields_convert (by rfl) rfl rfl (fun w' hw' => (HYL.out.below hw').conv)) hS ?_
          simp only [List.getElem_toArray, List.getElem_cons_succ, List.getElem_cons_zero, Act.put, List.setIfInBounds_toArray, List.set_cons_zero, List.set_cons_succ]
          refine wpAnyB_one (i := 1) rfl (by kernel_rfl) (fun K hK => ?_)
          go_simp
          refine (refSave_any w.heap.size (firstsOf bs) (likeOf bs) gt wr.drew hbs (HR.out.below hS) HFP.out.1 HFP.out.2 HLK.out HLT.out).mono ?_
          rintro e w7 ⟨v7, rfl, ho7, hB7⟩
          have HY7 : Hid (BytesAt w7.heap.size w7 v7 (saveL bs)) := by
            rw [HSV.out] at ho7
            exact bytes_of_row (by rw [HSN.out, Nat.mul_comm 256]; exact ho7)
          have HB7 : Hid (Below wr.heap.size wr w7) := hS.trans hB7
          refine hK.out _ _ HB7.out ?_
          refine wpAnyB_mono (S' := fun w' => Below w7.heap.size w7 w') (fun w' h => HB7.out.trans (h.mono HB7.out.size)) ?_
          clear hK K ho7 hB7 hS
          have hS7 : Below w7.heap.size w7 w7 := Below.refl _ _
          refine wpAnyB_take [] (i := 2) (v := .string (strOfNums (saveL bs))) rfl (by kernel_rfl) (fun _ _ _ h => h) (yields_convert (by rfl) rfl rfl (fun w' hw' => (HY7.out.below hw').conv)) hS7 ?_
          simp only [List.getElem_toArray, List.getElem_cons_succ, List.getElem_cons_zero, Act.put, List.setIfInBounds_toArray, List.set_cons_zero, List.set_cons_succ]
          refine wpAnyB_pure (i := 5) (v := Value.bool true) rfl (by kernel_rfl) (fun _ _ _ h => h) (Or.inl ⟨by rfl, fun w _ => by have := HSE.out; go_simp⟩) hS7 ?_
          simp only [List.getElem_toArray, List.getElem_cons_succ, List.getElem_cons_zero, Act.put, List.setIfInBounds_toArray, List.set_cons_zero, List.set_cons_succ]
          refine wpAnyB_done (by kernel_rfl) ?_ _
          refine NoPanic.normal ?_
          clear hS7
          go_wp2
          go_ret2
          first | exact ⟨_, rfl, fun _ => rfl, fun h => by omega, HB.out.trans (HB7.out.mono hbs)⟩ | exact ⟨_, rfl, rfl, HB.out.trans (HB7.out.mono hbs)⟩
  · have hne' : ((l.length : Int) == 4353 + 256 * ((x : Int) + 1)) = false := by simp; omega
    have e2 : errL l = 2 := errL_not (fun h => by have := h.1.2; omega)
    rw [e2]
    clear hne
    go_enter Tryd.func35, Tryd.ntmps35
    go_wp2
    go_ret2
    first | exact ⟨_, rfl, fun _ => rfl, fun h => by omega, Below.refl _ _⟩ | exact ⟨_, rfl, rfl, Below.refl _ _⟩ | done
end Go.Proofs.YtpknmpgbaccffaaDoor
