/-
  The law TrieSame: true, for all entries.
-/
import Derived.Test.YtjgghdkdbkkhbabConv
namespace Go.Proofs.Ytjgghdkdbkkhbab
open Go.RowKit
set_option linter.unusedVariables false

def meets (q p : Pp) : Prop := q.lo ≤ p.hi ∧ p.lo ≤ q.hi
theorem apart_of : ∀ {l : List Pp}, (∀ i (hi : i < l.length) k (hk : k < l.length), k < i → ¬ meets l[k] l[i]) → Apart l
  | [], _ => trivial
  | p :: l, h => by
    refine ⟨fun q hq r hr => ?_, apart_of (fun i hi k hk hki => by have := h (i + 1) (by simpa using hi) (k + 1) (by simpa using hk) (by omega); simpa using this)⟩
    obtain ⟨j, hj, rfl⟩ := List.getElem_of_mem hq
    have hm := h (j + 1) (by simpa using hj) 0 (by simp) (by omega)
    simp only [List.getElem_cons_succ, List.getElem_cons_zero] at hm
    cases z : hasP l[j] r with
    | false => rfl
    | true =>
      have h1 := hasP_iff.1 z
      have h2 := hasP_iff.1 hr
      exact absurd ⟨by omega, by omega⟩ hm
theorem raw_length' {like : List Int} {F : List (List Int)} (hf : Fine like F) : (rawSave like F).length = 4353 + 256 * F.length := by
  rw [← rawTo_end]; exact rawTo_length hf (Nat.le_refl _)

set_option maxRecDepth 100000 in
set_option maxHeartbeats 8000000 in
theorem trieSame_any (l : List Pp) (v : Value) (w : World) (hv : PropsIn w v l) (hby : Bytes l) :
    Calls Try.prog 4 #[v] w fun e w' => e = .returned (.bool true) ∧ Below w.heap.size w w' := by
  obtain ⟨iP, hiP, hzP0, hzP1, hzP2⟩ := info_parts Try.infoProp
  have HV : Hid (PropsIn w v l) := hv
  obtain ⟨a, cap, rfl, hc, hcl⟩ := hv
  have HC : Hid (∀ i, (h : i < l.length) → ∃ g off, a = some ⟨g, off, none⟩ ∧ g < w.heap.size ∧ w.cell? ⟨g, off + i * 3, none⟩ = some (.int .i64 l[i].lo) ∧ w.cell? ⟨g, off + i * 3 + 1, none⟩ = some (.int .i64 l[i].hi) ∧ w.cell? ⟨g, off + i * 3 + 2, none⟩ = some (.int .u8 l[i].v)) := hcl
  clear hcl
  go_enter Try.func4, Try.ntmps4
  go_wp2_with fail
  refine (awake_any w).mono ?_
  rintro e w1 ⟨rfl, hB1⟩
  have hs1 := hB1.size
  by_cases h20 : 20 < l.length
  · have h20' : (20 : Int) < (l.length : Int) := by omega
    go_wp2
    go_ret
    exact ⟨rfl, hB1⟩
  have h20' : ¬ (20 : Int) < (l.length : Int) := by omega
  have HB1 : Hid (Below w.heap.size w w1) := hB1
  clear hB1
  go_wp2
  go_loopw [4, 5] (fun y x wr => ∃ n : Nat, n ≤ l.length ∧ x = .int .i64 ((n : Int) - 1) ∧ wr.ownsRow w.heap.size 25 3 y (l.drop n).reverse.length (cellsPs (l.drop n).reverse) ∧ Below w.heap.size w wr ∧ w.heap.size ≤ wr.heap.size ∧ ∀ i (hi : i < l.length) k (hk : k < l.length), n ≤ i → k < i → ¬ meets l[k] l[i]) (fun _ x _ => (intOf x + 1).toNat)
  case atStart => exact ⟨l.length, Nat.le_refl _, rfl, by rw [List.drop_length]; exact World.ownsRow_nil _ _ _ _, HB1.out, hs1, fun i hi k hk h1 _ => by omega⟩
  case round =>
    obtain ⟨n, hn, rfl, hown, hB, hbs, hpr⟩ := hrel
    obtain ⟨HOWN, HB, HPR⟩ : Hid (wr.ownsRow w.heap.size 25 3 u4 (l.drop n).reverse.length (cellsPs (l.drop n).reverse)) ∧ Hid (Below w.heap.size w wr) ∧ Hid (∀ i (hi : i < l.length) k (hk : k < l.length), n ≤ i → k < i → ¬ meets l[k] l[i]) := ⟨hown, hB, hpr⟩
    clear hown hpr HB1
    by_cases hn0 : n = 0
    · subst hn0
      have hn1 : ¬ ((0 : Int) ≤ ((0 : Nat) : Int) - 1) := by omega
      obtain ⟨lr, hlr⟩ : ∃ lr, lr = l.reverse := ⟨_, rfl⟩
      have hown : wr.ownsRow w.heap.size 25 3 u4 lr.length (cellsPs lr) := by rw [hlr]; have := HOWN.out; rwa [List.drop_zero] at this
      have HPS : Hid (PropsIn wr u4 lr) := props_of_row hown
      have hap : Apart l := apart_of (fun i hi k hk hki => HPR.out i hi k hk (Nat.zero_le _) hki)
      have hbl : Bytes lr := fun p hp => hby p (by rw [hlr] at hp; exact List.mem_reverse.1 hp)
      have hval : valP lr = valP l := by funext r; exact val_apart hap (fun p => by rw [hlr, List.mem_reverse]) r
      have HLK : Hid (likeB lr = likeB l ∧ firstB lr = firstB l) := by unfold likeB firstB; rw [hval]; exact ⟨rfl, rfl⟩
      have hee : errB lr = errB l := by
        rw [errB_small (l := lr) (by rw [hlr, List.length_reverse]; omega), errB_small (l := l) (by omega)]
        have : lr.all good1 = l.all good1 := by rw [hlr, List.all_reverse]
        rw [this]
      clear hown hap hval hlr hB
      go_wp2_with fail
      refine (build_any l _ wr ((HV.out.below HB.out).mono HB.out.size) hby).mono ?_
      rintro e w3 ⟨pa, rfl, hna, hta, hB3⟩
      have HB3 : Hid (Below w.heap.size w w3) := HB.out.trans (hB3.mono HB.out.size)
      have HPS3 : Hid (PropsIn w3 u4 lr) := (HPS.out.below hB3).mono hB3.size
      clear hB3
      go_wp2_with fail
      refine (build_any lr _ w3 HPS3.out hbl).mono ?_
      rintro e w4 ⟨pb, rfl, hnb, htb, hB4⟩
      have HB4 : Hid (Below w.heap.size w w4) := HB3.out.trans (hB4.mono HB3.out.size)
      rw [hee] at hnb htb ⊢
      by_cases g1 : l.all good1 = true
      · have e1 : errB l = 0 := by rw [errB_small (by omega), if_pos g1]
        rw [e1]
        have hTA := hta e1
        have hTB := htb e1
        obtain ⟨ga, rfl⟩ := hTA.ptr
        obtain ⟨gb, rfl⟩ := hTB.ptr
        have hF : Fine (likeB l) (firstB l) := fineB hby (errB_zero e1).2.2
        rw [HLK.out.1, HLK.out.2] at hTB
        obtain ⟨HTA, HTB, HF⟩ : Hid (TrieAt w4.heap.size w4 (.pointer (some ⟨ga, 0, none⟩)) (likeB l) (firstB l)) ∧ Hid (TrieAt w4.heap.size w4 (.pointer (some ⟨gb, 0, none⟩)) (likeB l) (firstB l)) ∧ Hid (Fine (likeB l) (firstB l)) := ⟨(hTA.below hB4).mono hB4.size, hTB, hF⟩
        have HRL : Hid ((rawSave (likeB l) (firstB l)).length = 4353 + 256 * (firstB l).length) := raw_length' hF
        clear hna hta hnb htb hTA hTB hF e1 g1 hB4 hee
        go_wp2_with fail
        refine wp_region_bad (fun w' => Below w4.heap.size w4 w') [] (by kernel_rfl) ((Below.refl _ _).drew) (fun hS => ?_)
        refine wpAnyB_pure (i := 0) (v := .pointer (some ⟨ga, 0, none⟩)) rfl (by kernel_rfl) (fun _ _ _ h => h) (Or.inl ⟨by rfl, fun w _ => by go_simp⟩) hS ?_
        simp only [List.getElem_toArray, List.getElem_cons_zero, Act.put, List.setIfInBounds_toArray, List.set_cons_zero, List.set_cons_succ]
        refine wpAnyB_pure (i := 3) (v := .pointer (some ⟨gb, 0, none⟩)) rfl (by kernel_rfl) (fun _ _ _ h => h) (Or.inl ⟨by rfl, fun w _ => by go_simp⟩) hS ?_
        simp only [List.getElem_toArray, List.getElem_cons_succ, List.getElem_cons_zero, Act.put, List.setIfInBounds_toArray, List.set_cons_zero, List.set_cons_succ]
        refine wpAnyB_one (i := 1) rfl (by kernel_rfl) (fun K hK => ?_)
        go_simp
        refine (save_any _ _ _ w4.drew (HTA.out.below hS) HF.out).mono ?_
        rintro e wc ⟨vc, rfl, hoc, hBc⟩
        have HSc : Hid (Below w4.heap.size w4 wc) := hS.trans hBc
        have HYc : Hid (BytesAt wc.heap.size wc vc (rawSave (likeB l) (firstB l))) := bytes_of_row (by rw [HRL.out]; exact hoc)
        refine hK.out _ _ HSc.out ?_
        clear hK K hBc hoc
        refine wpAnyB_mono (S' := fun w' => Below wc.heap.size wc w') (fun w' h => HSc.out.trans (h.mono HSc.out.size)) ?_
        have hSc' : Below wc.heap.size wc wc := Below.refl _ _
        refine wpAnyB_take [] (i := 2) (v := .string (strOfNums (rawSave (likeB l) (firstB l)))) rfl (by kernel_rfl) (fun _ _ _ h => h) (yields_convert (by rfl) rfl rfl (fun w' hw' => (HYc.out.below hw').conv)) hSc' ?_
        simp only [List.getElem_toArray, List.getElem_cons_succ, List.getElem_cons_zero, Act.put, List.setIfInBounds_toArray, List.set_cons_zero, List.set_cons_succ]
        refine wpAnyB_one (i := 4) rfl (by kernel_rfl) (fun K hK => ?_)
        go_simp
        refine (save_any _ _ _ wc ((HTB.out.below HSc.out).mono HSc.out.size) HF.out).mono ?_
        rintro e wd ⟨vd, rfl, hod, hBd⟩
        have HSd : Hid (Below wc.heap.size wc wd) := hBd
        have HYd : Hid (BytesAt wd.heap.size wd vd (rawSave (likeB l) (firstB l))) := bytes_of_row (by rw [HRL.out]; exact hod)
        refine hK.out _ _ HSd.out ?_
        clear hK K hBd hod
        refine wpAnyB_mono (S' := fun w' => Below wd.heap.size wd w') (fun w' h => HSd.out.trans (h.mono HSd.out.size)) ?_
        have hSd' : Below wd.heap.size wd wd := Below.refl _ _
        refine wpAnyB_take [] (i := 5) (v := .string (strOfNums (rawSave (likeB l) (firstB l)))) rfl (by kernel_rfl) (fun _ _ _ h => h) (yields_convert (by rfl) rfl rfl (fun w' hw' => (HYd.out.below hw').conv)) hSd' ?_
        simp only [List.getElem_toArray, List.getElem_cons_succ, List.getElem_cons_zero, Act.put, List.setIfInBounds_toArray, List.set_cons_zero, List.set_cons_succ]
        refine wpAnyB_pure (i := 6) (v := .bool true) rfl (by kernel_rfl) (fun _ _ _ h => h) (Or.inl ⟨by rfl, fun w _ => by go_simp⟩) hSd' ?_
        simp only [List.getElem_toArray, List.getElem_cons_succ, List.getElem_cons_zero, Act.put, List.setIfInBounds_toArray, List.set_cons_zero, List.set_cons_succ]
        refine wpAnyB_pure (i := 7) (v := .bool true) rfl (by kernel_rfl) (fun _ _ _ h => h) (Or.inl ⟨by rfl, fun w _ => by go_simp⟩) hSd' ?_
        simp only [List.getElem_toArray, List.getElem_cons_succ, List.getElem_cons_zero, Act.put, List.setIfInBounds_toArray, List.set_cons_zero, List.set_cons_succ]
        refine wpAnyB_done (by kernel_rfl) ?_ _
        refine NoPanic.normal ?_
        clear hSc' hSd' hS
        go_wp2
        go_ret
        exact ⟨rfl, HB4.out.trans ((HSc.out.trans (HSd.out.mono HSc.out.size)).mono HB4.out.size)⟩
      · have e1 : errB l = 1 := by rw [errB_small (by omega), if_neg g1]
        rw [e1]
        clear hna hta hnb htb e1 g1 hee
        go_wp2
        go_ret
        exact ⟨rfl, HB4.out⟩
    · have hn1 : (0 : Int) ≤ (n : Int) - 1 := by omega
      have hil : n - 1 < l.length := by omega
      obtain ⟨g, off, rfl, hg, c0, c1, c2⟩ := HC.out (n - 1) hil
      obtain ⟨p, hp⟩ : ∃ p, p = l[n - 1] := ⟨_, rfl⟩
      rw [← hp] at c0 c1 c2
      have HPI : Hid (p = l[n - 1]) := hp
      have q0 : wr.cell? ⟨g, off + (n - 1) * 3, none⟩ = some (.int .i64 p.lo) := (hB.cell (p := ⟨g, _, none⟩) hg).trans c0
      have q1 : wr.cell? ⟨g, off + (n - 1) * 3 + 1, none⟩ = some (.int .i64 p.hi) := (hB.cell (p := ⟨g, _, none⟩) hg).trans c1
      have q2 : wr.cell? ⟨g, off + (n - 1) * 3 + 2, none⟩ = some (.int .u8 p.v) := (hB.cell (p := ⟨g, _, none⟩) hg).trans c2
      have hil' : (n : Int) - 1 < (l.length : Int) := by omega
      have htn : ((n : Int) - 1).toNat = n - 1 := by omega
      have HDR : Hid ((l.drop (n - 1)).reverse = (l.drop n).reverse ++ [p]) := by
        show _ = _
        have e : l.drop (n - 1) = l[n - 1] :: l.drop (n - 1 + 1) := List.drop_eq_getElem_cons hil
        have e2 : n - 1 + 1 = n := by omega
        rw [e, e2, List.reverse_cons, hp]
      have hdl : (l.drop n).reverse.length ≤ 20 := by simp; omega
      have HOQ : Hid ((wr.alloc (.cells #[.int .i64 p.lo, .int .i64 p.hi, .int .u8 p.v] 25)).ownsRow w.heap.size 25 3 u4 (l.drop n).reverse.length (cellsPs (l.drop n).reverse)) := HOWN.out.alloc _
      have HNQ : Hid ((wr.alloc (.cells #[.int .i64 p.lo, .int .i64 p.hi, .int .u8 p.v] 25)).heap[wr.heap.size]? = some (.cells #[.int .i64 p.lo, .int .i64 p.hi, .int .u8 p.v] 25 (0, 0))) := heap_new' wr _
      obtain ⟨w0, rfl⟩ : ∃ w0, w0 = wr := ⟨_, rfl⟩
      clear c0 c1 c2 hp hB
      obtain ⟨nl, hnl⟩ : ∃ nl, nl = (l.drop n).reverse.length := ⟨_, rfl⟩
      rw [← hnl] at hdl
      have HNL : Hid (nl = (l.drop n).reverse.length) := hnl
      have HOQ' : Hid ((w0.alloc (.cells #[.int .i64 p.lo, .int .i64 p.hi, .int .u8 p.v] 25)).ownsRow w.heap.size 25 3 u4 nl (cellsPs (l.drop n).reverse)) := by rw [hnl]; exact HOQ.out
      clear hnl
      go_wp2_with (first | (at_builtin; refine wpList_append_own _ rfl _ _ 22 rfl w.heap.size 25 iP (.agg #[.int .i64 0, .int .i64 0, .int .u8 0]) 3 24 Try.undPs hiP hzP0 hzP1 hzP2 rfl (by decide) _ _ _ rfl HOQ'.out ⟨w0.heap.size, 0, none⟩ 1 1 (cellsP p) rfl rfl (World.news_of_block HNQ.out) (by simp [cellsP, Value.oneCell']) (by unfold maxLen; omega) (by omega) (by simp; omega) ?_; intro v2 w2 ho2 hg2 _) | fail)
      have hg2s := hg2.size
      have hB2 : Below w.heap.size w w2 := (HB.out.alloc hbs _).grown hg2 (by simp; omega) (fun j e => (HOQ'.out.lt j e).1)
      have hs02 : w0.heap.size < w2.heap.size := by simp at hg2s; omega
      obtain ⟨HB2, HO2⟩ : Hid (Below w.heap.size w w2) ∧ Hid (w2.ownsRow w.heap.size 25 3 v2 (nl + 1) (cellsPs (l.drop n).reverse ++ cellsP p)) := ⟨hB2, ho2⟩
      have HQ0 : Hid (w2.cell? ⟨g, off + (n - 1) * 3, none⟩ = some (.int .i64 p.lo)) := by
        obtain ⟨g', off', e, _, d0, _, _⟩ := HC.out (n - 1) hil
        obtain ⟨rfl, rfl⟩ : g = g' ∧ off = off' := by simpa using e
        rw [HPI.out]
        exact (hB2.cell (p := ⟨g, _, none⟩) hg).trans d0
      have HQ1 : Hid (w2.cell? ⟨g, off + (n - 1) * 3 + 1, none⟩ = some (.int .i64 p.hi)) := by
        obtain ⟨g', off', e, _, _, d1, _⟩ := HC.out (n - 1) hil
        obtain ⟨rfl, rfl⟩ : g = g' ∧ off = off' := by simpa using e
        rw [HPI.out]
        exact (hB2.cell (p := ⟨g, _, none⟩) hg).trans d1
      clear hg2 hB2 ho2 hg2s q0 q1 q2
      go_loopw [6] (fun x wr => ∃ k : Nat, k ≤ n - 1 ∧ x = .int .i64 k ∧ Below w2.heap.size w2 wr ∧ ∀ j (hj : j < l.length), j < k → ¬ meets l[j] l[n - 1]) (fun x _ => n - 1 - (intOf x).toNat)
      case atStart => exact ⟨0, Nat.zero_le _, rfl, Below.refl _ _, fun j hj q => by omega⟩
      case round =>
        obtain ⟨k, hk, rfl, hBr, hnk⟩ := hrel
        have hbr := hBr.size
        obtain ⟨HBR, HNK⟩ : Hid (Below w2.heap.size w2 wr) ∧ Hid (∀ j (hj : j < l.length), j < k → ¬ meets l[j] l[n - 1]) := ⟨hBr, hnk⟩
        clear hnk
        by_cases hkn : k < n - 1
        · have hkn' : (k : Int) < (n : Int) - 1 := by omega
          have hkl : k < l.length := by omega
          have hkl' : (k : Int) < (l.length : Int) := by omega
          obtain ⟨q, hq⟩ : ∃ q, q = l[k] := ⟨_, rfl⟩
          have HQ : Hid (q = l[k]) := hq
          have hgw : g < w2.heap.size := by omega
          have HK0 : Hid (∀ w', Below wr.heap.size wr w' → w'.cell? ⟨g, off + k * 3, none⟩ = some (.int .i64 q.lo)) := fun w' hw' => by
            obtain ⟨g', off', e, _, d0, _, _⟩ := HC.out k hkl
            obtain ⟨rfl, rfl⟩ : g = g' ∧ off = off' := by simpa using e
            rw [hq]
            exact (hw'.cell (p := ⟨g, _, none⟩) (by show g < _; omega)).trans ((hBr.cell (p := ⟨g, _, none⟩) hgw).trans ((HB2.out.cell (p := ⟨g, _, none⟩) hg).trans d0))
          have HK1 : Hid (∀ w', Below wr.heap.size wr w' → w'.cell? ⟨g, off + k * 3 + 1, none⟩ = some (.int .i64 q.hi)) := fun w' hw' => by
            obtain ⟨g', off', e, _, _, d1, _⟩ := HC.out k hkl
            obtain ⟨rfl, rfl⟩ : g = g' ∧ off = off' := by simpa using e
            rw [hq]
            exact (hw'.cell (p := ⟨g, _, none⟩) (by show g < _; omega)).trans ((hBr.cell (p := ⟨g, _, none⟩) hgw).trans ((HB2.out.cell (p := ⟨g, _, none⟩) hg).trans d1))
          have HI0 : Hid (∀ w', Below wr.heap.size wr w' → w'.cell? ⟨g, off + (n - 1) * 3, none⟩ = some (.int .i64 p.lo)) := fun w' hw' => (hw'.cell (p := ⟨g, _, none⟩) (by show g < _; omega)).trans ((hBr.cell (p := ⟨g, _, none⟩) hgw).trans HQ0.out)
          have HI1 : Hid (∀ w', Below wr.heap.size wr w' → w'.cell? ⟨g, off + (n - 1) * 3 + 1, none⟩ = some (.int .i64 p.hi)) := fun w' hw' => (hw'.cell (p := ⟨g, _, none⟩) (by show g < _; omega)).trans ((hBr.cell (p := ⟨g, _, none⟩) hgw).trans HQ1.out)
          clear hBr hq
          by_cases m1 : q.lo ≤ p.hi
          · by_cases m2 : p.lo ≤ q.hi
            · go_wp2_with fail
              refine wp_region_bad (fun w' => Below wr.heap.size wr w') [] (by kernel_rfl) ((Below.refl _ _).drew) (fun hS => ?_)
              have hK0 := HK0.out
              have hK1 := HK1.out
              have hI0 := HI0.out
              have hI1 := HI1.out
              refine wpAnyB_pure (i := 0) (v := .slice (some ⟨g, off, none⟩) l.length cap) rfl (by kernel_rfl) (fun _ _ _ h => h) (Or.inl ⟨by rfl, fun w _ => by go_simp⟩) hS ?_
              simp only [List.getElem_toArray, List.getElem_cons_zero, Act.put, List.setIfInBounds_toArray, List.set_cons_zero, List.set_cons_succ]
              refine wpAnyB_pure (i := 1) (v := .int .i64 (k : Int)) rfl (by kernel_rfl) (fun _ _ _ h => h) (Or.inl ⟨by rfl, fun w _ => by go_simp⟩) hS ?_
              simp only [List.getElem_toArray, List.getElem_cons_succ, List.getElem_cons_zero, Act.put, List.setIfInBounds_toArray, List.set_cons_zero, List.set_cons_succ]
              refine wpAnyB_pure (i := 2) (v := .pointer (some ⟨g, off + k * 3, none⟩)) rfl (by kernel_rfl) (fun _ _ _ h => h) (Or.inl ⟨by rfl, fun w _ => by go_simp⟩) hS ?_
              simp only [List.getElem_toArray, List.getElem_cons_succ, List.getElem_cons_zero, Act.put, List.setIfInBounds_toArray, List.set_cons_zero, List.set_cons_succ]
              refine wpAnyB_pure (i := 3) (v := .pointer (some ⟨g, off + k * 3, none⟩)) rfl (by kernel_rfl) (fun _ _ _ h => h) (Or.inl ⟨by rfl, fun w _ => by go_simp⟩) hS ?_
              simp only [List.getElem_toArray, List.getElem_cons_succ, List.getElem_cons_zero, Act.put, List.setIfInBounds_toArray, List.set_cons_zero, List.set_cons_succ]
              refine wpAnyB_take [] (i := 4) (v := .int .i64 q.lo) rfl (by kernel_rfl) (fun _ _ _ h => h) (Or.inl ⟨by rfl, fun w hSw => by have := hK0 w hSw; go_simp⟩) hS ?_
              simp only [List.getElem_toArray, List.getElem_cons_succ, List.getElem_cons_zero, Act.put, List.setIfInBounds_toArray, List.set_cons_zero, List.set_cons_succ]
              refine wpAnyB_pure (i := 5) (v := .slice (some ⟨g, off, none⟩) l.length cap) rfl (by kernel_rfl) (fun _ _ _ h => h) (Or.inl ⟨by rfl, fun w _ => by go_simp⟩) hS ?_
              simp only [List.getElem_toArray, List.getElem_cons_succ, List.getElem_cons_zero, Act.put, List.setIfInBounds_toArray, List.set_cons_zero, List.set_cons_succ]
              refine wpAnyB_pure (i := 6) (v := .int .i64 ((n : Int) - 1)) rfl (by kernel_rfl) (fun _ _ _ h => h) (Or.inl ⟨by rfl, fun w _ => by go_simp⟩) hS ?_
              simp only [List.getElem_toArray, List.getElem_cons_succ, List.getElem_cons_zero, Act.put, List.setIfInBounds_toArray, List.set_cons_zero, List.set_cons_succ]
              refine wpAnyB_pure (i := 7) (v := .pointer (some ⟨g, off + (n - 1) * 3, none⟩)) rfl (by kernel_rfl) (fun _ _ _ h => h) (Or.inl ⟨by rfl, fun w _ => by go_simp⟩) hS ?_
              simp only [List.getElem_toArray, List.getElem_cons_succ, List.getElem_cons_zero, Act.put, List.setIfInBounds_toArray, List.set_cons_zero, List.set_cons_succ]
              refine wpAnyB_pure (i := 8) (v := .pointer (some ⟨g, off + (n - 1) * 3 + 1, none⟩)) rfl (by kernel_rfl) (fun _ _ _ h => h) (Or.inl ⟨by rfl, fun w _ => by go_simp⟩) hS ?_
              simp only [List.getElem_toArray, List.getElem_cons_succ, List.getElem_cons_zero, Act.put, List.setIfInBounds_toArray, List.set_cons_zero, List.set_cons_succ]
              refine wpAnyB_take [] (i := 9) (v := .int .i64 p.hi) rfl (by kernel_rfl) (fun _ _ _ h => h) (Or.inl ⟨by rfl, fun w hSw => by have := hI1 w hSw; go_simp⟩) hS ?_
              simp only [List.getElem_toArray, List.getElem_cons_succ, List.getElem_cons_zero, Act.put, List.setIfInBounds_toArray, List.set_cons_zero, List.set_cons_succ]
              refine wpAnyB_pure (i := 10) (v := .bool true) rfl (by kernel_rfl) (fun _ _ _ h => h) (Or.inl ⟨by rfl, fun w _ => by go_simp⟩) hS ?_
              simp only [List.getElem_toArray, List.getElem_cons_succ, List.getElem_cons_zero, Act.put, List.setIfInBounds_toArray, List.set_cons_zero, List.set_cons_succ]
              refine wpAnyB_pure (i := 11) (v := .bool true) rfl (by kernel_rfl) (fun _ _ _ h => h) (Or.inl ⟨by rfl, fun w _ => by go_simp⟩) hS ?_
              simp only [List.getElem_toArray, List.getElem_cons_succ, List.getElem_cons_zero, Act.put, List.setIfInBounds_toArray, List.set_cons_zero, List.set_cons_succ]
              refine wpAnyB_pure (i := 12) (v := .slice (some ⟨g, off, none⟩) l.length cap) rfl (by kernel_rfl) (fun _ _ _ h => h) (Or.inl ⟨by rfl, fun w _ => by go_simp⟩) hS ?_
              simp only [List.getElem_toArray, List.getElem_cons_succ, List.getElem_cons_zero, Act.put, List.setIfInBounds_toArray, List.set_cons_zero, List.set_cons_succ]
              refine wpAnyB_pure (i := 13) (v := .int .i64 ((n : Int) - 1)) rfl (by kernel_rfl) (fun _ _ _ h => h) (Or.inl ⟨by rfl, fun w _ => by go_simp⟩) hS ?_
              simp only [List.getElem_toArray, List.getElem_cons_succ, List.getElem_cons_zero, Act.put, List.setIfInBounds_toArray, List.set_cons_zero, List.set_cons_succ]
              refine wpAnyB_pure (i := 14) (v := .pointer (some ⟨g, off + (n - 1) * 3, none⟩)) rfl (by kernel_rfl) (fun _ _ _ h => h) (Or.inl ⟨by rfl, fun w _ => by go_simp⟩) hS ?_
              simp only [List.getElem_toArray, List.getElem_cons_succ, List.getElem_cons_zero, Act.put, List.setIfInBounds_toArray, List.set_cons_zero, List.set_cons_succ]
              refine wpAnyB_pure (i := 15) (v := .pointer (some ⟨g, off + (n - 1) * 3, none⟩)) rfl (by kernel_rfl) (fun _ _ _ h => h) (Or.inl ⟨by rfl, fun w _ => by go_simp⟩) hS ?_
              simp only [List.getElem_toArray, List.getElem_cons_succ, List.getElem_cons_zero, Act.put, List.setIfInBounds_toArray, List.set_cons_zero, List.set_cons_succ]
              refine wpAnyB_take [] (i := 16) (v := .int .i64 p.lo) rfl (by kernel_rfl) (fun _ _ _ h => h) (Or.inl ⟨by rfl, fun w hSw => by have := hI0 w hSw; go_simp⟩) hS ?_
              simp only [List.getElem_toArray, List.getElem_cons_succ, List.getElem_cons_zero, Act.put, List.setIfInBounds_toArray, List.set_cons_zero, List.set_cons_succ]
              refine wpAnyB_pure (i := 17) (v := .slice (some ⟨g, off, none⟩) l.length cap) rfl (by kernel_rfl) (fun _ _ _ h => h) (Or.inl ⟨by rfl, fun w _ => by go_simp⟩) hS ?_
              simp only [List.getElem_toArray, List.getElem_cons_succ, List.getElem_cons_zero, Act.put, List.setIfInBounds_toArray, List.set_cons_zero, List.set_cons_succ]
              refine wpAnyB_pure (i := 18) (v := .int .i64 (k : Int)) rfl (by kernel_rfl) (fun _ _ _ h => h) (Or.inl ⟨by rfl, fun w _ => by go_simp⟩) hS ?_
              simp only [List.getElem_toArray, List.getElem_cons_succ, List.getElem_cons_zero, Act.put, List.setIfInBounds_toArray, List.set_cons_zero, List.set_cons_succ]
              refine wpAnyB_pure (i := 19) (v := .pointer (some ⟨g, off + k * 3, none⟩)) rfl (by kernel_rfl) (fun _ _ _ h => h) (Or.inl ⟨by rfl, fun w _ => by go_simp⟩) hS ?_
              simp only [List.getElem_toArray, List.getElem_cons_succ, List.getElem_cons_zero, Act.put, List.setIfInBounds_toArray, List.set_cons_zero, List.set_cons_succ]
              refine wpAnyB_pure (i := 20) (v := .pointer (some ⟨g, off + k * 3 + 1, none⟩)) rfl (by kernel_rfl) (fun _ _ _ h => h) (Or.inl ⟨by rfl, fun w _ => by go_simp⟩) hS ?_
              simp only [List.getElem_toArray, List.getElem_cons_succ, List.getElem_cons_zero, Act.put, List.setIfInBounds_toArray, List.set_cons_zero, List.set_cons_succ]
              refine wpAnyB_take [] (i := 21) (v := .int .i64 q.hi) rfl (by kernel_rfl) (fun _ _ _ h => h) (Or.inl ⟨by rfl, fun w hSw => by have := hK1 w hSw; go_simp⟩) hS ?_
              simp only [List.getElem_toArray, List.getElem_cons_succ, List.getElem_cons_zero, Act.put, List.setIfInBounds_toArray, List.set_cons_zero, List.set_cons_succ]
              refine wpAnyB_pure (i := 22) (v := .bool true) rfl (by kernel_rfl) (fun _ _ _ h => h) (Or.inl ⟨by rfl, fun w _ => by go_simp⟩) hS ?_
              simp only [List.getElem_toArray, List.getElem_cons_succ, List.getElem_cons_zero, Act.put, List.setIfInBounds_toArray, List.set_cons_zero, List.set_cons_succ]
              refine wpAnyB_pure (i := 23) (v := .bool true) rfl (by kernel_rfl) (fun _ _ _ h => h) (Or.inl ⟨by rfl, fun w _ => by go_simp⟩) hS ?_
              simp only [List.getElem_toArray, List.getElem_cons_succ, List.getElem_cons_zero, Act.put, List.setIfInBounds_toArray, List.set_cons_zero, List.set_cons_succ]
              refine wpAnyB_done (by kernel_rfl) ?_ _
              refine NoPanic.normal ?_
              clear hK0 hK1 hI0 hI1
              have HS : Hid (Below wr.heap.size wr wr.drew) := hS
              clear hS
              go_wp2
              go_ret
              exact ⟨rfl, HB2.out.trans ((HBR.out.trans (HS.out.mono HBR.out.size)).mono HB2.out.size)⟩
            · have HNM : Hid (¬ meets q p) := fun z => m2 z.2
              go_wp2_with fail
              refine wp_region_bad (fun w' => Below wr.heap.size wr w') [] (by kernel_rfl) ((Below.refl _ _).drew) (fun hS => ?_)
              have hK0 := HK0.out
              have hK1 := HK1.out
              have hI0 := HI0.out
              have hI1 := HI1.out
              refine wpAnyB_pure (i := 0) (v := .slice (some ⟨g, off, none⟩) l.length cap) rfl (by kernel_rfl) (fun _ _ _ h => h) (Or.inl ⟨by rfl, fun w _ => by go_simp⟩) hS ?_
              simp only [List.getElem_toArray, List.getElem_cons_zero, Act.put, List.setIfInBounds_toArray, List.set_cons_zero, List.set_cons_succ]
              refine wpAnyB_pure (i := 1) (v := .int .i64 (k : Int)) rfl (by kernel_rfl) (fun _ _ _ h => h) (Or.inl ⟨by rfl, fun w _ => by go_simp⟩) hS ?_
              simp only [List.getElem_toArray, List.getElem_cons_succ, List.getElem_cons_zero, Act.put, List.setIfInBounds_toArray, List.set_cons_zero, List.set_cons_succ]
              refine wpAnyB_pure (i := 2) (v := .pointer (some ⟨g, off + k * 3, none⟩)) rfl (by kernel_rfl) (fun _ _ _ h => h) (Or.inl ⟨by rfl, fun w _ => by go_simp⟩) hS ?_
              simp only [List.getElem_toArray, List.getElem_cons_succ, List.getElem_cons_zero, Act.put, List.setIfInBounds_toArray, List.set_cons_zero, List.set_cons_succ]
              refine wpAnyB_pure (i := 3) (v := .pointer (some ⟨g, off + k * 3, none⟩)) rfl (by kernel_rfl) (fun _ _ _ h => h) (Or.inl ⟨by rfl, fun w _ => by go_simp⟩) hS ?_
              simp only [List.getElem_toArray, List.getElem_cons_succ, List.getElem_cons_zero, Act.put, List.setIfInBounds_toArray, List.set_cons_zero, List.set_cons_succ]
              refine wpAnyB_take [] (i := 4) (v := .int .i64 q.lo) rfl (by kernel_rfl) (fun _ _ _ h => h) (Or.inl ⟨by rfl, fun w hSw => by have := hK0 w hSw; go_simp⟩) hS ?_
              simp only [List.getElem_toArray, List.getElem_cons_succ, List.getElem_cons_zero, Act.put, List.setIfInBounds_toArray, List.set_cons_zero, List.set_cons_succ]
              refine wpAnyB_pure (i := 5) (v := .slice (some ⟨g, off, none⟩) l.length cap) rfl (by kernel_rfl) (fun _ _ _ h => h) (Or.inl ⟨by rfl, fun w _ => by go_simp⟩) hS ?_
              simp only [List.getElem_toArray, List.getElem_cons_succ, List.getElem_cons_zero, Act.put, List.setIfInBounds_toArray, List.set_cons_zero, List.set_cons_succ]
              refine wpAnyB_pure (i := 6) (v := .int .i64 ((n : Int) - 1)) rfl (by kernel_rfl) (fun _ _ _ h => h) (Or.inl ⟨by rfl, fun w _ => by go_simp⟩) hS ?_
              simp only [List.getElem_toArray, List.getElem_cons_succ, List.getElem_cons_zero, Act.put, List.setIfInBounds_toArray, List.set_cons_zero, List.set_cons_succ]
              refine wpAnyB_pure (i := 7) (v := .pointer (some ⟨g, off + (n - 1) * 3, none⟩)) rfl (by kernel_rfl) (fun _ _ _ h => h) (Or.inl ⟨by rfl, fun w _ => by go_simp⟩) hS ?_
              simp only [List.getElem_toArray, List.getElem_cons_succ, List.getElem_cons_zero, Act.put, List.setIfInBounds_toArray, List.set_cons_zero, List.set_cons_succ]
              refine wpAnyB_pure (i := 8) (v := .pointer (some ⟨g, off + (n - 1) * 3 + 1, none⟩)) rfl (by kernel_rfl) (fun _ _ _ h => h) (Or.inl ⟨by rfl, fun w _ => by go_simp⟩) hS ?_
              simp only [List.getElem_toArray, List.getElem_cons_succ, List.getElem_cons_zero, Act.put, List.setIfInBounds_toArray, List.set_cons_zero, List.set_cons_succ]
              refine wpAnyB_take [] (i := 9) (v := .int .i64 p.hi) rfl (by kernel_rfl) (fun _ _ _ h => h) (Or.inl ⟨by rfl, fun w hSw => by have := hI1 w hSw; go_simp⟩) hS ?_
              simp only [List.getElem_toArray, List.getElem_cons_succ, List.getElem_cons_zero, Act.put, List.setIfInBounds_toArray, List.set_cons_zero, List.set_cons_succ]
              refine wpAnyB_pure (i := 10) (v := .bool true) rfl (by kernel_rfl) (fun _ _ _ h => h) (Or.inl ⟨by rfl, fun w _ => by go_simp⟩) hS ?_
              simp only [List.getElem_toArray, List.getElem_cons_succ, List.getElem_cons_zero, Act.put, List.setIfInBounds_toArray, List.set_cons_zero, List.set_cons_succ]
              refine wpAnyB_pure (i := 11) (v := .bool true) rfl (by kernel_rfl) (fun _ _ _ h => h) (Or.inl ⟨by rfl, fun w _ => by go_simp⟩) hS ?_
              simp only [List.getElem_toArray, List.getElem_cons_succ, List.getElem_cons_zero, Act.put, List.setIfInBounds_toArray, List.set_cons_zero, List.set_cons_succ]
              refine wpAnyB_pure (i := 12) (v := .slice (some ⟨g, off, none⟩) l.length cap) rfl (by kernel_rfl) (fun _ _ _ h => h) (Or.inl ⟨by rfl, fun w _ => by go_simp⟩) hS ?_
              simp only [List.getElem_toArray, List.getElem_cons_succ, List.getElem_cons_zero, Act.put, List.setIfInBounds_toArray, List.set_cons_zero, List.set_cons_succ]
              refine wpAnyB_pure (i := 13) (v := .int .i64 ((n : Int) - 1)) rfl (by kernel_rfl) (fun _ _ _ h => h) (Or.inl ⟨by rfl, fun w _ => by go_simp⟩) hS ?_
              simp only [List.getElem_toArray, List.getElem_cons_succ, List.getElem_cons_zero, Act.put, List.setIfInBounds_toArray, List.set_cons_zero, List.set_cons_succ]
              refine wpAnyB_pure (i := 14) (v := .pointer (some ⟨g, off + (n - 1) * 3, none⟩)) rfl (by kernel_rfl) (fun _ _ _ h => h) (Or.inl ⟨by rfl, fun w _ => by go_simp⟩) hS ?_
              simp only [List.getElem_toArray, List.getElem_cons_succ, List.getElem_cons_zero, Act.put, List.setIfInBounds_toArray, List.set_cons_zero, List.set_cons_succ]
              refine wpAnyB_pure (i := 15) (v := .pointer (some ⟨g, off + (n - 1) * 3, none⟩)) rfl (by kernel_rfl) (fun _ _ _ h => h) (Or.inl ⟨by rfl, fun w _ => by go_simp⟩) hS ?_
              simp only [List.getElem_toArray, List.getElem_cons_succ, List.getElem_cons_zero, Act.put, List.setIfInBounds_toArray, List.set_cons_zero, List.set_cons_succ]
              refine wpAnyB_take [] (i := 16) (v := .int .i64 p.lo) rfl (by kernel_rfl) (fun _ _ _ h => h) (Or.inl ⟨by rfl, fun w hSw => by have := hI0 w hSw; go_simp⟩) hS ?_
              simp only [List.getElem_toArray, List.getElem_cons_succ, List.getElem_cons_zero, Act.put, List.setIfInBounds_toArray, List.set_cons_zero, List.set_cons_succ]
              refine wpAnyB_pure (i := 17) (v := .slice (some ⟨g, off, none⟩) l.length cap) rfl (by kernel_rfl) (fun _ _ _ h => h) (Or.inl ⟨by rfl, fun w _ => by go_simp⟩) hS ?_
              simp only [List.getElem_toArray, List.getElem_cons_succ, List.getElem_cons_zero, Act.put, List.setIfInBounds_toArray, List.set_cons_zero, List.set_cons_succ]
              refine wpAnyB_pure (i := 18) (v := .int .i64 (k : Int)) rfl (by kernel_rfl) (fun _ _ _ h => h) (Or.inl ⟨by rfl, fun w _ => by go_simp⟩) hS ?_
              simp only [List.getElem_toArray, List.getElem_cons_succ, List.getElem_cons_zero, Act.put, List.setIfInBounds_toArray, List.set_cons_zero, List.set_cons_succ]
              refine wpAnyB_pure (i := 19) (v := .pointer (some ⟨g, off + k * 3, none⟩)) rfl (by kernel_rfl) (fun _ _ _ h => h) (Or.inl ⟨by rfl, fun w _ => by go_simp⟩) hS ?_
              simp only [List.getElem_toArray, List.getElem_cons_succ, List.getElem_cons_zero, Act.put, List.setIfInBounds_toArray, List.set_cons_zero, List.set_cons_succ]
              refine wpAnyB_pure (i := 20) (v := .pointer (some ⟨g, off + k * 3 + 1, none⟩)) rfl (by kernel_rfl) (fun _ _ _ h => h) (Or.inl ⟨by rfl, fun w _ => by go_simp⟩) hS ?_
              simp only [List.getElem_toArray, List.getElem_cons_succ, List.getElem_cons_zero, Act.put, List.setIfInBounds_toArray, List.set_cons_zero, List.set_cons_succ]
              refine wpAnyB_take [] (i := 21) (v := .int .i64 q.hi) rfl (by kernel_rfl) (fun _ _ _ h => h) (Or.inl ⟨by rfl, fun w hSw => by have := hK1 w hSw; go_simp⟩) hS ?_
              simp only [List.getElem_toArray, List.getElem_cons_succ, List.getElem_cons_zero, Act.put, List.setIfInBounds_toArray, List.set_cons_zero, List.set_cons_succ]
              refine wpAnyB_pure (i := 22) (v := .bool false) rfl (by kernel_rfl) (fun _ _ _ h => h) (Or.inl ⟨by rfl, fun w _ => by go_simp⟩) hS ?_
              simp only [List.getElem_toArray, List.getElem_cons_succ, List.getElem_cons_zero, Act.put, List.setIfInBounds_toArray, List.set_cons_zero, List.set_cons_succ]
              refine wpAnyB_pure (i := 23) (v := .bool false) rfl (by kernel_rfl) (fun _ _ _ h => h) (Or.inl ⟨by rfl, fun w _ => by go_simp⟩) hS ?_
              simp only [List.getElem_toArray, List.getElem_cons_succ, List.getElem_cons_zero, Act.put, List.setIfInBounds_toArray, List.set_cons_zero, List.set_cons_succ]
              refine wpAnyB_done (by kernel_rfl) ?_ _
              refine NoPanic.normal ?_
              clear hK0 hK1 hI0 hI1
              have HS : Hid (Below wr.heap.size wr wr.drew) := hS
              clear hS
              go_wp2
              go_roundw
              case rel =>
                refine ⟨k + 1, by omega, by go_num, HBR.out.trans (HS.out.mono HBR.out.size), fun j hj hjk => ?_⟩
                by_cases e : j = k
                · subst e; rw [← HQ.out, ← HPI.out]; exact HNM.out
                · exact HNK.out j hj (by omega)
              case measure => simp [intOf]; omega
          · have HNM : Hid (¬ meets q p) := fun z => m1 z.1
            go_wp2_with fail
            refine wp_region_bad (fun w' => Below wr.heap.size wr w') [] (by kernel_rfl) ((Below.refl _ _).drew) (fun hS => ?_)
            have hK0 := HK0.out
            have hK1 := HK1.out
            have hI0 := HI0.out
            have hI1 := HI1.out
            refine wpAnyB_pure (i := 0) (v := .slice (some ⟨g, off, none⟩) l.length cap) rfl (by kernel_rfl) (fun _ _ _ h => h) (Or.inl ⟨by rfl, fun w _ => by go_simp⟩) hS ?_
            simp only [List.getElem_toArray, List.getElem_cons_zero, Act.put, List.setIfInBounds_toArray, List.set_cons_zero, List.set_cons_succ]
            refine wpAnyB_pure (i := 1) (v := .int .i64 (k : Int)) rfl (by kernel_rfl) (fun _ _ _ h => h) (Or.inl ⟨by rfl, fun w _ => by go_simp⟩) hS ?_
            simp only [List.getElem_toArray, List.getElem_cons_succ, List.getElem_cons_zero, Act.put, List.setIfInBounds_toArray, List.set_cons_zero, List.set_cons_succ]
            refine wpAnyB_pure (i := 2) (v := .pointer (some ⟨g, off + k * 3, none⟩)) rfl (by kernel_rfl) (fun _ _ _ h => h) (Or.inl ⟨by rfl, fun w _ => by go_simp⟩) hS ?_
            simp only [List.getElem_toArray, List.getElem_cons_succ, List.getElem_cons_zero, Act.put, List.setIfInBounds_toArray, List.set_cons_zero, List.set_cons_succ]
            refine wpAnyB_pure (i := 3) (v := .pointer (some ⟨g, off + k * 3, none⟩)) rfl (by kernel_rfl) (fun _ _ _ h => h) (Or.inl ⟨by rfl, fun w _ => by go_simp⟩) hS ?_
            simp only [List.getElem_toArray, List.getElem_cons_succ, List.getElem_cons_zero, Act.put, List.setIfInBounds_toArray, List.set_cons_zero, List.set_cons_succ]
            refine wpAnyB_take [] (i := 4) (v := .int .i64 q.lo) rfl (by kernel_rfl) (fun _ _ _ h => h) (Or.inl ⟨by rfl, fun w hSw => by have := hK0 w hSw; go_simp⟩) hS ?_
            simp only [List.getElem_toArray, List.getElem_cons_succ, List.getElem_cons_zero, Act.put, List.setIfInBounds_toArray, List.set_cons_zero, List.set_cons_succ]
            refine wpAnyB_pure (i := 5) (v := .slice (some ⟨g, off, none⟩) l.length cap) rfl (by kernel_rfl) (fun _ _ _ h => h) (Or.inl ⟨by rfl, fun w _ => by go_simp⟩) hS ?_
            simp only [List.getElem_toArray, List.getElem_cons_succ, List.getElem_cons_zero, Act.put, List.setIfInBounds_toArray, List.set_cons_zero, List.set_cons_succ]
            refine wpAnyB_pure (i := 6) (v := .int .i64 ((n : Int) - 1)) rfl (by kernel_rfl) (fun _ _ _ h => h) (Or.inl ⟨by rfl, fun w _ => by go_simp⟩) hS ?_
            simp only [List.getElem_toArray, List.getElem_cons_succ, List.getElem_cons_zero, Act.put, List.setIfInBounds_toArray, List.set_cons_zero, List.set_cons_succ]
            refine wpAnyB_pure (i := 7) (v := .pointer (some ⟨g, off + (n - 1) * 3, none⟩)) rfl (by kernel_rfl) (fun _ _ _ h => h) (Or.inl ⟨by rfl, fun w _ => by go_simp⟩) hS ?_
            simp only [List.getElem_toArray, List.getElem_cons_succ, List.getElem_cons_zero, Act.put, List.setIfInBounds_toArray, List.set_cons_zero, List.set_cons_succ]
            refine wpAnyB_pure (i := 8) (v := .pointer (some ⟨g, off + (n - 1) * 3 + 1, none⟩)) rfl (by kernel_rfl) (fun _ _ _ h => h) (Or.inl ⟨by rfl, fun w _ => by go_simp⟩) hS ?_
            simp only [List.getElem_toArray, List.getElem_cons_succ, List.getElem_cons_zero, Act.put, List.setIfInBounds_toArray, List.set_cons_zero, List.set_cons_succ]
            refine wpAnyB_take [] (i := 9) (v := .int .i64 p.hi) rfl (by kernel_rfl) (fun _ _ _ h => h) (Or.inl ⟨by rfl, fun w hSw => by have := hI1 w hSw; go_simp⟩) hS ?_
            simp only [List.getElem_toArray, List.getElem_cons_succ, List.getElem_cons_zero, Act.put, List.setIfInBounds_toArray, List.set_cons_zero, List.set_cons_succ]
            refine wpAnyB_pure (i := 10) (v := .bool false) rfl (by kernel_rfl) (fun _ _ _ h => h) (Or.inl ⟨by rfl, fun w _ => by go_simp⟩) hS ?_
            simp only [List.getElem_toArray, List.getElem_cons_succ, List.getElem_cons_zero, Act.put, List.setIfInBounds_toArray, List.set_cons_zero, List.set_cons_succ]
            refine wpAnyB_pure (i := 11) (v := .bool false) rfl (by kernel_rfl) (fun _ _ _ h => h) (Or.inl ⟨by rfl, fun w _ => by go_simp⟩) hS ?_
            simp only [List.getElem_toArray, List.getElem_cons_succ, List.getElem_cons_zero, Act.put, List.setIfInBounds_toArray, List.set_cons_zero, List.set_cons_succ]
            refine wpAnyB_pure (i := 12) (v := undef) rfl (by kernel_rfl) (fun _ _ _ h => h) (Or.inr ⟨by rfl, rfl⟩) hS ?_
            simp only [List.getElem_toArray, List.getElem_cons_succ, List.getElem_cons_zero, Act.put, List.setIfInBounds_toArray, List.set_cons_zero, List.set_cons_succ]
            refine wpAnyB_pure (i := 13) (v := undef) rfl (by kernel_rfl) (fun _ _ _ h => h) (Or.inr ⟨by rfl, rfl⟩) hS ?_
            simp only [List.getElem_toArray, List.getElem_cons_succ, List.getElem_cons_zero, Act.put, List.setIfInBounds_toArray, List.set_cons_zero, List.set_cons_succ]
            refine wpAnyB_pure (i := 14) (v := undef) rfl (by kernel_rfl) (fun _ _ _ h => h) (Or.inr ⟨by rfl, rfl⟩) hS ?_
            simp only [List.getElem_toArray, List.getElem_cons_succ, List.getElem_cons_zero, Act.put, List.setIfInBounds_toArray, List.set_cons_zero, List.set_cons_succ]
            refine wpAnyB_pure (i := 15) (v := undef) rfl (by kernel_rfl) (fun _ _ _ h => h) (Or.inr ⟨by rfl, rfl⟩) hS ?_
            simp only [List.getElem_toArray, List.getElem_cons_succ, List.getElem_cons_zero, Act.put, List.setIfInBounds_toArray, List.set_cons_zero, List.set_cons_succ]
            refine wpAnyB_pure (i := 16) (v := undef) rfl (by kernel_rfl) (fun _ _ _ h => h) (Or.inr ⟨by rfl, rfl⟩) hS ?_
            simp only [List.getElem_toArray, List.getElem_cons_succ, List.getElem_cons_zero, Act.put, List.setIfInBounds_toArray, List.set_cons_zero, List.set_cons_succ]
            refine wpAnyB_pure (i := 17) (v := undef) rfl (by kernel_rfl) (fun _ _ _ h => h) (Or.inr ⟨by rfl, rfl⟩) hS ?_
            simp only [List.getElem_toArray, List.getElem_cons_succ, List.getElem_cons_zero, Act.put, List.setIfInBounds_toArray, List.set_cons_zero, List.set_cons_succ]
            refine wpAnyB_pure (i := 18) (v := undef) rfl (by kernel_rfl) (fun _ _ _ h => h) (Or.inr ⟨by rfl, rfl⟩) hS ?_
            simp only [List.getElem_toArray, List.getElem_cons_succ, List.getElem_cons_zero, Act.put, List.setIfInBounds_toArray, List.set_cons_zero, List.set_cons_succ]
            refine wpAnyB_pure (i := 19) (v := undef) rfl (by kernel_rfl) (fun _ _ _ h => h) (Or.inr ⟨by rfl, rfl⟩) hS ?_
            simp only [List.getElem_toArray, List.getElem_cons_succ, List.getElem_cons_zero, Act.put, List.setIfInBounds_toArray, List.set_cons_zero, List.set_cons_succ]
            refine wpAnyB_pure (i := 20) (v := undef) rfl (by kernel_rfl) (fun _ _ _ h => h) (Or.inr ⟨by rfl, rfl⟩) hS ?_
            simp only [List.getElem_toArray, List.getElem_cons_succ, List.getElem_cons_zero, Act.put, List.setIfInBounds_toArray, List.set_cons_zero, List.set_cons_succ]
            refine wpAnyB_pure (i := 21) (v := undef) rfl (by kernel_rfl) (fun _ _ _ h => h) (Or.inr ⟨by rfl, rfl⟩) hS ?_
            simp only [List.getElem_toArray, List.getElem_cons_succ, List.getElem_cons_zero, Act.put, List.setIfInBounds_toArray, List.set_cons_zero, List.set_cons_succ]
            refine wpAnyB_pure (i := 22) (v := undef) rfl (by kernel_rfl) (fun _ _ _ h => h) (Or.inr ⟨by rfl, rfl⟩) hS ?_
            simp only [List.getElem_toArray, List.getElem_cons_succ, List.getElem_cons_zero, Act.put, List.setIfInBounds_toArray, List.set_cons_zero, List.set_cons_succ]
            refine wpAnyB_pure (i := 23) (v := .bool false) rfl (by kernel_rfl) (fun _ _ _ h => h) (Or.inl ⟨by rfl, fun w _ => by go_simp⟩) hS ?_
            simp only [List.getElem_toArray, List.getElem_cons_succ, List.getElem_cons_zero, Act.put, List.setIfInBounds_toArray, List.set_cons_zero, List.set_cons_succ]
            refine wpAnyB_done (by kernel_rfl) ?_ _
            refine NoPanic.normal ?_
            clear hK0 hK1 hI0 hI1
            have HS : Hid (Below wr.heap.size wr wr.drew) := hS
            clear hS
            go_wp2
            go_roundw
            case rel =>
              refine ⟨k + 1, by omega, by go_num, HBR.out.trans (HS.out.mono HBR.out.size), fun j hj hjk => ?_⟩
              by_cases e : j = k
              · subst e; rw [← HQ.out, ← HPI.out]; exact HNM.out
              · exact HNK.out j hj (by omega)
            case measure => simp [intOf]; omega
        · obtain rfl : k = n - 1 := by omega
          have hkn' : ¬ (((n - 1 : Nat) : Int) < (n : Int) - 1) := by omega
          have HOR : Hid (wr.ownsRow w.heap.size 25 3 v2 (nl + 1) (cellsPs (l.drop n).reverse ++ cellsP p)) := ownsRow_below HO2.out HBR.out
          clear hBr
          go_wp2
          go_roundw
          case rel =>
            refine ⟨n - 1, by omega, by go_num, ?_, HB2.out.trans (HBR.out.mono HB2.out.size), by have := HB2.out.size; omega, fun i hi k hk h1 h2 => ?_⟩
            · rw [HDR.out, List.length_append, cellsPs_snoc, ← HNL.out]
              exact HOR.out
            · by_cases e : i = n - 1
              · subst e; exact HNK.out k hk h2
              · exact HPR.out i hi k hk (by omega) h2
          case measure => simp [intOf]; omega
end Go.Proofs.Ytjgghdkdbkkhbab
