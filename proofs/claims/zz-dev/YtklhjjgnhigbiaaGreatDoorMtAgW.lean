/-
  A step that is taken until it leads no further: the walk.
-/
import Derived.Test.YtklhjjgnhigbiaaGreatDoorMtAgain
namespace Go.Proofs.YtklhjjgnhigbiaaGreatDoor
open Go.RowKit Go.Shelf
set_option linter.unusedVariables false

theorem Sd.other1 {L b0 : Nat} {d : Sd} (h : d.ok L b0) {w w' : World} {S : Nat → Prop} {k0 : Nat} (hI : d.I w S) (hg : w.grownBy w' (some k0)) (hb : b0 ≤ w.heap.size) (hk : b0 ≤ k0 ∧ (k0 < d.lo ∨ d.hi ≤ k0)) : d.I w' S := by
  have hs := h.size w S hI
  refine h.keep w w' S hI (fun k hk2 => hg.block k (by omega) (fun e => ?_)) hg.size
  have e' : k = k0 := by simpa using e
  omega
theorem FrI.of1 {lo hi k0 : Nat} {w w' : World} (hg : w.grownBy w' (some k0)) (h1 : lo ≤ k0) (h2 : k0 < hi) (hl : lo ≤ w.heap.size) : FrI lo hi w w' :=
  ⟨⟨hg.os, hg.tape, hg.output, hg.size, fun k hk => hg.block k (by omega) (fun e => by simp at e; omega)⟩, fun k h3 h4 => hg.block k h4 (fun e => by simp at e; omega)⟩
theorem below_own {base : Nat} {row : Option Nat} {w w' : World} (hg : w.grownBy w' row) (h1 : ∀ k, row = some k → base ≤ k) (hb : base ≤ w.heap.size) : Below base w w' :=
  ⟨hg.os, hg.tape, hg.output, hg.size, fun k hk => hg.block k (by omega) (fun e => by have := h1 k e.symm; omega)⟩

set_option maxRecDepth 100000 in
set_option maxHeartbeats 8000000 in
theorem again_call {L b0 lo hi b1 b2 mb : Nat} {d : Sd} (hL : L < 64) (F : Fam L b0 lo hi [d]) (f1 : Free lo hi [d] b1) (f2 : Free lo hi [d] b2) (f3 : Free lo hi [d] mb) (hn1 : b1 ≠ mb) (hn2 : b2 ≠ mb)
    (w : World) (S : Nat → Prop) (v : Value) (l : List Nat) (B : Nat) (hI : IAg hi b1 b2 mb d w S) (hB : hi ≤ B) (hBs : B ≤ w.heap.size) (hv : PlcAt b0 B w v l) (hr : Ris L l) :
    Calls Tryz.prog 88 #[v, .pointer (some ⟨b1, 0, none⟩), .pointer (some ⟨b2, 0, none⟩)] w fun e w' => ∃ v' l', e = .returned v' ∧ PlcAt b0 B w' v' l' ∧ Ris L l' ∧ IAg hi b1 b2 mb d w' (SU S l) ∧ FrI lo hi w w' ∧ Tells (Pl d.R) S l l' := by
  obtain ⟨i0, hi0, hz0, hz1, hz2⟩ := info_parts Tryz.infoInt
  obtain ⟨h0, h1, h2, m, hm64, hmk, hmS, hdI⟩ := hI
  have hok : d.ok L b0 := F.ok d (by simp)
  have hle := F.le d (by simp)
  have hb0 := F.base
  have hmb1 := f3.1
  have hmb2 : mb < d.lo ∨ d.hi ≤ mb := f3.2 d (by simp)
  have hb21 := f2.1
  have hb11 := f1.1
  have hp := put_any mb m l v w b0 B L hmk hm64 hv hr hL (by omega)
  have HR : Hid (Ris L l) := hr
  have HMS : Hid (∀ x, m.testBit x = true ↔ ClS d.R S x) := hmS
  have HST := AgR.start (d := d) (S := S) hm64 hr hL
  obtain ⟨fl0, hfl0⟩ : ∃ f, f = l.filter fun x => !m.testBit x := ⟨_, rfl⟩
  obtain ⟨M0, hM0⟩ : ∃ M, M = putM m l := ⟨_, rfl⟩
  rw [← hfl0, ← hM0] at HST hp
  have HST' : Hid (AgR L d S l m M0 (fun x => m.testBit x = true) [] fl0) := HST
  have HFR0 : Hid (Ris L fl0) := by rw [hfl0]; exact hr.sub List.filter_sublist
  have HDI : Hid (d.I w (fun x => m.testBit x = true)) := hdI
  have HOK : Hid (d.ok L b0) := hok
  have eg1 := hok.ent
  obtain ⟨fn, hfn⟩ : ∃ x, x = d.fn := ⟨_, rfl⟩
  obtain ⟨caps, hcaps⟩ : ∃ x, x = d.caps := ⟨_, rfl⟩
  unfold funV at h2
  rw [← hfn, ← hcaps] at h2
  rw [← hfn] at eg1
  have HCALL : Hid (∀ W Z x fl Bt, d.I W Z → hi ≤ Bt → Bt ≤ W.heap.size → PlcAt b0 Bt W x fl → Ris L fl → Calls Tryz.prog fn (#[x] ++ caps) W fun e w' => ∃ v' l', e = .returned v' ∧ PlcAt b0 Bt w' v' l' ∧ Ris L l' ∧ d.I w' (SU Z fl) ∧ FrI d.lo d.hi W w' ∧ Tells d.R Z fl l') := fun W Z x fl Bt a1 a2 a3 a4 a5 => by
    rw [hfn, hcaps]
    exact hok.call W Z x fl Bt a1 (by omega) a3 a4 a5
  have HFUN : Hid (funV d = .func (.func fn) #[] caps) := by show _ = _; rw [hfn, hcaps]; rfl
  clear hfn hcaps hok hdI hmS HST hfl0 hM0 F hr hv hmk
  go_enter Tryz.func88, Tryz.ntmps88
  go_wp2_with fail
  refine hp.mono ?_
  rintro e w1 ⟨v1, rfl, ho1, hmk1, hg1⟩
  have HI1 : Hid (d.I w1 (fun x => m.testBit x = true)) := Sd.other1 HOK.out HDI.out hg1 (by omega) ⟨by omega, hmb2⟩
  have HF1 : Hid (FrI lo hi w w1) := FrI.of1 hg1 hmb1.1 hmb1.2 (by omega)
  have HP1 : Hid (PlcAt b0 w.heap.size w1 v1 fl0) := plc_of_row ho1 (Nat.le_refl _)
  have HMK1 : Hid (MkAt w1 mb M0) := hmk1
  have c1 : w1.cell? ⟨b1, 0, none⟩ = some (.slice (some ⟨mb, 0, none⟩) 1 1) := (World.cell?_of_block (a := ⟨b1, _, none⟩) (hg1.block b1 (by omega) (by simpa using hn1))).trans h1
  have c2 : w1.cell? ⟨b2, 0, none⟩ = some (.func (.func fn) #[] caps) := (World.cell?_of_block (a := ⟨b2, _, none⟩) (hg1.block b2 (by omega) (by simpa using hn2))).trans h2
  have hws1 : w.heap.size ≤ w1.heap.size := hg1.size
  obtain ⟨va, vc, rfl, hvc⟩ := HP1.out.slice
  clear hp ho1 hmk1 hg1 h1 h2
  go_wp2
  go_loopw [5, 6] (fun x5 x6 wr => ∃ (tl fl : List Nat) (M : Nat) (Z : Nat → Prop) (Bt : Nat), slen x6 = fl.length ∧ Hid (wr.ownsRow w.heap.size 3 1 x5 tl.length (cellP tl)) ∧ Hid (∀ k, x5.ownBlock = some k → k < Bt) ∧ w.heap.size ≤ Bt ∧ Bt ≤ wr.heap.size ∧ Hid (PlcAt b0 Bt wr x6 fl) ∧ Hid (Ris L fl) ∧ Hid (MkAt wr mb M) ∧ Hid (d.I wr Z) ∧ Hid (AgR L d S l m M Z tl fl) ∧ Hid (FrI lo hi w wr) ∧ wr.cell? ⟨b1, 0, none⟩ = some (.slice (some ⟨mb, 0, none⟩) 1 1) ∧ wr.cell? ⟨b2, 0, none⟩ = some (.func (.func fn) #[] caps)) (fun _ x6 wr => 2 * (64 - cntM (markN wr mb)) + (if slen x6 = 0 then 0 else 1))
  case atStart => exact ⟨[], fl0, M0, _, w.heap.size, rfl, World.ownsRow_nil _ _ _ _, (fun k e => by simp [Value.ownBlock] at e), Nat.le_refl _, hws1, HP1, HFR0, HMK1, HI1, HST', HF1, c1, c2⟩
  case round =>
    obtain ⟨tl, fl, M, Z, Bt, hs6, HO, HOB, hBt, hBt2, HP, HRF, HMK, HDI, HAG, HFR, c1, c2⟩ := hrel
    have hws : w.heap.size ≤ wr.heap.size := HFR.out.size
    obtain ⟨xa, xc, rfl, hxc⟩ := HP.out.slice
    obtain ⟨n, hn⟩ : ∃ n, n = fl.length := ⟨_, rfl⟩
    rw [← hn] at HP hxc ⊢
    have HN : Hid (n = fl.length) := hn
    have htl : tl.length ≤ 4096 := by have h1 := HAG.out.len; have h2 := cntM_le M; omega
    clear hs6
    by_cases hnz : n = 0
    · subst hnz
      obtain rfl : fl = [] := List.length_eq_zero_iff.1 hn.symm
      have hsort := sort_any wr w.heap.size u5 tl HO.out (by omega)
      have HDN := HAG.out.done HMS.out
      have HTB : Hid (∀ x ∈ tl, x ≤ L) := HAG.out.top
      have HM64 : Hid (M < 2 ^ 64) := HAG.out.m64
      have HDN1 : Hid (∀ x, M.testBit x = true ↔ ClS d.R (SU S l) x) := HDN.1
      have HDN2 : Hid (Z = fun x => M.testBit x = true) := HDN.2.1
      have HDN3 : Hid (∀ cl : List Nat, (∀ x, x ∈ cl ↔ x ∈ tl) → Tells (Pl d.R) S l cl) := HDN.2.2
      clear hn HDN
      go_wp2_with fail
      refine hsort.mono ?_
      rintro e w2 ⟨sl, rfl, hsl, hsm, hsp, hso, hsg⟩
      have hcomp := comp_any w2 w.heap.size u5 sl hso (by omega) hsp
      have hB2 : Below w.heap.size wr w2 := below_own hsg (fun k e => (HO.out.lt k e).1) hws
      have HSM : Hid (∀ x, x ∈ sl ↔ x ∈ tl) := hsm
      have HSO : Hid (w2.ownsRow w.heap.size 3 1 u5 sl.length (cellP sl)) := hso
      clear hsort hsl hsm hsp hso hsg
      go_wp2_with fail
      refine hcomp.mono ?_
      rintro e w3 ⟨v3, cl, rfl, hcm, hcp, hco, hcg⟩
      have hB3 : Below w.heap.size wr w3 := hB2.trans (below_own hcg (fun k e => (HSO.out.lt k e).1) (by have := hB2.size; omega))
      have HCO : Hid (w3.ownsRow w.heap.size 3 1 v3 cl.length (cellP cl)) := hco
      have HB3 : Hid (Below w.heap.size wr w3) := hB3
      have HMM : Hid (∀ x, x ∈ cl ↔ x ∈ tl) := fun x => (hcm x).trans (HSM.out x)
      clear hcomp hcm hco hcg hB2 hB3
      go_wp2
      go_ret
      have hB3 := HB3.out
      refine ⟨_, cl, rfl, plc_of_row HCO.out hBs, ⟨hcp, fun x hx => HTB.out x ((HMM.out x).1 hx)⟩, ⟨by have := hB3.size; omega, (hB3.cell (p := ⟨b1, 0, none⟩) (by show b1 < _; omega)).trans c1, ?_, M, HM64.out, (hB3.block mb (by omega)).trans HMK.out, HDN1.out, ?_⟩, ⟨HFR.out.1.trans (hB3.mono (by omega)), fun k h1 h2 => (hB3.block k h2).trans (HFR.out.2 k h1 h2)⟩, HDN3.out cl HMM.out⟩
      · rw [HFUN.out]
        exact (hB3.cell (p := ⟨b2, 0, none⟩) (by show b2 < _; omega)).trans c2
      · have := HDI.out
        rw [HDN2.out] at this
        exact HOK.out.keep wr w3 _ this (fun k hk => hB3.block k (by omega)) hB3.size
    · have hn0 : 0 < n := by omega
      have hcall := HCALL.out wr Z (.slice xa n xc) fl Bt HDI.out (by omega) hBt2 HP.out HRF.out
      clear hn
      go_wp2_with fail
      refine hcall.mono ?_
      rintro e w2 ⟨v2, l2, rfl, hp2, hr2, hi2, hf2, ht2⟩
      have HO2 : Hid (w2.ownsRow w.heap.size 3 1 u5 tl.length (cellP tl)) := own_same HO.out (fun k e => hf2.block (.inr ⟨by have := (HO.out.lt k e).1; omega, (HO.out.lt k e).2⟩))
      have hw2 : wr.heap.size ≤ w2.heap.size := hf2.size
      have HSRC : Hid (SrcIs w2 v2 l2.length 1 (cellP l2)) := hp2.src
      have hl2 : l2.length ≤ 64 := by have := hr2.len; omega
      have c1' : w2.cell? ⟨b1, 0, none⟩ = some (.slice (some ⟨mb, 0, none⟩) 1 1) := (World.cell?_of_block (a := ⟨b1, _, none⟩) (f1.fr (by simp) hf2 (by omega))).trans c1
      have c2' : w2.cell? ⟨b2, 0, none⟩ = some (.func (.func fn) #[] caps) := (World.cell?_of_block (a := ⟨b2, _, none⟩) (f2.fr (by simp) hf2 (by omega))).trans c2
      have HMK2 : Hid (MkAt w2 mb M) := (f3.fr (by simp) hf2 (by omega)).trans HMK.out
      have HP2 : Hid (PlcAt b0 Bt w2 v2 l2) := hp2
      have HR2 : Hid (Ris L l2) := hr2
      have HI2 : Hid (d.I w2 (SU Z fl)) := hi2
      have HF2 : Hid (FrI lo hi w w2) := HFR.out.trans (hf2.wide hle.1 hle.2.2)
      have HT2 : Hid (Tells d.R Z fl l2) := ht2
      clear hcall hp2 hr2 hi2 hf2 ht2
      go_wp2_with (first | (at_builtin; go_loud (refine wpList_append_src _ rfl (.tmp 17) (.tmp 18) 77 rfl w.heap.size 3 i0 (.int .i64 0) 1 8 Tryz.underlying77 hi0 hz0 hz1 hz2 rfl (by decide) _ _ _ rfl HO2.out _ rfl l2.length _ HSRC.out (by unfold maxLen; omega) (by omega) (by omega) ?_; intro v3 w3 ho3 hg3; have c1'' : w3.cell? ⟨b1, 0, none⟩ = some (.slice (some ⟨mb, 0, none⟩) 1 1) := (World.cell?_of_block (a := ⟨b1, _, none⟩) (hg3.block b1 (by omega) (fun e => by have := (HO2.out.lt b1 e.symm).1; omega))).trans c1')) | fail)
      have HO3 : Hid (w3.ownsRow w.heap.size 3 1 v3 (tl ++ l2).length (cellP (tl ++ l2))) := by
        show w3.ownsRow _ _ _ _ _ _
        rw [cellP_append, List.length_append]
        exact ho3
      have hw3 : w2.heap.size ≤ w3.heap.size := hg3.size
      have hB3 : Below w.heap.size w2 w3 := below_own hg3 (fun k e => (HO2.out.lt k e).1) (by omega)
      have HP3 : Hid (PlcAt b0 Bt w3 v2 l2) := HP2.out.to (fun k h1 h2 => hg3.block k h2 (fun e => by have := HOB.out k e.symm; have := (HO2.out.lt k e.symm).1; omega)) hw3
      have HMK3 : Hid (MkAt w3 mb M) := (hB3.block mb (by omega)).trans HMK2.out
      have HI3 : Hid (d.I w3 (SU Z fl)) := HOK.out.keep w2 w3 _ HI2.out (fun k hk => hB3.block k (by omega)) hw3
      have HF3 : Hid (FrI lo hi w w3) := ⟨HF2.out.1.trans (hB3.mono (by omega)), fun k h1 h2 => (hB3.block k h2).trans (HF2.out.2 k h1 h2)⟩
      have c2'' : w3.cell? ⟨b2, 0, none⟩ = some (.func (.func fn) #[] caps) := (hB3.cell (p := ⟨b2, 0, none⟩) (by show b2 < _; omega)).trans c2'
      have hput := put_any mb M l2 v2 w3 b0 Bt L HMK3.out HAG.out.m64 HP3.out HR2.out hL (by omega)
      have HAGN := HAG.out.next (by rw [← HN.out]; omega) HR2.out hL HT2.out
      obtain ⟨fl3, hfl3⟩ : ∃ f, f = l2.filter fun x => !M.testBit x := ⟨_, rfl⟩
      obtain ⟨M3, hM3⟩ : ∃ X, X = putM M l2 := ⟨_, rfl⟩
      rw [← hfl3, ← hM3] at hput HAGN
      have HR3 : Hid (Ris L fl3) := by rw [hfl3]; exact HR2.out.sub List.filter_sublist
      have HAG3 : Hid (AgR L d S l m M3 (SU Z fl) (tl ++ l2) fl3) := HAGN.1
      have HCN : Hid (¬ fl3.length = 0 → cntM M < cntM M3) := HAGN.2
      have HMN : Hid (markN wr mb = M) := markN_at HMK.out
      have HCN2 : Hid (cntM M ≤ cntM M3) := by rw [hM3]; exact List.countP_mono_left (fun x _ hx => by rw [putM_bit, hx]; rfl)
      clear ho3 hg3 hB3 HAGN hfl3 hM3 c1' c2' c1 c2
      refine hput.mono ?_
      rintro e w4 ⟨v4, rfl, ho4, hmk4, hg4⟩
      have HI4 : Hid (d.I w4 (SU Z fl)) := Sd.other1 HOK.out HI3.out hg4 (by omega) ⟨by omega, hmb2⟩
      have HF4 : Hid (FrI lo hi w w4) := HF3.out.trans (FrI.of1 hg4 hmb1.1 hmb1.2 (by omega))
      have HP4 : Hid (PlcAt b0 w3.heap.size w4 v4 fl3) := plc_of_row ho4 (Nat.le_refl _)
      have HMK4 : Hid (MkAt w4 mb M3) := hmk4
      have HO4 : Hid (w4.ownsRow w.heap.size 3 1 v3 (tl ++ l2).length (cellP (tl ++ l2))) := own_same HO3.out (fun k e => hg4.block k (HO3.out.lt k e).2 (fun e2 => by have := (HO3.out.lt k e).1; simp at e2; omega))
      have d1 : w4.cell? ⟨b1, 0, none⟩ = some (.slice (some ⟨mb, 0, none⟩) 1 1) := (World.cell?_of_block (a := ⟨b1, _, none⟩) (hg4.block b1 (by omega) (by simpa using hn1))).trans c1''
      have d2 : w4.cell? ⟨b2, 0, none⟩ = some (.func (.func fn) #[] caps) := (World.cell?_of_block (a := ⟨b2, _, none⟩) (hg4.block b2 (by omega) (by simpa using hn2))).trans c2''
      have hw4 : w3.heap.size ≤ w4.heap.size := hg4.size
      have HOB4 : Hid (∀ k, v3.ownBlock = some k → k < w3.heap.size) := fun k e => (HO3.out.lt k e).2
      have HMN4 : Hid (markN w4 mb = M3) := markN_at HMK4.out
      have HS4 : Hid (slen v4 = fl3.length) := by
        obtain ⟨a, c, rfl, _⟩ := HP4.out.slice
        rfl
      clear hput ho4 hmk4 hg4 c1'' c2''
      go_wp2
      go_roundw
      case rel => exact ⟨tl ++ l2, fl3, M3, SU Z fl, w3.heap.size, HS4.out, HO4, HOB4, by omega, hw4, HP4, HR3, HMK4, HI4, HAG3, HF4, d1, d2⟩
      case measure =>
        show 2 * (64 - cntM (markN w4 mb)) + (if slen v4 = 0 then 0 else 1) < 2 * (64 - cntM (markN wr mb)) + (if n = 0 then 0 else 1)
        rw [HMN.out, HMN4.out, HS4.out, if_neg hnz]
        have h1 := HCN.out
        have h2 := cntM_le M3
        have h3 := cntM_le M
        by_cases q : fl3.length = 0
        · rw [if_pos q]
          have : cntM M ≤ cntM M3 := HCN2.out
          omega
        · rw [if_neg q]
          have := h1 q
          omega
end Go.Proofs.YtklhjjgnhigbiaaGreatDoor
