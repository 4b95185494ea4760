/-
  The law WordsLines: true, for all texts.
-/
import Derived.Test.YtpmlbdfdiebkcaaDoorApp6
namespace Go.Proofs.YtpmlbdfdiebkcaaDoor
open Go.RowKit
set_option linter.unusedVariables false

set_option maxRecDepth 100000 in
theorem lf_is : wdV 10 = 2 := by kernel_rfl
/-- The places that the law lays together. -/
def wantL (L : List Int) (ys : List Nat) (k : Nat) : List Nat := allL L ++ ((ys.take k).tail).map (L.length + ·)
theorem wantL_one (L : List Int) (ys : List Nat) : wantL L ys 1 = allL L := by
  unfold wantL
  have : ((ys.take 1).tail) = [] := by cases ys <;> simp
  rw [this]; simp
theorem wantL_succ (L : List Int) (ys : List Nat) (k : Nat) (h0 : 0 < k) (h : k < ys.length) : wantL L ys (k + 1) = wantL L ys k ++ [L.length + ys[k]] := by
  unfold wantL
  rw [List.take_succ_eq_append_getElem h, List.tail_append_of_ne_nil (by intro e; have h2 := congrArg List.length e; rw [List.length_take, List.length_nil] at h2; omega), List.map_append, List.append_assoc]
  rfl
theorem wantL_len (L : List Int) (ys : List Nat) (k : Nat) : (wantL L ys k).length ≤ L.length + 1 + k := by
  unfold wantL
  have := allL_len L
  rw [List.length_append, List.length_map, List.length_tail, List.length_take]
  omega
theorem wantL_all (a b : List Int) : wantL (a ++ [10]) (allL b) (allL b).length = allL (a ++ [10] ++ b) := by
  unfold wantL
  rw [List.take_length, all_two (a := a ++ [10]) (b := b) (by simp) (by
    have e : (a ++ [10]).length - 1 = a.length := by simp
    rw [e]
    unfold kd
    simp [lf_is])]
theorem row_at6 {w : World} {v : Value} {ys : List Nat} (h : IntsAt w.heap.size w v (intsP ys)) (h0 : 0 < ys.length) : ∃ g off cap, v = .slice (some ⟨g, off, none⟩) ys.length cap ∧ ys.length ≤ cap ∧ ∀ w', Below w.heap.size w w' → ∀ (j b : Nat), ys[j]? = some b → w'.cell? ⟨g, off + j, none⟩ = some (.int .i64 (b : Int)) := by
  obtain ⟨a, cap, rfl, hc, hi⟩ := h
  rw [intsP_length] at hc
  obtain ⟨g, off, rfl, hg, _⟩ := hi 0 (by rw [intsP_length]; exact h0)
  refine ⟨g, off, cap, by rw [intsP_length], hc, fun w' hw' j b hj => ?_⟩
  have hlt : j < ys.length := (List.getElem?_eq_some_iff.1 hj).1
  obtain ⟨g', off', e, hg', hcell⟩ := hi j (by rw [intsP_length]; exact hlt)
  obtain ⟨rfl, rfl⟩ : g = g' ∧ off = off' := by cases e; exact ⟨rfl, rfl⟩
  rw [hw'.cell (p := ⟨g, off + j, none⟩) hg, hcell]
  have hb : ys[j] = b := (List.getElem?_eq_some_iff.1 hj).2
  simp [intsP, hb]

set_option maxRecDepth 100000 in
set_option maxHeartbeats 16000000 in
theorem wordsLines_any (a : List Int) (va : Value) (b : List Int) (vb : Value) (w : World) (hva : IntsAt w.heap.size w va a ∧ SrcIs w va a.length 1 (cellI a)) (hvb : IntsAt w.heap.size w vb b ∧ SrcIs w vb b.length 1 (cellI b)) (hs : Scripts w) (h0 : 0 < w.heap.size) :
    Calls Tryd.prog 7 #[va, vb] w fun e w' => e = .returned (.bool true) ∧ Below w.heap.size w w' := by
  obtain ⟨iI, hiI, hzI0, hzI1, hzI2⟩ := info_parts Tryd.infoInt
  have HS : Hid (Scripts w) := hs
  have HH0 : Hid (0 < w.heap.size) := h0
  have HVB : Hid (IntsAt w.heap.size w vb b) := hvb.1
  have HSA : Hid (SrcIs w va a.length 1 (cellI a)) := hva.2
  have HSB : Hid (SrcIs w vb b.length 1 (cellI b)) := hvb.2
  obtain ⟨aa, capa, rfl, hcapa, _⟩ := hva.1
  obtain ⟨ab, capb, rfl, hcapb, _⟩ := hvb.1
  clear hs h0 hva hvb
  go_enter Tryd.func7, Tryd.ntmps7
  go_wp2_with fail
  refine (awake_w w HS.out HH0.out).mono ?_
  rintro e w0 ⟨rfl, hB0⟩
  have HB0 : Hid (Below w.heap.size w w0) := hB0
  have HS0 : Hid (Scripts w0 ∧ 0 < w0.heap.size) := ⟨HS.out.below HH0.out hB0, by have := HH0.out; have := hB0.size; omega⟩
  clear hB0
  go_wp2_with fail
  refine (new_ship w0 HS0.out.1 HS0.out.2).mono ?_
  rintro e w1 ⟨g, rfl, hd, hB1⟩
  obtain ⟨HD1, HB1⟩ : Hid (Ship w1 g) ∧ Hid (Below w.heap.size w w1) := ⟨hd, HB0.out.trans (hB1.mono HB0.out.size)⟩
  clear hd hB1 HB0 HS0
  by_cases na : 100 < a.length
  · have na' : (100 : Int) < (a.length : Int) := by omega
    go_wp2
    go_ret
    exact ⟨rfl, HB1.out⟩
  have na' : decide ((100 : Int) < (a.length : Int)) = false := decide_eq_false (by omega)
  have na2 : decide (100 < a.length) = false := decide_eq_false (by omega)
  by_cases nb : 100 < b.length
  · have nb' : (100 : Int) < (b.length : Int) := by omega
    clear na
    go_wp2
    go_ret
    exact ⟨rfl, HB1.out⟩
  have nb' : decide ((100 : Int) < (b.length : Int)) = false := decide_eq_false (by omega)
  have nb2 : decide (100 < b.length) = false := decide_eq_false (by omega)
  have HN : Hid (a.length ≤ 100 ∧ b.length ≤ 100) := ⟨by omega, by omega⟩
  clear na nb
  have HO0 : Hid ((w1.alloc (.cells #[] 3)).ownsRow w1.heap.size 3 1 (.slice (some ⟨w1.heap.size, 0, none⟩) 0 0) 0 []) := owns_empty w1 _ _ _ (Nat.le_refl _)
  have HBA : Hid (Below w1.heap.size w1 (w1.alloc (.cells #[] 3))) := (Below.refl _ _).alloc (Nat.le_refl _) _
  have HSA1 : Hid (SrcIs (w1.alloc (.cells #[] 3)) (.slice aa a.length capa) a.length 1 (cellI a)) := HSA.out.below (HB1.out.trans (HBA.out.mono HB1.out.size))
  go_wp2_with (first | (at_builtin; refine wpList_append_src _ rfl (.tmp 30) (.tmp 31) 22 rfl w1.heap.size 3 iI (.int .i64 0) 1 8 Tryd.underlying22 hiI hzI0 hzI1 hzI2 rfl (by decide) _ _ _ rfl HO0.out _ rfl a.length _ HSA1.out (by unfold maxLen; have := HN.out; omega) (by have := HN.out; omega) (by simp) ?_; intro v7 w7 ho7 hg7; have HB7 : Hid (Below w1.heap.size w1 w7) := HBA.out.grown hg7 (by simp) (fun j e => (HO0.out.lt j e).1); have HO7 : Hid (w7.ownsRow w1.heap.size 3 1 v7 (0 + a.length) ([] ++ cellI a)) := ho7; clear ho7 hg7) | (at_builtin; refine wpList_append_own _ rfl (.tmp 32) (.tmp 33) 22 rfl w1.heap.size 3 iI (.int .i64 0) 1 8 Tryd.underlying22 hiI hzI0 hzI1 hzI2 rfl (by decide) _ _ _ rfl (HO7.out.alloc _) ⟨w7.heap.size, 0, none⟩ 1 1 [.int .i64 10] rfl rfl (World.news_of_block (World.alloc_heap_new _ _)) (by simp [Value.oneCell']) (by unfold maxLen; have := HN.out; omega) (by have := HN.out; omega) (by simp; have := HB7.out.size; omega) ?_; intro v8 w8 ho8 hg8 _; have HB8' : Hid (Below w1.heap.size w1 w8) := (HB7.out.alloc HB7.out.size _).grown hg8 (by simp; have := HB7.out.size; omega) (fun j e => (HO7.out.lt j e).1); obtain ⟨g8, c8, rfl⟩ := ownsRow_succ ho8; have HO8 : Hid (w8.ownsRow w1.heap.size 3 1 (.slice (some ⟨g8, 0, none⟩) (0 + a.length + 1) c8) (0 + a.length + 1) ([] ++ cellI a ++ [.int .i64 10])) := ho8; clear ho8 hg8) | fail)
  have HB8 : Hid (Below w1.heap.size w1 w8) := HB8'.out
  have hI8 : IntsAt w8.heap.size w8 (.slice (some ⟨g8, 0, none⟩) (0 + a.length + 1) c8) (a ++ [10]) := by
    refine row_ints (base := w1.heap.size) ?_
    rw [cellI_append, List.length_append, List.length_singleton]
    have := HO8.out
    rw [List.nil_append] at this
    rw [Nat.zero_add] at this ⊢
    exact this
  have HBW8 : Hid (Below w.heap.size w w8) := HB1.out.trans (HB8.out.mono HB1.out.size)
  have HD8 : Hid (Ship w8 g) := HD1.out.below HB8.out
  obtain ⟨n, hn⟩ : ∃ n, n = a.length + 1 := ⟨_, rfl⟩
  have hn' : 0 + a.length + 1 = n := by omega
  rw [hn'] at hI8
  have HI8 : Hid (IntsAt w8.heap.size w8 (.slice (some ⟨g8, 0, none⟩) n c8) (a ++ [10])) := hI8
  have HNN : Hid (n = a.length + 1) := hn
  have HL8 : Hid ((a ++ [10]).length = n) := by show _ = _; simp [hn]
  rw [← hn]
  clear hn hn' hI8 HO8 HB8' HO7 HB7 HO0 HBA HSA1
  refine (all_any g _ (a ++ [10]) (by rw [HL8.out]; have := HNN.out; have := HN.out; omega) w8 HD8.out HI8.out).mono ?_
  rintro e w9 ⟨v9, rfl, ho9, hB9⟩
  have HO9 : Hid (w9.ownsRow w8.heap.size 3 1 v9 (allL (a ++ [10])).length (cellsP5 (allL (a ++ [10])))) := ho9
  have HB9 : Hid (Below w8.heap.size w8 w9) := hB9
  have HBW9 : Hid (Below w.heap.size w w9) := HBW8.out.trans (hB9.mono HBW8.out.size)
  clear ho9 hB9
  go_wp2_with fail
  refine (all_any g _ b (by have := HN.out; omega) w9 (HD8.out.below HB9.out) (HVB.out.on HBW9.out)).mono ?_
  rintro e w10 ⟨v10, rfl, ho10, hB10⟩
  have HP10 : Hid (w10.ownsRow w8.heap.size 3 1 v9 (allL (a ++ [10])).length (cellsP5 (allL (a ++ [10])))) := row_below HO9.out hB10
  have HB10 : Hid (Below w8.heap.size w8 w10) := HB9.out.trans (hB10.mono HB9.out.size)
  have HBW10 : Hid (Below w.heap.size w w10) := HBW9.out.trans (hB10.mono HBW9.out.size)
  obtain ⟨M, hM⟩ : ∃ M, M = (allL b).length := ⟨_, rfl⟩
  have hM0 : 0 < M := by rw [hM, all_snoc]; simp
  have HM : Hid (M = (allL b).length ∧ M ≤ 101 ∧ 0 < M) := ⟨hM, by have := allL_len b; have := HN.out; omega, hM0⟩
  rw [← hM] at ho10
  obtain ⟨gb, cb, hv10⟩ : ∃ gb cb, v10 = .slice (some ⟨gb, 0, none⟩) M cb := by
    obtain ⟨M1, hM1⟩ : ∃ M1, M = M1 + 1 := ⟨M - 1, by omega⟩
    rw [hM1] at ho10 ⊢
    exact ownsRow_succ ho10
  subst hv10
  have hgb := ho10.lt gb rfl
  have HGB : Hid (gb < w10.heap.size) := hgb.2
  have HNE0 : Hid (v9.ownBlock ≠ some gb) := fun e => by
    have := (HO9.out.lt gb e).2
    omega
  have HO10 : Hid (w10.ownsRow w9.heap.size 3 1 (.slice (some ⟨gb, 0, none⟩) M cb) M (cellsP5 (allL b))) := ho10
  clear ho10 hB10 hM hM0 hgb HO9
  go_wp2
  go_loopw [8, 10] (fun y x wr => ∃ k : Nat, 1 ≤ k ∧ k ≤ M ∧ x = .int .i64 (k : Int) ∧ wr.ownsRow w8.heap.size 3 1 y (wantL (a ++ [10]) (allL b) k).length (cellsP5 (wantL (a ++ [10]) (allL b) k)) ∧ wr.ownsRow w9.heap.size 3 1 (.slice (some ⟨gb, 0, none⟩) M cb) M (cellsP5 (allL b)) ∧ y.ownBlock ≠ some gb ∧ Below w8.heap.size w8 wr ∧ w10.heap.size ≤ wr.heap.size) (fun _ x _ => M - (intOf x).toNat)
  case atStart => exact ⟨1, Nat.le_refl _, HM.out.2.2, rfl, by rw [wantL_one]; exact HP10.out, HO10.out, HNE0.out, HB10.out, Nat.le_refl _⟩
  case round =>
    obtain ⟨k, hk1, hk, rfl, ho, hob, hne, hB, hsw⟩ := hrel
    have hsi := hB.size
    obtain ⟨HO, HOB, HNE, HB⟩ : Hid (wr.ownsRow w8.heap.size 3 1 u8 (wantL (a ++ [10]) (allL b) k).length (cellsP5 (wantL (a ++ [10]) (allL b) k))) ∧ Hid (wr.ownsRow w9.heap.size 3 1 (.slice (some ⟨gb, 0, none⟩) M cb) M (cellsP5 (allL b))) ∧ Hid (u8.ownBlock ≠ some gb) ∧ Hid (Below w8.heap.size w8 wr) := ⟨ho, hob, hne, hB⟩
    have HWL : Hid ((wantL (a ++ [10]) (allL b) k).length ≤ 400) := by show _ ≤ _; have h2 := wantL_len (a ++ [10]) (allL b) k; rw [HL8.out] at h2; have := HM.out; have := HN.out; have := HNN.out; omega
    have HSW : Hid (w10.heap.size ≤ wr.heap.size) := hsw
    clear ho hob hne hB
    by_cases hlt : k < M
    · have hlt' : (k : Int) < (M : Int) := by omega
      have hkb : k < (allL b).length := by rw [← HM.out.1]; exact hlt
      obtain ⟨p, hp⟩ : ∃ p, p = (allL b)[k] := ⟨_, rfl⟩
      have HP : Hid (p = (allL b)[k] ∧ p ≤ 100) := ⟨hp, by
        have h1 : (allL b)[k] ∈ below b (b.length + 1) := List.getElem_mem hkb
        have h2 := (below_lt h1).1
        have := HN.out
        omega⟩
      have hcp : wr.cell? ⟨gb, k, none⟩ = some (.int .i64 (p : Int)) := by
        have := HOB.out.cells (g := gb) rfl k (.int .i64 (p : Int)) (by rw [hp]; simp [cellsP5, intsP, hkb])
        rw [addr_add, Nat.zero_add] at this
        exact this
      obtain ⟨q, hq⟩ : ∃ q, q = n + p := ⟨_, rfl⟩
      have HQ : Hid (q = (a ++ [10]).length + (allL b)[k]) := by show _ = _; rw [hq, hp, HL8.out]
      have hwq : IntKind.i64.wrap ((n : Int) + (p : Int)) = (q : Int) := (IntWalk.i64_in _ (by have := HP.out; have := HN.out; have := HNN.out; omega)).trans (by omega)
      have HWN : Hid (wrap64 ((k : Int) + 1) = ((k + 1 : Nat) : Int)) := wrap_next (by have := HM.out; omega)
      clear hp hq
      go_wp2_with (first | (at_builtin; refine wpList_append_own_at _ rfl _ _ 22 rfl w8.heap.size 3 iI (.int .i64 0) 1 8 Tryd.underlying22 hiI hzI0 hzI1 hzI2 rfl (by decide) _ _ _ rfl (HO.out.alloc _) ⟨wr.heap.size, 0, none⟩ 1 1 [.int .i64 (q : Int)] rfl rfl (World.news_of_block (World.alloc_heap_new _ _)) (by simp [Value.oneCell']) (by unfold maxLen; have := HWL.out; omega) (by have := HWL.out; omega) (by simp; omega) ?_; intro v6 w6 ho6 hg6 _ hat6) | fail)
      have HO6 : Hid (w6.ownsRow w8.heap.size 3 1 v6 (wantL (a ++ [10]) (allL b) (k + 1)).length (cellsP5 (wantL (a ++ [10]) (allL b) (k + 1)))) := by
        show World.ownsRow _ _ _ _ _ _ _
        rw [wantL_succ _ _ _ (by omega) hkb, cellsP5_snoc, List.length_append, ← HQ.out]
        exact ho6
      have HOB6 : Hid (w6.ownsRow w9.heap.size 3 1 (.slice (some ⟨gb, 0, none⟩) M cb) M (cellsP5 (allL b))) := (HOB.out.alloc _).kept hg6 (.inr (fun e => HNE.out e.symm))
      have HNE6 : Hid (v6.ownBlock ≠ some gb) := by
        rcases hat6 with h | h
        · rw [h]; exact HNE.out
        · rw [h]
          intro e
          have e' : (wr.alloc (.cells #[.int .i64 (q : Int)] 3)).heap.size = gb := Option.some.inj e
          rw [World.size_alloc] at e'
          have := HGB.out
          have := HSW.out
          omega
      have HG6 : Hid (Below w8.heap.size w8 w6) := (HB.out.alloc hsi _).grown hg6 (by simp; omega) (fun j e => (HO.out.lt j e).1)
      have HS6 : Hid (w10.heap.size ≤ w6.heap.size) := by
        have := hg6.size
        rw [World.size_alloc] at this
        show _ ≤ _
        omega
      clear ho6 hg6 hat6
      go_roundw
      case rel => exact ⟨k + 1, by omega, by omega, by rw [HWN.out], HO6.out, HOB6.out, HNE6.out, HG6.out, HS6.out⟩
      case measure => exact meas_up hlt (by have := HM.out; omega)
    · obtain rfl : k = M := by omega
      have hge : ¬ ((k : Int) < (k : Int)) := by omega
      have HFIN : Hid (wantL (a ++ [10]) (allL b) k = allL (a ++ [10] ++ b)) := by
        show _ = _
        rw [HM.out.1, wantL_all]
      have hoI := all_row HO.out
      rw [HFIN.out] at hoI
      have HIW : Hid (IntsAt wr.heap.size wr u8 (intsP (allL (a ++ [10] ++ b)))) := hoI
      have HBWR : Hid (Below w.heap.size w wr) := HBW8.out.trans (HB.out.mono HBW8.out.size)
      have HDR : Hid (Ship wr g) := HD8.out.below HB.out
      have HO0 : Hid ((wr.alloc (.cells #[] 3)).ownsRow wr.heap.size 3 1 (.slice (some ⟨wr.heap.size, 0, none⟩) 0 0) 0 []) := owns_empty wr _ _ _ (Nat.le_refl _)
      have HBA : Hid (Below wr.heap.size wr (wr.alloc (.cells #[] 3))) := (Below.refl _ _).alloc (Nat.le_refl _) _
      have HSL : Hid (SrcIs (wr.alloc (.cells #[] 3)) (.slice (some ⟨g8, 0, none⟩) n c8) n 1 (cellI (a ++ [10]))) := by
        have h := (src_of_ints (HI8.out.on HB.out) (by rw [HL8.out]; have := HNN.out; omega)).below HBA.out
        rw [HL8.out] at h
        exact h
      have HSB2 : Hid (∀ w', Below wr.heap.size wr w' → SrcIs w' (.slice ab b.length capb) b.length 1 (cellI b)) := fun w' hw' => HSB.out.below (HBWR.out.trans (hw'.mono HBWR.out.size))
      clear hlt hk hk1 hoI
      go_wp2_with (first | (at_builtin; refine wpList_append_src _ rfl (.tmp 58) (.tmp 59) 22 rfl wr.heap.size 3 iI (.int .i64 0) 1 8 Tryd.underlying22 hiI hzI0 hzI1 hzI2 rfl (by decide) _ _ _ rfl HO0.out _ rfl n _ HSL.out (by unfold maxLen; have := HN.out; have := HNN.out; omega) (by have := HN.out; have := HNN.out; omega) (by simp) ?_; intro v11 w11 ho11 hg11; have HB11 : Hid (Below wr.heap.size wr w11) := HBA.out.grown hg11 (by simp) (fun j e => (HO0.out.lt j e).1); have HO11 : Hid (w11.ownsRow wr.heap.size 3 1 v11 (0 + n) ([] ++ cellI (a ++ [10]))) := ho11; clear ho11 hg11) | (at_builtin; refine wpList_append_src _ rfl (.tmp 60) (.tmp 61) 22 rfl wr.heap.size 3 iI (.int .i64 0) 1 8 Tryd.underlying22 hiI hzI0 hzI1 hzI2 rfl (by decide) _ _ _ rfl HO11.out _ rfl b.length _ (HSB2.out _ HB11.out) (by unfold maxLen; have := HN.out; have := HNN.out; omega) (by have := HN.out; have := HNN.out; omega) (by have := HB11.out.size; omega) ?_; intro v12 w12 ho12 hg12) | fail)
      have HB12 : Hid (Below wr.heap.size wr w12) := HB11.out.grown hg12 HB11.out.size (fun j e => (HO11.out.lt j e).1)
      have hI12 : IntsAt w12.heap.size w12 v12 (a ++ [10] ++ b) := by
        refine row_ints (base := wr.heap.size) ?_
        rw [cellI_append, List.length_append, HL8.out]
        have := ho12
        rw [List.nil_append, Nat.zero_add] at this
        exact this
      have HI12 : Hid (IntsAt w12.heap.size w12 v12 (a ++ [10] ++ b)) := hI12
      have HBW12 : Hid (Below w.heap.size w w12) := HBWR.out.trans (HB12.out.mono HBWR.out.size)
      have HN12 : Hid ((a ++ [10] ++ b).length ≤ 10000) := by show _ ≤ _; simp; have := HN.out; omega
      clear ho12 hg12 hI12
      refine (all_any g _ (a ++ [10] ++ b) HN12.out w12 (HDR.out.below HB12.out) HI12.out).mono ?_
      rintro e w13 ⟨v13, rfl, ho13, hB13⟩
      have HI13 : Hid (IntsAt w13.heap.size w13 v13 (intsP (allL (a ++ [10] ++ b)))) := all_row ho13
      have HBW13 : Hid (Below w.heap.size w w13) := HBW12.out.trans (hB13.mono HBW12.out.size)
      have HIW13 : Hid (IntsAt w13.heap.size w13 u8 (intsP (allL (a ++ [10] ++ b)))) := (HIW.out.on HB12.out).on hB13
      have HNL : Hid ((intsP (allL (a ++ [10] ++ b))).length ≤ 20000) := by show _ ≤ _; rw [intsP_length]; have := allL_len (a ++ [10] ++ b); have := HN12.out; omega
      clear ho13 hB13
      go_wp2_with fail
      refine (sameInts_any _ HNL.out v13 u8 w13 HI13.out HIW13.out).mono ?_
      rintro e w14 ⟨rfl, hB14⟩
      have HBW14 : Hid (Below w.heap.size w w14) := HBW13.out.trans (hB14.mono HBW13.out.size)
      clear hB14
      go_wp2
      go_ret
      exact ⟨rfl, HBW14.out⟩
end Go.Proofs.YtpmlbdfdiebkcaaDoor
