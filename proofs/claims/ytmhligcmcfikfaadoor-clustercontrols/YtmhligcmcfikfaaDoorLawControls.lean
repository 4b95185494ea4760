/-
  The law ClusterControls: true, for all pairs of texts.
-/
import Derived.Test.YtmhligcmcfikfaaDoorApp5
namespace Go.Proofs.YtmhligcmcfikfaaDoor
open Go.RowKit
set_option linter.unusedVariables false

theorem own_some {w : World} {base e size : Nat} {v : Value} {n : Nat} {xs : List Value} (h : w.ownsRow base e size v n xs) (h0 : 0 < n) : ∃ g cap, v = .slice (some ⟨g, 0, none⟩) n cap := by
  obtain ⟨m, rfl⟩ : ∃ m, n = m + 1 := ⟨n - 1, by omega⟩
  exact ownsRow_succ h
/-- What is wanted behind k rounds. -/
def wantL (a b : List Int) (k : Nat) : List Nat := allL a ++ ((allL b).take k).tail.map (a.length + ·)
theorem all_cons (b : List Int) : ∃ t, allL b = 0 :: t := by
  have h := all_first b
  cases hb : allL b with
  | nil => rw [hb] at h; cases h
  | cons x t => rw [hb] at h; exact ⟨t, by rw [Option.some.inj h]⟩
theorem want_one (a b : List Int) : wantL a b 1 = allL a := by
  obtain ⟨t, ht⟩ := all_cons b
  unfold wantL
  rw [ht]
  simp
theorem want_step {a b : List Int} {k : Nat} (h1 : 1 ≤ k) (hk : k < (allL b).length) : wantL a b (k + 1) = wantL a b k ++ [a.length + (allL b)[k]] := by
  obtain ⟨t, ht⟩ := all_cons b
  obtain ⟨j, rfl⟩ : ∃ j, k = j + 1 := ⟨k - 1, by omega⟩
  unfold wantL
  have hj : j < t.length := by rw [ht] at hk; simpa using hk
  have e : (allL b)[j + 1] = t[j] := by simp [ht]
  rw [e, ht, List.take_succ_cons, List.take_succ_cons, List.tail_cons, List.tail_cons, List.take_succ_eq_append_getElem hj, List.map_append, ← List.append_assoc]
  rfl
theorem want_end {a b : List Int} {k : Nat} (h : k = (allL b).length) : wantL a b k = allL a ++ (allL b).tail.map (a.length + ·) := by
  unfold wantL
  rw [h, List.take_length]
theorem want_len {a b : List Int} {k M : Nat} (hk : k ≤ M) (h1 : 1 ≤ k) (hM : M = (allL b).length) : (wantL a b k).length = (allL a).length + (k - 1) := by
  unfold wantL
  simp
  omega

set_option maxRecDepth 100000 in
set_option maxHeartbeats 16000000 in
theorem clusterControls_any (a : List Int) (va : Value) (b : List Int) (vb : Value) (w : World) (hva : IntsAt w.heap.size w va a) (hvb : IntsAt w.heap.size w vb b) (hs : Scripts w) (h0 : 0 < w.heap.size) :
    Calls Tryd.prog 6 #[va, vb] w fun e w' => e = .returned (.bool true) ∧ Below w.heap.size w w' := by
  obtain ⟨iI, hiI, hzI0, hzI1, hzI2⟩ := info_parts Tryd.infoInt
  have HS : Hid (Scripts w) := hs
  have HH0 : Hid (0 < w.heap.size) := h0
  have HVA : Hid (IntsAt w.heap.size w va a) := hva
  have HVB : Hid (IntsAt w.heap.size w vb b) := hvb
  obtain ⟨aa, capa, rfl, hcapa, hca⟩ := hva
  obtain ⟨ab, capb, rfl, hcapb, hcb⟩ := hvb
  have HCA : Hid (∀ i, (h : i < a.length) → ∃ g off, aa = some ⟨g, off, none⟩ ∧ g < w.heap.size ∧ w.cell? ⟨g, off + i, none⟩ = some (.int .i64 a[i])) := hca
  have HCB : Hid (∀ i, (h : i < b.length) → ∃ g off, ab = some ⟨g, off, none⟩ ∧ g < w.heap.size ∧ w.cell? ⟨g, off + i, none⟩ = some (.int .i64 b[i])) := hcb
  clear hs h0 hca hcb
  go_enter Tryd.func6, Tryd.ntmps6
  go_wp2_with fail
  refine (awake_c w HS.out HH0.out).mono ?_
  rintro e w0 ⟨rfl, hB0⟩
  have HB0 : Hid (Below w.heap.size w w0) := hB0
  have HS0 : Hid (Scripts w0 ∧ 0 < w0.heap.size) := ⟨HS.out.below HH0.out hB0, by have := HH0.out; have := hB0.size; omega⟩
  clear hB0
  go_wp2_with fail
  refine (new_ship w0 HS0.out.1 HS0.out.2).mono ?_
  rintro e w1 ⟨g, rfl, hd, hB1⟩
  obtain ⟨HD1, HB1⟩ : Hid (Ship w1 g) ∧ Hid (Below w.heap.size w w1) := ⟨hd, HB0.out.trans (hB1.mono HB0.out.size)⟩
  clear hd hB1 HB0 HS0
  by_cases za : a.length = 0
  · have z1 : ((a.length : Int) == 0) = true := by rw [beq_iff_eq]; omega
    have z2 : a = [] := List.length_eq_zero_iff.1 za
    subst z2
    clear za z1
    go_wp2
    go_ret
    exact ⟨rfl, HB1.out⟩
  have ea : ((a.length : Int) == 0) = false := by rw [beq_eq_false_iff_ne]; omega
  by_cases zb : b.length = 0
  · have z2 : b = [] := List.length_eq_zero_iff.1 zb
    subst z2
    clear za zb
    go_wp2
    go_ret
    exact ⟨rfl, HB1.out⟩
  have eb : ((b.length : Int) == 0) = false := by rw [beq_eq_false_iff_ne]; omega
  by_cases na : 100 < a.length
  · have na' : (100 : Int) < (a.length : Int) := by omega
    clear za zb
    go_wp2
    go_ret
    exact ⟨rfl, HB1.out⟩
  have na' : decide ((100 : Int) < (a.length : Int)) = false := decide_eq_false (by omega)
  have na2 : decide (100 < a.length) = false := decide_eq_false (by omega)
  by_cases nb : 100 < b.length
  · have nb' : (100 : Int) < (b.length : Int) := by omega
    clear za zb na
    go_wp2
    go_ret
    exact ⟨rfl, HB1.out⟩
  have nb' : decide ((100 : Int) < (b.length : Int)) = false := decide_eq_false (by omega)
  have nb2 : decide (100 < b.length) = false := decide_eq_false (by omega)
  have HN : Hid (a.length ≤ 100 ∧ b.length ≤ 100) := ⟨by omega, by omega⟩
  have HL0 : Hid (0 < a.length ∧ 0 < b.length) := ⟨by omega, by omega⟩
  obtain ⟨m, hm⟩ : ∃ m, a.length = m + 1 := ⟨a.length - 1, by omega⟩
  have hml : m < a.length := by omega
  have hbl : 0 < b.length := by omega
  obtain ⟨gi, off, rfl, hg, c0⟩ := HCA.out m hml
  obtain ⟨gj, ofj, rfl, hgj, c1⟩ := HCB.out 0 hbl
  have ha : a ≠ [] := fun e => za (by rw [e]; rfl)
  have hb : b ≠ [] := fun e => zb (by rw [e]; rfl)
  obtain ⟨x, hx⟩ : ∃ x, x = a[m] := ⟨_, rfl⟩
  obtain ⟨y, hy⟩ : ∃ y, y = b[0] := ⟨_, rfl⟩
  have HXA : Hid (x = a.getLast ha) := by
    show x = _
    rw [hx, List.getLast_eq_getElem]
    congr 1
    omega
  have HYB : Hid (y = b.head hb) := by
    show y = _
    rw [hy, List.head_eq_getElem]
  rw [← hx] at c0
  rw [← hy, Nat.add_zero] at c1
  have HX : Hid (∀ w', Below w.heap.size w w' → w'.cell? ⟨gi, off + m, none⟩ = some (.int .i64 x)) := fun w' hw' => (hw'.cell (p := ⟨gi, _, none⟩) hg).trans c0
  have HY : Hid (∀ w', Below w.heap.size w w' → w'.cell? ⟨gj, ofj, none⟩ = some (.int .i64 y)) := fun w' hw' => (hw'.cell (p := ⟨gj, _, none⟩) hgj).trans c1
  have hwm : IntKind.i64.wrap ((a.length : Int) - 1) = (m : Int) := (IntWalk.i64_in _ (by have := HN.out; omega)).trans (by omega)
  have hm1 : (m : Int) < (a.length : Int) := by omega
  have hb1 : (0 : Int) < (b.length : Int) := by omega
  have hx1 := HX.out w1 HB1.out
  clear c0 c1 hx hy za zb na nb hm hml hbl hg hgj HCA HCB
  go_wp2_with fail
  refine (ship_cluster w1 g x HD1.out).mono ?_
  rintro e w2 ⟨rfl, hB2⟩
  have HD2 : Hid (Ship w2 g) := HD1.out.below hB2
  have HBW2 : Hid (Below w.heap.size w w2) := HB1.out.trans (hB2.mono HB1.out.size)
  have hy2 := HY.out w2 HBW2.out
  clear hB2 hx1
  go_wp2_with fail
  refine (ship_cluster w2 g y HD2.out).mono ?_
  rintro e w3 ⟨rfl, hB3⟩
  have HD3 : Hid (Ship w3 g) := HD2.out.below hB3
  have HBW3 : Hid (Below w.heap.size w w3) := HBW2.out.trans (hB3.mono HBW2.out.size)
  clear hB3 hy2
  obtain ⟨p, hp⟩ : ∃ p, p = clV x := ⟨_, rfl⟩
  obtain ⟨q, hq⟩ : ∃ q, q = clV y := ⟨_, rfl⟩
  have HPX : Hid (clV (a.getLast ha) = p) := by show _ = _; rw [← HXA.out, hp]
  have HQY : Hid (clV (b.head hb) = q) := by show _ = _; rw [← HYB.out, hq]
  rw [← hp, ← hq]
  clear hp hq
  by_cases x3 : p = 3
  · subst x3
    have HTWO : Hid (allL (a ++ b) = allL a ++ (allL b).tail.map (a.length + ·)) := by
      show _ = _
      exact all_two ha hb (.inl ⟨wall_of (by rw [HPX.out]; rfl), by rw [HPX.out]; decide⟩) (.inl (by rw [HPX.out]; rfl))
    clear HXA HYB
    go_wp2_with fail
    refine (all_any g _ a (by have := HN.out; omega) w3 HD3.out (HVA.out.on HBW3.out)).mono ?_
    rintro e w4 ⟨v4, rfl, ho4, hB4⟩
    have hs4 := hB4.size
    have HO4 : Hid (w4.ownsRow w3.heap.size 3 1 v4 (allL a).length (cellsP5 (allL a))) := ho4
    have HX4 : Hid (Below w3.heap.size w3 w4) := hB4
    have HBW4 : Hid (Below w.heap.size w w4) := HBW3.out.trans (hB4.mono HBW3.out.size)
    have HD4 : Hid (Ship w4 g) := HD3.out.below hB4
    clear ho4 hB4
    go_wp2_with fail
    refine (all_any g _ b (by have := HN.out; omega) w4 HD4.out (HVB.out.on HBW4.out)).mono ?_
    rintro e w5 ⟨v5, rfl, ho5, hB5⟩
    have hs5 := hB5.size
    have HO5 : Hid (w5.ownsRow w4.heap.size 3 1 v5 (allL b).length (cellsP5 (allL b))) := ho5
    have HP5 : Hid (w5.ownsRow w3.heap.size 3 1 v4 (allL a).length (cellsP5 (allL a))) := ownsRow_below HO4.out hB5
    have HBW5 : Hid (Below w.heap.size w w5) := HBW4.out.trans (hB5.mono HBW4.out.size)
    have HB35 : Hid (Below w3.heap.size w3 w5) := HX4.out.trans (hB5.mono hs4)
    have HD5 : Hid (Ship w5 g) := HD4.out.below hB5
    obtain ⟨gb, cb, hv5⟩ : ∃ gb cb, v5 = .slice (some ⟨gb, 0, none⟩) (allL b).length cb := own_some ho5 (by rw [all_snoc]; simp)
    subst hv5
    have hgb : w4.heap.size ≤ gb ∧ gb < w5.heap.size := ho5.lt gb rfl
    have HNE0 : Hid (v4.ownBlock ≠ some gb) := fun e => by have := (HO4.out.lt gb e).2; omega
    obtain ⟨M, hM⟩ : ∃ M, M = (allL b).length := ⟨_, rfl⟩
    have HM : Hid (M = (allL b).length ∧ 1 ≤ M ∧ M ≤ 101) := ⟨hM, by rw [hM, all_snoc]; simp, by have := allL_len b; have := HN.out; omega⟩
    have HLA : Hid ((allL a).length ≤ 101) := by show _ ≤ _; have := allL_len a; have := HN.out; omega
    rw [← hM]
    clear ho5 hB5 hM
    go_wp2
    go_loopw [9, 11] (fun y x wr => ∃ k : Nat, 1 ≤ k ∧ k ≤ M ∧ x = .int .i64 (k : Int) ∧ wr.ownsRow w3.heap.size 3 1 y (wantL a b k).length (cellsP5 (wantL a b k)) ∧ wr.ownsRow w4.heap.size 3 1 (.slice (some ⟨gb, 0, none⟩) (allL b).length cb) (allL b).length (cellsP5 (allL b)) ∧ y.ownBlock ≠ some gb ∧ Below w3.heap.size w3 wr ∧ w5.heap.size ≤ wr.heap.size) (fun _ x _ => M - (intOf x).toNat)
    case atStart => exact ⟨1, Nat.le_refl _, HM.out.2.1, rfl, by rw [want_one]; exact HP5.out, HO5.out, HNE0.out, HB35.out, Nat.le_refl _⟩
    case round =>
      obtain ⟨k, hk1, hkM, rfl, ho, hob, hne, hB, hsw⟩ := hrel
      obtain ⟨HO, HOB, HNE, HB⟩ : Hid (wr.ownsRow w3.heap.size 3 1 u9 (wantL a b k).length (cellsP5 (wantL a b k))) ∧ Hid (wr.ownsRow w4.heap.size 3 1 (.slice (some ⟨gb, 0, none⟩) (allL b).length cb) (allL b).length (cellsP5 (allL b))) ∧ Hid (u9.ownBlock ≠ some gb) ∧ Hid (Below w3.heap.size w3 wr) := ⟨ho, hob, hne, hB⟩
      have hsi := hB.size
      have HWL : Hid ((wantL a b k).length ≤ 202) := by show _ ≤ _; rw [want_len hkM hk1 HM.out.1]; have := HM.out; have := HLA.out; omega
      clear ho hob hne hB
      by_cases hlt : k < M
      · have hlt' : (k : Int) < (M : Int) := by omega
        have hkb : k < (allL b).length := by rw [← HM.out.1]; exact hlt
        obtain ⟨p, hp⟩ : ∃ p, p = (allL b)[k] := ⟨_, rfl⟩
        have HP : Hid (p = (allL b)[k] ∧ p ≤ 100) := ⟨hp, by
          have h1 : (allL b)[k] ∈ below b (b.length + 1) := List.getElem_mem hkb
          have h2 := (below_lt h1).1
          have := HN.out
          omega⟩
        have hcp : wr.cell? ⟨gb, k, none⟩ = some (.int .i64 (p : Int)) := by
          have := HOB.out.cells (g := gb) rfl k (.int .i64 (p : Int)) (by rw [hp]; simp [cellsP5, intsP, hkb])
          rw [addr_add, Nat.zero_add] at this
          exact this
        obtain ⟨q, hq⟩ : ∃ q, q = a.length + p := ⟨_, rfl⟩
        have HQ : Hid (q = a.length + (allL b)[k]) := by show _ = _; rw [hq, hp]
        have hwq : IntKind.i64.wrap ((a.length : Int) + (p : Int)) = (q : Int) := (IntWalk.i64_in _ (by have := HP.out; have := HN.out; omega)).trans (by omega)
        have HWN : Hid (wrap64 ((k : Int) + 1) = ((k + 1 : Nat) : Int)) := wrap_next (by have := HM.out; omega)
        clear hp hq
        go_wp2_with (first | (at_builtin; refine wpList_append_own_at _ rfl _ _ 22 rfl w3.heap.size 3 iI (.int .i64 0) 1 8 Tryd.underlying22 hiI hzI0 hzI1 hzI2 rfl (by decide) _ _ _ rfl (HO.out.alloc _) ⟨wr.heap.size, 0, none⟩ 1 1 [.int .i64 (q : Int)] rfl rfl (World.news_of_block (World.alloc_heap_new _ _)) (by simp [Value.oneCell']) (by unfold maxLen; have := HWL.out; omega) (by have := HWL.out; omega) (by simp; omega) ?_; intro v6 w6 ho6 hg6 _ hat6) | fail)
        have HO6 : Hid (w6.ownsRow w3.heap.size 3 1 v6 (wantL a b (k + 1)).length (cellsP5 (wantL a b (k + 1)))) := by
          rw [want_step hk1 hkb, cellsP5_snoc, List.length_append, ← HQ.out]
          exact ho6
        have HOB6 : Hid (w6.ownsRow w4.heap.size 3 1 (.slice (some ⟨gb, 0, none⟩) (allL b).length cb) (allL b).length (cellsP5 (allL b))) := (HOB.out.alloc _).kept hg6 (.inr (fun e => HNE.out e.symm))
        have HNE6 : Hid (v6.ownBlock ≠ some gb) := by
          rcases hat6 with h | h
          · rw [h]; exact HNE.out
          · rw [h]
            intro e
            have e' : (wr.alloc (.cells #[.int .i64 (q : Int)] 3)).heap.size = gb := Option.some.inj e
            rw [World.size_alloc] at e'
            omega
        have HG6 : Hid (Below w3.heap.size w3 w6) := (HB.out.alloc hsi _).grown hg6 (by simp; omega) (fun j e => (HO.out.lt j e).1)
        have HS6 : Hid (w5.heap.size ≤ w6.heap.size) := by
          have := hg6.size
          rw [World.size_alloc] at this
          show _ ≤ _
          omega
        clear ho6 hg6 hat6
        go_roundw
        case rel => exact ⟨k + 1, by omega, by omega, by rw [HWN.out], HO6.out, HOB6.out, HNE6.out, HG6.out, HS6.out⟩
        case measure => exact meas_up hlt (by have := HM.out; omega)
      · obtain rfl : k = M := by omega
        have hge : ¬ ((k : Int) < (k : Int)) := by omega
        have HFIN : Hid (wantL a b k = allL (a ++ b)) := by
          show _ = _
          rw [want_end HM.out.1, HTWO.out]
        have hoI := all_row HO.out
        rw [HFIN.out] at hoI
        have HIW : Hid (IntsAt wr.heap.size wr u9 (intsP (allL (a ++ b)))) := hoI
        have HBWR : Hid (Below w.heap.size w wr) := HBW3.out.trans (HB.out.mono HBW3.out.size)
        have HDR : Hid (Ship wr g) := HD3.out.below HB.out
        have HO0 : Hid ((wr.alloc (.cells #[] 3)).ownsRow wr.heap.size 3 1 (.slice (some ⟨wr.heap.size, 0, none⟩) 0 0) 0 []) := owns_empty wr _ _ _ (Nat.le_refl _)
        have HBA : Hid (Below wr.heap.size wr (wr.alloc (.cells #[] 3))) := (Below.refl _ _).alloc (Nat.le_refl _) _
        have HSA : Hid (SrcIs (wr.alloc (.cells #[] 3)) (.slice (some ⟨gi, off, none⟩) a.length capa) a.length 1 (cellI a)) := (src_of_ints (HVA.out.on HBWR.out) HL0.out.1).below HBA.out
        have hSB : SrcIs wr (.slice (some ⟨gj, ofj, none⟩) b.length capb) b.length 1 (cellI b) := src_of_ints (HVB.out.on HBWR.out) HL0.out.2
        have HSB : Hid (∀ w', Below wr.heap.size wr w' → SrcIs w' (.slice (some ⟨gj, ofj, none⟩) b.length capb) b.length 1 (cellI b)) := fun w' hw' => hSB.below hw'
        clear hlt hkM hk1 hoI hSB
        go_wp2_with (first | (at_builtin; refine wpList_append_src _ rfl (.tmp 91) (.tmp 92) 22 rfl wr.heap.size 3 iI (.int .i64 0) 1 8 Tryd.underlying22 hiI hzI0 hzI1 hzI2 rfl (by decide) _ _ _ rfl HO0.out _ rfl a.length _ HSA.out (by unfold maxLen; have := HN.out; omega) (by have := HN.out; omega) (by simp) ?_; intro v7 w7 ho7 hg7; have HB7 : Hid (Below wr.heap.size wr w7) := HBA.out.grown hg7 (by simp) (fun j e => (HO0.out.lt j e).1); have HO7 : Hid (w7.ownsRow wr.heap.size 3 1 v7 (0 + a.length) ([] ++ cellI a)) := ho7; clear ho7 hg7) | (at_builtin; refine wpList_append_src _ rfl (.tmp 93) (.tmp 94) 22 rfl wr.heap.size 3 iI (.int .i64 0) 1 8 Tryd.underlying22 hiI hzI0 hzI1 hzI2 rfl (by decide) _ _ _ rfl HO7.out _ rfl b.length _ (HSB.out _ HB7.out) (by unfold maxLen; have := HN.out; omega) (by have := HN.out; omega) (by have := HB7.out.size; omega) ?_; intro v8 w8 ho8 hg8) | fail)
        have HB8 : Hid (Below wr.heap.size wr w8) := HB7.out.grown hg8 HB7.out.size (fun j e => (HO7.out.lt j e).1)
        have hI8 : IntsAt w8.heap.size w8 v8 (a ++ b) := by
          refine row_ints (base := wr.heap.size) ?_
          rw [cellI_append, List.length_append]
          have := ho8
          rw [List.nil_append, Nat.zero_add] at this
          exact this
        have HBW8 : Hid (Below w.heap.size w w8) := HBWR.out.trans (HB8.out.mono HBWR.out.size)
        have hN8 : (a ++ b).length ≤ 10000 := by rw [List.length_append]; have := HN.out; omega
        clear ho8 hg8
        refine (all_any g v8 (a ++ b) hN8 w8 (HDR.out.below HB8.out) hI8).mono ?_
        rintro e w9 ⟨v9, rfl, ho9, hB9⟩
        have HI9 : Hid (IntsAt w9.heap.size w9 v9 (intsP (allL (a ++ b)))) := all_row ho9
        have HBW9 : Hid (Below w.heap.size w w9) := HBW8.out.trans (hB9.mono HBW8.out.size)
        have HIW9 : Hid (IntsAt w9.heap.size w9 u9 (intsP (allL (a ++ b)))) := (HIW.out.on HB8.out).on hB9
        have HNL : Hid ((intsP (allL (a ++ b))).length ≤ 20000) := by show _ ≤ _; rw [intsP_length]; have := allL_len (a ++ b); omega
        clear ho9 hB9 hI8 hN8
        go_wp2_with fail
        refine (sameInts_any _ HNL.out v9 u9 w9 HI9.out HIW9.out).mono ?_
        rintro e w10 ⟨rfl, hB10⟩
        have HB10 : Hid (Below w.heap.size w w10) := HBW9.out.trans (hB10.mono HBW9.out.size)
        clear hB10
        go_wp2
        go_ret
        exact ⟨rfl, HB10.out⟩
  have e3 : (p == 3) = false := by simpa using x3
  have f3 : (p != 3) = true := by simpa using x3
  by_cases y3 : q = 3
  · subst y3
    clear x3
    have HTWO : Hid (allL (a ++ b) = allL a ++ (allL b).tail.map (a.length + ·)) := by
      show _ = _
      exact all_two ha hb (.inr ⟨wall_of (by rw [HQY.out]; rfl), by rw [HQY.out]; decide⟩) (.inr (by rw [HQY.out]; rfl))
    clear HXA HYB
    go_wp2_with fail
    refine (all_any g _ a (by have := HN.out; omega) w3 HD3.out (HVA.out.on HBW3.out)).mono ?_
    rintro e w4 ⟨v4, rfl, ho4, hB4⟩
    have hs4 := hB4.size
    have HO4 : Hid (w4.ownsRow w3.heap.size 3 1 v4 (allL a).length (cellsP5 (allL a))) := ho4
    have HX4 : Hid (Below w3.heap.size w3 w4) := hB4
    have HBW4 : Hid (Below w.heap.size w w4) := HBW3.out.trans (hB4.mono HBW3.out.size)
    have HD4 : Hid (Ship w4 g) := HD3.out.below hB4
    clear ho4 hB4
    go_wp2_with fail
    refine (all_any g _ b (by have := HN.out; omega) w4 HD4.out (HVB.out.on HBW4.out)).mono ?_
    rintro e w5 ⟨v5, rfl, ho5, hB5⟩
    have hs5 := hB5.size
    have HO5 : Hid (w5.ownsRow w4.heap.size 3 1 v5 (allL b).length (cellsP5 (allL b))) := ho5
    have HP5 : Hid (w5.ownsRow w3.heap.size 3 1 v4 (allL a).length (cellsP5 (allL a))) := ownsRow_below HO4.out hB5
    have HBW5 : Hid (Below w.heap.size w w5) := HBW4.out.trans (hB5.mono HBW4.out.size)
    have HB35 : Hid (Below w3.heap.size w3 w5) := HX4.out.trans (hB5.mono hs4)
    have HD5 : Hid (Ship w5 g) := HD4.out.below hB5
    obtain ⟨gb, cb, hv5⟩ : ∃ gb cb, v5 = .slice (some ⟨gb, 0, none⟩) (allL b).length cb := own_some ho5 (by rw [all_snoc]; simp)
    subst hv5
    have hgb : w4.heap.size ≤ gb ∧ gb < w5.heap.size := ho5.lt gb rfl
    have HNE0 : Hid (v4.ownBlock ≠ some gb) := fun e => by have := (HO4.out.lt gb e).2; omega
    obtain ⟨M, hM⟩ : ∃ M, M = (allL b).length := ⟨_, rfl⟩
    have HM : Hid (M = (allL b).length ∧ 1 ≤ M ∧ M ≤ 101) := ⟨hM, by rw [hM, all_snoc]; simp, by have := allL_len b; have := HN.out; omega⟩
    have HLA : Hid ((allL a).length ≤ 101) := by show _ ≤ _; have := allL_len a; have := HN.out; omega
    rw [← hM]
    clear ho5 hB5 hM
    go_wp2
    go_loopw [9, 11] (fun y x wr => ∃ k : Nat, 1 ≤ k ∧ k ≤ M ∧ x = .int .i64 (k : Int) ∧ wr.ownsRow w3.heap.size 3 1 y (wantL a b k).length (cellsP5 (wantL a b k)) ∧ wr.ownsRow w4.heap.size 3 1 (.slice (some ⟨gb, 0, none⟩) (allL b).length cb) (allL b).length (cellsP5 (allL b)) ∧ y.ownBlock ≠ some gb ∧ Below w3.heap.size w3 wr ∧ w5.heap.size ≤ wr.heap.size) (fun _ x _ => M - (intOf x).toNat)
    case atStart => exact ⟨1, Nat.le_refl _, HM.out.2.1, rfl, by rw [want_one]; exact HP5.out, HO5.out, HNE0.out, HB35.out, Nat.le_refl _⟩
    case round =>
      obtain ⟨k, hk1, hkM, rfl, ho, hob, hne, hB, hsw⟩ := hrel
      obtain ⟨HO, HOB, HNE, HB⟩ : Hid (wr.ownsRow w3.heap.size 3 1 u9 (wantL a b k).length (cellsP5 (wantL a b k))) ∧ Hid (wr.ownsRow w4.heap.size 3 1 (.slice (some ⟨gb, 0, none⟩) (allL b).length cb) (allL b).length (cellsP5 (allL b))) ∧ Hid (u9.ownBlock ≠ some gb) ∧ Hid (Below w3.heap.size w3 wr) := ⟨ho, hob, hne, hB⟩
      have hsi := hB.size
      have HWL : Hid ((wantL a b k).length ≤ 202) := by show _ ≤ _; rw [want_len hkM hk1 HM.out.1]; have := HM.out; have := HLA.out; omega
      clear ho hob hne hB
      by_cases hlt : k < M
      · have hlt' : (k : Int) < (M : Int) := by omega
        have hkb : k < (allL b).length := by rw [← HM.out.1]; exact hlt
        obtain ⟨p, hp⟩ : ∃ p, p = (allL b)[k] := ⟨_, rfl⟩
        have HP : Hid (p = (allL b)[k] ∧ p ≤ 100) := ⟨hp, by
          have h1 : (allL b)[k] ∈ below b (b.length + 1) := List.getElem_mem hkb
          have h2 := (below_lt h1).1
          have := HN.out
          omega⟩
        have hcp : wr.cell? ⟨gb, k, none⟩ = some (.int .i64 (p : Int)) := by
          have := HOB.out.cells (g := gb) rfl k (.int .i64 (p : Int)) (by rw [hp]; simp [cellsP5, intsP, hkb])
          rw [addr_add, Nat.zero_add] at this
          exact this
        obtain ⟨q, hq⟩ : ∃ q, q = a.length + p := ⟨_, rfl⟩
        have HQ : Hid (q = a.length + (allL b)[k]) := by show _ = _; rw [hq, hp]
        have hwq : IntKind.i64.wrap ((a.length : Int) + (p : Int)) = (q : Int) := (IntWalk.i64_in _ (by have := HP.out; have := HN.out; omega)).trans (by omega)
        have HWN : Hid (wrap64 ((k : Int) + 1) = ((k + 1 : Nat) : Int)) := wrap_next (by have := HM.out; omega)
        clear hp hq
        go_wp2_with (first | (at_builtin; refine wpList_append_own_at _ rfl _ _ 22 rfl w3.heap.size 3 iI (.int .i64 0) 1 8 Tryd.underlying22 hiI hzI0 hzI1 hzI2 rfl (by decide) _ _ _ rfl (HO.out.alloc _) ⟨wr.heap.size, 0, none⟩ 1 1 [.int .i64 (q : Int)] rfl rfl (World.news_of_block (World.alloc_heap_new _ _)) (by simp [Value.oneCell']) (by unfold maxLen; have := HWL.out; omega) (by have := HWL.out; omega) (by simp; omega) ?_; intro v6 w6 ho6 hg6 _ hat6) | fail)
        have HO6 : Hid (w6.ownsRow w3.heap.size 3 1 v6 (wantL a b (k + 1)).length (cellsP5 (wantL a b (k + 1)))) := by
          rw [want_step hk1 hkb, cellsP5_snoc, List.length_append, ← HQ.out]
          exact ho6
        have HOB6 : Hid (w6.ownsRow w4.heap.size 3 1 (.slice (some ⟨gb, 0, none⟩) (allL b).length cb) (allL b).length (cellsP5 (allL b))) := (HOB.out.alloc _).kept hg6 (.inr (fun e => HNE.out e.symm))
        have HNE6 : Hid (v6.ownBlock ≠ some gb) := by
          rcases hat6 with h | h
          · rw [h]; exact HNE.out
          · rw [h]
            intro e
            have e' : (wr.alloc (.cells #[.int .i64 (q : Int)] 3)).heap.size = gb := Option.some.inj e
            rw [World.size_alloc] at e'
            omega
        have HG6 : Hid (Below w3.heap.size w3 w6) := (HB.out.alloc hsi _).grown hg6 (by simp; omega) (fun j e => (HO.out.lt j e).1)
        have HS6 : Hid (w5.heap.size ≤ w6.heap.size) := by
          have := hg6.size
          rw [World.size_alloc] at this
          show _ ≤ _
          omega
        clear ho6 hg6 hat6
        go_roundw
        case rel => exact ⟨k + 1, by omega, by omega, by rw [HWN.out], HO6.out, HOB6.out, HNE6.out, HG6.out, HS6.out⟩
        case measure => exact meas_up hlt (by have := HM.out; omega)
      · obtain rfl : k = M := by omega
        have hge : ¬ ((k : Int) < (k : Int)) := by omega
        have HFIN : Hid (wantL a b k = allL (a ++ b)) := by
          show _ = _
          rw [want_end HM.out.1, HTWO.out]
        have hoI := all_row HO.out
        rw [HFIN.out] at hoI
        have HIW : Hid (IntsAt wr.heap.size wr u9 (intsP (allL (a ++ b)))) := hoI
        have HBWR : Hid (Below w.heap.size w wr) := HBW3.out.trans (HB.out.mono HBW3.out.size)
        have HDR : Hid (Ship wr g) := HD3.out.below HB.out
        have HO0 : Hid ((wr.alloc (.cells #[] 3)).ownsRow wr.heap.size 3 1 (.slice (some ⟨wr.heap.size, 0, none⟩) 0 0) 0 []) := owns_empty wr _ _ _ (Nat.le_refl _)
        have HBA : Hid (Below wr.heap.size wr (wr.alloc (.cells #[] 3))) := (Below.refl _ _).alloc (Nat.le_refl _) _
        have HSA : Hid (SrcIs (wr.alloc (.cells #[] 3)) (.slice (some ⟨gi, off, none⟩) a.length capa) a.length 1 (cellI a)) := (src_of_ints (HVA.out.on HBWR.out) HL0.out.1).below HBA.out
        have hSB : SrcIs wr (.slice (some ⟨gj, ofj, none⟩) b.length capb) b.length 1 (cellI b) := src_of_ints (HVB.out.on HBWR.out) HL0.out.2
        have HSB : Hid (∀ w', Below wr.heap.size wr w' → SrcIs w' (.slice (some ⟨gj, ofj, none⟩) b.length capb) b.length 1 (cellI b)) := fun w' hw' => hSB.below hw'
        clear hlt hkM hk1 hoI hSB
        go_wp2_with (first | (at_builtin; refine wpList_append_src _ rfl (.tmp 91) (.tmp 92) 22 rfl wr.heap.size 3 iI (.int .i64 0) 1 8 Tryd.underlying22 hiI hzI0 hzI1 hzI2 rfl (by decide) _ _ _ rfl HO0.out _ rfl a.length _ HSA.out (by unfold maxLen; have := HN.out; omega) (by have := HN.out; omega) (by simp) ?_; intro v7 w7 ho7 hg7; have HB7 : Hid (Below wr.heap.size wr w7) := HBA.out.grown hg7 (by simp) (fun j e => (HO0.out.lt j e).1); have HO7 : Hid (w7.ownsRow wr.heap.size 3 1 v7 (0 + a.length) ([] ++ cellI a)) := ho7; clear ho7 hg7) | (at_builtin; refine wpList_append_src _ rfl (.tmp 93) (.tmp 94) 22 rfl wr.heap.size 3 iI (.int .i64 0) 1 8 Tryd.underlying22 hiI hzI0 hzI1 hzI2 rfl (by decide) _ _ _ rfl HO7.out _ rfl b.length _ (HSB.out _ HB7.out) (by unfold maxLen; have := HN.out; omega) (by have := HN.out; omega) (by have := HB7.out.size; omega) ?_; intro v8 w8 ho8 hg8) | fail)
        have HB8 : Hid (Below wr.heap.size wr w8) := HB7.out.grown hg8 HB7.out.size (fun j e => (HO7.out.lt j e).1)
        have hI8 : IntsAt w8.heap.size w8 v8 (a ++ b) := by
          refine row_ints (base := wr.heap.size) ?_
          rw [cellI_append, List.length_append]
          have := ho8
          rw [List.nil_append, Nat.zero_add] at this
          exact this
        have HBW8 : Hid (Below w.heap.size w w8) := HBWR.out.trans (HB8.out.mono HBWR.out.size)
        have hN8 : (a ++ b).length ≤ 10000 := by rw [List.length_append]; have := HN.out; omega
        clear ho8 hg8
        refine (all_any g v8 (a ++ b) hN8 w8 (HDR.out.below HB8.out) hI8).mono ?_
        rintro e w9 ⟨v9, rfl, ho9, hB9⟩
        have HI9 : Hid (IntsAt w9.heap.size w9 v9 (intsP (allL (a ++ b)))) := all_row ho9
        have HBW9 : Hid (Below w.heap.size w w9) := HBW8.out.trans (hB9.mono HBW8.out.size)
        have HIW9 : Hid (IntsAt w9.heap.size w9 u9 (intsP (allL (a ++ b)))) := (HIW.out.on HB8.out).on hB9
        have HNL : Hid ((intsP (allL (a ++ b))).length ≤ 20000) := by show _ ≤ _; rw [intsP_length]; have := allL_len (a ++ b); omega
        clear ho9 hB9 hI8 hN8
        go_wp2_with fail
        refine (sameInts_any _ HNL.out v9 u9 w9 HI9.out HIW9.out).mono ?_
        rintro e w10 ⟨rfl, hB10⟩
        have HB10 : Hid (Below w.heap.size w w10) := HBW9.out.trans (hB10.mono HBW9.out.size)
        clear hB10
        go_wp2
        go_ret
        exact ⟨rfl, HB10.out⟩
  have g3 : (q == 3) = false := by simpa using y3
  have h3 : (q != 3) = true := by simpa using y3
  by_cases x2 : p = 2
  · subst x2
    clear x3 y3
    have HTWO : Hid (allL (a ++ b) = allL a ++ (allL b).tail.map (a.length + ·)) := by
      show _ = _
      exact all_two ha hb (.inl ⟨wall_of (by rw [HPX.out]; rfl), by rw [HPX.out]; decide⟩) (.inl (by rw [HPX.out]; rfl))
    clear HXA HYB
    go_wp2_with fail
    refine (all_any g _ a (by have := HN.out; omega) w3 HD3.out (HVA.out.on HBW3.out)).mono ?_
    rintro e w4 ⟨v4, rfl, ho4, hB4⟩
    have hs4 := hB4.size
    have HO4 : Hid (w4.ownsRow w3.heap.size 3 1 v4 (allL a).length (cellsP5 (allL a))) := ho4
    have HX4 : Hid (Below w3.heap.size w3 w4) := hB4
    have HBW4 : Hid (Below w.heap.size w w4) := HBW3.out.trans (hB4.mono HBW3.out.size)
    have HD4 : Hid (Ship w4 g) := HD3.out.below hB4
    clear ho4 hB4
    go_wp2_with fail
    refine (all_any g _ b (by have := HN.out; omega) w4 HD4.out (HVB.out.on HBW4.out)).mono ?_
    rintro e w5 ⟨v5, rfl, ho5, hB5⟩
    have hs5 := hB5.size
    have HO5 : Hid (w5.ownsRow w4.heap.size 3 1 v5 (allL b).length (cellsP5 (allL b))) := ho5
    have HP5 : Hid (w5.ownsRow w3.heap.size 3 1 v4 (allL a).length (cellsP5 (allL a))) := ownsRow_below HO4.out hB5
    have HBW5 : Hid (Below w.heap.size w w5) := HBW4.out.trans (hB5.mono HBW4.out.size)
    have HB35 : Hid (Below w3.heap.size w3 w5) := HX4.out.trans (hB5.mono hs4)
    have HD5 : Hid (Ship w5 g) := HD4.out.below hB5
    obtain ⟨gb, cb, hv5⟩ : ∃ gb cb, v5 = .slice (some ⟨gb, 0, none⟩) (allL b).length cb := own_some ho5 (by rw [all_snoc]; simp)
    subst hv5
    have hgb : w4.heap.size ≤ gb ∧ gb < w5.heap.size := ho5.lt gb rfl
    have HNE0 : Hid (v4.ownBlock ≠ some gb) := fun e => by have := (HO4.out.lt gb e).2; omega
    obtain ⟨M, hM⟩ : ∃ M, M = (allL b).length := ⟨_, rfl⟩
    have HM : Hid (M = (allL b).length ∧ 1 ≤ M ∧ M ≤ 101) := ⟨hM, by rw [hM, all_snoc]; simp, by have := allL_len b; have := HN.out; omega⟩
    have HLA : Hid ((allL a).length ≤ 101) := by show _ ≤ _; have := allL_len a; have := HN.out; omega
    rw [← hM]
    clear ho5 hB5 hM
    go_wp2
    go_loopw [9, 11] (fun y x wr => ∃ k : Nat, 1 ≤ k ∧ k ≤ M ∧ x = .int .i64 (k : Int) ∧ wr.ownsRow w3.heap.size 3 1 y (wantL a b k).length (cellsP5 (wantL a b k)) ∧ wr.ownsRow w4.heap.size 3 1 (.slice (some ⟨gb, 0, none⟩) (allL b).length cb) (allL b).length (cellsP5 (allL b)) ∧ y.ownBlock ≠ some gb ∧ Below w3.heap.size w3 wr ∧ w5.heap.size ≤ wr.heap.size) (fun _ x _ => M - (intOf x).toNat)
    case atStart => exact ⟨1, Nat.le_refl _, HM.out.2.1, rfl, by rw [want_one]; exact HP5.out, HO5.out, HNE0.out, HB35.out, Nat.le_refl _⟩
    case round =>
      obtain ⟨k, hk1, hkM, rfl, ho, hob, hne, hB, hsw⟩ := hrel
      obtain ⟨HO, HOB, HNE, HB⟩ : Hid (wr.ownsRow w3.heap.size 3 1 u9 (wantL a b k).length (cellsP5 (wantL a b k))) ∧ Hid (wr.ownsRow w4.heap.size 3 1 (.slice (some ⟨gb, 0, none⟩) (allL b).length cb) (allL b).length (cellsP5 (allL b))) ∧ Hid (u9.ownBlock ≠ some gb) ∧ Hid (Below w3.heap.size w3 wr) := ⟨ho, hob, hne, hB⟩
      have hsi := hB.size
      have HWL : Hid ((wantL a b k).length ≤ 202) := by show _ ≤ _; rw [want_len hkM hk1 HM.out.1]; have := HM.out; have := HLA.out; omega
      clear ho hob hne hB
      by_cases hlt : k < M
      · have hlt' : (k : Int) < (M : Int) := by omega
        have hkb : k < (allL b).length := by rw [← HM.out.1]; exact hlt
        obtain ⟨p, hp⟩ : ∃ p, p = (allL b)[k] := ⟨_, rfl⟩
        have HP : Hid (p = (allL b)[k] ∧ p ≤ 100) := ⟨hp, by
          have h1 : (allL b)[k] ∈ below b (b.length + 1) := List.getElem_mem hkb
          have h2 := (below_lt h1).1
          have := HN.out
          omega⟩
        have hcp : wr.cell? ⟨gb, k, none⟩ = some (.int .i64 (p : Int)) := by
          have := HOB.out.cells (g := gb) rfl k (.int .i64 (p : Int)) (by rw [hp]; simp [cellsP5, intsP, hkb])
          rw [addr_add, Nat.zero_add] at this
          exact this
        obtain ⟨q, hq⟩ : ∃ q, q = a.length + p := ⟨_, rfl⟩
        have HQ : Hid (q = a.length + (allL b)[k]) := by show _ = _; rw [hq, hp]
        have hwq : IntKind.i64.wrap ((a.length : Int) + (p : Int)) = (q : Int) := (IntWalk.i64_in _ (by have := HP.out; have := HN.out; omega)).trans (by omega)
        have HWN : Hid (wrap64 ((k : Int) + 1) = ((k + 1 : Nat) : Int)) := wrap_next (by have := HM.out; omega)
        clear hp hq
        go_wp2_with (first | (at_builtin; refine wpList_append_own_at _ rfl _ _ 22 rfl w3.heap.size 3 iI (.int .i64 0) 1 8 Tryd.underlying22 hiI hzI0 hzI1 hzI2 rfl (by decide) _ _ _ rfl (HO.out.alloc _) ⟨wr.heap.size, 0, none⟩ 1 1 [.int .i64 (q : Int)] rfl rfl (World.news_of_block (World.alloc_heap_new _ _)) (by simp [Value.oneCell']) (by unfold maxLen; have := HWL.out; omega) (by have := HWL.out; omega) (by simp; omega) ?_; intro v6 w6 ho6 hg6 _ hat6) | fail)
        have HO6 : Hid (w6.ownsRow w3.heap.size 3 1 v6 (wantL a b (k + 1)).length (cellsP5 (wantL a b (k + 1)))) := by
          rw [want_step hk1 hkb, cellsP5_snoc, List.length_append, ← HQ.out]
          exact ho6
        have HOB6 : Hid (w6.ownsRow w4.heap.size 3 1 (.slice (some ⟨gb, 0, none⟩) (allL b).length cb) (allL b).length (cellsP5 (allL b))) := (HOB.out.alloc _).kept hg6 (.inr (fun e => HNE.out e.symm))
        have HNE6 : Hid (v6.ownBlock ≠ some gb) := by
          rcases hat6 with h | h
          · rw [h]; exact HNE.out
          · rw [h]
            intro e
            have e' : (wr.alloc (.cells #[.int .i64 (q : Int)] 3)).heap.size = gb := Option.some.inj e
            rw [World.size_alloc] at e'
            omega
        have HG6 : Hid (Below w3.heap.size w3 w6) := (HB.out.alloc hsi _).grown hg6 (by simp; omega) (fun j e => (HO.out.lt j e).1)
        have HS6 : Hid (w5.heap.size ≤ w6.heap.size) := by
          have := hg6.size
          rw [World.size_alloc] at this
          show _ ≤ _
          omega
        clear ho6 hg6 hat6
        go_roundw
        case rel => exact ⟨k + 1, by omega, by omega, by rw [HWN.out], HO6.out, HOB6.out, HNE6.out, HG6.out, HS6.out⟩
        case measure => exact meas_up hlt (by have := HM.out; omega)
      · obtain rfl : k = M := by omega
        have hge : ¬ ((k : Int) < (k : Int)) := by omega
        have HFIN : Hid (wantL a b k = allL (a ++ b)) := by
          show _ = _
          rw [want_end HM.out.1, HTWO.out]
        have hoI := all_row HO.out
        rw [HFIN.out] at hoI
        have HIW : Hid (IntsAt wr.heap.size wr u9 (intsP (allL (a ++ b)))) := hoI
        have HBWR : Hid (Below w.heap.size w wr) := HBW3.out.trans (HB.out.mono HBW3.out.size)
        have HDR : Hid (Ship wr g) := HD3.out.below HB.out
        have HO0 : Hid ((wr.alloc (.cells #[] 3)).ownsRow wr.heap.size 3 1 (.slice (some ⟨wr.heap.size, 0, none⟩) 0 0) 0 []) := owns_empty wr _ _ _ (Nat.le_refl _)
        have HBA : Hid (Below wr.heap.size wr (wr.alloc (.cells #[] 3))) := (Below.refl _ _).alloc (Nat.le_refl _) _
        have HSA : Hid (SrcIs (wr.alloc (.cells #[] 3)) (.slice (some ⟨gi, off, none⟩) a.length capa) a.length 1 (cellI a)) := (src_of_ints (HVA.out.on HBWR.out) HL0.out.1).below HBA.out
        have hSB : SrcIs wr (.slice (some ⟨gj, ofj, none⟩) b.length capb) b.length 1 (cellI b) := src_of_ints (HVB.out.on HBWR.out) HL0.out.2
        have HSB : Hid (∀ w', Below wr.heap.size wr w' → SrcIs w' (.slice (some ⟨gj, ofj, none⟩) b.length capb) b.length 1 (cellI b)) := fun w' hw' => hSB.below hw'
        clear hlt hkM hk1 hoI hSB
        go_wp2_with (first | (at_builtin; refine wpList_append_src _ rfl (.tmp 91) (.tmp 92) 22 rfl wr.heap.size 3 iI (.int .i64 0) 1 8 Tryd.underlying22 hiI hzI0 hzI1 hzI2 rfl (by decide) _ _ _ rfl HO0.out _ rfl a.length _ HSA.out (by unfold maxLen; have := HN.out; omega) (by have := HN.out; omega) (by simp) ?_; intro v7 w7 ho7 hg7; have HB7 : Hid (Below wr.heap.size wr w7) := HBA.out.grown hg7 (by simp) (fun j e => (HO0.out.lt j e).1); have HO7 : Hid (w7.ownsRow wr.heap.size 3 1 v7 (0 + a.length) ([] ++ cellI a)) := ho7; clear ho7 hg7) | (at_builtin; refine wpList_append_src _ rfl (.tmp 93) (.tmp 94) 22 rfl wr.heap.size 3 iI (.int .i64 0) 1 8 Tryd.underlying22 hiI hzI0 hzI1 hzI2 rfl (by decide) _ _ _ rfl HO7.out _ rfl b.length _ (HSB.out _ HB7.out) (by unfold maxLen; have := HN.out; omega) (by have := HN.out; omega) (by have := HB7.out.size; omega) ?_; intro v8 w8 ho8 hg8) | fail)
        have HB8 : Hid (Below wr.heap.size wr w8) := HB7.out.grown hg8 HB7.out.size (fun j e => (HO7.out.lt j e).1)
        have hI8 : IntsAt w8.heap.size w8 v8 (a ++ b) := by
          refine row_ints (base := wr.heap.size) ?_
          rw [cellI_append, List.length_append]
          have := ho8
          rw [List.nil_append, Nat.zero_add] at this
          exact this
        have HBW8 : Hid (Below w.heap.size w w8) := HBWR.out.trans (HB8.out.mono HBWR.out.size)
        have hN8 : (a ++ b).length ≤ 10000 := by rw [List.length_append]; have := HN.out; omega
        clear ho8 hg8
        refine (all_any g v8 (a ++ b) hN8 w8 (HDR.out.below HB8.out) hI8).mono ?_
        rintro e w9 ⟨v9, rfl, ho9, hB9⟩
        have HI9 : Hid (IntsAt w9.heap.size w9 v9 (intsP (allL (a ++ b)))) := all_row ho9
        have HBW9 : Hid (Below w.heap.size w w9) := HBW8.out.trans (hB9.mono HBW8.out.size)
        have HIW9 : Hid (IntsAt w9.heap.size w9 u9 (intsP (allL (a ++ b)))) := (HIW.out.on HB8.out).on hB9
        have HNL : Hid ((intsP (allL (a ++ b))).length ≤ 20000) := by show _ ≤ _; rw [intsP_length]; have := allL_len (a ++ b); omega
        clear ho9 hB9 hI8 hN8
        go_wp2_with fail
        refine (sameInts_any _ HNL.out v9 u9 w9 HI9.out HIW9.out).mono ?_
        rintro e w10 ⟨rfl, hB10⟩
        have HB10 : Hid (Below w.heap.size w w10) := HBW9.out.trans (hB10.mono HBW9.out.size)
        clear hB10
        go_wp2
        go_ret
        exact ⟨rfl, HB10.out⟩
  have e2 : (p == 2) = false := by simpa using x2
  have f2 : (p != 2) = true := by simpa using x2
  by_cases y1 : q = 1
  · subst y1
    clear x3 y3 x2
    have HTWO : Hid (allL (a ++ b) = allL a ++ (allL b).tail.map (a.length + ·)) := by
      show _ = _
      exact all_two ha hb (.inr ⟨wall_of (by rw [HQY.out]; rfl), by rw [HQY.out]; decide⟩) (.inr (by rw [HQY.out]; rfl))
    clear HXA HYB
    go_wp2_with fail
    refine (all_any g _ a (by have := HN.out; omega) w3 HD3.out (HVA.out.on HBW3.out)).mono ?_
    rintro e w4 ⟨v4, rfl, ho4, hB4⟩
    have hs4 := hB4.size
    have HO4 : Hid (w4.ownsRow w3.heap.size 3 1 v4 (allL a).length (cellsP5 (allL a))) := ho4
    have HX4 : Hid (Below w3.heap.size w3 w4) := hB4
    have HBW4 : Hid (Below w.heap.size w w4) := HBW3.out.trans (hB4.mono HBW3.out.size)
    have HD4 : Hid (Ship w4 g) := HD3.out.below hB4
    clear ho4 hB4
    go_wp2_with fail
    refine (all_any g _ b (by have := HN.out; omega) w4 HD4.out (HVB.out.on HBW4.out)).mono ?_
    rintro e w5 ⟨v5, rfl, ho5, hB5⟩
    have hs5 := hB5.size
    have HO5 : Hid (w5.ownsRow w4.heap.size 3 1 v5 (allL b).length (cellsP5 (allL b))) := ho5
    have HP5 : Hid (w5.ownsRow w3.heap.size 3 1 v4 (allL a).length (cellsP5 (allL a))) := ownsRow_below HO4.out hB5
    have HBW5 : Hid (Below w.heap.size w w5) := HBW4.out.trans (hB5.mono HBW4.out.size)
    have HB35 : Hid (Below w3.heap.size w3 w5) := HX4.out.trans (hB5.mono hs4)
    have HD5 : Hid (Ship w5 g) := HD4.out.below hB5
    obtain ⟨gb, cb, hv5⟩ : ∃ gb cb, v5 = .slice (some ⟨gb, 0, none⟩) (allL b).length cb := own_some ho5 (by rw [all_snoc]; simp)
    subst hv5
    have hgb : w4.heap.size ≤ gb ∧ gb < w5.heap.size := ho5.lt gb rfl
    have HNE0 : Hid (v4.ownBlock ≠ some gb) := fun e => by have := (HO4.out.lt gb e).2; omega
    obtain ⟨M, hM⟩ : ∃ M, M = (allL b).length := ⟨_, rfl⟩
    have HM : Hid (M = (allL b).length ∧ 1 ≤ M ∧ M ≤ 101) := ⟨hM, by rw [hM, all_snoc]; simp, by have := allL_len b; have := HN.out; omega⟩
    have HLA : Hid ((allL a).length ≤ 101) := by show _ ≤ _; have := allL_len a; have := HN.out; omega
    rw [← hM]
    clear ho5 hB5 hM
    go_wp2
    go_loopw [9, 11] (fun y x wr => ∃ k : Nat, 1 ≤ k ∧ k ≤ M ∧ x = .int .i64 (k : Int) ∧ wr.ownsRow w3.heap.size 3 1 y (wantL a b k).length (cellsP5 (wantL a b k)) ∧ wr.ownsRow w4.heap.size 3 1 (.slice (some ⟨gb, 0, none⟩) (allL b).length cb) (allL b).length (cellsP5 (allL b)) ∧ y.ownBlock ≠ some gb ∧ Below w3.heap.size w3 wr ∧ w5.heap.size ≤ wr.heap.size) (fun _ x _ => M - (intOf x).toNat)
    case atStart => exact ⟨1, Nat.le_refl _, HM.out.2.1, rfl, by rw [want_one]; exact HP5.out, HO5.out, HNE0.out, HB35.out, Nat.le_refl _⟩
    case round =>
      obtain ⟨k, hk1, hkM, rfl, ho, hob, hne, hB, hsw⟩ := hrel
      obtain ⟨HO, HOB, HNE, HB⟩ : Hid (wr.ownsRow w3.heap.size 3 1 u9 (wantL a b k).length (cellsP5 (wantL a b k))) ∧ Hid (wr.ownsRow w4.heap.size 3 1 (.slice (some ⟨gb, 0, none⟩) (allL b).length cb) (allL b).length (cellsP5 (allL b))) ∧ Hid (u9.ownBlock ≠ some gb) ∧ Hid (Below w3.heap.size w3 wr) := ⟨ho, hob, hne, hB⟩
      have hsi := hB.size
      have HWL : Hid ((wantL a b k).length ≤ 202) := by show _ ≤ _; rw [want_len hkM hk1 HM.out.1]; have := HM.out; have := HLA.out; omega
      clear ho hob hne hB
      by_cases hlt : k < M
      · have hlt' : (k : Int) < (M : Int) := by omega
        have hkb : k < (allL b).length := by rw [← HM.out.1]; exact hlt
        obtain ⟨p, hp⟩ : ∃ p, p = (allL b)[k] := ⟨_, rfl⟩
        have HP : Hid (p = (allL b)[k] ∧ p ≤ 100) := ⟨hp, by
          have h1 : (allL b)[k] ∈ below b (b.length + 1) := List.getElem_mem hkb
          have h2 := (below_lt h1).1
          have := HN.out
          omega⟩
        have hcp : wr.cell? ⟨gb, k, none⟩ = some (.int .i64 (p : Int)) := by
          have := HOB.out.cells (g := gb) rfl k (.int .i64 (p : Int)) (by rw [hp]; simp [cellsP5, intsP, hkb])
          rw [addr_add, Nat.zero_add] at this
          exact this
        obtain ⟨q, hq⟩ : ∃ q, q = a.length + p := ⟨_, rfl⟩
        have HQ : Hid (q = a.length + (allL b)[k]) := by show _ = _; rw [hq, hp]
        have hwq : IntKind.i64.wrap ((a.length : Int) + (p : Int)) = (q : Int) := (IntWalk.i64_in _ (by have := HP.out; have := HN.out; omega)).trans (by omega)
        have HWN : Hid (wrap64 ((k : Int) + 1) = ((k + 1 : Nat) : Int)) := wrap_next (by have := HM.out; omega)
        clear hp hq
        go_wp2_with (first | (at_builtin; refine wpList_append_own_at _ rfl _ _ 22 rfl w3.heap.size 3 iI (.int .i64 0) 1 8 Tryd.underlying22 hiI hzI0 hzI1 hzI2 rfl (by decide) _ _ _ rfl (HO.out.alloc _) ⟨wr.heap.size, 0, none⟩ 1 1 [.int .i64 (q : Int)] rfl rfl (World.news_of_block (World.alloc_heap_new _ _)) (by simp [Value.oneCell']) (by unfold maxLen; have := HWL.out; omega) (by have := HWL.out; omega) (by simp; omega) ?_; intro v6 w6 ho6 hg6 _ hat6) | fail)
        have HO6 : Hid (w6.ownsRow w3.heap.size 3 1 v6 (wantL a b (k + 1)).length (cellsP5 (wantL a b (k + 1)))) := by
          rw [want_step hk1 hkb, cellsP5_snoc, List.length_append, ← HQ.out]
          exact ho6
        have HOB6 : Hid (w6.ownsRow w4.heap.size 3 1 (.slice (some ⟨gb, 0, none⟩) (allL b).length cb) (allL b).length (cellsP5 (allL b))) := (HOB.out.alloc _).kept hg6 (.inr (fun e => HNE.out e.symm))
        have HNE6 : Hid (v6.ownBlock ≠ some gb) := by
          rcases hat6 with h | h
          · rw [h]; exact HNE.out
          · rw [h]
            intro e
            have e' : (wr.alloc (.cells #[.int .i64 (q : Int)] 3)).heap.size = gb := Option.some.inj e
            rw [World.size_alloc] at e'
            omega
        have HG6 : Hid (Below w3.heap.size w3 w6) := (HB.out.alloc hsi _).grown hg6 (by simp; omega) (fun j e => (HO.out.lt j e).1)
        have HS6 : Hid (w5.heap.size ≤ w6.heap.size) := by
          have := hg6.size
          rw [World.size_alloc] at this
          show _ ≤ _
          omega
        clear ho6 hg6 hat6
        go_roundw
        case rel => exact ⟨k + 1, by omega, by omega, by rw [HWN.out], HO6.out, HOB6.out, HNE6.out, HG6.out, HS6.out⟩
        case measure => exact meas_up hlt (by have := HM.out; omega)
      · obtain rfl : k = M := by omega
        have hge : ¬ ((k : Int) < (k : Int)) := by omega
        have HFIN : Hid (wantL a b k = allL (a ++ b)) := by
          show _ = _
          rw [want_end HM.out.1, HTWO.out]
        have hoI := all_row HO.out
        rw [HFIN.out] at hoI
        have HIW : Hid (IntsAt wr.heap.size wr u9 (intsP (allL (a ++ b)))) := hoI
        have HBWR : Hid (Below w.heap.size w wr) := HBW3.out.trans (HB.out.mono HBW3.out.size)
        have HDR : Hid (Ship wr g) := HD3.out.below HB.out
        have HO0 : Hid ((wr.alloc (.cells #[] 3)).ownsRow wr.heap.size 3 1 (.slice (some ⟨wr.heap.size, 0, none⟩) 0 0) 0 []) := owns_empty wr _ _ _ (Nat.le_refl _)
        have HBA : Hid (Below wr.heap.size wr (wr.alloc (.cells #[] 3))) := (Below.refl _ _).alloc (Nat.le_refl _) _
        have HSA : Hid (SrcIs (wr.alloc (.cells #[] 3)) (.slice (some ⟨gi, off, none⟩) a.length capa) a.length 1 (cellI a)) := (src_of_ints (HVA.out.on HBWR.out) HL0.out.1).below HBA.out
        have hSB : SrcIs wr (.slice (some ⟨gj, ofj, none⟩) b.length capb) b.length 1 (cellI b) := src_of_ints (HVB.out.on HBWR.out) HL0.out.2
        have HSB : Hid (∀ w', Below wr.heap.size wr w' → SrcIs w' (.slice (some ⟨gj, ofj, none⟩) b.length capb) b.length 1 (cellI b)) := fun w' hw' => hSB.below hw'
        clear hlt hkM hk1 hoI hSB
        go_wp2_with (first | (at_builtin; refine wpList_append_src _ rfl (.tmp 91) (.tmp 92) 22 rfl wr.heap.size 3 iI (.int .i64 0) 1 8 Tryd.underlying22 hiI hzI0 hzI1 hzI2 rfl (by decide) _ _ _ rfl HO0.out _ rfl a.length _ HSA.out (by unfold maxLen; have := HN.out; omega) (by have := HN.out; omega) (by simp) ?_; intro v7 w7 ho7 hg7; have HB7 : Hid (Below wr.heap.size wr w7) := HBA.out.grown hg7 (by simp) (fun j e => (HO0.out.lt j e).1); have HO7 : Hid (w7.ownsRow wr.heap.size 3 1 v7 (0 + a.length) ([] ++ cellI a)) := ho7; clear ho7 hg7) | (at_builtin; refine wpList_append_src _ rfl (.tmp 93) (.tmp 94) 22 rfl wr.heap.size 3 iI (.int .i64 0) 1 8 Tryd.underlying22 hiI hzI0 hzI1 hzI2 rfl (by decide) _ _ _ rfl HO7.out _ rfl b.length _ (HSB.out _ HB7.out) (by unfold maxLen; have := HN.out; omega) (by have := HN.out; omega) (by have := HB7.out.size; omega) ?_; intro v8 w8 ho8 hg8) | fail)
        have HB8 : Hid (Below wr.heap.size wr w8) := HB7.out.grown hg8 HB7.out.size (fun j e => (HO7.out.lt j e).1)
        have hI8 : IntsAt w8.heap.size w8 v8 (a ++ b) := by
          refine row_ints (base := wr.heap.size) ?_
          rw [cellI_append, List.length_append]
          have := ho8
          rw [List.nil_append, Nat.zero_add] at this
          exact this
        have HBW8 : Hid (Below w.heap.size w w8) := HBWR.out.trans (HB8.out.mono HBWR.out.size)
        have hN8 : (a ++ b).length ≤ 10000 := by rw [List.length_append]; have := HN.out; omega
        clear ho8 hg8
        refine (all_any g v8 (a ++ b) hN8 w8 (HDR.out.below HB8.out) hI8).mono ?_
        rintro e w9 ⟨v9, rfl, ho9, hB9⟩
        have HI9 : Hid (IntsAt w9.heap.size w9 v9 (intsP (allL (a ++ b)))) := all_row ho9
        have HBW9 : Hid (Below w.heap.size w w9) := HBW8.out.trans (hB9.mono HBW8.out.size)
        have HIW9 : Hid (IntsAt w9.heap.size w9 u9 (intsP (allL (a ++ b)))) := (HIW.out.on HB8.out).on hB9
        have HNL : Hid ((intsP (allL (a ++ b))).length ≤ 20000) := by show _ ≤ _; rw [intsP_length]; have := allL_len (a ++ b); omega
        clear ho9 hB9 hI8 hN8
        go_wp2_with fail
        refine (sameInts_any _ HNL.out v9 u9 w9 HI9.out HIW9.out).mono ?_
        rintro e w10 ⟨rfl, hB10⟩
        have HB10 : Hid (Below w.heap.size w w10) := HBW9.out.trans (hB10.mono HBW9.out.size)
        clear hB10
        go_wp2
        go_ret
        exact ⟨rfl, HB10.out⟩
  have g1 : (q == 1) = false := by simpa using y1
  have h1 : (q != 1) = true := by simpa using y1
  clear x3 y3 x2 y1
  go_wp2
  go_ret
  exact ⟨rfl, HBW3.out⟩
end Go.Proofs.YtmhligcmcfikfaaDoor
