/-
  The law WordsMarks: true, for all numbers, and every place.
-/
import Derived.Test.YtpmlbdfdiebkcaaDoorApp6
namespace Go.Proofs.YtpmlbdfdiebkcaaDoor
open Go.RowKit
set_option linter.unusedVariables false

set_option maxRecDepth 100000 in
theorem mark_is : wdV 769 = 4 := by kernel_rfl
/-- The places, those from p on moved by one. -/
def moved (p : Nat) (ys : List Nat) : List Nat := ys.map fun n => if p ≤ n then n + 1 else n
theorem moved_len (p : Nat) (ys : List Nat) : (moved p ys).length = ys.length := by simp [moved]
theorem moved_snoc (p : Nat) (ys : List Nat) (k : Nat) (h : k < ys.length) : moved p (ys.take (k + 1)) = moved p (ys.take k) ++ [if p ≤ ys[k] then ys[k] + 1 else ys[k]] := by
  rw [List.take_succ_eq_append_getElem h]; unfold moved; rw [List.map_append]; rfl
theorem src_empty (w : World) (a : Addr) (c : Nat) : SrcIs w (.slice (some a) 0 c) 0 1 [] := .inr ⟨a, c, rfl, rfl, fun j u h => by simp at h, fun u h => by cases h⟩
theorem src_empty2 {w : World} {a : Addr} {c m : Nat} {l : List Int} (hm : m = 0) (hl : l = []) : SrcIs w (.slice (some a) m c) m 1 (cellI l) := by
  subst hm; subst hl; exact src_empty _ _ _
theorem row_at {w : World} {v : Value} {ys : List Nat} (h : IntsAt w.heap.size w v (intsP ys)) (h0 : 0 < ys.length) : ∃ g off cap, v = .slice (some ⟨g, off, none⟩) ys.length cap ∧ ys.length ≤ cap ∧ ∀ w', Below w.heap.size w w' → ∀ (j b : Nat), ys[j]? = some b → w'.cell? ⟨g, off + j, none⟩ = some (.int .i64 (b : Int)) := by
  obtain ⟨a, cap, rfl, hc, hi⟩ := h
  rw [intsP_length] at hc
  obtain ⟨g, off, rfl, hg, _⟩ := hi 0 (by rw [intsP_length]; exact h0)
  refine ⟨g, off, cap, by rw [intsP_length], hc, fun w' hw' j b hj => ?_⟩
  have hlt : j < ys.length := (List.getElem?_eq_some_iff.1 hj).1
  obtain ⟨g', off', e, hg', hcell⟩ := hi j (by rw [intsP_length]; exact hlt)
  obtain ⟨rfl, rfl⟩ : g = g' ∧ off = off' := by cases e; exact ⟨rfl, rfl⟩
  rw [hw'.cell (p := ⟨g, off + j, none⟩) hg, hcell]
  have hb : ys[j] = b := (List.getElem?_eq_some_iff.1 hj).2
  simp [intsP, hb]

set_option maxRecDepth 100000 in
set_option maxHeartbeats 16000000 in
theorem wordsMarks_any (l : List Int) (v : Value) (at' : Int) (w : World) (hv : IntsAt w.heap.size w v l) (hs : Scripts w) (h0 : 0 < w.heap.size) :
    Calls Tryd.prog 6 #[v, .int .i64 at'] w fun e w' => e = .returned (.bool true) ∧ Below w.heap.size w w' := by
  obtain ⟨iI, hiI, hzI0, hzI1, hzI2⟩ := info_parts Tryd.infoInt
  have HS : Hid (Scripts w) := hs
  have HH0 : Hid (0 < w.heap.size) := h0
  have HV : Hid (IntsAt w.heap.size w v l) := hv
  obtain ⟨a, cap, rfl, hcap, hc⟩ := hv
  have HC : Hid (∀ i, (h : i < l.length) → ∃ g off, a = some ⟨g, off, none⟩ ∧ g < w.heap.size ∧ w.cell? ⟨g, off + i, none⟩ = some (.int .i64 l[i])) := hc
  clear hs h0 hc
  go_enter Tryd.func6, Tryd.ntmps6
  go_wp2_with fail
  refine (awake_w w HS.out HH0.out).mono ?_
  rintro e w0 ⟨rfl, hB0⟩
  have HB0 : Hid (Below w.heap.size w w0) := hB0
  have HS0 : Hid (Scripts w0 ∧ 0 < w0.heap.size) := ⟨HS.out.below HH0.out hB0, by have := HH0.out; have := hB0.size; omega⟩
  clear hB0
  go_wp2_with fail
  refine (new_ship w0 HS0.out.1 HS0.out.2).mono ?_
  rintro e w1 ⟨g, rfl, hd, hB1⟩
  obtain ⟨HD1, HB1⟩ : Hid (Ship w1 g) ∧ Hid (Below w.heap.size w w1) := ⟨hd, HB0.out.trans (hB1.mono HB0.out.size)⟩
  clear hd hB1 HB0 HS0
  by_cases zl : l.length = 0
  · have el : ((l.length : Int) == 0) = true := by simp; exact List.length_eq_zero_iff.1 zl
    clear zl
    go_wp2
    go_ret
    exact ⟨rfl, HB1.out⟩
  have el : ((l.length : Int) == 0) = false := by rw [beq_eq_false_iff_ne]; omega
  by_cases hn : 150 < l.length
  · have hn' : (150 : Int) < (l.length : Int) := by omega
    go_wp2
    go_ret
    exact ⟨rfl, HB1.out⟩
  have hn' : decide ((150 : Int) < (l.length : Int)) = false := decide_eq_false (by omega)
  have hn2 : decide (150 < l.length) = false := decide_eq_false (by omega)
  by_cases h1 : at' < 1
  · clear zl hn
    go_wp2
    go_ret
    exact ⟨rfl, HB1.out⟩
  have h1' : decide (at' < 1) = false := decide_eq_false h1
  by_cases h2 : (l.length : Int) < at'
  · clear zl hn h1
    go_wp2
    go_ret
    exact ⟨rfl, HB1.out⟩
  have h2' : decide ((l.length : Int) < at') = false := decide_eq_false h2
  obtain ⟨p, rfl⟩ : ∃ p : Nat, at' = (p : Int) := ⟨at'.toNat, by omega⟩
  obtain ⟨m, hm⟩ : ∃ m, p = m + 1 := ⟨p - 1, by omega⟩
  have HN : Hid (l.length ≤ 150 ∧ 0 < l.length ∧ p ≤ l.length ∧ p = m + 1 ∧ m < l.length) := ⟨by omega, by omega, by omega, hm, by omega⟩
  have h1n : decide (p < 1) = false := decide_eq_false (by omega)
  have h2n : decide (l.length < p) = false := decide_eq_false (by omega)
  obtain ⟨gi, off, rfl, hg, hc00⟩ := HC.out m (by omega)
  obtain ⟨x, hx⟩ : ∃ x, x = l[m]'(by omega) := ⟨_, rfl⟩
  have HX : Hid (kd l (p - 1) = wdV x) := by
    show _ = _
    have e : p - 1 = m := by omega
    rw [e, kd_get (by omega), hx]
  rw [← hx] at hc00
  have c0 : w1.cell? ⟨gi, off + m, none⟩ = some (.int .i64 x) := (HB1.out.cell (p := ⟨gi, _, none⟩) hg).trans hc00
  have hwm : IntKind.i64.wrap ((p : Int) - 1) = (m : Int) := (IntWalk.i64_in _ (by omega)).trans (by omega)
  have hm1 : (m : Int) < (l.length : Int) := by omega
  have hpc : (p : Int) ≤ (cap : Int) := by omega
  have hp0 : (0 : Int) ≤ (p : Int) := by omega
  have hpl : (p : Int) ≤ (l.length : Int) := by omega
  clear hx hc00 zl hn h1 h2 hg hm HC
  go_wp2_with fail
  refine (ship_wd w1 g x HD1.out).mono ?_
  rintro e w2 ⟨rfl, hB2⟩
  have HD2 : Hid (Ship w2 g) := HD1.out.below hB2
  have HB2 : Hid (Below w.heap.size w w2) := HB1.out.trans (hB2.mono HB1.out.size)
  clear hB2 c0
  obtain ⟨q, hq⟩ : ∃ q, q = wdV x := ⟨_, rfl⟩
  have HQ : Hid (kd l (p - 1) = q) := by show _ = _; rw [HX.out, hq]
  rw [← hq]
  clear hq
  by_cases q13 : 1 ≤ q ∧ q ≤ 3
  · obtain ⟨qa, qb⟩ := q13
    go_wp2
    go_ret
    exact ⟨rfl, HB2.out⟩
  by_cases q18 : q = 18
  · subst q18
    clear q13
    go_wp2
    go_ret
    exact ⟨rfl, HB2.out⟩
  by_cases q5 : q = 5
  · subst q5
    clear q13 q18
    go_wp2
    go_ret
    exact ⟨rfl, HB2.out⟩
  have e18 : (q == 18) = false := by simpa using q18
  have e5 : (q == 5) = false := by simpa using q5
  have HALL : Hid (allL (l.take p ++ [769] ++ l.drop p) = moved p (allL l)) := all_ins (l := l) (p := p) (x := 769) HN.out.2.2.1 (by have := HN.out; omega) mark_is (by rw [HQ.out]; simp only [lineK, Bool.or_eq_false_iff, beq_eq_false_iff_ne]; omega) (by rw [HQ.out]; exact q5) (by rw [HQ.out]; exact q18)
  have HQN : Hid (q < 1 ∨ 3 < q) := by show _ ∨ _; omega
  have HF : Hid (∀ w', Below w.heap.size w w' → SrcIs w' (.slice (some ⟨gi, off, none⟩) p cap) p 1 (cellI (l.take p))) := fun w' hw' => by
    have h := src_of_ints ((HV.out.on hw').front HN.out.2.2.1) (by rw [List.length_take]; have := HN.out; omega)
    rw [List.length_take, Nat.min_eq_left HN.out.2.2.1] at h
    exact h
  have HT : Hid (∀ w', Below w.heap.size w w' → SrcIs w' (.slice (some ⟨gi, off + p, none⟩) (l.length - p) (cap - p)) (l.length - p) 1 (cellI (l.drop p))) := fun w' hw' => by
    rcases Nat.eq_or_lt_of_le HN.out.2.2.1 with he | hlt
    · rw [List.drop_eq_nil_of_le (by omega), show l.length - p = 0 by omega]
      exact src_empty _ _ _
    have h0 := (HV.out.on hw').part (a := p) (b := l.length) HN.out.2.2.1 (Nat.le_refl _)
    rw [List.take_length] at h0
    have h := src_of_ints h0 (by rw [List.length_drop]; omega)
    rw [List.length_drop] at h
    exact h
  clear q13 q18 q5 HX
  have HO0 : Hid ((w2.alloc (.cells #[] 3)).ownsRow w2.heap.size 3 1 (.slice (some ⟨w2.heap.size, 0, none⟩) 0 0) 0 []) := owns_empty w2 _ _ _ (Nat.le_refl _)
  have HBA : Hid (Below w2.heap.size w2 (w2.alloc (.cells #[] 3))) := (Below.refl _ _).alloc (Nat.le_refl _) _
  have HSA : Hid (SrcIs (w2.alloc (.cells #[] 3)) (.slice (some ⟨gi, off, none⟩) p cap) p 1 (cellI (l.take p))) := HF.out _ (HB2.out.trans (HBA.out.mono HB2.out.size))
  -- the kind is no line's end
  rcases HQN.out with qa | qa
  · have d1 : decide (1 ≤ q) = false := decide_eq_false (by omega)
    skip
    clear qa HQN
    by_cases hpcap : p < cap
    · skip
      go_wp2_with (first | (at_builtin; refine wpList_append_src _ rfl (.tmp 63) (.tmp 66) 22 rfl w2.heap.size 3 iI (.int .i64 0) 1 8 Tryd.underlying22 hiI hzI0 hzI1 hzI2 rfl (by decide) _ _ _ rfl HO0.out _ rfl p _ HSA.out (by unfold maxLen; have := HN.out; omega) (by have := HN.out; omega) (by simp) ?_; intro v7 w7 ho7 hg7; have HB7 : Hid (Below w2.heap.size w2 w7) := HBA.out.grown hg7 (by simp) (fun j e => (HO0.out.lt j e).1); have HO7 : Hid (w7.ownsRow w2.heap.size 3 1 v7 (0 + p) ([] ++ cellI (l.take p))) := ho7; clear ho7 hg7) | (at_builtin; refine wpList_append_own _ rfl (.tmp 68) (.tmp 69) 22 rfl w2.heap.size 3 iI (.int .i64 0) 1 8 Tryd.underlying22 hiI hzI0 hzI1 hzI2 rfl (by decide) _ _ _ rfl (HO7.out.alloc _) ⟨w7.heap.size, 0, none⟩ 1 1 [.int .i64 769] rfl rfl (World.news_of_block (World.alloc_heap_new _ _)) (by simp [Value.oneCell']) (by unfold maxLen; have := HN.out; omega) (by have := HN.out; omega) (by simp; have := HB7.out.size; omega) ?_; intro v8 w8 ho8 hg8 _; have HB8 : Hid (Below w2.heap.size w2 w8) := (HB7.out.alloc HB7.out.size _).grown hg8 (by simp; have := HB7.out.size; omega) (fun j e => (HO7.out.lt j e).1); have HO8 : Hid (w8.ownsRow w2.heap.size 3 1 v8 (0 + p + 1) ([] ++ cellI (l.take p) ++ [.int .i64 769])) := ho8; clear ho8 hg8) | (at_builtin; refine wpList_append_src _ rfl (.tmp 71) (.tmp 74) 22 rfl w2.heap.size 3 iI (.int .i64 0) 1 8 Tryd.underlying22 hiI hzI0 hzI1 hzI2 rfl (by decide) _ _ _ rfl HO8.out _ rfl (l.length - p) _ (HT.out _ (HB2.out.trans (HB8.out.mono HB2.out.size))) (by unfold maxLen; have := HN.out; omega) (by have := HN.out; omega) (by have := HB8.out.size; omega) ?_; intro v9 w9 ho9 hg9) | fail)
      have HB9 : Hid (Below w2.heap.size w2 w9) := HB8.out.grown hg9 HB8.out.size (fun j e => (HO8.out.lt j e).1)
      have hI9 : IntsAt w9.heap.size w9 v9 (l.take p ++ [769] ++ l.drop p) := by
        refine row_ints (base := w2.heap.size) ?_
        rw [cellI_append, cellI_append, List.length_append, List.length_append, List.length_singleton, List.length_take, Nat.min_eq_left HN.out.2.2.1, List.length_drop]
        have := ho9
        rw [List.nil_append, Nat.zero_add] at this
        exact this
      have HBW9 : Hid (Below w.heap.size w w9) := HB2.out.trans (HB9.out.mono HB2.out.size)
      have HI9 : Hid (IntsAt w9.heap.size w9 v9 (l.take p ++ [769] ++ l.drop p)) := hI9
      have HD9 : Hid (Ship w9 g) := HD2.out.below HB9.out
      clear ho9 hg9 hI9 HO0 HBA HSA HO7 HO8 HB7 HB8
      refine (all_any g _ l (by have := HN.out; omega) w9 HD9.out (HV.out.on HBW9.out)).mono ?_
      rintro e w10 ⟨v10, rfl, ho10, hB10⟩
      have HB10 : Hid (Below w9.heap.size w9 w10) := hB10
      have HBW10 : Hid (Below w.heap.size w w10) := HBW9.out.trans (hB10.mono HBW9.out.size)
      have hAL : 0 < (allL l).length := by rw [all_snoc]; simp
      obtain ⟨ga, oa, ca, rfl, hca, hrd⟩ := row_at (all_row ho10) hAL
      have HRD : Hid (∀ w', Below w10.heap.size w10 w' → ∀ (j b : Nat), (allL l)[j]? = some b → w'.cell? ⟨ga, oa + j, none⟩ = some (.int .i64 (b : Int))) := hrd
      obtain ⟨M, hM⟩ : ∃ M, M = (allL l).length := ⟨_, rfl⟩
      have HM : Hid (M = (allL l).length ∧ M ≤ 151) := ⟨hM, by have := allL_len l; have := HN.out; omega⟩
      rw [← hM]
      clear ho10 hB10 hrd hM hAL
      go_wp2
      go_loopw [9, 11] (fun y x wr => ∃ k : Nat, k ≤ M ∧ x = .int .i64 (k : Int) ∧ wr.ownsRow w10.heap.size 3 1 y k (cellsP5 (moved p ((allL l).take k))) ∧ Below w10.heap.size w10 wr) (fun _ x _ => M - (intOf x).toNat)
      case atStart => exact ⟨0, Nat.zero_le _, rfl, World.ownsRow_nil _ _ _ _, Below.refl _ _⟩
      case round =>
        obtain ⟨k, hk, rfl, ho, hB⟩ := hrel
        have hsi := hB.size
        obtain ⟨HO, HB⟩ : Hid (wr.ownsRow w10.heap.size 3 1 u9 k (cellsP5 (moved p ((allL l).take k)))) ∧ Hid (Below w10.heap.size w10 wr) := ⟨ho, hB⟩
        clear ho hB
        by_cases hlt : k < M
        · have hlt' : (k : Int) < (M : Int) := by omega
          have hkl : k < (allL l).length := by rw [← HM.out.1]; exact hlt
          obtain ⟨b, hb⟩ : ∃ b, b = (allL l)[k] := ⟨_, rfl⟩
          have hbl : b ≤ l.length := by
            have h := List.getElem_mem hkl
            rw [← hb, allL_eq] at h
            have := (below_lt h).1
            omega
          have c0 := HRD.out wr HB.out k b (by rw [List.getElem?_eq_getElem hkl, hb])
          have HWN : Hid (wrap64 ((k : Int) + 1) = ((k + 1 : Nat) : Int)) := wrap_next (by have := HM.out; omega)
          have HSN : Hid (moved p ((allL l).take (k + 1)) = moved p ((allL l).take k) ++ [if p ≤ b then b + 1 else b]) := by show _ = _; rw [moved_snoc p (allL l) k hkl, ← hb]
          have hwb : IntKind.i64.wrap ((b : Int) + 1) = ((b + 1 : Nat) : Int) := (IntWalk.i64_in _ (by have := HN.out; omega)).trans (by omega)
          clear hb hkl
          by_cases hpb : p ≤ b
          · have hpb' : (p : Int) ≤ (b : Int) := by omega
            have HPB : Hid (p ≤ b) := hpb
            clear hpb
            go_wp2_with (first | (at_builtin; refine wpList_append_own _ rfl _ _ 22 rfl w10.heap.size 3 iI (.int .i64 0) 1 8 Tryd.underlying22 hiI hzI0 hzI1 hzI2 rfl (by decide) _ _ _ rfl (HO.out.alloc _) ⟨wr.heap.size, 0, none⟩ 1 1 [.int .i64 ((b + 1 : Nat) : Int)] rfl rfl (World.news_of_block (World.alloc_heap_new _ _)) (by simp [Value.oneCell']) (by unfold maxLen; have := HM.out; omega) (by have := HM.out; omega) (by simp; omega) ?_; intro v2 w2' ho2 hg2 _) | fail)
            have HO2 : Hid (w2'.ownsRow w10.heap.size 3 1 v2 (k + 1) (cellsP5 (moved p ((allL l).take (k + 1))))) := by
              show World.ownsRow _ _ _ _ _ _ _
              rw [HSN.out, if_pos HPB.out, cellsP5_snoc]
              exact ho2
            have HG2 : Hid (Below w10.heap.size w10 w2') := (HB.out.alloc (by omega) _).grown hg2 (by simp; omega) (fun j e => (HO.out.lt j e).1)
            clear ho2 hg2
            go_roundw
            case rel => exact ⟨k + 1, by omega, by rw [HWN.out], HO2.out, HG2.out⟩
            case measure => exact meas_up hlt (by have := HM.out; omega)
          · have hpb' : decide ((p : Int) ≤ (b : Int)) = false := decide_eq_false (by omega)
            have hpb2 : decide (p ≤ b) = false := decide_eq_false hpb
            have HPB : Hid (¬ p ≤ b) := hpb
            clear hpb
            go_wp2_with (first | (at_builtin; refine wpList_append_own _ rfl _ _ 22 rfl w10.heap.size 3 iI (.int .i64 0) 1 8 Tryd.underlying22 hiI hzI0 hzI1 hzI2 rfl (by decide) _ _ _ rfl (HO.out.alloc _) ⟨wr.heap.size, 0, none⟩ 1 1 [.int .i64 (b : Int)] rfl rfl (World.news_of_block (World.alloc_heap_new _ _)) (by simp [Value.oneCell']) (by unfold maxLen; have := HM.out; omega) (by have := HM.out; omega) (by simp; omega) ?_; intro v2 w2' ho2 hg2 _) | fail)
            have HO2 : Hid (w2'.ownsRow w10.heap.size 3 1 v2 (k + 1) (cellsP5 (moved p ((allL l).take (k + 1))))) := by
              show World.ownsRow _ _ _ _ _ _ _
              rw [HSN.out, if_neg HPB.out, cellsP5_snoc]
              exact ho2
            have HG2 : Hid (Below w10.heap.size w10 w2') := (HB.out.alloc (by omega) _).grown hg2 (by simp; omega) (fun j e => (HO.out.lt j e).1)
            clear ho2 hg2
            go_roundw
            case rel => exact ⟨k + 1, by omega, by rw [HWN.out], HO2.out, HG2.out⟩
            case measure => exact meas_up hlt (by have := HM.out; omega)
        · obtain rfl : k = M := by omega
          have hge : ¬ ((k : Int) < (k : Int)) := by omega
          have HIW : Hid (IntsAt wr.heap.size wr u9 (intsP (moved p (allL l)))) := by
            have h := HO.out
            rw [List.take_of_length_le (by have := HM.out; omega)] at h
            refine all_row (base := w10.heap.size) ?_
            rw [moved_len, ← HM.out.1]
            exact h
          have HBR : Hid (Below w9.heap.size w9 wr) := HB10.out.trans (HB.out.mono HB10.out.size)
          have HBWR : Hid (Below w.heap.size w wr) := HBW9.out.trans (HBR.out.mono HBW9.out.size)
          have HLM : Hid ((l.take p ++ [769] ++ l.drop p).length ≤ 10000) := by show _ ≤ _; simp; have := HN.out; omega
          clear hlt hk
          go_wp2_with fail
          refine (all_any g _ (l.take p ++ [769] ++ l.drop p) HLM.out wr (HD9.out.below HBR.out) (HI9.out.on HBR.out)).mono ?_
          rintro e w11 ⟨v11, rfl, ho11, hB11⟩
          have hI11 := all_row ho11
          rw [HALL.out] at hI11
          have HI11 : Hid (IntsAt w11.heap.size w11 v11 (intsP (moved p (allL l)))) := hI11
          have HI12 : Hid (IntsAt w11.heap.size w11 u9 (intsP (moved p (allL l)))) := HIW.out.on hB11
          have HBW11 : Hid (Below w.heap.size w w11) := HBWR.out.trans (hB11.mono HBWR.out.size)
          have HLA : Hid ((intsP (moved p (allL l))).length ≤ 20000) := by show _ ≤ _; rw [intsP_length, moved_len]; have := HM.out; omega
          clear hI11 ho11 hB11
          go_wp2_with fail
          refine (sameInts_any _ HLA.out v11 u9 w11 HI11.out HI12.out).mono ?_
          rintro e w12 ⟨rfl, hB12⟩
          have HBW12 : Hid (Below w.heap.size w w12) := HBW11.out.trans (hB12.mono HBW11.out.size)
          clear hB12
          go_wp2
          go_ret
          exact ⟨rfl, HBW12.out⟩
    · have hpe : p = cap := by have := HN.out; omega
      have HPE2 : Hid (l.length = p) := by show _ = _; have := HN.out; omega
      clear hpcap hcap
      subst hpe
      skip
      go_wp2_with (first | (at_builtin; refine wpList_append_src _ rfl (.tmp 63) (.tmp 66) 22 rfl w2.heap.size 3 iI (.int .i64 0) 1 8 Tryd.underlying22 hiI hzI0 hzI1 hzI2 rfl (by decide) _ _ _ rfl HO0.out _ rfl p _ HSA.out (by unfold maxLen; have := HN.out; omega) (by have := HN.out; omega) (by simp) ?_; intro v7 w7 ho7 hg7; have HB7 : Hid (Below w2.heap.size w2 w7) := HBA.out.grown hg7 (by simp) (fun j e => (HO0.out.lt j e).1); have HO7 : Hid (w7.ownsRow w2.heap.size 3 1 v7 (0 + p) ([] ++ cellI (l.take p))) := ho7; clear ho7 hg7) | (at_builtin; refine wpList_append_own _ rfl (.tmp 68) (.tmp 69) 22 rfl w2.heap.size 3 iI (.int .i64 0) 1 8 Tryd.underlying22 hiI hzI0 hzI1 hzI2 rfl (by decide) _ _ _ rfl (HO7.out.alloc _) ⟨w7.heap.size, 0, none⟩ 1 1 [.int .i64 769] rfl rfl (World.news_of_block (World.alloc_heap_new _ _)) (by simp [Value.oneCell']) (by unfold maxLen; have := HN.out; omega) (by have := HN.out; omega) (by simp; have := HB7.out.size; omega) ?_; intro v8 w8 ho8 hg8 _; have HB8 : Hid (Below w2.heap.size w2 w8) := (HB7.out.alloc HB7.out.size _).grown hg8 (by simp; have := HB7.out.size; omega) (fun j e => (HO7.out.lt j e).1); have HO8 : Hid (w8.ownsRow w2.heap.size 3 1 v8 (0 + p + 1) ([] ++ cellI (l.take p) ++ [.int .i64 769])) := ho8; clear ho8 hg8) | (at_builtin; refine wpList_append_src _ rfl (.tmp 71) (.tmp 74) 22 rfl w2.heap.size 3 iI (.int .i64 0) 1 8 Tryd.underlying22 hiI hzI0 hzI1 hzI2 rfl (by decide) _ _ _ rfl HO8.out _ rfl (l.length - p) _ (src_empty2 (m := l.length - p) (l := l.drop p) (by have := HPE2.out; omega) (List.drop_eq_nil_of_le (by have := HPE2.out; omega))) (by unfold maxLen; have := HN.out; omega) (by have := HN.out; omega) (by have := HB8.out.size; omega) ?_; intro v9 w9 ho9 hg9) | fail)
      have HB9 : Hid (Below w2.heap.size w2 w9) := HB8.out.grown hg9 HB8.out.size (fun j e => (HO8.out.lt j e).1)
      have hI9 : IntsAt w9.heap.size w9 v9 (l.take p ++ [769] ++ l.drop p) := by
        refine row_ints (base := w2.heap.size) ?_
        rw [cellI_append, cellI_append, List.length_append, List.length_append, List.length_singleton, List.length_take, Nat.min_eq_left HN.out.2.2.1, List.length_drop]
        have := ho9
        rw [List.nil_append, Nat.zero_add] at this
        exact this
      have HBW9 : Hid (Below w.heap.size w w9) := HB2.out.trans (HB9.out.mono HB2.out.size)
      have HI9 : Hid (IntsAt w9.heap.size w9 v9 (l.take p ++ [769] ++ l.drop p)) := hI9
      have HD9 : Hid (Ship w9 g) := HD2.out.below HB9.out
      clear ho9 hg9 hI9 HO0 HBA HSA HO7 HO8 HB7 HB8
      refine (all_any g _ l (by have := HN.out; omega) w9 HD9.out (HV.out.on HBW9.out)).mono ?_
      rintro e w10 ⟨v10, rfl, ho10, hB10⟩
      have HB10 : Hid (Below w9.heap.size w9 w10) := hB10
      have HBW10 : Hid (Below w.heap.size w w10) := HBW9.out.trans (hB10.mono HBW9.out.size)
      have hAL : 0 < (allL l).length := by rw [all_snoc]; simp
      obtain ⟨ga, oa, ca, rfl, hca, hrd⟩ := row_at (all_row ho10) hAL
      have HRD : Hid (∀ w', Below w10.heap.size w10 w' → ∀ (j b : Nat), (allL l)[j]? = some b → w'.cell? ⟨ga, oa + j, none⟩ = some (.int .i64 (b : Int))) := hrd
      obtain ⟨M, hM⟩ : ∃ M, M = (allL l).length := ⟨_, rfl⟩
      have HM : Hid (M = (allL l).length ∧ M ≤ 151) := ⟨hM, by have := allL_len l; have := HN.out; omega⟩
      rw [← hM]
      clear ho10 hB10 hrd hM hAL
      go_wp2
      go_loopw [9, 11] (fun y x wr => ∃ k : Nat, k ≤ M ∧ x = .int .i64 (k : Int) ∧ wr.ownsRow w10.heap.size 3 1 y k (cellsP5 (moved p ((allL l).take k))) ∧ Below w10.heap.size w10 wr) (fun _ x _ => M - (intOf x).toNat)
      case atStart => exact ⟨0, Nat.zero_le _, rfl, World.ownsRow_nil _ _ _ _, Below.refl _ _⟩
      case round =>
        obtain ⟨k, hk, rfl, ho, hB⟩ := hrel
        have hsi := hB.size
        obtain ⟨HO, HB⟩ : Hid (wr.ownsRow w10.heap.size 3 1 u9 k (cellsP5 (moved p ((allL l).take k)))) ∧ Hid (Below w10.heap.size w10 wr) := ⟨ho, hB⟩
        clear ho hB
        by_cases hlt : k < M
        · have hlt' : (k : Int) < (M : Int) := by omega
          have hkl : k < (allL l).length := by rw [← HM.out.1]; exact hlt
          obtain ⟨b, hb⟩ : ∃ b, b = (allL l)[k] := ⟨_, rfl⟩
          have hbl : b ≤ l.length := by
            have h := List.getElem_mem hkl
            rw [← hb, allL_eq] at h
            have := (below_lt h).1
            omega
          have c0 := HRD.out wr HB.out k b (by rw [List.getElem?_eq_getElem hkl, hb])
          have HWN : Hid (wrap64 ((k : Int) + 1) = ((k + 1 : Nat) : Int)) := wrap_next (by have := HM.out; omega)
          have HSN : Hid (moved p ((allL l).take (k + 1)) = moved p ((allL l).take k) ++ [if p ≤ b then b + 1 else b]) := by show _ = _; rw [moved_snoc p (allL l) k hkl, ← hb]
          have hwb : IntKind.i64.wrap ((b : Int) + 1) = ((b + 1 : Nat) : Int) := (IntWalk.i64_in _ (by have := HN.out; omega)).trans (by omega)
          clear hb hkl
          by_cases hpb : p ≤ b
          · have hpb' : (p : Int) ≤ (b : Int) := by omega
            have HPB : Hid (p ≤ b) := hpb
            clear hpb
            go_wp2_with (first | (at_builtin; refine wpList_append_own _ rfl _ _ 22 rfl w10.heap.size 3 iI (.int .i64 0) 1 8 Tryd.underlying22 hiI hzI0 hzI1 hzI2 rfl (by decide) _ _ _ rfl (HO.out.alloc _) ⟨wr.heap.size, 0, none⟩ 1 1 [.int .i64 ((b + 1 : Nat) : Int)] rfl rfl (World.news_of_block (World.alloc_heap_new _ _)) (by simp [Value.oneCell']) (by unfold maxLen; have := HM.out; omega) (by have := HM.out; omega) (by simp; omega) ?_; intro v2 w2' ho2 hg2 _) | fail)
            have HO2 : Hid (w2'.ownsRow w10.heap.size 3 1 v2 (k + 1) (cellsP5 (moved p ((allL l).take (k + 1))))) := by
              show World.ownsRow _ _ _ _ _ _ _
              rw [HSN.out, if_pos HPB.out, cellsP5_snoc]
              exact ho2
            have HG2 : Hid (Below w10.heap.size w10 w2') := (HB.out.alloc (by omega) _).grown hg2 (by simp; omega) (fun j e => (HO.out.lt j e).1)
            clear ho2 hg2
            go_roundw
            case rel => exact ⟨k + 1, by omega, by rw [HWN.out], HO2.out, HG2.out⟩
            case measure => exact meas_up hlt (by have := HM.out; omega)
          · have hpb' : decide ((p : Int) ≤ (b : Int)) = false := decide_eq_false (by omega)
            have hpb2 : decide (p ≤ b) = false := decide_eq_false hpb
            have HPB : Hid (¬ p ≤ b) := hpb
            clear hpb
            go_wp2_with (first | (at_builtin; refine wpList_append_own _ rfl _ _ 22 rfl w10.heap.size 3 iI (.int .i64 0) 1 8 Tryd.underlying22 hiI hzI0 hzI1 hzI2 rfl (by decide) _ _ _ rfl (HO.out.alloc _) ⟨wr.heap.size, 0, none⟩ 1 1 [.int .i64 (b : Int)] rfl rfl (World.news_of_block (World.alloc_heap_new _ _)) (by simp [Value.oneCell']) (by unfold maxLen; have := HM.out; omega) (by have := HM.out; omega) (by simp; omega) ?_; intro v2 w2' ho2 hg2 _) | fail)
            have HO2 : Hid (w2'.ownsRow w10.heap.size 3 1 v2 (k + 1) (cellsP5 (moved p ((allL l).take (k + 1))))) := by
              show World.ownsRow _ _ _ _ _ _ _
              rw [HSN.out, if_neg HPB.out, cellsP5_snoc]
              exact ho2
            have HG2 : Hid (Below w10.heap.size w10 w2') := (HB.out.alloc (by omega) _).grown hg2 (by simp; omega) (fun j e => (HO.out.lt j e).1)
            clear ho2 hg2
            go_roundw
            case rel => exact ⟨k + 1, by omega, by rw [HWN.out], HO2.out, HG2.out⟩
            case measure => exact meas_up hlt (by have := HM.out; omega)
        · obtain rfl : k = M := by omega
          have hge : ¬ ((k : Int) < (k : Int)) := by omega
          have HIW : Hid (IntsAt wr.heap.size wr u9 (intsP (moved p (allL l)))) := by
            have h := HO.out
            rw [List.take_of_length_le (by have := HM.out; omega)] at h
            refine all_row (base := w10.heap.size) ?_
            rw [moved_len, ← HM.out.1]
            exact h
          have HBR : Hid (Below w9.heap.size w9 wr) := HB10.out.trans (HB.out.mono HB10.out.size)
          have HBWR : Hid (Below w.heap.size w wr) := HBW9.out.trans (HBR.out.mono HBW9.out.size)
          have HLM : Hid ((l.take p ++ [769] ++ l.drop p).length ≤ 10000) := by show _ ≤ _; simp; have := HN.out; omega
          clear hlt hk
          go_wp2_with fail
          refine (all_any g _ (l.take p ++ [769] ++ l.drop p) HLM.out wr (HD9.out.below HBR.out) (HI9.out.on HBR.out)).mono ?_
          rintro e w11 ⟨v11, rfl, ho11, hB11⟩
          have hI11 := all_row ho11
          rw [HALL.out] at hI11
          have HI11 : Hid (IntsAt w11.heap.size w11 v11 (intsP (moved p (allL l)))) := hI11
          have HI12 : Hid (IntsAt w11.heap.size w11 u9 (intsP (moved p (allL l)))) := HIW.out.on hB11
          have HBW11 : Hid (Below w.heap.size w w11) := HBWR.out.trans (hB11.mono HBWR.out.size)
          have HLA : Hid ((intsP (moved p (allL l))).length ≤ 20000) := by show _ ≤ _; rw [intsP_length, moved_len]; have := HM.out; omega
          clear hI11 ho11 hB11
          go_wp2_with fail
          refine (sameInts_any _ HLA.out v11 u9 w11 HI11.out HI12.out).mono ?_
          rintro e w12 ⟨rfl, hB12⟩
          have HBW12 : Hid (Below w.heap.size w w12) := HBW11.out.trans (hB12.mono HBW11.out.size)
          clear hB12
          go_wp2
          go_ret
          exact ⟨rfl, HBW12.out⟩
  · have d1 : 1 ≤ q := by omega
    have d2 : decide (q ≤ 3) = false := decide_eq_false (by omega)
    clear qa HQN
    by_cases hpcap : p < cap
    · skip
      go_wp2_with (first | (at_builtin; refine wpList_append_src _ rfl (.tmp 63) (.tmp 66) 22 rfl w2.heap.size 3 iI (.int .i64 0) 1 8 Tryd.underlying22 hiI hzI0 hzI1 hzI2 rfl (by decide) _ _ _ rfl HO0.out _ rfl p _ HSA.out (by unfold maxLen; have := HN.out; omega) (by have := HN.out; omega) (by simp) ?_; intro v7 w7 ho7 hg7; have HB7 : Hid (Below w2.heap.size w2 w7) := HBA.out.grown hg7 (by simp) (fun j e => (HO0.out.lt j e).1); have HO7 : Hid (w7.ownsRow w2.heap.size 3 1 v7 (0 + p) ([] ++ cellI (l.take p))) := ho7; clear ho7 hg7) | (at_builtin; refine wpList_append_own _ rfl (.tmp 68) (.tmp 69) 22 rfl w2.heap.size 3 iI (.int .i64 0) 1 8 Tryd.underlying22 hiI hzI0 hzI1 hzI2 rfl (by decide) _ _ _ rfl (HO7.out.alloc _) ⟨w7.heap.size, 0, none⟩ 1 1 [.int .i64 769] rfl rfl (World.news_of_block (World.alloc_heap_new _ _)) (by simp [Value.oneCell']) (by unfold maxLen; have := HN.out; omega) (by have := HN.out; omega) (by simp; have := HB7.out.size; omega) ?_; intro v8 w8 ho8 hg8 _; have HB8 : Hid (Below w2.heap.size w2 w8) := (HB7.out.alloc HB7.out.size _).grown hg8 (by simp; have := HB7.out.size; omega) (fun j e => (HO7.out.lt j e).1); have HO8 : Hid (w8.ownsRow w2.heap.size 3 1 v8 (0 + p + 1) ([] ++ cellI (l.take p) ++ [.int .i64 769])) := ho8; clear ho8 hg8) | (at_builtin; refine wpList_append_src _ rfl (.tmp 71) (.tmp 74) 22 rfl w2.heap.size 3 iI (.int .i64 0) 1 8 Tryd.underlying22 hiI hzI0 hzI1 hzI2 rfl (by decide) _ _ _ rfl HO8.out _ rfl (l.length - p) _ (HT.out _ (HB2.out.trans (HB8.out.mono HB2.out.size))) (by unfold maxLen; have := HN.out; omega) (by have := HN.out; omega) (by have := HB8.out.size; omega) ?_; intro v9 w9 ho9 hg9) | fail)
      have HB9 : Hid (Below w2.heap.size w2 w9) := HB8.out.grown hg9 HB8.out.size (fun j e => (HO8.out.lt j e).1)
      have hI9 : IntsAt w9.heap.size w9 v9 (l.take p ++ [769] ++ l.drop p) := by
        refine row_ints (base := w2.heap.size) ?_
        rw [cellI_append, cellI_append, List.length_append, List.length_append, List.length_singleton, List.length_take, Nat.min_eq_left HN.out.2.2.1, List.length_drop]
        have := ho9
        rw [List.nil_append, Nat.zero_add] at this
        exact this
      have HBW9 : Hid (Below w.heap.size w w9) := HB2.out.trans (HB9.out.mono HB2.out.size)
      have HI9 : Hid (IntsAt w9.heap.size w9 v9 (l.take p ++ [769] ++ l.drop p)) := hI9
      have HD9 : Hid (Ship w9 g) := HD2.out.below HB9.out
      clear ho9 hg9 hI9 HO0 HBA HSA HO7 HO8 HB7 HB8
      refine (all_any g _ l (by have := HN.out; omega) w9 HD9.out (HV.out.on HBW9.out)).mono ?_
      rintro e w10 ⟨v10, rfl, ho10, hB10⟩
      have HB10 : Hid (Below w9.heap.size w9 w10) := hB10
      have HBW10 : Hid (Below w.heap.size w w10) := HBW9.out.trans (hB10.mono HBW9.out.size)
      have hAL : 0 < (allL l).length := by rw [all_snoc]; simp
      obtain ⟨ga, oa, ca, rfl, hca, hrd⟩ := row_at (all_row ho10) hAL
      have HRD : Hid (∀ w', Below w10.heap.size w10 w' → ∀ (j b : Nat), (allL l)[j]? = some b → w'.cell? ⟨ga, oa + j, none⟩ = some (.int .i64 (b : Int))) := hrd
      obtain ⟨M, hM⟩ : ∃ M, M = (allL l).length := ⟨_, rfl⟩
      have HM : Hid (M = (allL l).length ∧ M ≤ 151) := ⟨hM, by have := allL_len l; have := HN.out; omega⟩
      rw [← hM]
      clear ho10 hB10 hrd hM hAL
      go_wp2
      go_loopw [9, 11] (fun y x wr => ∃ k : Nat, k ≤ M ∧ x = .int .i64 (k : Int) ∧ wr.ownsRow w10.heap.size 3 1 y k (cellsP5 (moved p ((allL l).take k))) ∧ Below w10.heap.size w10 wr) (fun _ x _ => M - (intOf x).toNat)
      case atStart => exact ⟨0, Nat.zero_le _, rfl, World.ownsRow_nil _ _ _ _, Below.refl _ _⟩
      case round =>
        obtain ⟨k, hk, rfl, ho, hB⟩ := hrel
        have hsi := hB.size
        obtain ⟨HO, HB⟩ : Hid (wr.ownsRow w10.heap.size 3 1 u9 k (cellsP5 (moved p ((allL l).take k)))) ∧ Hid (Below w10.heap.size w10 wr) := ⟨ho, hB⟩
        clear ho hB
        by_cases hlt : k < M
        · have hlt' : (k : Int) < (M : Int) := by omega
          have hkl : k < (allL l).length := by rw [← HM.out.1]; exact hlt
          obtain ⟨b, hb⟩ : ∃ b, b = (allL l)[k] := ⟨_, rfl⟩
          have hbl : b ≤ l.length := by
            have h := List.getElem_mem hkl
            rw [← hb, allL_eq] at h
            have := (below_lt h).1
            omega
          have c0 := HRD.out wr HB.out k b (by rw [List.getElem?_eq_getElem hkl, hb])
          have HWN : Hid (wrap64 ((k : Int) + 1) = ((k + 1 : Nat) : Int)) := wrap_next (by have := HM.out; omega)
          have HSN : Hid (moved p ((allL l).take (k + 1)) = moved p ((allL l).take k) ++ [if p ≤ b then b + 1 else b]) := by show _ = _; rw [moved_snoc p (allL l) k hkl, ← hb]
          have hwb : IntKind.i64.wrap ((b : Int) + 1) = ((b + 1 : Nat) : Int) := (IntWalk.i64_in _ (by have := HN.out; omega)).trans (by omega)
          clear hb hkl
          by_cases hpb : p ≤ b
          · have hpb' : (p : Int) ≤ (b : Int) := by omega
            have HPB : Hid (p ≤ b) := hpb
            clear hpb
            go_wp2_with (first | (at_builtin; refine wpList_append_own _ rfl _ _ 22 rfl w10.heap.size 3 iI (.int .i64 0) 1 8 Tryd.underlying22 hiI hzI0 hzI1 hzI2 rfl (by decide) _ _ _ rfl (HO.out.alloc _) ⟨wr.heap.size, 0, none⟩ 1 1 [.int .i64 ((b + 1 : Nat) : Int)] rfl rfl (World.news_of_block (World.alloc_heap_new _ _)) (by simp [Value.oneCell']) (by unfold maxLen; have := HM.out; omega) (by have := HM.out; omega) (by simp; omega) ?_; intro v2 w2' ho2 hg2 _) | fail)
            have HO2 : Hid (w2'.ownsRow w10.heap.size 3 1 v2 (k + 1) (cellsP5 (moved p ((allL l).take (k + 1))))) := by
              show World.ownsRow _ _ _ _ _ _ _
              rw [HSN.out, if_pos HPB.out, cellsP5_snoc]
              exact ho2
            have HG2 : Hid (Below w10.heap.size w10 w2') := (HB.out.alloc (by omega) _).grown hg2 (by simp; omega) (fun j e => (HO.out.lt j e).1)
            clear ho2 hg2
            go_roundw
            case rel => exact ⟨k + 1, by omega, by rw [HWN.out], HO2.out, HG2.out⟩
            case measure => exact meas_up hlt (by have := HM.out; omega)
          · have hpb' : decide ((p : Int) ≤ (b : Int)) = false := decide_eq_false (by omega)
            have hpb2 : decide (p ≤ b) = false := decide_eq_false hpb
            have HPB : Hid (¬ p ≤ b) := hpb
            clear hpb
            go_wp2_with (first | (at_builtin; refine wpList_append_own _ rfl _ _ 22 rfl w10.heap.size 3 iI (.int .i64 0) 1 8 Tryd.underlying22 hiI hzI0 hzI1 hzI2 rfl (by decide) _ _ _ rfl (HO.out.alloc _) ⟨wr.heap.size, 0, none⟩ 1 1 [.int .i64 (b : Int)] rfl rfl (World.news_of_block (World.alloc_heap_new _ _)) (by simp [Value.oneCell']) (by unfold maxLen; have := HM.out; omega) (by have := HM.out; omega) (by simp; omega) ?_; intro v2 w2' ho2 hg2 _) | fail)
            have HO2 : Hid (w2'.ownsRow w10.heap.size 3 1 v2 (k + 1) (cellsP5 (moved p ((allL l).take (k + 1))))) := by
              show World.ownsRow _ _ _ _ _ _ _
              rw [HSN.out, if_neg HPB.out, cellsP5_snoc]
              exact ho2
            have HG2 : Hid (Below w10.heap.size w10 w2') := (HB.out.alloc (by omega) _).grown hg2 (by simp; omega) (fun j e => (HO.out.lt j e).1)
            clear ho2 hg2
            go_roundw
            case rel => exact ⟨k + 1, by omega, by rw [HWN.out], HO2.out, HG2.out⟩
            case measure => exact meas_up hlt (by have := HM.out; omega)
        · obtain rfl : k = M := by omega
          have hge : ¬ ((k : Int) < (k : Int)) := by omega
          have HIW : Hid (IntsAt wr.heap.size wr u9 (intsP (moved p (allL l)))) := by
            have h := HO.out
            rw [List.take_of_length_le (by have := HM.out; omega)] at h
            refine all_row (base := w10.heap.size) ?_
            rw [moved_len, ← HM.out.1]
            exact h
          have HBR : Hid (Below w9.heap.size w9 wr) := HB10.out.trans (HB.out.mono HB10.out.size)
          have HBWR : Hid (Below w.heap.size w wr) := HBW9.out.trans (HBR.out.mono HBW9.out.size)
          have HLM : Hid ((l.take p ++ [769] ++ l.drop p).length ≤ 10000) := by show _ ≤ _; simp; have := HN.out; omega
          clear hlt hk
          go_wp2_with fail
          refine (all_any g _ (l.take p ++ [769] ++ l.drop p) HLM.out wr (HD9.out.below HBR.out) (HI9.out.on HBR.out)).mono ?_
          rintro e w11 ⟨v11, rfl, ho11, hB11⟩
          have hI11 := all_row ho11
          rw [HALL.out] at hI11
          have HI11 : Hid (IntsAt w11.heap.size w11 v11 (intsP (moved p (allL l)))) := hI11
          have HI12 : Hid (IntsAt w11.heap.size w11 u9 (intsP (moved p (allL l)))) := HIW.out.on hB11
          have HBW11 : Hid (Below w.heap.size w w11) := HBWR.out.trans (hB11.mono HBWR.out.size)
          have HLA : Hid ((intsP (moved p (allL l))).length ≤ 20000) := by show _ ≤ _; rw [intsP_length, moved_len]; have := HM.out; omega
          clear hI11 ho11 hB11
          go_wp2_with fail
          refine (sameInts_any _ HLA.out v11 u9 w11 HI11.out HI12.out).mono ?_
          rintro e w12 ⟨rfl, hB12⟩
          have HBW12 : Hid (Below w.heap.size w w12) := HBW11.out.trans (hB12.mono HBW11.out.size)
          clear hB12
          go_wp2
          go_ret
          exact ⟨rfl, HBW12.out⟩
    · have hpe : p = cap := by have := HN.out; omega
      have HPE2 : Hid (l.length = p) := by show _ = _; have := HN.out; omega
      clear hpcap hcap
      subst hpe
      skip
      go_wp2_with (first | (at_builtin; refine wpList_append_src _ rfl (.tmp 63) (.tmp 66) 22 rfl w2.heap.size 3 iI (.int .i64 0) 1 8 Tryd.underlying22 hiI hzI0 hzI1 hzI2 rfl (by decide) _ _ _ rfl HO0.out _ rfl p _ HSA.out (by unfold maxLen; have := HN.out; omega) (by have := HN.out; omega) (by simp) ?_; intro v7 w7 ho7 hg7; have HB7 : Hid (Below w2.heap.size w2 w7) := HBA.out.grown hg7 (by simp) (fun j e => (HO0.out.lt j e).1); have HO7 : Hid (w7.ownsRow w2.heap.size 3 1 v7 (0 + p) ([] ++ cellI (l.take p))) := ho7; clear ho7 hg7) | (at_builtin; refine wpList_append_own _ rfl (.tmp 68) (.tmp 69) 22 rfl w2.heap.size 3 iI (.int .i64 0) 1 8 Tryd.underlying22 hiI hzI0 hzI1 hzI2 rfl (by decide) _ _ _ rfl (HO7.out.alloc _) ⟨w7.heap.size, 0, none⟩ 1 1 [.int .i64 769] rfl rfl (World.news_of_block (World.alloc_heap_new _ _)) (by simp [Value.oneCell']) (by unfold maxLen; have := HN.out; omega) (by have := HN.out; omega) (by simp; have := HB7.out.size; omega) ?_; intro v8 w8 ho8 hg8 _; have HB8 : Hid (Below w2.heap.size w2 w8) := (HB7.out.alloc HB7.out.size _).grown hg8 (by simp; have := HB7.out.size; omega) (fun j e => (HO7.out.lt j e).1); have HO8 : Hid (w8.ownsRow w2.heap.size 3 1 v8 (0 + p + 1) ([] ++ cellI (l.take p) ++ [.int .i64 769])) := ho8; clear ho8 hg8) | (at_builtin; refine wpList_append_src _ rfl (.tmp 71) (.tmp 74) 22 rfl w2.heap.size 3 iI (.int .i64 0) 1 8 Tryd.underlying22 hiI hzI0 hzI1 hzI2 rfl (by decide) _ _ _ rfl HO8.out _ rfl (l.length - p) _ (src_empty2 (m := l.length - p) (l := l.drop p) (by have := HPE2.out; omega) (List.drop_eq_nil_of_le (by have := HPE2.out; omega))) (by unfold maxLen; have := HN.out; omega) (by have := HN.out; omega) (by have := HB8.out.size; omega) ?_; intro v9 w9 ho9 hg9) | fail)
      have HB9 : Hid (Below w2.heap.size w2 w9) := HB8.out.grown hg9 HB8.out.size (fun j e => (HO8.out.lt j e).1)
      have hI9 : IntsAt w9.heap.size w9 v9 (l.take p ++ [769] ++ l.drop p) := by
        refine row_ints (base := w2.heap.size) ?_
        rw [cellI_append, cellI_append, List.length_append, List.length_append, List.length_singleton, List.length_take, Nat.min_eq_left HN.out.2.2.1, List.length_drop]
        have := ho9
        rw [List.nil_append, Nat.zero_add] at this
        exact this
      have HBW9 : Hid (Below w.heap.size w w9) := HB2.out.trans (HB9.out.mono HB2.out.size)
      have HI9 : Hid (IntsAt w9.heap.size w9 v9 (l.take p ++ [769] ++ l.drop p)) := hI9
      have HD9 : Hid (Ship w9 g) := HD2.out.below HB9.out
      clear ho9 hg9 hI9 HO0 HBA HSA HO7 HO8 HB7 HB8
      refine (all_any g _ l (by have := HN.out; omega) w9 HD9.out (HV.out.on HBW9.out)).mono ?_
      rintro e w10 ⟨v10, rfl, ho10, hB10⟩
      have HB10 : Hid (Below w9.heap.size w9 w10) := hB10
      have HBW10 : Hid (Below w.heap.size w w10) := HBW9.out.trans (hB10.mono HBW9.out.size)
      have hAL : 0 < (allL l).length := by rw [all_snoc]; simp
      obtain ⟨ga, oa, ca, rfl, hca, hrd⟩ := row_at (all_row ho10) hAL
      have HRD : Hid (∀ w', Below w10.heap.size w10 w' → ∀ (j b : Nat), (allL l)[j]? = some b → w'.cell? ⟨ga, oa + j, none⟩ = some (.int .i64 (b : Int))) := hrd
      obtain ⟨M, hM⟩ : ∃ M, M = (allL l).length := ⟨_, rfl⟩
      have HM : Hid (M = (allL l).length ∧ M ≤ 151) := ⟨hM, by have := allL_len l; have := HN.out; omega⟩
      rw [← hM]
      clear ho10 hB10 hrd hM hAL
      go_wp2
      go_loopw [9, 11] (fun y x wr => ∃ k : Nat, k ≤ M ∧ x = .int .i64 (k : Int) ∧ wr.ownsRow w10.heap.size 3 1 y k (cellsP5 (moved p ((allL l).take k))) ∧ Below w10.heap.size w10 wr) (fun _ x _ => M - (intOf x).toNat)
      case atStart => exact ⟨0, Nat.zero_le _, rfl, World.ownsRow_nil _ _ _ _, Below.refl _ _⟩
      case round =>
        obtain ⟨k, hk, rfl, ho, hB⟩ := hrel
        have hsi := hB.size
        obtain ⟨HO, HB⟩ : Hid (wr.ownsRow w10.heap.size 3 1 u9 k (cellsP5 (moved p ((allL l).take k)))) ∧ Hid (Below w10.heap.size w10 wr) := ⟨ho, hB⟩
        clear ho hB
        by_cases hlt : k < M
        · have hlt' : (k : Int) < (M : Int) := by omega
          have hkl : k < (allL l).length := by rw [← HM.out.1]; exact hlt
          obtain ⟨b, hb⟩ : ∃ b, b = (allL l)[k] := ⟨_, rfl⟩
          have hbl : b ≤ l.length := by
            have h := List.getElem_mem hkl
            rw [← hb, allL_eq] at h
            have := (below_lt h).1
            omega
          have c0 := HRD.out wr HB.out k b (by rw [List.getElem?_eq_getElem hkl, hb])
          have HWN : Hid (wrap64 ((k : Int) + 1) = ((k + 1 : Nat) : Int)) := wrap_next (by have := HM.out; omega)
          have HSN : Hid (moved p ((allL l).take (k + 1)) = moved p ((allL l).take k) ++ [if p ≤ b then b + 1 else b]) := by show _ = _; rw [moved_snoc p (allL l) k hkl, ← hb]
          have hwb : IntKind.i64.wrap ((b : Int) + 1) = ((b + 1 : Nat) : Int) := (IntWalk.i64_in _ (by have := HN.out; omega)).trans (by omega)
          clear hb hkl
          by_cases hpb : p ≤ b
          · have hpb' : (p : Int) ≤ (b : Int) := by omega
            have HPB : Hid (p ≤ b) := hpb
            clear hpb
            go_wp2_with (first | (at_builtin; refine wpList_append_own _ rfl _ _ 22 rfl w10.heap.size 3 iI (.int .i64 0) 1 8 Tryd.underlying22 hiI hzI0 hzI1 hzI2 rfl (by decide) _ _ _ rfl (HO.out.alloc _) ⟨wr.heap.size, 0, none⟩ 1 1 [.int .i64 ((b + 1 : Nat) : Int)] rfl rfl (World.news_of_block (World.alloc_heap_new _ _)) (by simp [Value.oneCell']) (by unfold maxLen; have := HM.out; omega) (by have := HM.out; omega) (by simp; omega) ?_; intro v2 w2' ho2 hg2 _) | fail)
            have HO2 : Hid (w2'.ownsRow w10.heap.size 3 1 v2 (k + 1) (cellsP5 (moved p ((allL l).take (k + 1))))) := by
              show World.ownsRow _ _ _ _ _ _ _
              rw [HSN.out, if_pos HPB.out, cellsP5_snoc]
              exact ho2
            have HG2 : Hid (Below w10.heap.size w10 w2') := (HB.out.alloc (by omega) _).grown hg2 (by simp; omega) (fun j e => (HO.out.lt j e).1)
            clear ho2 hg2
            go_roundw
            case rel => exact ⟨k + 1, by omega, by rw [HWN.out], HO2.out, HG2.out⟩
            case measure => exact meas_up hlt (by have := HM.out; omega)
          · have hpb' : decide ((p : Int) ≤ (b : Int)) = false := decide_eq_false (by omega)
            have hpb2 : decide (p ≤ b) = false := decide_eq_false hpb
            have HPB : Hid (¬ p ≤ b) := hpb
            clear hpb
            go_wp2_with (first | (at_builtin; refine wpList_append_own _ rfl _ _ 22 rfl w10.heap.size 3 iI (.int .i64 0) 1 8 Tryd.underlying22 hiI hzI0 hzI1 hzI2 rfl (by decide) _ _ _ rfl (HO.out.alloc _) ⟨wr.heap.size, 0, none⟩ 1 1 [.int .i64 (b : Int)] rfl rfl (World.news_of_block (World.alloc_heap_new _ _)) (by simp [Value.oneCell']) (by unfold maxLen; have := HM.out; omega) (by have := HM.out; omega) (by simp; omega) ?_; intro v2 w2' ho2 hg2 _) | fail)
            have HO2 : Hid (w2'.ownsRow w10.heap.size 3 1 v2 (k + 1) (cellsP5 (moved p ((allL l).take (k + 1))))) := by
              show World.ownsRow _ _ _ _ _ _ _
              rw [HSN.out, if_neg HPB.out, cellsP5_snoc]
              exact ho2
            have HG2 : Hid (Below w10.heap.size w10 w2') := (HB.out.alloc (by omega) _).grown hg2 (by simp; omega) (fun j e => (HO.out.lt j e).1)
            clear ho2 hg2
            go_roundw
            case rel => exact ⟨k + 1, by omega, by rw [HWN.out], HO2.out, HG2.out⟩
            case measure => exact meas_up hlt (by have := HM.out; omega)
        · obtain rfl : k = M := by omega
          have hge : ¬ ((k : Int) < (k : Int)) := by omega
          have HIW : Hid (IntsAt wr.heap.size wr u9 (intsP (moved p (allL l)))) := by
            have h := HO.out
            rw [List.take_of_length_le (by have := HM.out; omega)] at h
            refine all_row (base := w10.heap.size) ?_
            rw [moved_len, ← HM.out.1]
            exact h
          have HBR : Hid (Below w9.heap.size w9 wr) := HB10.out.trans (HB.out.mono HB10.out.size)
          have HBWR : Hid (Below w.heap.size w wr) := HBW9.out.trans (HBR.out.mono HBW9.out.size)
          have HLM : Hid ((l.take p ++ [769] ++ l.drop p).length ≤ 10000) := by show _ ≤ _; simp; have := HN.out; omega
          clear hlt hk
          go_wp2_with fail
          refine (all_any g _ (l.take p ++ [769] ++ l.drop p) HLM.out wr (HD9.out.below HBR.out) (HI9.out.on HBR.out)).mono ?_
          rintro e w11 ⟨v11, rfl, ho11, hB11⟩
          have hI11 := all_row ho11
          rw [HALL.out] at hI11
          have HI11 : Hid (IntsAt w11.heap.size w11 v11 (intsP (moved p (allL l)))) := hI11
          have HI12 : Hid (IntsAt w11.heap.size w11 u9 (intsP (moved p (allL l)))) := HIW.out.on hB11
          have HBW11 : Hid (Below w.heap.size w w11) := HBWR.out.trans (hB11.mono HBWR.out.size)
          have HLA : Hid ((intsP (moved p (allL l))).length ≤ 20000) := by show _ ≤ _; rw [intsP_length, moved_len]; have := HM.out; omega
          clear hI11 ho11 hB11
          go_wp2_with fail
          refine (sameInts_any _ HLA.out v11 u9 w11 HI11.out HI12.out).mono ?_
          rintro e w12 ⟨rfl, hB12⟩
          have HBW12 : Hid (Below w.heap.size w w12) := HBW11.out.trans (hB12.mono HBW11.out.size)
          clear hB12
          go_wp2
          go_ret
          exact ⟨rfl, HBW12.out⟩
end Go.Proofs.YtpmlbdfdiebkcaaDoor
