/-
  The masks of numbers: an alphabet's Word, and the document's.
-/
import Derived.Test.YtmknifnhcgdkaaaX50
import Derived.Test.YtmknifnhcgdkaaaX51
import Derived.Deep.RegionHeld3
namespace Go.Proofs.Ytmknifnhcgdkaaa
open Go.RowKit Go.Shelf
set_option linter.unusedVariables false

/-- The mask of a number; 0, if it is none. -/
def wrdN (S : List (List Rg)) (x : Int) : Nat := if 0 ≤ x ∧ x ≤ 1114111 then maskN S x else 0
theorem wrd_msk {S : List (List Rg)} (hS : AllS S) (x : Int) : mskC S (ofC S x) = wrdN S x := by
  unfold wrdN
  by_cases q : 0 ≤ x ∧ x ≤ 1114111
  · rw [if_pos q, msk_of hS q.1 q.2]
  · rw [if_neg q, ofC_out (by omega)]
    unfold mskC
    rw [if_neg (by omega)]
/-- The word while its masks are put in. -/
def wrdK (S : List (List Rg)) (r : List Int) (k : Nat) : List Nat := (r.take k).map (wrdN S) ++ List.replicate (r.length - k) 0
theorem wrdK_len {S : List (List Rg)} {r : List Int} {k : Nat} (h : k ≤ r.length) : (wrdK S r k).length = r.length := by
  unfold wrdK
  simp
  omega
theorem wrdK_set {S : List (List Rg)} {r : List Int} {k : Nat} (h : k < r.length) : (wrdK S r k).set k (wrdN S r[k]) = wrdK S r (k + 1) := by
  unfold wrdK
  have hl : ((r.take k).map (wrdN S)).length = k := by simp; omega
  have e : r.length - k = (r.length - (k + 1)) + 1 := by omega
  rw [List.set_append_right _ _ (by omega), hl, Nat.sub_self, e, List.replicate_succ, List.set_cons_zero, List.take_succ_eq_append_getElem h, List.map_append]
  simp
theorem wrdK_end (S : List (List Rg)) (r : List Int) : wrdK S r r.length = r.map (wrdN S) := by
  unfold wrdK
  rw [List.take_length, Nat.sub_self]
  simp
theorem own_setU {w : World} {base g k cap : Nat} {l : List Nat} (h : w.ownsRow base 34 1 (.slice (some ⟨g, 0, none⟩) l.length cap) l.length (u64s l)) (hk : k < l.length) (z : Nat) :
    (w.setCell ⟨g, k, none⟩ (.int .u64 (z : Int))).ownsRow base 34 1 (.slice (some ⟨g, 0, none⟩) (l.set k z).length cap) (l.set k z).length (u64s (l.set k z)) ∧ w.frozen? ⟨g, k, none⟩ = false ∧ (∃ u, w.cell? ⟨g, k, none⟩ = some u) ∧ base ≤ g := by
  have hc := h.cells (g := g) rfl k (.int .u64 (l[k] : Nat)) (by simp [u64s, hk])
  rw [add_lit', Nat.zero_add] at hc
  rcases h.2 with ⟨e, _⟩ | ⟨g', cap', cur, e, hb, hg, hn, hm, hs, ht⟩
  · cases e
  · obtain ⟨rfl, rfl⟩ : g = g' ∧ cap = cap' := by simpa using e
    refine ⟨⟨by rw [u64s_length]; omega, .inr ⟨g, cap, (cur.toList.set k (.int .u64 (z : Int))).toArray, rfl, hb, ?_, by rw [List.length_set]; exact hn, hm, by simpa using hs, ?_⟩⟩, frozen_of_row _ _ _ _ _ hg, ⟨_, hc⟩, hb⟩
    · exact S3.heap_set_row (cs := cur.toList) (by simpa using hg) rfl
    · have e1 : (l.set k z).length * 1 = l.length * 1 := by rw [List.length_set]
      rw [e1]
      show (cur.toList.set k (.int .u64 (z : Int))).take (l.length * 1) = _
      rw [List.take_set, ht]
      unfold u64s
      rw [List.map_set]
set_option maxRecDepth 100000 in
set_option maxHeartbeats 8000000 in
theorem word9_any (S : List (List Rg)) (pv : Value) (r : List Int) (vr : Value) (w : World) (hok : OkA S) (hrl : r.length ≤ 300) (h : AlpAt w pv S) (hr : IntsIn w vr r) :
    Calls Try.prog 23 #[pv, vr] w fun e w' => ∃ v', e = .returned v' ∧ U64In w' v' (r.map (wrdN S)) ∧ Below w.heap.size w w' := by
  obtain ⟨iU, hiU, hzU0, hzU1, hzU2⟩ := info_parts Try.infoU64
  have HA : Hid (AlpAt w pv S) := h
  have HR : Hid (IntsIn w vr r) := hr
  have HOK : Hid (OkA S) := hok
  obtain ⟨g, rfl⟩ := h.ptr
  obtain ⟨ar, capr, rfl, _, _⟩ := hr
  clear h hok
  have HMC : Hid ((madeCells (Value.int .u64 0).cells (r.length * 1)).toList = u64s (wrdK S r 0)) := by
    show _ = _
    have e1 : wrdK S r 0 = List.replicate r.length 0 := by unfold wrdK; simp
    rw [Nat.mul_one, e1]
    unfold u64s
    rw [List.map_replicate]
    exact toList_madeCells_one _ _
  go_enter Try.func23, Try.ntmps23
  go_wp2_with (first | (at_make; refine wpList_make_full w rfl _ _ 38 rfl w.heap.size 34 iU (.int .u64 0) 1 Try.underlying38 hiU hzU0 hzU1 .i64 .i64 _ _ r.length rfl rfl rfl rfl (by rw [hzU2]; omega) (by unfold maxLen; omega) (Nat.le_refl _) ?_; intro w1 ho1 hg1; have hB1 : Below w.heap.size w w1 := (Below.refl _ _).grown hg1 (Nat.le_refl _) (fun j e => (by cases e)); have HO1 : Hid (w1.ownsRow w.heap.size 34 1 (.slice (some ⟨w.heap.size, 0, none⟩) r.length r.length) r.length (u64s (wrdK S r 0))) := (by rw [← HMC.out]; exact ho1); have HB1 : Hid (Below w.heap.size w w1) := hB1; clear ho1 hg1 hB1) | fail)
  go_loopw [13] (fun x wr => ∃ k : Nat, k ≤ r.length ∧ x = .int .i64 k ∧ wr.ownsRow w.heap.size 34 1 (.slice (some ⟨w.heap.size, 0, none⟩) r.length r.length) r.length (u64s (wrdK S r k)) ∧ Below w.heap.size w wr) (fun x _ => r.length - (intOf x).toNat)
  case atStart => exact ⟨0, Nat.zero_le _, rfl, HO1.out, HB1.out⟩
  case round =>
    obtain ⟨k, hk, rfl, ho, hB⟩ := hrel
    clear HO1 HB1
    obtain ⟨HO, HB⟩ : Hid (wr.ownsRow w.heap.size 34 1 (.slice (some ⟨w.heap.size, 0, none⟩) r.length r.length) r.length (u64s (wrdK S r k))) ∧ Hid (Below w.heap.size w wr) := ⟨ho, hB⟩
    have hbs := hB.size
    by_cases hlt : k < r.length
    · have hlt' : (k : Int) < (r.length : Int) := by omega
      obtain ⟨a', c', e, _, hcell⟩ := HR.out
      obtain ⟨rfl, rfl⟩ : ar = a' ∧ capr = c' := by simpa using e
      obtain ⟨gx, ox, rfl, hg, hck⟩ := hcell k hlt
      obtain ⟨x, hx⟩ : ∃ x, x = r[k] := ⟨_, rfl⟩
      rw [← hx] at hck
      have hck2 : wr.cell? ⟨gx, ox + k, none⟩ = some (.int .i64 x) := (hB.cell (p := ⟨gx, _, none⟩) hg).trans hck
      have H1 := of9_any S _ x wr HOK.out (HA.out.below hB)
      have hmw := wrd_msk HOK.out.1 x
      have hset := wrdK_set (S := S) hlt
      rw [← hx] at hset
      obtain ⟨c, hc⟩ : ∃ c, c = ofC S x := ⟨_, rfl⟩
      obtain ⟨m, hm⟩ : ∃ m, m = wrdN S x := ⟨_, rfl⟩
      rw [← hc] at H1 hmw
      rw [← hm] at hmw hset
      obtain ⟨HMW, HSET⟩ : Hid (mskC S c = m) ∧ Hid ((wrdK S r k).set k m = wrdK S r (k + 1)) := ⟨hmw, hset⟩
      clear hx hc hm hmw hset hcell e hck ho hB
      go_wp2_with fail
      refine H1.mono ?_
      rintro e w5 ⟨rfl, hB5⟩
      clear H1
      have hB5' : Below w.heap.size w w5 := HB.out.trans (hB5.mono hbs)
      have H2 := mask9_any S _ c w5 (HA.out.below hB5')
      rw [HMW.out] at H2
      have HB5 : Hid (Below w.heap.size w w5) := hB5'
      have hl := wrdK_len (S := S) (Nat.le_of_lt hlt)
      have ho5 := ownsRow_below HO.out hB5
      have hset := own_setU (l := wrdK S r k) (k := k) (by rw [hl]; exact ho5) (by rw [hl]; exact hlt) m
      rw [HSET.out] at hset
      obtain ⟨ho6, hf6, ⟨u6, hc6⟩, _⟩ := hset
      rw [wrdK_len (by omega)] at ho6
      have HO6 : Hid ((w5.setCell ⟨w.heap.size, k, none⟩ (.int .u64 (m : Int))).ownsRow w.heap.size 34 1 (.slice (some ⟨w.heap.size, 0, none⟩) r.length r.length) r.length (u64s (wrdK S r (k + 1)))) := ho6
      clear hB5 hB5' ho5 ho6 hl hck2
      go_wp2_with fail
      refine H2.mono ?_
      rintro e w6 ⟨rfl, rfl⟩
      clear H2
      go_wp2
      go_roundw
      case rel => exact ⟨k + 1, by omega, by go_num, HO6.out, HB5.out.setCell (p := ⟨w.heap.size, k, none⟩) (Nat.le_refl _) _⟩
      case measure => simp [intOf]; omega
    · have hlt' : ¬ ((k : Int) < (r.length : Int)) := by omega
      obtain rfl : k = r.length := by omega
      rw [wrdK_end] at HO
      clear ho hB
      go_wp2
      go_ret
      exact ⟨_, rfl, u64_of_row (base := w.heap.size) (by rw [List.length_map]; exact HO.out), HB.out⟩

theorem wrd_snoc {S : List (List Rg)} {r : List Int} {k : Nat} (h : k < r.length) : (r.take (k + 1)).map (wrdN S) = (r.take k).map (wrdN S) ++ [wrdN S r[k]] := by
  rw [List.take_succ_eq_append_getElem h, List.map_append]
  rfl
set_option maxRecDepth 100000 in
set_option maxHeartbeats 8000000 in
theorem rword_any (S : List (List Rg)) (pv : Value) (r : List Int) (vr : Value) (w : World) (hS : S.length ≤ 60) (hl : ∀ s ∈ S, s.length ≤ 600000) (hrl : r.length ≤ 300) (h : RAlS w pv S) (hr : IntsIn w vr r) :
    Calls Try.prog 24 #[pv, vr] w fun e w' => ∃ v', e = .returned v' ∧ U64In w' v' (r.map (wrdN S)) ∧ Below w.heap.size w w' := by
  obtain ⟨iU, hiU, hzU0, hzU1, hzU2⟩ := info_parts Try.infoU64
  have HR : Hid (IntsIn w vr r) := hr
  obtain ⟨g, v, vm, vl, rfl, h1, h2⟩ := h
  obtain ⟨ar, capr, rfl, _, _⟩ := hr
  obtain ⟨HV, HL, HAL⟩ : Hid (StsIn w v S) ∧ Hid (∀ s ∈ S, s.length ≤ 600000) ∧ Hid (RAlp w g v vm vl (clsS S) ((clsS S).map (fstS S))) := ⟨h2, hl, h1⟩
  obtain ⟨av, cv, rfl, _, _⟩ := h2
  clear hl h1
  go_enter Try.func24, Try.ntmps24
  go_wp2
  go_loopw [5, 6] (fun y x wr => ∃ k : Nat, k ≤ r.length ∧ x = .int .i64 k ∧ wr.ownsRow w.heap.size 34 1 y k (u64s ((r.take k).map (wrdN S))) ∧ Below w.heap.size w wr) (fun _ x _ => r.length - (intOf x).toNat)
  case atStart => exact ⟨0, Nat.zero_le _, rfl, World.ownsRow_nil _ _ _ _, Below.refl _ _⟩
  case round =>
    obtain ⟨k, hk, rfl, ho, hB⟩ := hrel
    obtain ⟨ay, cy, rfl⟩ := S3.slice_of_row ho
    obtain ⟨HO, HB⟩ : Hid (wr.ownsRow w.heap.size 34 1 (.slice ay k cy) k (u64s ((r.take k).map (wrdN S)))) ∧ Hid (Below w.heap.size w wr) := ⟨ho, hB⟩
    have hbs := hB.size
    by_cases hlt : k < r.length
    · have hlt' : (k : Int) < (r.length : Int) := by omega
      obtain ⟨a', c', e, _, hcell⟩ := HR.out
      obtain ⟨rfl, rfl⟩ : ar = a' ∧ capr = c' := by simpa using e
      obtain ⟨gx, ox, rfl, hg, hck⟩ := hcell k hlt
      have hsn := wrd_snoc (S := S) hlt
      obtain ⟨x, hx⟩ : ∃ x, x = r[k] := ⟨_, rfl⟩
      rw [← hx] at hck hsn
      have hck2 : wr.cell? ⟨gx, ox + k, none⟩ = some (.int .i64 x) := (hB.cell (p := ⟨gx, _, none⟩) hg).trans hck
      obtain ⟨us, hus⟩ : ∃ us, us = (r.take k).map (wrdN S) := ⟨_, rfl⟩
      rw [← hus] at HO hsn
      have HSN : Hid ((r.take (k + 1)).map (wrdN S) = us ++ [wrdN S x]) := hsn
      clear hcell e hck ho hx hus hsn
      by_cases q0 : x < 0
      · have hw0 : wrdN S x = 0 := by unfold wrdN; rw [if_neg (by omega)]
        have HOA : Hid ((wr.alloc (.cells #[.int .u64 0] 34)).ownsRow w.heap.size 34 1 (.slice ay k cy) k (u64s us)) := HO.out.alloc _
        have HNA : Hid ((wr.alloc (.cells #[.int .u64 0] 34)).heap[wr.heap.size]? = some (.cells #[.int .u64 0] 34 (0, 0))) := heap_new' wr _
        have HBA : Hid (Below w.heap.size w (wr.alloc (.cells #[.int .u64 0] 34))) := hB.alloc hbs _
        have HW0 : Hid (wrdN S x = 0) := hw0
        clear hw0 hB
        go_wp2_with (first | (at_builtin; refine wpList_append_own _ rfl (.tmp 25) (.tmp 26) 38 rfl w.heap.size 34 iU (.int .u64 0) 1 8 Try.underlying38 hiU hzU0 hzU1 hzU2 rfl (by decide) _ _ _ rfl HOA.out ⟨wr.heap.size, 0, none⟩ 1 1 [.int .u64 0] rfl rfl (World.news_of_block HNA.out) (by simp [Value.oneCell']) (by unfold maxLen; omega) (by omega) (by simp; omega) ?_; intro v3 w3 ho3 hg3 _; obtain ⟨a3, cap3, rfl⟩ := S3.slice_of_row ho3; have HO3 : Hid (w3.ownsRow w.heap.size 34 1 (.slice a3 (k + 1) cap3) (k + 1) (u64s us ++ [.int .u64 0])) := ho3; have HB3 : Hid (Below w.heap.size w w3) := HBA.out.grown hg3 (by simp; omega) (fun j e => (HOA.out.lt j e).1); clear ho3 hg3) | fail)
        go_roundw
        case rel =>
          refine ⟨k + 1, by omega, by go_num, ?_, HB3.out⟩
          rw [HSN.out, HW0.out]
          have := HO3.out
          simpa [u64s] using this
        case measure => simp [intOf]; omega
      by_cases q1 : 1114111 < x
      · have hw0 : wrdN S x = 0 := by unfold wrdN; rw [if_neg (by omega)]
        have HOA : Hid ((wr.alloc (.cells #[.int .u64 0] 34)).ownsRow w.heap.size 34 1 (.slice ay k cy) k (u64s us)) := HO.out.alloc _
        have HNA : Hid ((wr.alloc (.cells #[.int .u64 0] 34)).heap[wr.heap.size]? = some (.cells #[.int .u64 0] 34 (0, 0))) := heap_new' wr _
        have HBA : Hid (Below w.heap.size w (wr.alloc (.cells #[.int .u64 0] 34))) := hB.alloc hbs _
        have HW0 : Hid (wrdN S x = 0) := hw0
        clear hw0 hB
        go_wp2_with (first | (at_builtin; refine wpList_append_own _ rfl (.tmp 25) (.tmp 26) 38 rfl w.heap.size 34 iU (.int .u64 0) 1 8 Try.underlying38 hiU hzU0 hzU1 hzU2 rfl (by decide) _ _ _ rfl HOA.out ⟨wr.heap.size, 0, none⟩ 1 1 [.int .u64 0] rfl rfl (World.news_of_block HNA.out) (by simp [Value.oneCell']) (by unfold maxLen; omega) (by omega) (by simp; omega) ?_; intro v3 w3 ho3 hg3 _; obtain ⟨a3, cap3, rfl⟩ := S3.slice_of_row ho3; have HO3 : Hid (w3.ownsRow w.heap.size 34 1 (.slice a3 (k + 1) cap3) (k + 1) (u64s us ++ [.int .u64 0])) := ho3; have HB3 : Hid (Below w.heap.size w w3) := HBA.out.grown hg3 (by simp; omega) (fun j e => (HOA.out.lt j e).1); clear ho3 hg3) | fail)
        go_roundw
        case rel =>
          refine ⟨k + 1, by omega, by go_num, ?_, HB3.out⟩
          rw [HSN.out, HW0.out]
          have := HO3.out
          simpa [u64s] using this
        case measure => simp [intOf]; omega
      have hw1 : wrdN S x = maskN S x := by unfold wrdN; rw [if_pos (by omega)]
      have hc0 : wr.cell? ⟨g, 0, none⟩ = some (.slice av S.length cv) := (hB.cell (p := ⟨g, 0, none⟩) (S3.heap_lt HAL.out.1)).trans (S3.cell_row HAL.out.1 rfl)
      have HMK : Hid (∀ W, Below wr.heap.size wr W → Calls Try.prog 33 #[.slice av S.length cv, .int .i64 x] W fun e w' => e = .returned (.int .u64 (maskN S x : Nat)) ∧ w' = W) := fun W hW => rmask_any S _ x W hS HL.out (HV.out.below (HB.out.trans (hW.mono hbs)))
      obtain ⟨m, hm⟩ : ∃ m, m = maskN S x := ⟨_, rfl⟩
      rw [← hm] at HMK hw1
      have HW1 : Hid (wrdN S x = m) := hw1
      clear hm hw1 hB
      go_wp2
      go_region_law (first | (go_simp; refine (HMK.out _ (by exact below_drewN' (Below.refl _ _) 1)).mono ?_; rintro e wS ⟨rfl, rfl⟩; try dsimp only) | (refine step_append_lies _ (by rfl) (.tmp 28) (.tmp 38) 38 (by rfl) w.heap.size 34 iU (.int .u64 0) 1 8 Try.underlying38 hiU hzU0 hzU1 hzU2 rfl (by decide) (.slice ay k cy) k (u64s us) (by rfl) (by exact HO.out.drew.alloc _) ⟨wr.heap.size, 0, none⟩ 1 1 [.int .u64 (m : Int)] (by rfl) rfl (by exact World.news_of_block (heap_new' wr.drew _)) (by simp [Value.oneCell']) (by omega) (by unfold maxLen; omega) (by omega) (by simp [World.drew]; omega) _ rfl ?_; intro gL capL w5 hownL hgrowL hatL hltL))
      all_goals
        have HO5 : Hid (w5.ownsRow w.heap.size 34 1 (.slice (some ⟨gL, 0, none⟩) (k + 1) capL) (k + 1) (u64s us ++ [.int .u64 (m : Int)])) := hownL
        have HB5 : Hid (Below w.heap.size w w5) := ((HB.out.drew).alloc (show w.heap.size ≤ wr.heap.size from hbs) _).grown hgrowL (by rw [World.size_alloc]; show w.heap.size ≤ wr.heap.size + 1; omega) (fun j e => (HO.out.lt j e).1)
        clear hownL hgrowL hatL hltL hck2 hc0
        go_wp2
        go_roundw
        case rel =>
          refine ⟨k + 1, by omega, by go_num, ?_, HB5.out⟩
          rw [HSN.out, HW1.out]
          have := HO5.out
          simpa [u64s] using this
        case measure => simp [intOf]; omega
    · have hlt' : ¬ ((k : Int) < (r.length : Int)) := by omega
      obtain rfl : k = r.length := by omega
      rw [List.take_length] at HO
      clear ho hB
      go_wp2
      go_ret
      exact ⟨_, rfl, u64_of_row (base := w.heap.size) (by rw [List.length_map]; exact HO.out), HB.out⟩
end Go.Proofs.Ytmknifnhcgdkaaa
