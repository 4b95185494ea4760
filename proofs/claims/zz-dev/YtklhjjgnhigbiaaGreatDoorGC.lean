/-
  The places that are marked, as a list. Lists of places, one behind the other; a list's copy.
-/
import Derived.Test.YtklhjjgnhigbiaaGreatDoorGB
import Derived.Lib.AppendZeros
import Derived.Lib.SliceRun
namespace Go.Proofs.YtklhjjgnhigbiaaGreatDoor
open Go.RowKit Go.Shelf
set_option linter.unusedVariables false

/-- The numbers below n that f takes. -/
def rgF (f : Nat → Bool) (n : Nat) : List Nat := (List.range n).filter f
theorem rgF_gap {f : Nat → Bool} {a : Nat} : ∀ {b : Nat}, a ≤ b → (∀ y, a ≤ y → y < b → f y = false) → rgF f b = rgF f a
  | b, h, g => by
    obtain ⟨k, rfl⟩ := Nat.exists_eq_add_of_le h
    induction k with
    | zero => rfl
    | succ k ih =>
      have := ih (by omega) (fun y h1 h2 => g y h1 (by omega))
      rw [← this]
      show (List.range (a + k + 1)).filter f = _
      rw [List.range_succ, List.filter_append]
      simp [g (a + k) (by omega) (by omega), rgF]
theorem rgF_next {f : Nat → Bool} {a b : Nat} (h : a ≤ b) (g : ∀ y, a ≤ y → y < b → f y = false) (hb : f b = true) : rgF f (b + 1) = rgF f a ++ [b] := by
  rw [← rgF_gap h g]
  show (List.range (b + 1)).filter f = _
  rw [List.range_succ, List.filter_append]
  simp [hb, rgF]
theorem rgF_mem {f : Nat → Bool} {n x : Nat} : x ∈ rgF f n ↔ x < n ∧ f x = true := by simp [rgF]
theorem rgF_len (f : Nat → Bool) (n : Nat) : (rgF f n).length ≤ n := by
  have := List.length_filter_le f (List.range n)
  simpa [rgF] using this
theorem rgF_ris (f : Nat → Bool) (n : Nat) : (rgF f n).Pairwise (· < ·) := List.pairwise_lt_range.filter f
/-- The lowest bit, and what is left behind it. -/
theorem low_bit {x : Nat} (h0 : x ≠ 0) (hx : x < 2 ^ 64) : Lib.ctz 64 x < 64 ∧ x.testBit (Lib.ctz 64 x) = true ∧ (∀ y, y < Lib.ctz 64 x → x.testBit y = false) ∧ (x &&& (x - 1) < x) ∧ ∀ y, (x &&& (x - 1)).testBit y = (x.testBit y && decide (Lib.ctz 64 x < y)) := by
  obtain ⟨m, hm, hk⟩ := Lib.ctzFrom_spec 64 x (by omega) hx
  have e : Lib.ctz 64 x = Lib.ctzFrom 64 x := by simp [Lib.ctz, h0]
  rw [← e] at hm hk
  obtain ⟨k, hkk⟩ : ∃ k, k = Lib.ctz 64 x := ⟨_, rfl⟩
  rw [← hkk] at hm hk ⊢
  have hp : 0 < 2 ^ k := Nat.two_pow_pos k
  have e1 : x = 2 ^ (k + 1) * m + 2 ^ k := by rw [hm, Nat.pow_succ, Nat.mul_add, Nat.mul_one, Nat.mul_assoc]
  have e2 : x - 1 = 2 ^ (k + 1) * m + (2 ^ k - 1) := by omega
  have h1 : 2 ^ k < 2 ^ (k + 1) := by rw [Nat.pow_succ]; omega
  have t1 : ∀ y, x.testBit y = if y < k + 1 then decide (k = y) else m.testBit (y - (k + 1)) := fun y => by
    rw [e1, Nat.testBit_two_pow_mul_add _ h1, Nat.testBit_two_pow]
  have t2 : ∀ y, (x - 1).testBit y = if y < k + 1 then decide (y < k) else m.testBit (y - (k + 1)) := fun y => by
    rw [e2, Nat.testBit_two_pow_mul_add _ (by omega), Nat.testBit_two_pow_sub_one]
  refine ⟨hk, ?_, fun y hy => ?_, ?_, fun y => ?_⟩
  · rw [t1, if_pos (by omega)]; simp
  · rw [t1, if_pos (by omega)]; simp; omega
  · have : x &&& (x - 1) ≤ x - 1 := Nat.and_le_right
    omega
  · rw [Nat.testBit_and, t1, t2]
    by_cases q : y < k + 1
    · rw [if_pos q, if_pos q]
      by_cases q2 : k = y
      · subst q2; simp
      · simp [q2]
    · rw [if_neg q, if_neg q]
      have : k < y := by omega
      simp [this]
theorem mb_word {ms : List Nat} {i y : Nat} (hi : i < ms.length) (hy : y < 64) : mb ms (64 * i + y) = ms[i].testBit y := by
  unfold mb
  rw [show (64 * i + y) / 64 = i by omega, show (64 * i + y) % 64 = y by omega, getD_at hi]

set_option maxRecDepth 100000 in
set_option maxHeartbeats 8000000 in
theorem mlist_any (last g nw : Nat) (ms : List Nat) (w : World) (hT : TabW w) (hm : MrkAt w g ms) (hf : Fit ms) (hn : ms.length = nw) (hnw : nw ≤ 1000) :
    Calls Tryz.prog 20 #[mrkV last g nw] w fun e w' => ∃ v', e = .returned v' ∧ w'.ownsRow w.heap.size 3 1 v' (rgF (mb ms) (64 * nw)).length (cellP (rgF (mb ms) (64 * nw))) ∧ Below w.heap.size w w' := by
  obtain ⟨i0, hi0, hz0, hz1, hz2⟩ := info_parts Tryz.infoInt
  have hgl := hm.lt
  have HM : Hid (MrkAt w g ms) := hm
  have HF : Hid (Fit ms) := hf
  have HN : Hid (ms.length = nw) := hn
  have HT : Hid (TabW w) := hT
  have HB0 : Hid (Below w.heap.size w (w.alloc (.cells #[.int .i64 (last : Int), .slice (some ⟨g, 0, none⟩) nw nw] 53))) := below_alloc _ _
  unfold mrkV
  clear hm hf hn hT
  go_enter Tryz.func20, Tryz.ntmps20
  go_wp2
  go_loopw [3, 9] (fun x3 x9 wr => ∃ (j : Nat), j ≤ nw ∧ x9 = .int .i64 (j : Int) ∧ Hid (wr.ownsRow w.heap.size 3 1 x3 (rgF (mb ms) (64 * j)).length (cellP (rgF (mb ms) (64 * j)))) ∧ Hid (Below w.heap.size w wr)) (fun _ x9 _ => nw - (intOf x9).toNat)
  case atStart => exact ⟨0, Nat.zero_le _, rfl, (by show World.ownsRow _ _ _ _ _ _ _; simpa [rgF, cellP] using World.ownsRow_nil _ _ _ _), HB0⟩
  case round =>
    obtain ⟨j, hj, rfl, HO, HB⟩ := hrel
    by_cases hjl : j < nw
    · have hjm : j < ms.length := by rw [HN.out]; exact hjl
      obtain ⟨X, hX⟩ : ∃ X, X = ms[j] := ⟨_, rfl⟩
      have m0 : wr.cell? ⟨g, j, none⟩ = some (.int .u64 (X : Int)) := by rw [hX]; exact (HB.out.cell (p := ⟨g, _, none⟩) hgl).trans (HM.out.cell hjm)
      have HX : Hid (∀ y, y < 64 → mb ms (64 * j + y) = X.testBit y) := fun y hy => by rw [mb_word hjm hy, hX]
      have HX64 : Hid (X < 2 ^ 64) := by show _ < _; rw [hX]; exact HF.out _ (List.getElem_mem hjm)
      have hj0 : (0 : Int) ≤ (j : Int) := by omega
      have hj1 : (j : Int) < (nw : Int) := by omega
      clear hX
      go_wp2
      go_loopw [3, 5] (fun x3 x5 wr => ∃ (t L : Nat), t ≤ 64 ∧ x5 = .int .u64 (L : Int) ∧ L < 18446744073709551616 ∧ Hid (∀ y, L.testBit y = (decide (t ≤ y) && X.testBit y)) ∧ Hid (wr.ownsRow w.heap.size 3 1 x3 (rgF (mb ms) (64 * j + t)).length (cellP (rgF (mb ms) (64 * j + t)))) ∧ Hid (Below w.heap.size w wr)) (fun _ x5 _ => (intOf x5).toNat)
      case atStart => exact ⟨0, X, Nat.zero_le _, rfl, by simpa using HX64.out, (fun y => by simp), HO, HB⟩
      case round =>
        obtain ⟨t, L, ht, rfl, hL, HL, HOi, HBi⟩ := hrel
        by_cases hL0 : L = 0
        · subst hL0
          have HO2 : Hid (wr.ownsRow w.heap.size 3 1 u3 (rgF (mb ms) (64 * (j + 1))).length (cellP (rgF (mb ms) (64 * (j + 1))))) := by
            have : rgF (mb ms) (64 * (j + 1)) = rgF (mb ms) (64 * j + t) := rgF_gap (by omega) (fun y h1 h2 => by
              obtain ⟨z, rfl⟩ : ∃ z, y = 64 * j + z := ⟨y - 64 * j, by omega⟩
              rw [HX.out z (by omega)]
              have := HL.out z
              rw [Nat.zero_testBit] at this
              have h3 : decide (t ≤ z) = true := by simp; omega
              rw [h3, Bool.true_and] at this
              exact this.symm)
            show wr.ownsRow _ _ _ _ _ _
            rw [this]; exact HOi.out
          go_wp2
          go_roundw
          case rel => exact ⟨j + 1, by omega, by go_num, HO2, HBi⟩
          case measure => simp [intOf]; omega
        · have hl0 : ((L : Int) != 0) = true := by simp; omega
          obtain ⟨hk, hb, hlow, hlt, hleft⟩ := low_bit hL0 hL
          obtain ⟨k, hkk⟩ : ∃ k, k = Lib.ctz 64 L := ⟨_, rfl⟩
          have htz := tz_any L hL hL0 wr (HT.out.below HBi.out)
          rw [← hkk] at hk hb hlow hleft htz
          have htk : t ≤ k := by
            have := HL.out k
            rw [hb] at this
            simp at this
            exact this.1
          have HXk : Hid (mb ms (64 * j + k) = true) := by
            have := HL.out k
            rw [hb] at this
            simp at this
            exact (HX.out k hk).trans this.2
          have HNX : Hid (rgF (mb ms) (64 * j + (k + 1)) = rgF (mb ms) (64 * j + t) ++ [64 * j + k]) := rgF_next (b := 64 * j + k) (by omega) (fun y h1 h2 => by
            obtain ⟨z, rfl⟩ : ∃ z, y = 64 * j + z := ⟨y - 64 * j, by omega⟩
            rw [HX.out z (by omega)]
            have := HL.out z
            rw [hlow z (by omega)] at this
            have h3 : decide (t ≤ z) = true := by simp; omega
            rw [h3, Bool.true_and] at this
            exact this.symm) HXk.out
          have HL2 : Hid (∀ y, (L &&& (L - 1)).testBit y = (decide (k + 1 ≤ y) && X.testBit y)) := fun y => by
            rw [hleft, HL.out]
            by_cases q : k < y
            · have h1 : t ≤ y := by omega
              have h2 : k + 1 ≤ y := q
              simp [q, h1, h2]
            · have h2 : ¬ k + 1 ≤ y := q
              simp [q, h2]
          have HAND : Hid (bits .and .u64 (L : Int) ((L : Int) - 1) = ((L &&& (L - 1) : Nat) : Int)) := by
            show _ = _
            rw [show (L : Int) - 1 = ((L - 1 : Nat) : Int) by omega]
            exact bits_and_u64_nat L (L - 1) hL (by omega)
          have HLT : Hid (L &&& (L - 1) < L) := hlt
          have hws : w.heap.size ≤ wr.heap.size := HBi.out.size
          have hlen : (rgF (mb ms) (64 * j + t)).length ≤ 64 * j + t := rgF_len _ _
          have HLEN : Hid ((rgF (mb ms) (64 * j + t)).length ≤ 100000) := by show _ ≤ _; omega
          have hwr : IntKind.u64.wrap ((L : Int) - 1) = (L : Int) - 1 := by rw [IntKind.wrap_u64]; omega
          clear hkk hb hlow hleft hlt hlen
          go_wp2_with (first | (go_at_call 42; refine htz.mono ?_; rintro e w1 ⟨rfl, rfl⟩) | (at_builtin; go_must (refine wpList_append_own _ rfl _ _ 55 rfl w.heap.size 3 i0 (.int .i64 0) 1 8 Tryz.underlying55 hi0 hz0 hz1 hz2 rfl (by decide) _ _ _ rfl (HOi.out.alloc _) ⟨w1.heap.size, 0, none⟩ 1 1 [.int .i64 ((64 * j + k : Nat) : Int)] rfl rfl (World.news_of_block (by exact heap_new' _ _)) (by simp [Value.oneCell']) (by unfold maxLen; have := HLEN.out; omega) (by have := HLEN.out; omega) (by simp; omega) ?_); intro v2 w2 ho2 hg2 _))
          have HO2 : Hid (w2.ownsRow w.heap.size 3 1 v2 (rgF (mb ms) (64 * j + (k + 1))).length (cellP (rgF (mb ms) (64 * j + (k + 1))))) := by
            show w2.ownsRow _ _ _ _ _ _
            rw [HNX.out, cellP_snoc, List.length_append]
            exact ho2
          have HB2 : Hid (Below w.heap.size w w2) := (HBi.out.alloc hws _).grown hg2 (by simp; omega) (fun q e => (HOi.out.lt q e).1)
          clear ho2 hg2 htz
          go_wp2
          go_roundw
          case rel => exact ⟨k + 1, L &&& (L - 1), by omega, by first | (rw [HAND.out]) | (rw [hwr, HAND.out]), by have := HLT.out; omega, HL2, HO2, HB2⟩
          case measure => simp [intOf]; have := HLT.out; have := HAND.out; omega
    · obtain rfl : j = nw := by omega
      have HO' := HO
      go_wp2
      go_ret
      exact ⟨_, rfl, HO'.out, HB.out⟩
end Go.Proofs.YtklhjjgnhigbiaaGreatDoor

namespace Go.Proofs.YtklhjjgnhigbiaaGreatDoor
open Go.RowKit Go.Shelf
set_option linter.unusedVariables false

set_option maxRecDepth 100000 in
set_option maxHeartbeats 4000000 in
theorem grow_any (n : Nat) (h0 : 0 < n) (hn : n ≤ 1000000) (w : World) : Calls Tryz.prog 93 #[.slice none 0 0, .int .i64 (n : Int)] w fun e w' => ∃ v', e = .returned v' ∧ w'.ownsRow w.heap.size 3 1 v' 0 [] ∧ Below w.heap.size w w' := by
  obtain ⟨i0, hi0, hz0, hz1, hz2⟩ := info_parts Tryz.infoInt
  have hrz : ∀ ty, (Builtin.append_ #[55, 3] ty #[.slice none 0 0, .int .i64 (n : Int)]).run Tryz.prog w = _ := fun ty => Lib.run_append_nil_zeros w 55 3 ty 3 i0 (.int .i64 0) .i64 .i64 Tryz.underlying55 Tryz.underlying3 hi0 hz0 n h0 (by rw [hz1]; decide) (by omega) (by rw [hz2]; omega)
  have hGn : n ≤ grownCap w n 0 3 := grownCap_ge w _ _ _
  have hGm : grownCap w n 0 3 ≤ maxLen := grownCap_le_maxLen w n 0 3 (by unfold maxLen; omega)
  obtain ⟨G, hG⟩ : ∃ G, G = grownCap w n 0 3 := ⟨_, rfl⟩
  rw [← hG] at hrz hGn hGm
  have hG63 : G ≤ 9223372036854775807 := by unfold maxLen at hGm; omega
  have h1 : decide ((n : Int) < 0) = false := decide_eq_false (by omega)
  have h2 : decide ((n : Int) > 0) = true := decide_eq_true (by omega)
  have HGM : Hid (G ≤ maxLen) := hGm
  clear hG hGm
  go_enter Tryz.func93, Tryz.ntmps93
  go_wp2_with (at_builtin; refine Lib.wpList_append_run _ rfl _ _ _ _ rfl _ _ rfl rfl _ _ (hrz _) ?_)
  go_ret
  refine ⟨_, rfl, ⟨by simp, .inr ⟨w.heap.size, G, _, rfl, Nat.le_refl _, heap_new' _ _, by omega, HGM.out, ?_, by simp⟩⟩, (below_alloc _ _).drew⟩
  simp [Builtin.zeroCells]; omega

/-- The lists of two, those of the first j of them. -/
def upJ (a b : List Nat) (j : Nat) : List Nat := ([a, b].take j).flatten
theorem upJ_le (a b : List Nat) (j : Nat) : (upJ a b j).length ≤ a.length + b.length := by
  match j with
  | 0 => simp [upJ]
  | 1 => simp [upJ]
  | n + 2 => simp [upJ]
theorem two_at {W : World} {G : Nat} {va vb : Value} {t : TypeId} {a b : List Nat} {b0 B : Nat} (hG : W.heap[G]? = some (.cells #[va, vb] t (0, 0))) (ha : PlcAt b0 B W va a) (hb : PlcAt b0 B W vb b) {j : Nat} (hj : j < 2) : ∃ l pa pc, W.cell? ⟨G, j, none⟩ = some (.slice pa l.length pc) ∧ upJ a b (j + 1) = upJ a b j ++ l ∧ PlcAt b0 B W (.slice pa l.length pc) l := by
  match j, hj with
  | 0, _ =>
    obtain ⟨pa, pc, rfl, _⟩ := ha.slice
    exact ⟨a, pa, pc, cell_in hG 0, by simp [upJ], ha⟩
  | 1, _ =>
    obtain ⟨pa, pc, rfl, _⟩ := hb.slice
    exact ⟨b, pa, pc, cell_in hG 1, by simp [upJ], hb⟩

set_option maxRecDepth 100000 in
set_option maxHeartbeats 8000000 in
theorem concat_any (G : Nat) (va vb : Value) (a b : List Nat) (b0 B : Nat) (w : World) (hG : w.heap[G]? = some (.cells #[va, vb] 55 (0, 0))) (ha : PlcAt b0 B w va a) (hb : PlcAt b0 B w vb b) (hpos : 0 < a.length + b.length) (hbig : a.length + b.length ≤ 100000) :
    Calls Tryz.prog 80 #[.slice (some ⟨G, 0, none⟩) 2 2] w fun e w' => ∃ v', e = .returned v' ∧ w'.ownsRow w.heap.size 3 1 v' (a ++ b).length (cellP (a ++ b)) ∧ Below w.heap.size w w' := by
  obtain ⟨i0, hi0, hz0, hz1, hz2⟩ := info_parts Tryz.infoInt
  have hGl : G < w.heap.size := lt_of_heap hG
  have HG : Hid (w.heap[G]? = some (.cells #[va, vb] 55 (0, 0))) := hG
  have HA : Hid (PlcAt b0 B w va a) := ha
  have HBB : Hid (PlcAt b0 B w vb b) := hb
  obtain ⟨tot, htot⟩ : ∃ t, t = a.length + b.length := ⟨_, rfl⟩
  have HTOT : Hid (tot = a.length + b.length) := htot
  rw [← htot] at hpos hbig
  have HU2 : Hid (upJ a b 2 = a ++ b) := by show _ = _; simp [upJ]
  have HUL : Hid (∀ j, (upJ a b j).length ≤ tot) := fun j => by rw [htot]; exact upJ_le a b j
  have hgr := grow_any tot hpos (by omega) w
  clear hG ha hb htot
  go_enter Tryz.func80, Tryz.ntmps80
  go_wp2
  go_loopw [3, 11] (fun x3 x11 wr => ∃ (j : Nat), j ≤ 2 ∧ x11 = .int .i64 (j : Int) ∧ x3 = .int .i64 ((upJ a b j).length : Int) ∧ wr = w) (fun _ x11 _ => 2 - (intOf x11).toNat)
  case atStart => exact ⟨0, by omega, rfl, rfl, rfl⟩
  case round =>
    obtain ⟨j, hj, rfl, rfl, hwr⟩ := hrel
    have hwr' := hwr.symm
    subst hwr'
    by_cases hjl : j < 2
    · obtain ⟨l, pa, pc, c0, hup, _⟩ := two_at HG.out HA.out HBB.out hjl
      obtain ⟨N, hN⟩ : ∃ N, N = (upJ a b j).length := ⟨_, rfl⟩
      obtain ⟨M, hM⟩ : ∃ M, M = l.length := ⟨_, rfl⟩
      have HNM : Hid (N + M = (upJ a b (j + 1)).length) := by show _ = _; rw [hup, List.length_append, hN, hM]
      have hNM : N + M ≤ 100000 := by have h1 := HNM.out; have h2 := HUL.out (j + 1); omega
      rw [← hM] at c0
      rw [← hN]
      have hj0 : (0 : Int) ≤ (j : Int) := by omega
      have hj1 : (j : Int) < 2 := by omega
      have hlt : decide ((N : Int) + (M : Int) < 0) = false := decide_eq_false (by omega)
      clear hup hN hM
      go_wp2
      go_roundw
      case rel => exact ⟨j + 1, by omega, by go_num, by rw [← HNM.out]; go_num, by first | exact rfl | trivial⟩
      case measure => simp [intOf]; omega
    · obtain rfl : j = 2 := by omega
      have hU : (upJ a b 2).length = tot := by rw [HU2.out, HTOT.out, List.length_append]
      rw [hU]
      have HU : Hid ((upJ a b 2).length = tot) := hU
      clear hU hjl
      go_wp2_with fail
      refine hgr.mono ?_
      rintro e w1 ⟨v1, rfl, ho1, hB1⟩
      have HO1 : Hid (w1.ownsRow w.heap.size 3 1 v1 (upJ a b 0).length (cellP (upJ a b 0))) := ho1
      have HB1 : Hid (Below w.heap.size w w1) := hB1
      clear ho1 hB1 hgr
      go_wp2
      go_loopw [6, 27] (fun x6 x27 wr => ∃ (j : Nat), j ≤ 2 ∧ x27 = .int .i64 (j : Int) ∧ Hid (wr.ownsRow w.heap.size 3 1 x6 (upJ a b j).length (cellP (upJ a b j))) ∧ Hid (Below w.heap.size w wr)) (fun _ x27 _ => 2 - (intOf x27).toNat)
      case atStart => exact ⟨0, by omega, rfl, HO1, HB1⟩
      case round =>
        obtain ⟨j, hj, rfl, HO, HB⟩ := hrel
        by_cases hjl : j < 2
        · obtain ⟨l, pa, pc, c0, hup, hpl⟩ := two_at HG.out HA.out HBB.out hjl
          have hsrc : SrcIs wr (.slice pa l.length pc) l.length 1 (cellP l) := (hpl.below HB.out).src
          obtain ⟨M, hM⟩ : ∃ M, M = l.length := ⟨_, rfl⟩
          have HNM : Hid ((upJ a b j).length + M ≤ 100000) := by
            have h1 := HUL.out (j + 1)
            rw [hup, List.length_append, ← hM] at h1
            show _ ≤ _
            omega
          rw [← hM] at c0 hsrc
          have HS : Hid (SrcIs wr (.slice pa M pc) M 1 (cellP l)) := hsrc
          have c1 : wr.cell? ⟨G, j, none⟩ = some (.slice pa M pc) := (HB.out.cell (p := ⟨G, _, none⟩) hGl).trans c0
          have HUP : Hid (upJ a b (j + 1) = upJ a b j ++ l ∧ M = l.length) := ⟨hup, hM⟩
          have hws : w.heap.size ≤ wr.heap.size := HB.out.size
          have hj0 : (0 : Int) ≤ (j : Int) := by omega
          have hj1 : (j : Int) < 2 := by omega
          clear hsrc hup hM hpl c0
          go_wp2_with (at_builtin; go_must (refine wpList_append_src _ rfl _ _ 55 rfl w.heap.size 3 i0 (.int .i64 0) 1 8 Tryz.underlying55 hi0 hz0 hz1 hz2 rfl (by decide) _ _ _ rfl HO.out _ rfl M (cellP l) HS.out (by unfold maxLen; have := HNM.out; omega) (by have := HNM.out; omega) hws ?_); intro v2 w2 ho2 hg2)
          have HO2 : Hid (w2.ownsRow w.heap.size 3 1 v2 (upJ a b (j + 1)).length (cellP (upJ a b (j + 1)))) := by
            show w2.ownsRow _ _ _ _ _ _
            rw [HUP.out.1, cellP_append, List.length_append, ← HUP.out.2]
            exact ho2
          have HB2 : Hid (Below w.heap.size w w2) := HB.out.grown hg2 hws (fun q e => (HO.out.lt q e).1)
          clear ho2 hg2
          go_wp2
          go_roundw
          case rel => exact ⟨j + 1, by omega, by go_num, HO2, HB2⟩
          case measure => simp [intOf]; omega
        · obtain rfl : j = 2 := by omega
          have HO' := HO
          go_wp2
          go_ret
          have := HO'.out
          rw [HU2.out] at this
          exact ⟨_, rfl, this, HB.out⟩

/-- The slice value v holds the places l, in a block of numbers from hi on. -/
def LstAt (hi : Nat) (w : World) (v : Value) (l : List Nat) : Prop :=
  ∃ a cap, v = .slice a l.length cap ∧ l.length ≤ cap ∧ (a = none → cap = 0) ∧ (0 < l.length → ∃ g off cs fr, a = some ⟨g, off, none⟩ ∧ hi ≤ g ∧ w.heap[g]? = some (.cells cs 3 fr) ∧ ∀ i, (h : i < l.length) → cs[off + i]? = some (.int .i64 (l[i] : Int)))
theorem LstAt.plc {hi : Nat} {w : World} {v : Value} {l : List Nat} (h : LstAt hi w v l) : PlcAt 0 hi w v l := by
  obtain ⟨a, cap, rfl, hc, hn, hx⟩ := h
  refine ⟨a, cap, rfl, hc, hn, fun i hi' => ?_⟩
  obtain ⟨g, off, cs, fr, rfl, hg, hw, hcs⟩ := hx (by omega)
  exact ⟨g, off, rfl, .inr hg, lt_of_heap hw, (cell_in hw _).trans (hcs i hi')⟩
theorem LstAt.slice {hi : Nat} {w : World} {v : Value} {l : List Nat} (h : LstAt hi w v l) : ∃ a cap, v = .slice a l.length cap := by
  obtain ⟨a, cap, e, _⟩ := h; exact ⟨a, cap, e⟩
theorem LstAt.to {hi : Nat} {w w' : World} {v : Value} {l : List Nat} (h : LstAt hi w v l) (hq : ∀ g cs fr, hi ≤ g → w.heap[g]? = some (.cells cs 3 fr) → w'.heap[g]? = w.heap[g]?) : LstAt hi w' v l := by
  obtain ⟨a, cap, rfl, hc, hn, hx⟩ := h
  refine ⟨a, cap, rfl, hc, hn, fun h0 => ?_⟩
  obtain ⟨g, off, cs, fr, rfl, hg, hw, hcs⟩ := hx h0
  exact ⟨g, off, cs, fr, rfl, hg, (hq g cs fr hg hw).trans hw, hcs⟩
theorem LstAt.fr {lo hi : Nat} {w w' : World} {v : Value} {l : List Nat} (h : LstAt hi w v l) (hf : FrI lo hi w w') : LstAt hi w' v l := h.to (fun g cs fr hg hw => hf.block (.inr ⟨hg, lt_of_heap hw⟩))
theorem LstAt.below {hi : Nat} {w w' : World} {v : Value} {l : List Nat} (h : LstAt hi w v l) (hb : Below w.heap.size w w') : LstAt hi w' v l := h.to (fun g cs fr hg hw => hb.block g (lt_of_heap hw))
theorem LstAt.nil (hi : Nat) (w : World) : LstAt hi w (.slice none 0 0) [] := ⟨none, 0, rfl, Nat.le_refl _, fun _ => rfl, fun h => absurd h (by simp)⟩
theorem lst_of_row {w : World} {base hi : Nat} {v : Value} {l : List Nat} (h : w.ownsRow base 3 1 v l.length (cellP l)) (hB : hi ≤ base) : LstAt hi w v l := by
  rcases h.2 with ⟨rfl, h0⟩ | ⟨g, cap, cur, rfl, hb, hg, hc, hm, hs, ht⟩
  · obtain rfl : l = [] := List.length_eq_zero_iff.1 h0
    exact LstAt.nil _ _
  · refine ⟨_, cap, rfl, hc, fun e => (by cases e), fun _ => ⟨g, 0, cur, (0, 0), rfl, Nat.le_trans hB hb, hg, fun i hi => ?_⟩⟩
    have := h.cells (g := g) rfl i (.int .i64 (l[i] : Int)) (by simp [cellP, hi])
    rw [add_lit', cell_in hg] at this
    exact this
theorem lst_one {hi : Nat} (w : World) (x : Nat) (h : hi ≤ w.heap.size) : LstAt hi (w.alloc (.cells #[.int .i64 (x : Int)] 3)) (.slice (some ⟨w.heap.size, 0, none⟩) 1 1) [x] := ⟨_, 1, rfl, Nat.le_refl _, fun e => (by cases e), fun _ => ⟨w.heap.size, 0, _, _, rfl, h, heap_new' _ _, fun i hi => by
  have h0 : i = 0 := by simpa using hi
  subst h0; rfl⟩⟩
theorem plc_new {w w' : World} {B : Nat} {v : Value} {l : List Nat} (h : w'.ownsRow w.heap.size 3 1 v l.length (cellP l)) (hB : B ≤ w.heap.size) : PlcAt 0 B w' v l := plc_of_row h hB

set_option maxRecDepth 100000 in
set_option maxHeartbeats 4000000 in
theorem pjoin_any (va vb : Value) (a b : List Nat) (B : Nat) (w : World) (ha : LstAt B w va a) (hb : LstAt B w vb b) (hB : B ≤ w.heap.size) (hbig : a.length + b.length ≤ 100000) :
    Calls Tryz.prog 60 #[va, vb] w fun e w' => ∃ v', e = .returned v' ∧ LstAt B w' v' (a ++ b) ∧ Below w.heap.size w w' := by
  have HA : Hid (LstAt B w va a) := ha
  have HBB : Hid (LstAt B w vb b) := hb
  obtain ⟨xa, ca, hea⟩ := ha.slice
  obtain ⟨xb, cb, heb⟩ := hb.slice
  subst hea heb
  obtain ⟨la, hla⟩ : ∃ x, x = a.length := ⟨_, rfl⟩
  obtain ⟨lb, hlb⟩ : ∃ x, x = b.length := ⟨_, rfl⟩
  have HL : Hid (la = a.length ∧ lb = b.length) := ⟨hla, hlb⟩
  rw [← hla] at HA ⊢
  rw [← hlb] at HBB ⊢
  by_cases h0 : la = 0
  · have ea : a = [] := List.length_eq_zero_iff.1 (by omega)
    subst h0
    have HE : Hid (a ++ b = b) := by show _ = _; rw [ea]; rfl
    clear ha hb hla hlb ea
    go_enter Tryz.func60, Tryz.ntmps60
    go_wp2
    go_ret
    exact ⟨_, rfl, by rw [HE.out]; exact HBB.out, Below.refl _ _⟩
  by_cases h1 : lb = 0
  · have eb : b = [] := List.length_eq_zero_iff.1 (by omega)
    subst h1
    have HE : Hid (a ++ b = a) := by show _ = _; rw [eb, List.append_nil]
    clear ha hb hla hlb eb
    go_enter Tryz.func60, Tryz.ntmps60
    go_wp2
    go_ret
    exact ⟨_, rfl, by rw [HE.out]; exact HA.out, Below.refl _ _⟩
  have hB1 : Below w.heap.size w (w.alloc (.cells #[.slice xa la ca, .slice xb lb cb] 55)) := below_alloc _ _
  have hc := concat_any w.heap.size (.slice xa la ca) (.slice xb lb cb) a b 0 B (w.alloc (.cells #[.slice xa la ca, .slice xb lb cb] 55)) (heap_new' _ _) (HA.out.plc.below hB1) (HBB.out.plc.below hB1) (by omega) hbig
  have HB1 : Hid (Below w.heap.size w (w.alloc (.cells #[.slice xa la ca, .slice xb lb cb] 55))) := hB1
  clear ha hb hla hlb hB1
  go_enter Tryz.func60, Tryz.ntmps60
  go_wp2_with fail
  refine hc.mono ?_
  rintro e w1 ⟨v1, rfl, ho1, hb1⟩
  have HO1 : Hid (LstAt B w1 v1 (a ++ b)) := lst_of_row ho1 (by simp; omega)
  have HB2 : Hid (Below w.heap.size w w1) := below_after HB1.out hb1
  clear ho1 hb1 hc
  go_wp2
  go_ret
  exact ⟨_, rfl, HO1.out, HB2.out⟩

set_option maxRecDepth 100000 in
set_option maxHeartbeats 4000000 in
theorem pclone_any (va : Value) (a : List Nat) (b0 B : Nat) (w : World) (ha : PlcAt b0 B w va a) (hbig : a.length ≤ 100000) :
    Calls Tryz.prog 19 #[va] w fun e w' => ∃ v', e = .returned v' ∧ w'.ownsRow w.heap.size 3 1 v' a.length (cellP a) ∧ Below w.heap.size w w' := by
  obtain ⟨i0, hi0, hz0, hz1, hz2⟩ := info_parts Tryz.infoInt
  have HA : Hid (PlcAt b0 B w va a) := ha
  have q22 : ∀ (w : World) (a : Option Addr) (n c n' c' : Nat), (binOp .eql 55 (.slice a n c) (.slice none n' c')).run Tryz.prog w = .ok (.bool a.isNone) w := fun w a n c n' c' => Lib.run_eql_slice_nil w _ _ a n c n' c' Tryz.underlying55
  obtain ⟨xa, ca, hea, _⟩ := ha.slice
  subst hea
  obtain ⟨la, hla⟩ : ∃ x, x = a.length := ⟨_, rfl⟩
  have HL : Hid (la = a.length) := hla
  rw [← hla] at HA hbig ⊢
  clear ha hla
  cases xa with
  | none =>
    have ea : a = [] := by
      cases a with
      | nil => rfl
      | cons x l =>
        obtain ⟨ga, oa, e, _⟩ := HA.out.at HL.out (j := 0) (by simp)
        cases e
    have HE : Hid (la = 0 ∧ cellP a = []) := by
      constructor
      · rw [HL.out, ea]; rfl
      · rw [ea]; rfl
    clear ea
    go_enter Tryz.func19, Tryz.ntmps19
    go_wp2
    go_ret
    refine ⟨_, rfl, ?_, Below.refl _ _⟩
    rw [HE.out.1, HE.out.2]
    exact World.ownsRow_nil _ _ _ _
  | some ad =>
    have HS : Hid (∀ o, SrcIs (w.alloc o) (.slice (some ad) la ca) la 1 (cellP a)) := fun o => by
      have := (HA.out.below (below_alloc w o)).src
      rw [← HL.out] at this
      exact this
    go_enter Tryz.func19, Tryz.ntmps19
    go_wp2_with (at_builtin; go_must (refine wpList_append_src _ rfl _ _ 55 rfl w.heap.size 3 i0 (.int .i64 0) 1 8 Tryz.underlying55 hi0 hz0 hz1 hz2 rfl (by decide) _ _ _ rfl (World.ownsRow_made w #[] 0 (Nat.le_refl _) (Nat.zero_le _) (by simp)) _ rfl la (cellP a) (HS.out _) (by unfold maxLen; omega) (by omega) (by simp) ?_); intro v2 w2 ho2 hg2)
    have HO2 : Hid (w2.ownsRow w.heap.size 3 1 v2 la (cellP a)) := by
      show w2.ownsRow _ _ _ _ _ _
      simpa using ho2
    have HB2 : Hid (Below w.heap.size w w2) := (below_alloc w _).grown hg2 (by simp) (fun q e => by
      have e2 : some w.heap.size = some q := e
      injection e2 with e2
      omega)
    clear ho2 hg2
    go_wp2
    go_ret
    exact ⟨_, rfl, HO2.out, HB2.out⟩
end Go.Proofs.YtklhjjgnhigbiaaGreatDoor
