/-
  The places that are marked, as a list.
-/
import Derived.Test.YtehkaiohmcenbaaDoorFlMark
namespace Go.Proofs.YtehkaiohmcenbaaDoor
open Go.RowKit Go.Shelf
set_option linter.unusedVariables false

/-- The numbers below n that f takes. -/
def rgF (f : Nat → Bool) (n : Nat) : List Nat := (List.range n).filter f
theorem rgF_gap {f : Nat → Bool} {a : Nat} : ∀ {b : Nat}, a ≤ b → (∀ y, a ≤ y → y < b → f y = false) → rgF f b = rgF f a
  | b, h, g => by
    obtain ⟨k, rfl⟩ := Nat.exists_eq_add_of_le h
    induction k with
    | zero => rfl
    | succ k ih =>
      have := ih (by omega) (fun y h1 h2 => g y h1 (by omega))
      rw [← this]
      show (List.range (a + k + 1)).filter f = _
      rw [List.range_succ, List.filter_append]
      simp [g (a + k) (by omega) (by omega), rgF]
theorem rgF_next {f : Nat → Bool} {a b : Nat} (h : a ≤ b) (g : ∀ y, a ≤ y → y < b → f y = false) (hb : f b = true) : rgF f (b + 1) = rgF f a ++ [b] := by
  rw [← rgF_gap h g]
  show (List.range (b + 1)).filter f = _
  rw [List.range_succ, List.filter_append]
  simp [hb, rgF]
theorem rgF_mem {f : Nat → Bool} {n x : Nat} : x ∈ rgF f n ↔ x < n ∧ f x = true := by simp [rgF]
theorem rgF_len (f : Nat → Bool) (n : Nat) : (rgF f n).length ≤ n := by
  have := List.length_filter_le f (List.range n)
  simpa [rgF] using this
theorem rgF_ris (f : Nat → Bool) (n : Nat) : (rgF f n).Pairwise (· < ·) := List.pairwise_lt_range.filter f
/-- The lowest bit, and what is left behind it. -/
theorem low_bit {x : Nat} (h0 : x ≠ 0) (hx : x < 2 ^ 64) : Lib.ctz 64 x < 64 ∧ x.testBit (Lib.ctz 64 x) = true ∧ (∀ y, y < Lib.ctz 64 x → x.testBit y = false) ∧ (x &&& (x - 1) < x) ∧ ∀ y, (x &&& (x - 1)).testBit y = (x.testBit y && decide (Lib.ctz 64 x < y)) := by
  obtain ⟨m, hm, hk⟩ := Lib.ctzFrom_spec 64 x (by omega) hx
  have e : Lib.ctz 64 x = Lib.ctzFrom 64 x := by simp [Lib.ctz, h0]
  rw [← e] at hm hk
  obtain ⟨k, hkk⟩ : ∃ k, k = Lib.ctz 64 x := ⟨_, rfl⟩
  rw [← hkk] at hm hk ⊢
  have hp : 0 < 2 ^ k := Nat.two_pow_pos k
  have e1 : x = 2 ^ (k + 1) * m + 2 ^ k := by rw [hm, Nat.pow_succ, Nat.mul_add, Nat.mul_one, Nat.mul_assoc]
  have e2 : x - 1 = 2 ^ (k + 1) * m + (2 ^ k - 1) := by omega
  have h1 : 2 ^ k < 2 ^ (k + 1) := by rw [Nat.pow_succ]; omega
  have t1 : ∀ y, x.testBit y = if y < k + 1 then decide (k = y) else m.testBit (y - (k + 1)) := fun y => by
    rw [e1, Nat.testBit_two_pow_mul_add _ h1, Nat.testBit_two_pow]
  have t2 : ∀ y, (x - 1).testBit y = if y < k + 1 then decide (y < k) else m.testBit (y - (k + 1)) := fun y => by
    rw [e2, Nat.testBit_two_pow_mul_add _ (by omega), Nat.testBit_two_pow_sub_one]
  refine ⟨hk, ?_, fun y hy => ?_, ?_, fun y => ?_⟩
  · rw [t1, if_pos (by omega)]; simp
  · rw [t1, if_pos (by omega)]; simp; omega
  · have : x &&& (x - 1) ≤ x - 1 := Nat.and_le_right
    omega
  · rw [Nat.testBit_and, t1, t2]
    by_cases q : y < k + 1
    · rw [if_pos q, if_pos q]
      by_cases q2 : k = y
      · subst q2; simp
      · simp [q2]
    · rw [if_neg q, if_neg q]
      have : k < y := by omega
      simp [this]
theorem mb_word {ms : List Nat} {i y : Nat} (hi : i < ms.length) (hy : y < 64) : mb ms (64 * i + y) = ms[i].testBit y := by
  unfold mb
  rw [show (64 * i + y) / 64 = i by omega, show (64 * i + y) % 64 = y by omega, getD_at hi]

set_option maxRecDepth 100000 in
set_option maxHeartbeats 8000000 in
theorem mlist_any (last g nw : Nat) (ms : List Nat) (w : World) (hT : TabW w) (hm : MrkAt w g ms) (hf : Fit ms) (hn : ms.length = nw) (hnw : nw ≤ 1000) :
    Calls Tryd.prog 43 #[mrkV last g nw] w fun e w' => ∃ v', e = .returned v' ∧ w'.ownsRow w.heap.size 3 1 v' (rgF (mb ms) (64 * nw)).length (cellP (rgF (mb ms) (64 * nw))) ∧ Below w.heap.size w w' := by
  obtain ⟨i0, hi0, hz0, hz1, hz2⟩ := info_parts Tryd.infoInt
  have hgl := hm.lt
  have HM : Hid (MrkAt w g ms) := hm
  have HF : Hid (Fit ms) := hf
  have HN : Hid (ms.length = nw) := hn
  have HT : Hid (TabW w) := hT
  have HB0 : Hid (Below w.heap.size w (w.alloc (.cells #[.int .i64 (last : Int), .slice (some ⟨g, 0, none⟩) nw nw] 63))) := below_alloc _ _
  unfold mrkV
  clear hm hf hn hT
  go_enter Tryd.func43, Tryd.ntmps43
  go_wp2
  go_loopw [3, 9] (fun x3 x9 wr => ∃ (j : Nat), j ≤ nw ∧ x9 = .int .i64 (j : Int) ∧ Hid (wr.ownsRow w.heap.size 3 1 x3 (rgF (mb ms) (64 * j)).length (cellP (rgF (mb ms) (64 * j)))) ∧ Hid (Below w.heap.size w wr)) (fun _ x9 _ => nw - (intOf x9).toNat)
  case atStart => exact ⟨0, Nat.zero_le _, rfl, (by show World.ownsRow _ _ _ _ _ _ _; simpa [rgF, cellP] using World.ownsRow_nil _ _ _ _), HB0⟩
  case round =>
    obtain ⟨j, hj, rfl, HO, HB⟩ := hrel
    by_cases hjl : j < nw
    · have hjm : j < ms.length := by rw [HN.out]; exact hjl
      obtain ⟨X, hX⟩ : ∃ X, X = ms[j] := ⟨_, rfl⟩
      have m0 : wr.cell? ⟨g, j, none⟩ = some (.int .u64 (X : Int)) := by rw [hX]; exact (HB.out.cell (p := ⟨g, _, none⟩) hgl).trans (HM.out.cell hjm)
      have HX : Hid (∀ y, y < 64 → mb ms (64 * j + y) = X.testBit y) := fun y hy => by rw [mb_word hjm hy, hX]
      have HX64 : Hid (X < 2 ^ 64) := by show _ < _; rw [hX]; exact HF.out _ (List.getElem_mem hjm)
      have hj0 : (0 : Int) ≤ (j : Int) := by omega
      have hj1 : (j : Int) < (nw : Int) := by omega
      clear hX
      go_wp2
      go_loopw [3, 5] (fun x3 x5 wr => ∃ (t L : Nat), t ≤ 64 ∧ x5 = .int .u64 (L : Int) ∧ L < 18446744073709551616 ∧ Hid (∀ y, L.testBit y = (decide (t ≤ y) && X.testBit y)) ∧ Hid (wr.ownsRow w.heap.size 3 1 x3 (rgF (mb ms) (64 * j + t)).length (cellP (rgF (mb ms) (64 * j + t)))) ∧ Hid (Below w.heap.size w wr)) (fun _ x5 _ => (intOf x5).toNat)
      case atStart => exact ⟨0, X, Nat.zero_le _, rfl, by simpa using HX64.out, (fun y => by simp), HO, HB⟩
      case round =>
        obtain ⟨t, L, ht, rfl, hL, HL, HOi, HBi⟩ := hrel
        by_cases hL0 : L = 0
        · subst hL0
          have HO2 : Hid (wr.ownsRow w.heap.size 3 1 u3 (rgF (mb ms) (64 * (j + 1))).length (cellP (rgF (mb ms) (64 * (j + 1))))) := by
            have : rgF (mb ms) (64 * (j + 1)) = rgF (mb ms) (64 * j + t) := rgF_gap (by omega) (fun y h1 h2 => by
              obtain ⟨z, rfl⟩ : ∃ z, y = 64 * j + z := ⟨y - 64 * j, by omega⟩
              rw [HX.out z (by omega)]
              have := HL.out z
              rw [Nat.zero_testBit] at this
              have h3 : decide (t ≤ z) = true := by simp; omega
              rw [h3, Bool.true_and] at this
              exact this.symm)
            show wr.ownsRow _ _ _ _ _ _
            rw [this]; exact HOi.out
          go_wp2
          go_roundw
          case rel => exact ⟨j + 1, by omega, by go_num, HO2, HBi⟩
          case measure => simp [intOf]; omega
        · have hl0 : ((L : Int) != 0) = true := by simp; omega
          obtain ⟨hk, hb, hlow, hlt, hleft⟩ := low_bit hL0 hL
          obtain ⟨k, hkk⟩ : ∃ k, k = Lib.ctz 64 L := ⟨_, rfl⟩
          have htz := tz_any L hL hL0 wr (HT.out.below HBi.out)
          rw [← hkk] at hk hb hlow hleft htz
          have htk : t ≤ k := by
            have := HL.out k
            rw [hb] at this
            simp at this
            exact this.1
          have HXk : Hid (mb ms (64 * j + k) = true) := by
            have := HL.out k
            rw [hb] at this
            simp at this
            exact (HX.out k hk).trans this.2
          have HNX : Hid (rgF (mb ms) (64 * j + (k + 1)) = rgF (mb ms) (64 * j + t) ++ [64 * j + k]) := rgF_next (b := 64 * j + k) (by omega) (fun y h1 h2 => by
            obtain ⟨z, rfl⟩ : ∃ z, y = 64 * j + z := ⟨y - 64 * j, by omega⟩
            rw [HX.out z (by omega)]
            have := HL.out z
            rw [hlow z (by omega)] at this
            have h3 : decide (t ≤ z) = true := by simp; omega
            rw [h3, Bool.true_and] at this
            exact this.symm) HXk.out
          have HL2 : Hid (∀ y, (L &&& (L - 1)).testBit y = (decide (k + 1 ≤ y) && X.testBit y)) := fun y => by
            rw [hleft, HL.out]
            by_cases q : k < y
            · have h1 : t ≤ y := by omega
              have h2 : k + 1 ≤ y := q
              simp [q, h1, h2]
            · have h2 : ¬ k + 1 ≤ y := q
              simp [q, h2]
          have HAND : Hid (bits .and .u64 (L : Int) ((L : Int) - 1) = ((L &&& (L - 1) : Nat) : Int)) := by
            show _ = _
            rw [show (L : Int) - 1 = ((L - 1 : Nat) : Int) by omega]
            exact bits_and_u64_nat L (L - 1) hL (by omega)
          have HLT : Hid (L &&& (L - 1) < L) := hlt
          have hws : w.heap.size ≤ wr.heap.size := HBi.out.size
          have hlen : (rgF (mb ms) (64 * j + t)).length ≤ 64 * j + t := rgF_len _ _
          have HLEN : Hid ((rgF (mb ms) (64 * j + t)).length ≤ 100000) := by show _ ≤ _; omega
          have hwr : IntKind.u64.wrap ((L : Int) - 1) = (L : Int) - 1 := by rw [IntKind.wrap_u64]; omega
          clear hkk hb hlow hleft hlt hlen
          go_wp2_with (first | (go_at_call 68; refine htz.mono ?_; rintro e w1 ⟨rfl, rfl⟩) | (at_builtin; go_must (refine wpList_append_own _ rfl _ _ 65 rfl w.heap.size 3 i0 (.int .i64 0) 1 8 Tryd.underlying65 hi0 hz0 hz1 hz2 rfl (by decide) _ _ _ rfl (HOi.out.alloc _) ⟨w1.heap.size, 0, none⟩ 1 1 [.int .i64 ((64 * j + k : Nat) : Int)] rfl rfl (World.news_of_block (by exact heap_new' _ _)) (by simp [Value.oneCell']) (by unfold maxLen; have := HLEN.out; omega) (by have := HLEN.out; omega) (by simp; omega) ?_); intro v2 w2 ho2 hg2 _))
          have HO2 : Hid (w2.ownsRow w.heap.size 3 1 v2 (rgF (mb ms) (64 * j + (k + 1))).length (cellP (rgF (mb ms) (64 * j + (k + 1))))) := by
            show w2.ownsRow _ _ _ _ _ _
            rw [HNX.out, cellP_snoc, List.length_append]
            exact ho2
          have HB2 : Hid (Below w.heap.size w w2) := (HBi.out.alloc hws _).grown hg2 (by simp; omega) (fun q e => (HOi.out.lt q e).1)
          clear ho2 hg2 htz
          go_wp2
          go_roundw
          case rel => exact ⟨k + 1, L &&& (L - 1), by omega, by first | (rw [HAND.out]) | (rw [hwr, HAND.out]), by have := HLT.out; omega, HL2, HO2, HB2⟩
          case measure => simp [intOf]; have := HLT.out; have := HAND.out; omega
    · obtain rfl : j = nw := by omega
      have HO' := HO
      go_wp2
      go_ret
      exact ⟨_, rfl, HO'.out, HB.out⟩
end Go.Proofs.YtehkaiohmcenbaaDoor
