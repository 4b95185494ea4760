/-
  What utf.put answers: the bytes of a code point, behind what is owned.
-/
import Derived.Test.YtahgjhpcfmjjkabDoorSize
import Derived.OwnWalk
import Derived.Outline
import Derived.Maps.AppendAt
import Derived.Deep.RegionHeld3
import Derived.Deep.AppendLies
namespace Go.Proofs.YtahgjhpcfmjjkabDoor
open Go.RowKit
set_option linter.unusedVariables false

theorem Tryd.infoByte : (Tryd.prog.info? 5).map (fun i => (i.zero, i.size, i.bytes)) = some (some (.int .u8 0), 1, 1) := by kernel_rfl

set_option maxHeartbeats 400000 in
theorem put_core (r : Int) (K : Nat) (M : Int) (h0 : 0 ≤ r) (h1 : r ≤ 1114111) (hK : K ≤ 3) (es : szR r = (K : Int) + 1) (v : Value) (n : Nat) (xs : List Value) (base : Nat) (w : World) (hm : w.cell? ⟨0, K + 1, none⟩ = some (.int .u8 M)) (hown : w.ownsRow base 5 1 v n xs) (hn : n ≤ 1000000) (hb : base ≤ w.heap.size) (hb1 : 1 ≤ base) :
    Calls Tryd.prog 12 #[v, .int .i64 r] w fun e w' => ∃ v', e = .returned v' ∧ w'.ownsRow base 5 1 v' (n + 1 + K) (xs ++ (headB M r K :: tailsB r K 0).map (Value.int .u8)) ∧ Below base w w' := by
  obtain ⟨i0, hi, hz0, hz1, hz2⟩ := info_parts Tryd.infoByte
  have hs := size_any r
  rw [es] at hs
  clear es
  have hs' : Hid (∀ w : World, Calls Tryd.prog 11 #[.int .i64 r] w fun e w' => e = .returned (.int .i64 (K + 1)) ∧ w = w') := fun w => (hs w).mono fun e w' h => ⟨h.1, h.2.symm⟩
  clear hs
  have hk0 : (0 : Int) ≤ (K : Int) + 1 := by omega
  have hk1 : (K : Int) + 1 < 5 := by omega
  have hkn : ((K : Int) + 1).toNat = K + 1 := by omega
  have hne : Hid (some 0 ≠ v.ownBlock) := fun e => by have := hown.lt 0 e.symm; omega
  have hbl : ∀ k, v.ownBlock = some k → base ≤ k := fun k e => (hown.lt k e).1
  go_enter Tryd.func12, Tryd.ntmps12
  go_wp2_with (go_at_call 11; refine (hs'.out _).mono ?_; rintro e w' ⟨rfl, rfl⟩)
  go_region_held3 (fun w' => w'.cell? ⟨0, K + 1, none⟩ = some (.int .u8 M)) (first | go_keep | (rw [hgrow.cell_far _ (by simp) hne.out]; go_keep)) ((refine step_append_lies _ (by rfl) _ _ _ (by rfl) base 5 i0 (.int .u8 0) 1 1 Tryd.underlying23 hi hz0 hz1 hz2 rfl (by omega) v n xs (by rfl) (by exact (hown.alloc _).drew) _ 1 1 _ (by rfl) rfl (by exact cell_one_new _ _ _) (by simp [Value.oneCell']) (by omega) (by unfold maxLen; omega) (by omega) (by simp; omega) _ rfl ?_; intro g cap w1 hown1 hgrow hat hlt))
  have hB1 : Below base w w1 := (((Below.refl base w).alloc hb _).drew).grown hgrow (by simp; omega) hbl
  have ho1 : w1.ownsRow base 5 1 (.slice (some ⟨g, 0, none⟩) (n + 1) cap) (n + 1) (xs ++ [.int .u8 (headB M r K)]) := hown1
  have hw1 : base ≤ w1.heap.size := by have := hB1.size; omega
  clear hown1 hgrow hat hlt hm hown hne hbl
  go_wp2
  go_loopw [0, 6] (fun v s wr => ∃ k : Nat, k ≤ K ∧ s = .int .i64 (6 * k) ∧ wr.ownsRow base 5 1 v (n + 1 + (K - k)) (xs ++ (headB M r K :: tailsB r K k).map (Value.int .u8)) ∧ Below base w wr) (fun _ s _ => (intOf s).toNat)
  case atStart => exact ⟨K, Nat.le_refl _, rfl, by rw [Nat.sub_self, tailsB_self]; exact ho1, hB1⟩
  case round =>
    obtain ⟨k, hkK, rfl, hown, hB⟩ := hrel
    clear ho1 hB1
    by_cases hk : k = 0
    · subst hk
      go_wp2
      go_ret
      exact ⟨_, rfl, hown, hB⟩
    · obtain ⟨j, rfl⟩ : ∃ j, k = j + 1 := ⟨k - 1, by omega⟩
      have hbw := hB.size
      have hbl : Hid (∀ k, u0.ownBlock = some k → base ≤ k) := fun k e => (hown.lt k e).1
      go_wp2_with (at_builtin; refine wpList_append_lies _ rfl _ _ 23 rfl base 5 i0 (.int .u8 0) 1 1 Tryd.underlying23 hi hz0 hz1 hz2 rfl (by omega) _ _ _ rfl (hown.alloc _) ⟨wr.heap.size, 0, none⟩ 1 1 _ rfl rfl (cell_one_new _ _ _) (by simp [Value.oneCell']) (by omega) (by unfold maxLen; omega) (by omega) (by simp; omega) _ rfl ?_; intro g2 cap2 w2 hown2 hgrow2 hat2 hlt2)
      have hB2 : Below base w w2 := (hB.alloc (by omega) _).grown hgrow2 (by simp; omega) hbl.out
      have el : n + 1 + (K - (j + 1)) + 1 = n + 1 + (K - j) := by omega
      go_roundw
      case rel =>
        have e6 : 6 * (j + 1) - 6 = 6 * j := by omega
        rw [e6] at hown2
        refine ⟨_, _, _, _, _, _, _, _, _, _, _, _, _, _, _, ⟨j, by omega, by go_num, ?_, hB2⟩, rfl⟩
        rw [tailsB_step r K j (by omega), ← el]
        simpa [tailB] using hown2
      case measure => simp [intOf]; omega

/-- The table of the first bytes' marks, as the program's text lays it. -/
def Marks (w : World) : Prop := ∀ K, K ≤ 3 → w.cell? ⟨0, K + 1, none⟩ = some (.int .u8 (markOf K))

theorem Marks.below {B : Nat} {w w' : World} (h : Marks w) (hb : Below B w w') (hB : 1 ≤ B) : Marks w' :=
  fun K hK => (hb.cell (p := ⟨0, K + 1, none⟩) (by show 0 < B; omega)).trans (h K hK)

/-- The bytes of a code point, as cells. -/
def encV (r : Int) : List Value := (encR r).map (Value.int .u8)

theorem put_any (r : Int) (hr : isR r = true) (v : Value) (n : Nat) (xs : List Value) (base : Nat) (w : World) (hm : Marks w) (hown : w.ownsRow base 5 1 v n xs) (hn : n ≤ 1000000) (hb : base ≤ w.heap.size) (hb1 : 1 ≤ base) :
    Calls Tryd.prog 12 #[v, .int .i64 r] w fun e w' => ∃ v', e = .returned v' ∧ w'.ownsRow base 5 1 v' (n + (encR r).length) (xs ++ encV r) ∧ Below base w w' := by
  have h1 := szR_01 r
  have h2 : szR r ≠ 0 := fun e => by rw [szR_zero.1 e] at hr; cases hr
  obtain ⟨K, hK⟩ : ∃ K : Nat, szR r = (K : Int) + 1 := ⟨(szR r - 1).toNat, by omega⟩
  have hr' := hr
  simp only [isR, decide_eq_true_eq] at hr'
  have e := encB_eq r K hr hK
  have el := encR_length hr
  have := put_core r K (markOf K) (by omega) (by omega) (by omega) hK v n xs base w (hm K (by omega)) hown hn hb hb1
  refine this.mono fun e' w' h => ?_
  obtain ⟨v', hv, ho, hB⟩ := h
  refine ⟨v', hv, ?_, hB⟩
  have en : n + 1 + K = n + (encR r).length := by omega
  rw [e, en] at ho
  exact ho
end Go.Proofs.YtahgjhpcfmjjkabDoor
