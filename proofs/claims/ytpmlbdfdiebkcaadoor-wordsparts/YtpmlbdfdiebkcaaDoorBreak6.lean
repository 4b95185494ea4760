/-
  words.Break: whether a word ends at a place.
-/
import Derived.Test.YtpmlbdfdiebkcaaDoorPast
namespace Go.Proofs.YtpmlbdfdiebkcaaDoor
open Go.RowKit
set_option linter.unusedVariables false

theorem break_any (l : List Int) (v : Value) (g i : Nat) (w : World) (hd : Ship w g) (hv : IntsAt w.heap.size w v l) (hn : l.length ≤ 10000) (hi : i ≤ l.length) :
    Calls Tryd.prog 15 #[.pointer (some ⟨g, 0, none⟩), v, .int .i64 (i : Int)] w fun e w' => e = .returned (.bool (brk l i)) ∧ Below w.heap.size w w' := by
  rcases Nat.eq_or_lt_of_le hi with rfl | hlt
  · have HC : Hid (Calls Tryd.prog 17 #[.pointer (some ⟨g, 0, none⟩), v, .int .i64 (l.length : Int)] w fun e w' => e = .returned (.bool false) ∧ Below w.heap.size w w') := head_out l v g _ w hv (.inr (Int.le_refl _))
    obtain ⟨a, cap, rfl, hcap, hc⟩ := hv
    rw [brk_end l (Nat.le_refl _)]
    have e1 : ((l.length : Int) == (l.length : Int)) = true := by simp
    clear hc hd hn hi
    go_enter Tryd.func15, Tryd.ntmps15
    go_wp2_with fail
    refine HC.out.mono ?_
    rintro e w1 ⟨rfl, hB1⟩
    have HB1 : Hid (Below w.heap.size w w1) := hB1
    clear hB1
    go_wp2
    go_ret
    exact ⟨rfl, HB1.out⟩
  · have HC : Hid (Calls Tryd.prog 17 #[.pointer (some ⟨g, 0, none⟩), v, .int .i64 (i : Int)] w fun e w' => e = .returned (.bool (headB l i)) ∧ Below w.heap.size w w') := head_any l v g i w hd hv hn hlt
    have HV : Hid (IntsAt w.heap.size w v l) := hv
    have HD : Hid (Ship w g) := hd
    have HN : Hid (l.length ≤ 10000 ∧ i < l.length) := ⟨hn, hlt⟩
    obtain ⟨E, hE⟩ : ∃ E, E = brk l i := ⟨_, rfl⟩
    have HE : Hid (E = brk l i) := hE
    rw [← hE]
    obtain ⟨p, hp⟩ : ∃ p, p = headB l i := ⟨_, rfl⟩
    have HP : Hid (headB l i = p) := hp.symm
    rw [← hp] at HC
    obtain ⟨a, cap, rfl, hcap, hc⟩ := hv
    have e1 : ((i : Int) == (l.length : Int)) = false := by rw [beq_eq_false_iff_ne]; omega
    clear hc hd hn hi hlt hE hp
    go_enter Tryd.func15, Tryd.ntmps15
    go_wp2_with fail
    refine HC.out.mono ?_
    rintro e w1 ⟨rfl, hB1⟩
    have HB1 : Hid (Below w.heap.size w w1) := hB1
    clear hB1
    cases p with
    | false =>
      obtain rfl : E = false := by rw [HE.out]; exact brk_nohead HN.out.2 HP.out
      go_wp2
      go_ret
      exact ⟨rfl, HB1.out⟩
    | true =>
      go_wp2_with fail
      refine (past_any g _ l HN.out.1 i (Nat.le_of_lt HN.out.2) w1 (HD.out.below HB1.out) (HV.out.on HB1.out)).mono ?_
      rintro e w2 ⟨rfl, hB2⟩
      have HB2 : Hid (Below w.heap.size w w2) := HB1.out.trans (hB2.mono HB1.out.size)
      clear hB2
      have HEN : Hid (Calls Tryd.prog 24 #[.pointer (some ⟨g, 0, none⟩), .slice a l.length cap, .int .i64 (i : Int), pastV ((hk l i)[1]?.getD 0) ((hk l i)[0]?.getD 0) (regK (hk l i) : Int)] w2 fun e w' => e = .returned (.bool E) ∧ Below w2.heap.size w2 w') := by
        rw [HE.out, ← ends_brk HP.out]
        exact ends_any l _ g i _ _ _ w2 (HD.out.below HB2.out) (HV.out.on HB2.out) HN.out.1 HN.out.2
      obtain ⟨pv, hpv⟩ : ∃ pv, pv = pastV ((hk l i)[1]?.getD 0) ((hk l i)[0]?.getD 0) (regK (hk l i) : Int) := ⟨_, rfl⟩
      rw [← hpv] at HEN ⊢
      clear hpv
      go_wp2_with fail
      refine HEN.out.mono ?_
      rintro e w3 ⟨rfl, hB3⟩
      have HB3 : Hid (Below w.heap.size w w3) := HB2.out.trans (hB3.mono HB2.out.size)
      clear hB3
      go_wp2
      go_ret
      exact ⟨rfl, HB3.out⟩
theorem break_out (l : List Int) (v : Value) (g : Nat) (i : Int) (w : World) (hv : IntsAt w.heap.size w v l) (hi : i < 0 ∨ (l.length : Int) < i) :
    Calls Tryd.prog 15 #[.pointer (some ⟨g, 0, none⟩), v, .int .i64 i] w fun e w' => e = .returned (.bool false) ∧ Below w.heap.size w w' := by
  have HC : Hid (Calls Tryd.prog 17 #[.pointer (some ⟨g, 0, none⟩), v, .int .i64 i] w fun e w' => e = .returned (.bool false) ∧ Below w.heap.size w w') := head_out l v g _ w hv (by omega)
  obtain ⟨a, cap, rfl, hcap, hc⟩ := hv
  have e1 : (i == (l.length : Int)) = false := by rw [beq_eq_false_iff_ne]; omega
  clear hc hi
  go_enter Tryd.func15, Tryd.ntmps15
  go_wp2_with fail
  refine HC.out.mono ?_
  rintro e w1 ⟨rfl, hB1⟩
  have HB1 : Hid (Below w.heap.size w w1) := hB1
  clear hB1
  go_wp2
  go_ret
  exact ⟨rfl, HB1.out⟩
end Go.Proofs.YtpmlbdfdiebkcaaDoor
