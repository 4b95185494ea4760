/-
  words.Head: whether a code point is a head.
-/
import Derived.Test.YtpmlbdfdiebkcaaDoorInts6
namespace Go.Proofs.YtpmlbdfdiebkcaaDoor
open Go.RowKit
set_option linter.unusedVariables false

theorem ship_wd (w : World) (g : Nat) (r : Int) (h : Ship w g) : Calls Tryd.prog 19 #[.pointer (some ⟨g, 0, none⟩), .int .i64 r] w fun e w' => e = .returned (.int .i64 (wdV r)) ∧ Below w.heap.size w w' := ship_word w g r h
theorem ship_pic (w : World) (g : Nat) (r : Int) (h : Ship w g) : Calls Tryd.prog 51 #[.pointer (some ⟨g, 0, none⟩), .int .i64 r] w fun e w' => e = .returned (.bool (piV r)) ∧ Below w.heap.size w w' := ship_picto w g r h
theorem head_zero {l : List Int} (h : 0 < l.length) : headB l 0 = true := by unfold headB; rw [decide_eq_true h]; rfl
theorem head_pos {l : List Int} {m : Nat} (h : m + 1 < l.length) : headB l (m + 1) = (lineK (wdV (l[m]'(by omega))) || !markK (wdV l[m + 1])) := by
  unfold headB
  rw [decide_eq_true h, Nat.add_sub_cancel, kd_get (by omega), kd_get h]
  simp

set_option maxRecDepth 100000 in
set_option maxHeartbeats 8000000 in
theorem head_any (l : List Int) (v : Value) (g i : Nat) (w : World) (hd : Ship w g) (hv : IntsAt w.heap.size w v l) (hn : l.length ≤ 10000) (hi : i < l.length) :
    Calls Tryd.prog 17 #[.pointer (some ⟨g, 0, none⟩), v, .int .i64 (i : Int)] w fun e w' => e = .returned (.bool (headB l i)) ∧ Below w.heap.size w w' := by
  by_cases i0 : i = 0
  · subst i0
    obtain ⟨a, cap, rfl, hcap, hc⟩ := hv
    rw [head_zero hi]
    have h1 : decide ((l.length : Int) ≤ 0) = false := decide_eq_false (by omega)
    have h2 : decide (l.length ≤ 0) = false := decide_eq_false (by omega)
    have h3 : (l.length == 0) = false := by rw [beq_eq_false_iff_ne]; omega
    have h4 : ¬ l.length = 0 := by omega
    clear hc hd hn hi
    go_enter Tryd.func17, Tryd.ntmps17
    go_wp2
    go_ret
    exact ⟨rfl, Below.refl _ _⟩
  obtain ⟨m, rfl⟩ : ∃ m, i = m + 1 := ⟨i - 1, by omega⟩
  have HV : Hid (IntsAt w.heap.size w v l) := hv
  obtain ⟨a, cap, rfl, hcap, hc⟩ := hv
  obtain ⟨gi, off, rfl, hg, c0⟩ := hc m (by omega)
  obtain ⟨gj, offj, ej, _, c1⟩ := hc (m + 1) (by omega)
  obtain ⟨rfl, rfl⟩ : gi = gj ∧ off = offj := by cases ej; exact ⟨rfl, rfl⟩
  obtain ⟨x, hx⟩ : ∃ x, x = l[m]'(by omega) := ⟨_, rfl⟩
  obtain ⟨y, hy⟩ : ∃ y, y = l[m + 1]'(by omega) := ⟨_, rfl⟩
  obtain ⟨E, hE⟩ : ∃ E, E = headB l (m + 1) := ⟨_, rfl⟩
  have HE : Hid (E = (lineK (wdV x) || !markK (wdV y))) := by
    show E = _
    rw [hE, head_pos hi, hx, hy]
  rw [← hx] at c0
  rw [← hy] at c1
  rw [← hE]
  clear hE hx hy hc ej
  obtain ⟨i, hi'⟩ : ∃ i, i = m + 1 := ⟨_, rfl⟩
  rw [← hi'] at c1 i0 ⊢
  have HX : Hid (∀ w', Below w.heap.size w w' → w'.cell? ⟨gi, off + m, none⟩ = some (.int .i64 x)) := fun w' hw' => (hw'.cell (p := ⟨gi, _, none⟩) hg).trans c0
  have HY : Hid (∀ w', Below w.heap.size w w' → w'.cell? ⟨gi, off + i, none⟩ = some (.int .i64 y)) := fun w' hw' => (hw'.cell (p := ⟨gi, _, none⟩) hg).trans c1
  have HD : Hid (Ship w g) := hd
  have e0 : ((i : Int) == 0) = false := by simp; omega
  have e1 : decide ((i : Int) < 0) = false := decide_eq_false (by omega)
  have e2 : decide ((l.length : Int) ≤ (i : Int)) = false := decide_eq_false (by omega)
  have e3 : decide (l.length ≤ i) = false := decide_eq_false (by omega)
  have hw1 : IntKind.i64.wrap ((i : Int) - 1) = (m : Int) := (IntWalk.i64_in _ (by omega)).trans (by omega)
  have hm1 : (m : Int) < (l.length : Int) := by omega
  have hi1 : (i : Int) < (l.length : Int) := by omega
  have d0 := HX.out w (Below.refl _ _)
  clear c0 c1 hd hn hi hi' i0 hg
  go_enter Tryd.func17, Tryd.ntmps17
  go_wp2_with fail
  refine (ship_wd w g x HD.out).mono ?_
  rintro e w1 ⟨rfl, hB1⟩
  have HB1 : Hid (Below w.heap.size w w1) := hB1
  clear hB1
  go_wp2_with fail
  refine (line_any _ w1).mono ?_
  rintro e w2 ⟨rfl, hB2⟩
  have HB2 : Hid (Below w.heap.size w w2) := HB1.out.trans (hB2.mono HB1.out.size)
  clear hB2 d0
  obtain ⟨p, hp⟩ : ∃ p, p = lineK (wdV x) := ⟨_, rfl⟩
  rw [← hp] at HE ⊢
  clear hp
  cases p with
  | true =>
    obtain rfl : E = true := by rw [HE.out]; rfl
    go_wp2
    go_ret
    exact ⟨rfl, HB2.out⟩
  | false =>
    have d1 := HY.out w2 HB2.out
    go_wp2_with fail
    refine (ship_wd w2 g y (HD.out.below HB2.out)).mono ?_
    rintro e w3 ⟨rfl, hB3⟩
    have HB3 : Hid (Below w.heap.size w w3) := HB2.out.trans (hB3.mono HB2.out.size)
    clear hB3
    go_wp2_with fail
    refine (mark_any _ w3).mono ?_
    rintro e w4 ⟨rfl, hB4⟩
    have HB4 : Hid (Below w.heap.size w w4) := HB3.out.trans (hB4.mono HB3.out.size)
    clear hB4 d1
    obtain ⟨p, hp⟩ : ∃ p, p = markK (wdV y) := ⟨_, rfl⟩
    rw [← hp] at HE ⊢
    clear hp
    cases p with
    | true =>
      obtain rfl : E = false := by rw [HE.out]; rfl
      go_wp2
      go_ret
      exact ⟨rfl, HB4.out⟩
    | false =>
      obtain rfl : E = true := by rw [HE.out]; rfl
      go_wp2
      go_ret
      exact ⟨rfl, HB4.out⟩
theorem head_out (l : List Int) (v : Value) (g : Nat) (i : Int) (w : World) (hv : IntsAt w.heap.size w v l) (hi : i < 0 ∨ (l.length : Int) ≤ i) :
    Calls Tryd.prog 17 #[.pointer (some ⟨g, 0, none⟩), v, .int .i64 i] w fun e w' => e = .returned (.bool false) ∧ Below w.heap.size w w' := by
  obtain ⟨a, cap, rfl, hcap, hc⟩ := hv
  clear hc
  by_cases h : i < 0
  · clear hi
    go_enter Tryd.func17, Tryd.ntmps17
    go_wp2
    go_ret
    exact ⟨rfl, Below.refl _ _⟩
  · have h1 : decide (i < 0) = false := decide_eq_false h
    have h2 : (l.length : Int) ≤ i := by omega
    clear hi h
    go_enter Tryd.func17, Tryd.ntmps17
    go_wp2
    go_ret
    exact ⟨rfl, Below.refl _ _⟩
end Go.Proofs.YtpmlbdfdiebkcaaDoor
