/-
  What the reader's small methods answer: at, sign, take, takeAll. What takeBlanks and stuck answer. What since, atMost and number answer.
-/
import Derived.Test.YtohaegaocklnkaaGreatDoorX05
namespace Go.Proofs.YtohaegaocklnkaaGreatDoor
open Go.RowKit Go.Shelf S1
set_option linter.unusedVariables false

set_option maxHeartbeats 1000000 in
theorem at_any (us : List U) (R : Nat) (a : Option Addr) (n cap : Nat) (w : World) (hrd : Rd w R (.slice a n cap) us) :
    Calls Tryz.prog 79 #[.pointer (some ⟨R, 0, none⟩)] w fun e w' => e = .returned (.int .i64 (atL n us : Int)) ∧ w = w' := by
  match us, hrd with
  | [], hrd =>
    obtain ⟨ua, uc, h1, h0, hl⟩ := hrd.nil
    go_enter Tryz.func79, Tryz.ntmps79
    go_wp2
    go_ret
    exact ⟨rfl, rfl⟩
  | u :: t, hrd =>
    obtain ⟨g, off, uc, h1, hc, hf, hl, hne, hgl, c0, c1, c3, hu⟩ := hrd.cons
    have hz : ((t.length : Int) + 1 == 0) = false := by simp; omega
    go_enter Tryz.func79, Tryz.ntmps79
    go_wp2
    go_ret
    exact ⟨rfl, rfl⟩

set_option maxRecDepth 100000 in
set_option maxHeartbeats 2000000 in
/-- sign, where the next unit is not bad, and the rule answers true of it. -/
theorem sign0_t (g : Nat) (eg : ∀ args w, (callFunc g args).run Tryz.prog w = .ok (.enter g args) w) (w w1 : World) (R : Nat) (tv : Value) (u : U) (t : List U) (hb : u.bad = false) (hrd : Rd w R tv (u :: t)) (hrd1 : Rd w1 R tv (u :: t))
    (hcall : Calls Tryz.prog g #[.int .i64 u.r] w fun e w' => e = .returned (.bool true) ∧ w1 = w') :
    Calls Tryz.prog 114 #[.pointer (some ⟨R, 0, none⟩), .func (.func g) #[] #[]] w fun e w' => e = .returned (.tuple #[.int .i64 u.r, .bool true]) ∧ Rd w' R tv t ∧ w1.grownBy w' (some R) := by
  have HC : Hid (Calls Tryz.prog g #[.int .i64 u.r] w fun e w' => e = .returned (.bool true) ∧ w1 = w') := hcall
  have H1 : Hid (Rd w1 R tv (u :: t)) := hrd1
  obtain ⟨gu, off, uc, h1, hc, hf, hl, hne, hgl, c0, c1, c3, hu⟩ := hrd.cons
  obtain ⟨gu', off', uc', h1', hc', hf', hl', hne', hgl', c0', c1', c3', hu'⟩ := hrd1.cons
  rw [hb] at c3 c3'
  have HU : Hid (UniAt R w1 (.slice (some ⟨gu', off', none⟩) (t.length + 1) uc') (u :: t)) := hu'
  have hz : ((t.length : Int) + 1 == 0) = false := by simp; omega
  clear hcall hrd hrd1 hu hu' c1 c1' c3'
  go_enter Tryz.func114, Tryz.ntmps114
  go_wp2_with fail
  refine HC.out.mono ?_
  rintro e w' ⟨rfl, rfl⟩
  go_wp2
  all_goals
    go_ret2
    refine ⟨rfl, Rd.took H1.out _ ?_, grownR_set _ _ _ _⟩
    refine HU.out.tail' _ _ ?_
    intro q
    first | exact ⟨rfl, rfl⟩ | omega

set_option maxRecDepth 100000 in
set_option maxHeartbeats 2000000 in
/-- sign, where the next unit is not bad, and the rule answers false of it. -/
theorem sign0_f (g : Nat) (eg : ∀ args w, (callFunc g args).run Tryz.prog w = .ok (.enter g args) w) (w w1 : World) (R : Nat) (tv : Value) (u : U) (t : List U) (hb : u.bad = false) (hrd : Rd w R tv (u :: t)) (hrd1 : Rd w1 R tv (u :: t))
    (hcall : Calls Tryz.prog g #[.int .i64 u.r] w fun e w' => e = .returned (.bool false) ∧ w1 = w') :
    Calls Tryz.prog 114 #[.pointer (some ⟨R, 0, none⟩), .func (.func g) #[] #[]] w fun e w' => e = .returned (.tuple #[.int .i64 0, .bool false]) ∧ w1 = w' := by
  have HC : Hid (Calls Tryz.prog g #[.int .i64 u.r] w fun e w' => e = .returned (.bool false) ∧ w1 = w') := hcall
  have H1 : Hid (Rd w1 R tv (u :: t)) := hrd1
  obtain ⟨gu, off, uc, h1, hc, hf, hl, hne, hgl, c0, c1, c3, hu⟩ := hrd.cons
  obtain ⟨gu', off', uc', h1', hc', hf', hl', hne', hgl', c0', c1', c3', hu'⟩ := hrd1.cons
  rw [hb] at c3 c3'
  have HU : Hid (UniAt R w1 (.slice (some ⟨gu', off', none⟩) (t.length + 1) uc') (u :: t)) := hu'
  have hz : ((t.length : Int) + 1 == 0) = false := by simp; omega
  clear hcall hrd hrd1 hu hu' c1 c1' c3'
  go_enter Tryz.func114, Tryz.ntmps114
  go_wp2_with fail
  refine HC.out.mono ?_
  rintro e w' ⟨rfl, rfl⟩
  go_wp2
  go_ret2
  exact ⟨rfl, rfl⟩

set_option maxHeartbeats 1000000 in
/-- sign, where there is no unit, or a bad one. -/
theorem sign0_n (g : Nat) (w : World) (R : Nat) (tv : Value) (us : List U) (hb : us = [] ∨ ∃ u t, us = u :: t ∧ u.bad = true) (hrd : Rd w R tv us) :
    Calls Tryz.prog 114 #[.pointer (some ⟨R, 0, none⟩), .func (.func g) #[] #[]] w fun e w' => e = .returned (.tuple #[.int .i64 0, .bool false]) ∧ w = w' := by
  rcases hb with rfl | ⟨u, t, rfl, hb⟩
  · obtain ⟨ua, uc, h1, h0, hl⟩ := hrd.nil
    go_enter Tryz.func114, Tryz.ntmps114
    go_wp2_with fail
    go_ret2
    exact ⟨rfl, rfl⟩
  · obtain ⟨gu, off, uc, h1, hc, hf, hl, hne, hgl, c0, c1, c3, hu⟩ := hrd.cons
    rw [hb] at c3
    have hz : ((t.length : Int) + 1 == 0) = false := by simp; omega
    go_enter Tryz.func114, Tryz.ntmps114
    go_wp2_with fail
    go_ret2
    exact ⟨rfl, rfl⟩

set_option maxRecDepth 100000 in
set_option maxHeartbeats 2000000 in
/-- sign, where the next unit is not bad, and the rule answers true of it. -/
theorem sign1_t (B : Nat) (g : Nat) (eg : ∀ args w, (callFunc g args).run Tryz.prog w = .ok (.enter g args) w) (w w1 : World) (R : Nat) (tv : Value) (u : U) (t : List U) (hb : u.bad = false) (hrd : Rd w R tv (u :: t)) (hrd1 : Rd w1 R tv (u :: t))
    (hcall : Calls Tryz.prog g #[.int .i64 u.r, .pointer (some ⟨B, 0, none⟩)] w fun e w' => e = .returned (.bool true) ∧ w1 = w') :
    Calls Tryz.prog 114 #[.pointer (some ⟨R, 0, none⟩), .func (.func g) #[] #[.pointer (some ⟨B, 0, none⟩)]] w fun e w' => e = .returned (.tuple #[.int .i64 u.r, .bool true]) ∧ Rd w' R tv t ∧ w1.grownBy w' (some R) := by
  have HC : Hid (Calls Tryz.prog g #[.int .i64 u.r, .pointer (some ⟨B, 0, none⟩)] w fun e w' => e = .returned (.bool true) ∧ w1 = w') := hcall
  have H1 : Hid (Rd w1 R tv (u :: t)) := hrd1
  obtain ⟨gu, off, uc, h1, hc, hf, hl, hne, hgl, c0, c1, c3, hu⟩ := hrd.cons
  obtain ⟨gu', off', uc', h1', hc', hf', hl', hne', hgl', c0', c1', c3', hu'⟩ := hrd1.cons
  rw [hb] at c3 c3'
  have HU : Hid (UniAt R w1 (.slice (some ⟨gu', off', none⟩) (t.length + 1) uc') (u :: t)) := hu'
  have hz : ((t.length : Int) + 1 == 0) = false := by simp; omega
  clear hcall hrd hrd1 hu hu' c1 c1' c3'
  go_enter Tryz.func114, Tryz.ntmps114
  go_wp2_with fail
  refine HC.out.mono ?_
  rintro e w' ⟨rfl, rfl⟩
  go_wp2
  all_goals
    go_ret2
    refine ⟨rfl, Rd.took H1.out _ ?_, grownR_set _ _ _ _⟩
    refine HU.out.tail' _ _ ?_
    intro q
    first | exact ⟨rfl, rfl⟩ | omega

set_option maxRecDepth 100000 in
set_option maxHeartbeats 2000000 in
/-- sign, where the next unit is not bad, and the rule answers false of it. -/
theorem sign1_f (B : Nat) (g : Nat) (eg : ∀ args w, (callFunc g args).run Tryz.prog w = .ok (.enter g args) w) (w w1 : World) (R : Nat) (tv : Value) (u : U) (t : List U) (hb : u.bad = false) (hrd : Rd w R tv (u :: t)) (hrd1 : Rd w1 R tv (u :: t))
    (hcall : Calls Tryz.prog g #[.int .i64 u.r, .pointer (some ⟨B, 0, none⟩)] w fun e w' => e = .returned (.bool false) ∧ w1 = w') :
    Calls Tryz.prog 114 #[.pointer (some ⟨R, 0, none⟩), .func (.func g) #[] #[.pointer (some ⟨B, 0, none⟩)]] w fun e w' => e = .returned (.tuple #[.int .i64 0, .bool false]) ∧ w1 = w' := by
  have HC : Hid (Calls Tryz.prog g #[.int .i64 u.r, .pointer (some ⟨B, 0, none⟩)] w fun e w' => e = .returned (.bool false) ∧ w1 = w') := hcall
  have H1 : Hid (Rd w1 R tv (u :: t)) := hrd1
  obtain ⟨gu, off, uc, h1, hc, hf, hl, hne, hgl, c0, c1, c3, hu⟩ := hrd.cons
  obtain ⟨gu', off', uc', h1', hc', hf', hl', hne', hgl', c0', c1', c3', hu'⟩ := hrd1.cons
  rw [hb] at c3 c3'
  have HU : Hid (UniAt R w1 (.slice (some ⟨gu', off', none⟩) (t.length + 1) uc') (u :: t)) := hu'
  have hz : ((t.length : Int) + 1 == 0) = false := by simp; omega
  clear hcall hrd hrd1 hu hu' c1 c1' c3'
  go_enter Tryz.func114, Tryz.ntmps114
  go_wp2_with fail
  refine HC.out.mono ?_
  rintro e w' ⟨rfl, rfl⟩
  go_wp2
  go_ret2
  exact ⟨rfl, rfl⟩

set_option maxHeartbeats 1000000 in
/-- sign, where there is no unit, or a bad one. -/
theorem sign1_n (B : Nat) (g : Nat) (w : World) (R : Nat) (tv : Value) (us : List U) (hb : us = [] ∨ ∃ u t, us = u :: t ∧ u.bad = true) (hrd : Rd w R tv us) :
    Calls Tryz.prog 114 #[.pointer (some ⟨R, 0, none⟩), .func (.func g) #[] #[.pointer (some ⟨B, 0, none⟩)]] w fun e w' => e = .returned (.tuple #[.int .i64 0, .bool false]) ∧ w = w' := by
  rcases hb with rfl | ⟨u, t, rfl, hb⟩
  · obtain ⟨ua, uc, h1, h0, hl⟩ := hrd.nil
    go_enter Tryz.func114, Tryz.ntmps114
    go_wp2_with fail
    go_ret2
    exact ⟨rfl, rfl⟩
  · obtain ⟨gu, off, uc, h1, hc, hf, hl, hne, hgl, c0, c1, c3, hu⟩ := hrd.cons
    rw [hb] at c3
    have hz : ((t.length : Int) + 1 == 0) = false := by simp; omega
    go_enter Tryz.func114, Tryz.ntmps114
    go_wp2_with fail
    go_ret2
    exact ⟨rfl, rfl⟩

set_option maxRecDepth 100000 in
set_option maxHeartbeats 2000000 in
/-- sign, where the next unit is not bad, and the rule answers true of it. -/
theorem sign2_t (B C : Nat) (g : Nat) (eg : ∀ args w, (callFunc g args).run Tryz.prog w = .ok (.enter g args) w) (w w1 : World) (R : Nat) (tv : Value) (u : U) (t : List U) (hb : u.bad = false) (hrd : Rd w R tv (u :: t)) (hrd1 : Rd w1 R tv (u :: t))
    (hcall : Calls Tryz.prog g #[.int .i64 u.r, .pointer (some ⟨B, 0, none⟩), .pointer (some ⟨C, 0, none⟩)] w fun e w' => e = .returned (.bool true) ∧ w1 = w') :
    Calls Tryz.prog 114 #[.pointer (some ⟨R, 0, none⟩), .func (.func g) #[] #[.pointer (some ⟨B, 0, none⟩), .pointer (some ⟨C, 0, none⟩)]] w fun e w' => e = .returned (.tuple #[.int .i64 u.r, .bool true]) ∧ Rd w' R tv t ∧ w1.grownBy w' (some R) := by
  have HC : Hid (Calls Tryz.prog g #[.int .i64 u.r, .pointer (some ⟨B, 0, none⟩), .pointer (some ⟨C, 0, none⟩)] w fun e w' => e = .returned (.bool true) ∧ w1 = w') := hcall
  have H1 : Hid (Rd w1 R tv (u :: t)) := hrd1
  obtain ⟨gu, off, uc, h1, hc, hf, hl, hne, hgl, c0, c1, c3, hu⟩ := hrd.cons
  obtain ⟨gu', off', uc', h1', hc', hf', hl', hne', hgl', c0', c1', c3', hu'⟩ := hrd1.cons
  rw [hb] at c3 c3'
  have HU : Hid (UniAt R w1 (.slice (some ⟨gu', off', none⟩) (t.length + 1) uc') (u :: t)) := hu'
  have hz : ((t.length : Int) + 1 == 0) = false := by simp; omega
  clear hcall hrd hrd1 hu hu' c1 c1' c3'
  go_enter Tryz.func114, Tryz.ntmps114
  go_wp2_with fail
  refine HC.out.mono ?_
  rintro e w' ⟨rfl, rfl⟩
  go_wp2
  all_goals
    go_ret2
    refine ⟨rfl, Rd.took H1.out _ ?_, grownR_set _ _ _ _⟩
    refine HU.out.tail' _ _ ?_
    intro q
    first | exact ⟨rfl, rfl⟩ | omega

set_option maxRecDepth 100000 in
set_option maxHeartbeats 2000000 in
/-- sign, where the next unit is not bad, and the rule answers false of it. -/
theorem sign2_f (B C : Nat) (g : Nat) (eg : ∀ args w, (callFunc g args).run Tryz.prog w = .ok (.enter g args) w) (w w1 : World) (R : Nat) (tv : Value) (u : U) (t : List U) (hb : u.bad = false) (hrd : Rd w R tv (u :: t)) (hrd1 : Rd w1 R tv (u :: t))
    (hcall : Calls Tryz.prog g #[.int .i64 u.r, .pointer (some ⟨B, 0, none⟩), .pointer (some ⟨C, 0, none⟩)] w fun e w' => e = .returned (.bool false) ∧ w1 = w') :
    Calls Tryz.prog 114 #[.pointer (some ⟨R, 0, none⟩), .func (.func g) #[] #[.pointer (some ⟨B, 0, none⟩), .pointer (some ⟨C, 0, none⟩)]] w fun e w' => e = .returned (.tuple #[.int .i64 0, .bool false]) ∧ w1 = w' := by
  have HC : Hid (Calls Tryz.prog g #[.int .i64 u.r, .pointer (some ⟨B, 0, none⟩), .pointer (some ⟨C, 0, none⟩)] w fun e w' => e = .returned (.bool false) ∧ w1 = w') := hcall
  have H1 : Hid (Rd w1 R tv (u :: t)) := hrd1
  obtain ⟨gu, off, uc, h1, hc, hf, hl, hne, hgl, c0, c1, c3, hu⟩ := hrd.cons
  obtain ⟨gu', off', uc', h1', hc', hf', hl', hne', hgl', c0', c1', c3', hu'⟩ := hrd1.cons
  rw [hb] at c3 c3'
  have HU : Hid (UniAt R w1 (.slice (some ⟨gu', off', none⟩) (t.length + 1) uc') (u :: t)) := hu'
  have hz : ((t.length : Int) + 1 == 0) = false := by simp; omega
  clear hcall hrd hrd1 hu hu' c1 c1' c3'
  go_enter Tryz.func114, Tryz.ntmps114
  go_wp2_with fail
  refine HC.out.mono ?_
  rintro e w' ⟨rfl, rfl⟩
  go_wp2
  go_ret2
  exact ⟨rfl, rfl⟩

set_option maxHeartbeats 1000000 in
/-- sign, where there is no unit, or a bad one. -/
theorem sign2_n (B C : Nat) (g : Nat) (w : World) (R : Nat) (tv : Value) (us : List U) (hb : us = [] ∨ ∃ u t, us = u :: t ∧ u.bad = true) (hrd : Rd w R tv us) :
    Calls Tryz.prog 114 #[.pointer (some ⟨R, 0, none⟩), .func (.func g) #[] #[.pointer (some ⟨B, 0, none⟩), .pointer (some ⟨C, 0, none⟩)]] w fun e w' => e = .returned (.tuple #[.int .i64 0, .bool false]) ∧ w = w' := by
  rcases hb with rfl | ⟨u, t, rfl, hb⟩
  · obtain ⟨ua, uc, h1, h0, hl⟩ := hrd.nil
    go_enter Tryz.func114, Tryz.ntmps114
    go_wp2_with fail
    go_ret2
    exact ⟨rfl, rfl⟩
  · obtain ⟨gu, off, uc, h1, hc, hf, hl, hne, hgl, c0, c1, c3, hu⟩ := hrd.cons
    rw [hb] at c3
    have hz : ((t.length : Int) + 1 == 0) = false := by simp; omega
    go_enter Tryz.func114, Tryz.ntmps114
    go_wp2_with fail
    go_ret2
    exact ⟨rfl, rfl⟩

/-- sign, by a rule that turns nothing. -/
theorem sign0_any (g : Nat) (p : Int → Bool) (hg : RuleF g p) (eg : ∀ args w, (callFunc g args).run Tryz.prog w = .ok (.enter g args) w) (w : World) (R : Nat) (tv : Value) (us : List U) (hrd : Rd w R tv us) :
    Calls Tryz.prog 114 #[.pointer (some ⟨R, 0, none⟩), .func (.func g) #[] #[]] w fun e w' => e = .returned (.tuple #[.int .i64 ((sgn p us).1.getD 0), .bool (sgn p us).1.isSome]) ∧ Rd w' R tv (sgn p us).2 ∧ w.grownBy w' (some R) := by
  match us, hrd with
  | [], hrd => exact (sign0_n _ w R tv [] (.inl rfl) hrd).mono fun e w' ⟨he, hw⟩ => ⟨he, by rw [← hw]; exact hrd, by rw [← hw]; exact World.grownBy.refl _ _⟩
  | u :: t, hrd =>
    cases hb : u.bad with
    | true =>
      have es : sgn p (u :: t) = (none, u :: t) := by rw [sgn_cons, if_neg (by simp [fitU, hb])]
      rw [es]
      exact (sign0_n _ w R tv (u :: t) (.inr ⟨u, t, rfl, hb⟩) hrd).mono fun e w' ⟨he, hw⟩ => ⟨he, by rw [← hw]; exact hrd, by rw [← hw]; exact World.grownBy.refl _ _⟩
    | false =>
      have hc := hg u.r w
      cases hq : p u.r with
      | true =>
        rw [hq] at hc
        have es : sgn p (u :: t) = (some u.r, t) := by rw [sgn_cons, if_pos (by simp [fitU, hb, hq])]
        rw [es]
        exact sign0_t g eg w w R tv u t hb hrd hrd hc
      | false =>
        rw [hq] at hc
        have es : sgn p (u :: t) = (none, u :: t) := by rw [sgn_cons, if_neg (by simp [fitU, hb, hq])]
        rw [es]
        exact (sign0_f g eg w w R tv u t hb hrd hrd hc).mono fun e w' ⟨he, hw⟩ => ⟨he, by rw [← hw]; exact hrd, by rw [← hw]; exact World.grownBy.refl _ _⟩

set_option maxHeartbeats 1000000 in
theorem take0_any (g : Nat) (p : Int → Bool) (hg : RuleF g p) (eg : ∀ args w, (callFunc g args).run Tryz.prog w = .ok (.enter g args) w) (w : World) (R : Nat) (tv : Value) (us : List U) (hrd : Rd w R tv us) :
    Calls Tryz.prog 74 #[.pointer (some ⟨R, 0, none⟩), .func (.func g) #[] #[]] w fun e w' => e = .returned (.bool (sgn p us).1.isSome) ∧ Rd w' R tv (sgn p us).2 ∧ w.grownBy w' (some R) := by
  have HS := sign0_any g p hg eg w R tv us hrd
  obtain ⟨x, hx⟩ : ∃ x : Int, x = (sgn p us).1.getD 0 := ⟨_, rfl⟩
  obtain ⟨b, hb⟩ : ∃ b : Bool, b = (sgn p us).1.isSome := ⟨_, rfl⟩
  rw [← hx, ← hb] at HS
  rw [← hb]
  clear hx hb
  go_enter Tryz.func74, Tryz.ntmps74
  go_wp2_with fail
  refine HS.mono ?_
  rintro e w' ⟨rfl, hr, hw⟩
  go_wp2
  go_ret
  exact ⟨rfl, hr, hw⟩

/-- sign, by a rule that turns nothing. -/
theorem sign1_any (B : Nat) (c : Int) (w : World) (R : Nat) (tv : Value) (us : List U) (hrd : Rd w R tv us) (hB : w.cell? ⟨B, 0, none⟩ = some (.int .i64 c)) :
    Calls Tryz.prog 114 #[.pointer (some ⟨R, 0, none⟩), .func (.func 115) #[] #[.pointer (some ⟨B, 0, none⟩)]] w fun e w' => e = .returned (.tuple #[.int .i64 ((sgn (isC c) us).1.getD 0), .bool (sgn (isC c) us).1.isSome]) ∧ Rd w' R tv (sgn (isC c) us).2 ∧ w.grownBy w' (some R) := by
  match us, hrd with
  | [], hrd => exact (sign1_n B _ w R tv [] (.inl rfl) hrd).mono fun e w' ⟨he, hw⟩ => ⟨he, by rw [← hw]; exact hrd, by rw [← hw]; exact World.grownBy.refl _ _⟩
  | u :: t, hrd =>
    cases hb : u.bad with
    | true =>
      have es : sgn (isC c) (u :: t) = (none, u :: t) := by rw [sgn_cons, if_neg (by simp [fitU, hb])]
      rw [es]
      exact (sign1_n B _ w R tv (u :: t) (.inr ⟨u, t, rfl, hb⟩) hrd).mono fun e w' ⟨he, hw⟩ => ⟨he, by rw [← hw]; exact hrd, by rw [← hw]; exact World.grownBy.refl _ _⟩
    | false =>
      have hc := is1_any c u.r B w hB
      cases hq : (isC c) u.r with
      | true =>
        rw [hq] at hc
        have es : sgn (isC c) (u :: t) = (some u.r, t) := by rw [sgn_cons, if_pos (by simp [fitU, hb, hq])]
        rw [es]
        exact sign1_t B 115 (enters_of Tryz.func115 (by kernel_rfl) rfl) w w R tv u t hb hrd hrd hc
      | false =>
        rw [hq] at hc
        have es : sgn (isC c) (u :: t) = (none, u :: t) := by rw [sgn_cons, if_neg (by simp [fitU, hb, hq])]
        rw [es]
        exact (sign1_f B 115 (enters_of Tryz.func115 (by kernel_rfl) rfl) w w R tv u t hb hrd hrd hc).mono fun e w' ⟨he, hw⟩ => ⟨he, by rw [← hw]; exact hrd, by rw [← hw]; exact World.grownBy.refl _ _⟩

set_option maxHeartbeats 1000000 in
theorem take1_any (B : Nat) (c : Int) (w : World) (R : Nat) (tv : Value) (us : List U) (hrd : Rd w R tv us) (hB : w.cell? ⟨B, 0, none⟩ = some (.int .i64 c)) :
    Calls Tryz.prog 74 #[.pointer (some ⟨R, 0, none⟩), .func (.func 115) #[] #[.pointer (some ⟨B, 0, none⟩)]] w fun e w' => e = .returned (.bool (sgn (isC c) us).1.isSome) ∧ Rd w' R tv (sgn (isC c) us).2 ∧ w.grownBy w' (some R) := by
  have HS := sign1_any B c w R tv us hrd hB
  obtain ⟨x, hx⟩ : ∃ x : Int, x = (sgn (isC c) us).1.getD 0 := ⟨_, rfl⟩
  obtain ⟨b, hb⟩ : ∃ b : Bool, b = (sgn (isC c) us).1.isSome := ⟨_, rfl⟩
  rw [← hx, ← hb] at HS
  rw [← hb]
  clear hx hb
  go_enter Tryz.func74, Tryz.ntmps74
  go_wp2_with fail
  refine HS.mono ?_
  rintro e w' ⟨rfl, hr, hw⟩
  go_wp2
  go_ret
  exact ⟨rfl, hr, hw⟩

theorem sgn_drop (p : Int → Bool) (us : List U) : ((sgn p us).1.isSome = true → (sgn p us).2.dropWhile (fitU p) = us.dropWhile (fitU p) ∧ (sgn p us).2.length + 1 = us.length) ∧ ((sgn p us).1.isSome = false → us.dropWhile (fitU p) = us ∧ (sgn p us).2 = us) := by
  cases us with
  | nil =>
    refine ⟨fun h => ?_, fun _ => ⟨rfl, rfl⟩⟩
    cases h
  | cons u t =>
    rw [sgn_cons]
    by_cases q : fitU p u = true
    · rw [if_pos q]
      refine ⟨fun _ => ⟨?_, rfl⟩, fun h => ?_⟩
      · simp [q]
      · cases h
    · rw [if_neg q]
      refine ⟨fun h => ?_, fun _ => ⟨?_, rfl⟩⟩
      · cases h
      · simp [q]

set_option maxRecDepth 100000 in
set_option maxHeartbeats 1000000 in
theorem takeAll_any (g : Nat) (p : Int → Bool) (hg : RuleF g p) (eg : ∀ args w, (callFunc g args).run Tryz.prog w = .ok (.enter g args) w) (w : World) (R : Nat) (tv : Value) (us : List U) (hrd : Rd w R tv us) :
    Calls Tryz.prog 77 #[.pointer (some ⟨R, 0, none⟩), .func (.func g) #[] #[]] w fun e w' => e = .returned (.tuple #[]) ∧ Rd w' R tv (us.dropWhile (fitU p)) ∧ w.grownBy w' (some R) := by
  have HG : Hid (RuleF g p) := hg
  clear hg
  go_enter Tryz.func77, Tryz.ntmps77
  go_wp2
  go_loopw [] (fun wr => ∃ vs : List U, vs.dropWhile (fitU p) = us.dropWhile (fitU p) ∧ Rd wr R tv vs ∧ w.grownBy wr (some R)) (fun wr => leftN wr R)
  case atStart => exact ⟨us, rfl, hrd, World.grownBy.refl _ _⟩
  case round =>
    obtain ⟨vs, hd, hr, hw⟩ := hrel
    have HD : Hid (vs.dropWhile (fitU p) = us.dropWhile (fitU p)) := hd
    have hm := take0_any g p HG.out eg wr R tv vs hr
    have hl0 := hr.left
    have hsd := sgn_drop p vs
    cases hq : (sgn p vs).1.isSome with
    | true =>
      rw [hq] at hm
      obtain ⟨e1, e2⟩ := hsd.1 hq
      have HE : Hid ((sgn p vs).2.dropWhile (fitU p) = vs.dropWhile (fitU p)) := e1
      have HL : Hid ((sgn p vs).2.length + 1 = vs.length) := e2
      clear hsd hd e1 e2 hq
      go_wp2_with fail
      refine hm.mono ?_
      rintro e w' ⟨rfl, hr2, hw2⟩
      go_wp2
      go_roundw
      case rel => exact ⟨_, HE.out.trans HD.out, hr2, hw.trans hw2⟩
      case measure => rw [hr2.left, hl0]; have := HL.out; omega
    | false =>
      rw [hq] at hm
      obtain ⟨e1, e2⟩ := hsd.2 hq
      have HE : Hid (vs = us.dropWhile (fitU p)) := e1.symm.trans hd
      rw [e2] at hm
      clear hsd hd e1 e2 hq
      go_wp2_with fail
      refine hm.mono ?_
      rintro e w' ⟨rfl, hr2, hw2⟩
      go_wp2
      go_end0
      exact ⟨rfl, by rw [← HE.out]; exact hr2, hw.trans hw2⟩
end Go.Proofs.YtohaegaocklnkaaGreatDoor

namespace Go.Proofs.YtohaegaocklnkaaGreatDoor
open Go.RowKit Go.Shelf S1
set_option linter.unusedVariables false

theorem blank_note : ∀ (us : List U), blankL true us = blankL false (us.dropWhile (fitU noteR))
  | [] => rfl
  | u :: t => by
    have ih := blank_note t
    cases hb : u.bad with
    | true =>
      have h1 : fitU noteR u = false := by simp [fitU, hb]
      rw [List.dropWhile_cons, h1]
      simp [blankL, hb]
    | false =>
      by_cases h10 : u.r = 10
      · have h1 : fitU noteR u = false := by simp [fitU, noteR, h10]
        rw [List.dropWhile_cons, h1]
        simp [blankL, hb, h10, blankR]
      · have h1 : fitU noteR u = true := by simp [fitU, noteR, h10, hb]
        rw [List.dropWhile_cons, h1]
        simp [blankL, hb, h10, ih]
theorem blank_step {us r : List U} {x : Int} (h : sgn blankR us = (some x, r)) : blankL false us = blankL false r := by
  obtain ⟨u, rfl, hf, _⟩ := sgn_some h
  have hb : u.bad = false := by simp [fitU] at hf; exact hf.1
  have hr : blankR u.r = true := by simp [fitU] at hf; exact hf.2
  have h35 : u.r ≠ 35 := fun e => by rw [e] at hr; simp [blankR] at hr
  simp [blankL, hb, hr, h35]
theorem blank_hash {us r : List U} {x : Int} (h : sgn (isC 35) us = (some x, r)) : blankL false us = blankL false (r.dropWhile (fitU noteR)) := by
  obtain ⟨u, rfl, hf, _⟩ := sgn_some h
  have hb : u.bad = false := by simp [fitU] at hf; exact hf.1
  have hr : u.r = 35 := by simp [fitU, isC] at hf; exact hf.2
  rw [← blank_note]
  simp [blankL, hb, hr]
theorem blank_none {us a b : List U} (h : sgn blankR us = (none, a)) (h2 : sgn (isC 35) us = (none, b)) : blankL false us = us := by
  match us, h, h2 with
  | [], _, _ => rfl
  | u :: t, h, h2 =>
    obtain ⟨_, e | ⟨u1, t1, e, q1⟩⟩ := sgn_none h
    · cases e
    obtain ⟨_, e2 | ⟨u2, t2, e2, q2⟩⟩ := sgn_none h2
    · cases e2
    injection e with e3 e4
    injection e2 with e5 e6
    rw [← e3] at q1
    rw [← e5] at q2
    simp [fitU] at q1 q2
    cases hb : u.bad with
    | true => simp [blankL, hb]
    | false =>
      have k1 := q1 hb
      have k2 := q2 hb
      have k3 : u.r ≠ 35 := fun e => by rw [e] at k2; simp [isC] at k2
      simp [blankL, hb, k1, k3]

set_option maxRecDepth 100000 in
set_option maxHeartbeats 2000000 in
theorem takeBlanks_any (w : World) (R : Nat) (tv : Value) (us : List U) (hrd : Rd w R tv us) :
    Calls Tryz.prog 40 #[.pointer (some ⟨R, 0, none⟩)] w fun e w' => e = .returned (.tuple #[]) ∧ Rd w' R tv (blankL false us) ∧ w.grownBy w' (some R) := by
  go_enter Tryz.func40, Tryz.ntmps40
  go_wp2
  go_loopw [] (fun wr => ∃ vs : List U, blankL false vs = blankL false us ∧ Rd wr R tv vs ∧ w.grownBy wr (some R)) (fun wr => leftN wr R)
  case atStart => exact ⟨us, rfl, hrd, World.grownBy.refl _ _⟩
  case round =>
    obtain ⟨vs, hd, hr, hw⟩ := hrel
    have HD : Hid (blankL false vs = blankL false us) := hd
    have hl0 := hr.left
    have HR : Hid (Rd wr R tv vs) := hr
    have hm := take0_any 75 blankR isBlank_any (enters_of Tryz.func75 (by kernel_rfl) rfl) wr R tv vs hr
    cases h1 : sgn blankR vs with
    | mk o1 r1 => cases o1 with
      | some x =>
        have HS := blank_step h1
        have HL := sgn_len h1
        rw [h1] at hm
        have HS' : Hid (blankL false vs = blankL false r1) := HS
        clear HS h1 hd hr
        go_wp2_with fail
        refine hm.mono ?_
        rintro e w' ⟨rfl, hr2, hw2⟩
        go_wp2
        go_roundw
        case rel => exact ⟨r1, HS'.out.symm.trans HD.out, hr2, hw.trans hw2⟩
        case measure => rw [hr2.left, hl0]; show r1.length < _; omega
      | none =>
        rw [h1] at hm
        have e1 := (sgn_none h1).1
        subst e1
        go_wp2_with fail
        refine hm.mono ?_
        rintro e w2 ⟨rfl, hr2, hw2⟩
        have hw02 : w.grownBy w2 (some R) := hw.trans hw2
        have hr3 : Rd (w2.alloc (.cells #[.int .i64 35] 3)) R tv r1 := hr2.alloc _
        have hm2 := take1_any w2.heap.size 35 (w2.alloc (.cells #[.int .i64 35] 3)) R tv r1 hr3 (World.cell?_alloc_new _ _ _ _)
        have hw03 : w.grownBy (w2.alloc (.cells #[.int .i64 35] 3)) (some R) := hw02.trans (World.grownBy_alloc _ _ _)
        cases h2 : sgn (isC 35) r1 with
        | mk o2 r2 => cases o2 with
          | some x =>
            have HS := blank_hash h2
            have HL := sgn_len h2
            have HLD := dropWhile_le (fitU noteR) r2
            rw [h2] at hm2
            have HS' : Hid (blankL false r1 = blankL false (r2.dropWhile (fitU noteR))) := HS
            clear HS h2 h1 hd hr hm HR hw2 hr2 hr3 hw hw02
            go_wp2_with (first | (go_at_call 76; refine (is_any _ _).mono ?_; rintro e w' ⟨rfl, rfl⟩) | (go_at_call 74; refine hm2.mono ?_; rintro e w4 ⟨rfl, hr4, hw4⟩) | (go_at_call 77; refine (takeAll_any 78 noteR isInNote_any (enters_of Tryz.func78 (by kernel_rfl) rfl) w4 R tv r2 hr4).mono ?_; rintro e w5 ⟨rfl, hr5, hw5⟩))
            go_roundw
            case rel => exact ⟨_, HS'.out.symm.trans HD.out, hr5, (hw03.trans hw4).trans hw5⟩
            case measure => rw [hr5.left, hl0]; omega
          | none =>
            have HS := blank_none h1 h2
            rw [h2] at hm2
            have e2 := (sgn_none h2).1
            subst e2
            have HS' : Hid (r2 = blankL false us) := HS.symm.trans hd
            clear HS h2 h1 hd hr hm HR hw2 hr2 hr3 hw hw02
            go_wp2_with (first | (go_at_call 76; refine (is_any _ _).mono ?_; rintro e w' ⟨rfl, rfl⟩) | (go_at_call 74; refine hm2.mono ?_; rintro e w4 ⟨rfl, hr4, hw4⟩))
            refine bodyPost_ret (results_none rfl _ _ _) rfl ?_
            exact ⟨rfl, by rw [← HS'.out]; exact hr4, hw03.trans hw4⟩

set_option maxHeartbeats 1000000 in
theorem stuck_any (us : List U) (R : Nat) (a : Option Addr) (n cap : Nat) (w : World) (hrd : Rd w R (.slice a n cap) us) :
    Calls Tryz.prog 85 #[.pointer (some ⟨R, 0, none⟩)] w fun e w' => e = .returned (.tuple #[.int .i64 (atL n us : Int), .int .i64 (stuckE us)]) ∧ w = w' := by
  have ha := at_any us R a n cap w hrd
  match us, hrd, ha with
  | [], hrd, ha =>
    obtain ⟨ua, uc, h1, h0, hl⟩ := hrd.nil
    go_enter Tryz.func85, Tryz.ntmps85
    go_wp2_with (go_at_call 79; refine ha.mono ?_; rintro e w' ⟨rfl, rfl⟩)
    go_ret2
    exact ⟨rfl, rfl⟩
  | u :: t, hrd, ha =>
    obtain ⟨g, off, uc, h1, hc, hf, hl, hne, hgl, c0, c1, c3, hu⟩ := hrd.cons
    have hz : ((t.length : Int) + 1 == 0) = false := by simp; omega
    go_enter Tryz.func85, Tryz.ntmps85
    go_wp2_with (go_at_call 79; refine ha.mono ?_; rintro e w' ⟨rfl, rfl⟩)
    go_ret2
    exact ⟨rfl, rfl⟩
end Go.Proofs.YtohaegaocklnkaaGreatDoor

namespace Go.Proofs.YtohaegaocklnkaaGreatDoor
open Go.RowKit Go.Shelf S1
set_option linter.unusedVariables false

/-- A piece of the text. -/
def cutZ (zs : List Int) (p q : Nat) : List Int := (zs.drop p).take (q - p)

theorem cutZ_length {zs : List Int} {p q : Nat} (h : q ≤ zs.length) : (cutZ zs p q).length = q - p := by
  unfold cutZ; rw [List.length_take, List.length_drop]; omega

theorem TxtAt.conv {R : Nat} {w : World} {v : Value} {l : List Int} (h : TxtAt R w v l) : (convert 22 9 v).run Tryz.prog w = .ok (.string (strOfNums l)) w := by
  obtain ⟨a, cap, rfl, hc, hi⟩ := h
  by_cases h0 : l.length = 0
  · obtain rfl : l = [] := List.length_eq_zero_iff.1 h0
    cases a with
    | none =>
      rw [run_convert_bytes_nil w 22 5 Tryz.underlying22 Tryz.underlying5 _ _ 9 Tryz.underlying9]
      rfl
    | some ad =>
      have hl : (loadCells ad 0).run Tryz.prog w = .ok (([] : List Int).map (Value.int .u8)).toArray w := by
        simpa using run_loadCells_list (P := Tryz.prog) w ad [] (fun j v hj => by simp at hj)
      show (convert 22 9 (.slice (some ad) 0 cap)).run Tryz.prog w = _
      rw [run_convert_bytes_string w 22 9 5 _ 0 cap Tryz.underlying22 Tryz.underlying5 Tryz.underlying9, run_bytesToString w _ 0 cap [] hl, foldl_push_bytes]
      simp [strOfNums, ByteArray.empty, ByteArray.emptyWithCapacity]
      rfl
  · obtain ⟨g, off, rfl, _, _⟩ := hi 0 (by omega)
    refine run_convert_bytes_arg w 22 5 Tryz.underlying22 Tryz.underlying5 g off l.length cap l rfl (fun i hlt => ?_) 9 Tryz.underlying9
    obtain ⟨g', off', e, _, hcc⟩ := hi i hlt
    obtain ⟨rfl, rfl⟩ : g = g' ∧ off = off' := by simpa using e
    rw [hcc]
    simp [hlt]
theorem TxtAt.drew {R : Nat} {w : World} {v : Value} {l : List Int} (h : TxtAt R w v l) : TxtAt R w.drew v l := h
theorem TxtAt.cut {R : Nat} {w : World} {g off cap n : Nat} {zs : List Int} (h : TxtAt R w (.slice (some ⟨g, off, none⟩) n cap) zs) {p q : Nat} (hq : q ≤ zs.length) (a' : Option Addr) (c' : Nat) (hc : q - p ≤ c') (ha : p < q → a' = some ⟨g, off + p, none⟩) : TxtAt R w (.slice a' (q - p) c') (cutZ zs p q) := by
  obtain ⟨a, c, e, hcap, hi⟩ := h
  obtain ⟨rfl, rfl, rfl⟩ : some ⟨g, off, none⟩ = a ∧ n = zs.length ∧ cap = c := by simpa using e
  refine ⟨a', c', by rw [cutZ_length hq], by rw [cutZ_length hq]; exact hc, fun i hlt => ?_⟩
  rw [cutZ_length hq] at hlt
  obtain ⟨g', off', e2, hg, h0⟩ := hi (p + i) (by omega)
  obtain ⟨rfl, rfl⟩ : g = g' ∧ off = off' := by simpa using e2
  refine ⟨g, off + p, ha (by omega), hg, ?_⟩
  rw [Nat.add_assoc, h0]
  simp [cutZ]

set_option maxRecDepth 100000 in
set_option maxHeartbeats 2000000 in
theorem since_any (zs : List Int) (us : List U) (R from_ : Nat) (g off cap : Nat) (w : World) (hrd : Rd w R (.slice (some ⟨g, off, none⟩) zs.length cap) us) (htx : TxtAt R w (.slice (some ⟨g, off, none⟩) zs.length cap) zs) (hz : zs.length ≤ 65536)
    (h1 : from_ ≤ atL zs.length us) (h2 : atL zs.length us ≤ zs.length) :
    Calls Tryz.prog 82 #[.pointer (some ⟨R, 0, none⟩), .int .i64 (from_ : Int)] w fun e w' => e = .returned (.string (strOfNums (cutZ zs from_ (atL zs.length us)))) ∧ w.grownBy w' none := by
  have ha : ∀ n, Calls Tryz.prog 79 #[.pointer (some ⟨R, 0, none⟩)] (w.drewN n) fun e w' => e = .returned (.int .i64 (atL zs.length us : Int)) ∧ w' = w.drewN n := fun n =>
    (at_any us R _ zs.length cap (w.drewN n) (hrd.kept (grownR_drewN (World.grownBy.refl _ _) n))).mono fun e w' h => ⟨h.1, h.2.symm⟩
  obtain ⟨h0, hl⟩ := hrd.text
  obtain ⟨q, hq⟩ : ∃ q, q = atL zs.length us := ⟨_, rfl⟩
  rw [← hq] at h1 h2 ha
  rw [← hq]
  have hcap : zs.length ≤ cap := by obtain ⟨_, _, e, hc, _⟩ := htx; simp at e; omega
  have HG : Hid (∀ n, w.grownBy (w.drewN n) none) := fun n => grownR_drewN (World.grownBy.refl _ _) n
  have HT : Hid (∀ n, TxtAt R (w.drewN n) (.slice (some ⟨g, off, none⟩) zs.length cap) zs) := fun n => htx.grown ((HG.out n).but _)
  clear hq htx hrd
  have hh1 : (from_ : Int) ≤ (q : Int) := by omega
  have hh2 : (q : Int) ≤ (zs.length : Int) := by omega
  have hh3 : (q : Int) ≤ (cap : Int) := by omega
  have hh0 : (0 : Int) ≤ (from_ : Int) := by omega
  by_cases hfq : from_ < q
  · have hcv : ∀ n, (convert 22 9 (.slice (some ⟨g, off + from_, none⟩) (q - from_) (cap - from_))).run Tryz.prog (w.drewN n) = .ok (.string (strOfNums (cutZ zs from_ q))) (w.drewN n) := fun n =>
      ((HT.out n).cut h2 _ _ (by omega) (fun _ => rfl)).conv
    have hne : ¬ (cap = from_) := by omega
    have hne2 : ¬ (cap - from_ = 0) := by omega
    obtain ⟨s, hs⟩ : ∃ s, s = strOfNums (cutZ zs from_ q) := ⟨_, rfl⟩
    rw [← hs] at hcv ⊢
    clear hs
    go_enter Tryz.func82, Tryz.ntmps82
    go_wp2
    go_quiet ((go_at_call 79; exact Calls.quiet_of_same (ha _)))
    go_wp2
    go_ret
    exact ⟨rfl, HG.out _⟩
  · obtain rfl : from_ = q := by omega
    have hcv : ∀ n a' c', (convert 22 9 (.slice a' 0 c')).run Tryz.prog (w.drewN n) = .ok (.string (strOfNums [])) (w.drewN n) := fun n a' c' =>
      TxtAt.conv (R := R) ⟨a', c', rfl, Nat.zero_le _, fun i hi => by cases hi⟩
    have e0 : cutZ zs from_ from_ = [] := by simp [cutZ]
    rw [e0]
    obtain ⟨s, hs⟩ : ∃ s, s = strOfNums [] := ⟨_, rfl⟩
    rw [← hs] at hcv ⊢
    clear hs
    go_enter Tryz.func82, Tryz.ntmps82
    go_wp2
    go_quiet ((go_at_call 79; exact Calls.quiet_of_same (ha _)))
    all_goals go_wp2
    all_goals
      go_ret
      exact ⟨rfl, HG.out _⟩

set_option maxHeartbeats 1000000 in
theorem atMost_any (c : Int) (w : World) : Calls Tryz.prog 207 #[.int .i64 c, .func (.func 208) #[] #[]] w fun e w' => e = .returned (.func (.func 221) #[] #[.pointer (some ⟨w.heap.size, 0, none⟩), .pointer (some ⟨w.heap.size + 1, 0, none⟩)]) ∧ (w.alloc (.cells #[.int .i64 c] 3)).alloc (.cells #[.func (.func 208) #[] #[]] 122) = w' := by
  go_enter Tryz.func207, Tryz.ntmps207
  go_wp2
  go_ret
  exact ⟨rfl, rfl⟩

/-- The closure's boxes: how many may still be asked about, and the rule. -/
def AM (w : World) (B C R : Nat) (n : Int) : Prop :=
  w.cell? ⟨B, 0, none⟩ = some (.int .i64 n) ∧ w.frozen? ⟨B, 0, none⟩ = false ∧ w.cell? ⟨C, 0, none⟩ = some (.func (.func 208) #[] #[]) ∧ R < B ∧ R < C ∧ B ≠ C ∧ B < w.heap.size ∧ C < w.heap.size
theorem AM.grown {w w' : World} {B C R : Nat} {n : Int} (h : AM w B C R n) (hg : w.grownBy w' (some R)) : AM w' B C R n := by
  obtain ⟨h0, h1, h2, h3, h4, h5, h6, h7⟩ := h
  refine ⟨hg.cell h0 (by simp; omega), ?_, hg.cell h2 (by simp; omega), h3, h4, h5, Nat.lt_of_lt_of_le h6 hg.size, Nat.lt_of_lt_of_le h7 hg.size⟩
  rw [← h1]
  exact World.frozen?_of_block (a := ⟨B, 0, none⟩) (hg.block B h6 (by simp; omega))
theorem AM.set {w : World} {B C R : Nat} {n : Int} (h : AM w B C R n) (m : Int) : AM (w.setCell ⟨B, 0, none⟩ (.int .i64 m)) B C R m := by
  obtain ⟨h0, h1, h2, h3, h4, h5, h6, h7⟩ := h
  refine ⟨World.cell?_setCell_same' w ⟨B, 0, none⟩ _ (by rw [h0]; rfl), by rw [World.frozen?_setCell]; exact h1, ?_, h3, h4, h5, by simpa [World.setCell] using h6, by simpa [World.setCell] using h7⟩
  exact (World.cell?_setCell_other w ⟨B, 0, none⟩ ⟨C, 0, none⟩ _ (by simp)).trans h2

set_option maxRecDepth 100000 in
set_option maxHeartbeats 2000000 in
theorem atMost1_any (n : Nat) (r : Int) (B C R : Nat) (w : World) (h : AM w B C R n) (hn : n ≤ 6) :
    Calls Tryz.prog 221 #[.int .i64 r, .pointer (some ⟨B, 0, none⟩), .pointer (some ⟨C, 0, none⟩)] w fun e w' => e = .returned (.bool (decide (1 ≤ n) && figR r)) ∧ w.setCell ⟨B, 0, none⟩ (.int .i64 ((n : Int) - 1)) = w' := by
  have h' := h.set ((n : Int) - 1)
  obtain ⟨h0, h1, h2, h3, h4, h5, h6, h7⟩ := h
  obtain ⟨k0, k1, k2, _⟩ := h'
  have c1 := isFigure_any r (w.setCell ⟨B, 0, none⟩ (.int .i64 ((n : Int) - 1)))
  by_cases q : 1 ≤ n
  · have e : (decide (1 ≤ n) && figR r) = figR r := by simp [q]
    rw [e]
    have q1 : (0 : Int) ≤ (n : Int) - 1 := by omega
    go_enter Tryz.func221, Tryz.ntmps221
    go_wp2_with (go_at_call 208; refine c1.mono ?_; rintro e w' ⟨rfl, rfl⟩)
    go_ret
    exact ⟨rfl, rfl⟩
  · have e : (decide (1 ≤ n) && figR r) = false := by simp [q]
    rw [e]
    obtain rfl : n = 0 := by omega
    go_enter Tryz.func221, Tryz.ntmps221
    go_wp2
    go_ret
    exact ⟨rfl, rfl⟩
end Go.Proofs.YtohaegaocklnkaaGreatDoor
