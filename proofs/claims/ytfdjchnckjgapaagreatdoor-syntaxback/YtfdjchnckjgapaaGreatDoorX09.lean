/-
  Signs Blanks
-/
import Derived.Test.YtfdjchnckjgapaaGreatDoorX08
namespace Go.Proofs.YtfdjchnckjgapaaGreatDoor
open Go.RowKit Go.Shelf S1
set_option linter.unusedVariables false
set_option maxHeartbeats 1000000 in
theorem at_any (us : List U) (R : Nat) (a : Option Addr) (n cap : Nat) (w : World) (hrd : Rd w R (.slice a n cap) us) :
    Calls Tryz.prog 75 #[.pointer (some ⟨R, 0, none⟩)] w fun e w' => e = .returned (.int .i64 (atL n us : Int)) ∧ w = w' := by
  match us, hrd with
  | [], hrd =>
    obtain ⟨ua, uc, h1, h0, hl⟩ := hrd.nil
    go_enter Tryz.func75, Tryz.ntmps75
    go_wp2
    go_ret
    exact ⟨rfl, rfl⟩
  | u :: t, hrd =>
    obtain ⟨g, off, uc, h1, hc, hf, hl, hne, hgl, c0, c1, c3, hu⟩ := hrd.cons
    have hz : ((t.length : Int) + 1 == 0) = false := by simp; omega
    go_enter Tryz.func75, Tryz.ntmps75
    go_wp2
    go_ret
    exact ⟨rfl, rfl⟩
set_option maxRecDepth 100000 in
set_option maxHeartbeats 2000000 in

theorem sign0_t (g : Nat) (eg : ∀ args w, (callFunc g args).run Tryz.prog w = .ok (.enter g args) w) (w w1 : World) (R : Nat) (tv : Value) (u : U) (t : List U) (hb : u.bad = false) (hrd : Rd w R tv (u :: t)) (hrd1 : Rd w1 R tv (u :: t))
    (hcall : Calls Tryz.prog g #[.int .i64 u.r] w fun e w' => e = .returned (.bool true) ∧ w1 = w') :
    Calls Tryz.prog 108 #[.pointer (some ⟨R, 0, none⟩), .func (.func g) #[] #[]] w fun e w' => e = .returned (.tuple #[.int .i64 u.r, .bool true]) ∧ Rd w' R tv t ∧ w1.grownBy w' (some R) := by
  have HC : Hid (Calls Tryz.prog g #[.int .i64 u.r] w fun e w' => e = .returned (.bool true) ∧ w1 = w') := hcall
  have H1 : Hid (Rd w1 R tv (u :: t)) := hrd1
  obtain ⟨gu, off, uc, h1, hc, hf, hl, hne, hgl, c0, c1, c3, hu⟩ := hrd.cons
  obtain ⟨gu', off', uc', h1', hc', hf', hl', hne', hgl', c0', c1', c3', hu'⟩ := hrd1.cons
  rw [hb] at c3 c3'
  have HU : Hid (UniAt R w1 (.slice (some ⟨gu', off', none⟩) (t.length + 1) uc') (u :: t)) := hu'
  have hz : ((t.length : Int) + 1 == 0) = false := by simp; omega
  clear hcall hrd hrd1 hu hu' c1 c1' c3'
  go_enter Tryz.func108, Tryz.ntmps108
  go_wp2_with fail
  refine HC.out.mono ?_
  rintro e w' ⟨rfl, rfl⟩
  go_wp2
  all_goals
    go_ret2
    refine ⟨rfl, Rd.took H1.out _ ?_, grownR_set _ _ _ _⟩
    refine HU.out.tail' _ _ ?_
    intro q
    first | exact ⟨rfl, rfl⟩ | omega
set_option maxRecDepth 100000 in
set_option maxHeartbeats 2000000 in

theorem sign0_f (g : Nat) (eg : ∀ args w, (callFunc g args).run Tryz.prog w = .ok (.enter g args) w) (w w1 : World) (R : Nat) (tv : Value) (u : U) (t : List U) (hb : u.bad = false) (hrd : Rd w R tv (u :: t)) (hrd1 : Rd w1 R tv (u :: t))
    (hcall : Calls Tryz.prog g #[.int .i64 u.r] w fun e w' => e = .returned (.bool false) ∧ w1 = w') :
    Calls Tryz.prog 108 #[.pointer (some ⟨R, 0, none⟩), .func (.func g) #[] #[]] w fun e w' => e = .returned (.tuple #[.int .i64 0, .bool false]) ∧ w1 = w' := by
  have HC : Hid (Calls Tryz.prog g #[.int .i64 u.r] w fun e w' => e = .returned (.bool false) ∧ w1 = w') := hcall
  have H1 : Hid (Rd w1 R tv (u :: t)) := hrd1
  obtain ⟨gu, off, uc, h1, hc, hf, hl, hne, hgl, c0, c1, c3, hu⟩ := hrd.cons
  obtain ⟨gu', off', uc', h1', hc', hf', hl', hne', hgl', c0', c1', c3', hu'⟩ := hrd1.cons
  rw [hb] at c3 c3'
  have HU : Hid (UniAt R w1 (.slice (some ⟨gu', off', none⟩) (t.length + 1) uc') (u :: t)) := hu'
  have hz : ((t.length : Int) + 1 == 0) = false := by simp; omega
  clear hcall hrd hrd1 hu hu' c1 c1' c3'
  go_enter Tryz.func108, Tryz.ntmps108
  go_wp2_with fail
  refine HC.out.mono ?_
  rintro e w' ⟨rfl, rfl⟩
  go_wp2
  go_ret2
  exact ⟨rfl, rfl⟩
set_option maxHeartbeats 1000000 in

theorem sign0_n (g : Nat) (w : World) (R : Nat) (tv : Value) (us : List U) (hb : us = [] ∨ ∃ u t, us = u :: t ∧ u.bad = true) (hrd : Rd w R tv us) :
    Calls Tryz.prog 108 #[.pointer (some ⟨R, 0, none⟩), .func (.func g) #[] #[]] w fun e w' => e = .returned (.tuple #[.int .i64 0, .bool false]) ∧ w = w' := by
  rcases hb with rfl | ⟨u, t, rfl, hb⟩
  · obtain ⟨ua, uc, h1, h0, hl⟩ := hrd.nil
    go_enter Tryz.func108, Tryz.ntmps108
    go_wp2_with fail
    go_ret2
    exact ⟨rfl, rfl⟩
  · obtain ⟨gu, off, uc, h1, hc, hf, hl, hne, hgl, c0, c1, c3, hu⟩ := hrd.cons
    rw [hb] at c3
    have hz : ((t.length : Int) + 1 == 0) = false := by simp; omega
    go_enter Tryz.func108, Tryz.ntmps108
    go_wp2_with fail
    go_ret2
    exact ⟨rfl, rfl⟩
set_option maxRecDepth 100000 in
set_option maxHeartbeats 2000000 in

theorem sign1_t (B : Nat) (g : Nat) (eg : ∀ args w, (callFunc g args).run Tryz.prog w = .ok (.enter g args) w) (w w1 : World) (R : Nat) (tv : Value) (u : U) (t : List U) (hb : u.bad = false) (hrd : Rd w R tv (u :: t)) (hrd1 : Rd w1 R tv (u :: t))
    (hcall : Calls Tryz.prog g #[.int .i64 u.r, .pointer (some ⟨B, 0, none⟩)] w fun e w' => e = .returned (.bool true) ∧ w1 = w') :
    Calls Tryz.prog 108 #[.pointer (some ⟨R, 0, none⟩), .func (.func g) #[] #[.pointer (some ⟨B, 0, none⟩)]] w fun e w' => e = .returned (.tuple #[.int .i64 u.r, .bool true]) ∧ Rd w' R tv t ∧ w1.grownBy w' (some R) := by
  have HC : Hid (Calls Tryz.prog g #[.int .i64 u.r, .pointer (some ⟨B, 0, none⟩)] w fun e w' => e = .returned (.bool true) ∧ w1 = w') := hcall
  have H1 : Hid (Rd w1 R tv (u :: t)) := hrd1
  obtain ⟨gu, off, uc, h1, hc, hf, hl, hne, hgl, c0, c1, c3, hu⟩ := hrd.cons
  obtain ⟨gu', off', uc', h1', hc', hf', hl', hne', hgl', c0', c1', c3', hu'⟩ := hrd1.cons
  rw [hb] at c3 c3'
  have HU : Hid (UniAt R w1 (.slice (some ⟨gu', off', none⟩) (t.length + 1) uc') (u :: t)) := hu'
  have hz : ((t.length : Int) + 1 == 0) = false := by simp; omega
  clear hcall hrd hrd1 hu hu' c1 c1' c3'
  go_enter Tryz.func108, Tryz.ntmps108
  go_wp2_with fail
  refine HC.out.mono ?_
  rintro e w' ⟨rfl, rfl⟩
  go_wp2
  all_goals
    go_ret2
    refine ⟨rfl, Rd.took H1.out _ ?_, grownR_set _ _ _ _⟩
    refine HU.out.tail' _ _ ?_
    intro q
    first | exact ⟨rfl, rfl⟩ | omega
set_option maxRecDepth 100000 in
set_option maxHeartbeats 2000000 in

theorem sign1_f (B : Nat) (g : Nat) (eg : ∀ args w, (callFunc g args).run Tryz.prog w = .ok (.enter g args) w) (w w1 : World) (R : Nat) (tv : Value) (u : U) (t : List U) (hb : u.bad = false) (hrd : Rd w R tv (u :: t)) (hrd1 : Rd w1 R tv (u :: t))
    (hcall : Calls Tryz.prog g #[.int .i64 u.r, .pointer (some ⟨B, 0, none⟩)] w fun e w' => e = .returned (.bool false) ∧ w1 = w') :
    Calls Tryz.prog 108 #[.pointer (some ⟨R, 0, none⟩), .func (.func g) #[] #[.pointer (some ⟨B, 0, none⟩)]] w fun e w' => e = .returned (.tuple #[.int .i64 0, .bool false]) ∧ w1 = w' := by
  have HC : Hid (Calls Tryz.prog g #[.int .i64 u.r, .pointer (some ⟨B, 0, none⟩)] w fun e w' => e = .returned (.bool false) ∧ w1 = w') := hcall
  have H1 : Hid (Rd w1 R tv (u :: t)) := hrd1
  obtain ⟨gu, off, uc, h1, hc, hf, hl, hne, hgl, c0, c1, c3, hu⟩ := hrd.cons
  obtain ⟨gu', off', uc', h1', hc', hf', hl', hne', hgl', c0', c1', c3', hu'⟩ := hrd1.cons
  rw [hb] at c3 c3'
  have HU : Hid (UniAt R w1 (.slice (some ⟨gu', off', none⟩) (t.length + 1) uc') (u :: t)) := hu'
  have hz : ((t.length : Int) + 1 == 0) = false := by simp; omega
  clear hcall hrd hrd1 hu hu' c1 c1' c3'
  go_enter Tryz.func108, Tryz.ntmps108
  go_wp2_with fail
  refine HC.out.mono ?_
  rintro e w' ⟨rfl, rfl⟩
  go_wp2
  go_ret2
  exact ⟨rfl, rfl⟩
set_option maxHeartbeats 1000000 in

theorem sign1_n (B : Nat) (g : Nat) (w : World) (R : Nat) (tv : Value) (us : List U) (hb : us = [] ∨ ∃ u t, us = u :: t ∧ u.bad = true) (hrd : Rd w R tv us) :
    Calls Tryz.prog 108 #[.pointer (some ⟨R, 0, none⟩), .func (.func g) #[] #[.pointer (some ⟨B, 0, none⟩)]] w fun e w' => e = .returned (.tuple #[.int .i64 0, .bool false]) ∧ w = w' := by
  rcases hb with rfl | ⟨u, t, rfl, hb⟩
  · obtain ⟨ua, uc, h1, h0, hl⟩ := hrd.nil
    go_enter Tryz.func108, Tryz.ntmps108
    go_wp2_with fail
    go_ret2
    exact ⟨rfl, rfl⟩
  · obtain ⟨gu, off, uc, h1, hc, hf, hl, hne, hgl, c0, c1, c3, hu⟩ := hrd.cons
    rw [hb] at c3
    have hz : ((t.length : Int) + 1 == 0) = false := by simp; omega
    go_enter Tryz.func108, Tryz.ntmps108
    go_wp2_with fail
    go_ret2
    exact ⟨rfl, rfl⟩
set_option maxRecDepth 100000 in
set_option maxHeartbeats 2000000 in

theorem sign2_t (B C : Nat) (g : Nat) (eg : ∀ args w, (callFunc g args).run Tryz.prog w = .ok (.enter g args) w) (w w1 : World) (R : Nat) (tv : Value) (u : U) (t : List U) (hb : u.bad = false) (hrd : Rd w R tv (u :: t)) (hrd1 : Rd w1 R tv (u :: t))
    (hcall : Calls Tryz.prog g #[.int .i64 u.r, .pointer (some ⟨B, 0, none⟩), .pointer (some ⟨C, 0, none⟩)] w fun e w' => e = .returned (.bool true) ∧ w1 = w') :
    Calls Tryz.prog 108 #[.pointer (some ⟨R, 0, none⟩), .func (.func g) #[] #[.pointer (some ⟨B, 0, none⟩), .pointer (some ⟨C, 0, none⟩)]] w fun e w' => e = .returned (.tuple #[.int .i64 u.r, .bool true]) ∧ Rd w' R tv t ∧ w1.grownBy w' (some R) := by
  have HC : Hid (Calls Tryz.prog g #[.int .i64 u.r, .pointer (some ⟨B, 0, none⟩), .pointer (some ⟨C, 0, none⟩)] w fun e w' => e = .returned (.bool true) ∧ w1 = w') := hcall
  have H1 : Hid (Rd w1 R tv (u :: t)) := hrd1
  obtain ⟨gu, off, uc, h1, hc, hf, hl, hne, hgl, c0, c1, c3, hu⟩ := hrd.cons
  obtain ⟨gu', off', uc', h1', hc', hf', hl', hne', hgl', c0', c1', c3', hu'⟩ := hrd1.cons
  rw [hb] at c3 c3'
  have HU : Hid (UniAt R w1 (.slice (some ⟨gu', off', none⟩) (t.length + 1) uc') (u :: t)) := hu'
  have hz : ((t.length : Int) + 1 == 0) = false := by simp; omega
  clear hcall hrd hrd1 hu hu' c1 c1' c3'
  go_enter Tryz.func108, Tryz.ntmps108
  go_wp2_with fail
  refine HC.out.mono ?_
  rintro e w' ⟨rfl, rfl⟩
  go_wp2
  all_goals
    go_ret2
    refine ⟨rfl, Rd.took H1.out _ ?_, grownR_set _ _ _ _⟩
    refine HU.out.tail' _ _ ?_
    intro q
    first | exact ⟨rfl, rfl⟩ | omega
set_option maxRecDepth 100000 in
set_option maxHeartbeats 2000000 in

theorem sign2_f (B C : Nat) (g : Nat) (eg : ∀ args w, (callFunc g args).run Tryz.prog w = .ok (.enter g args) w) (w w1 : World) (R : Nat) (tv : Value) (u : U) (t : List U) (hb : u.bad = false) (hrd : Rd w R tv (u :: t)) (hrd1 : Rd w1 R tv (u :: t))
    (hcall : Calls Tryz.prog g #[.int .i64 u.r, .pointer (some ⟨B, 0, none⟩), .pointer (some ⟨C, 0, none⟩)] w fun e w' => e = .returned (.bool false) ∧ w1 = w') :
    Calls Tryz.prog 108 #[.pointer (some ⟨R, 0, none⟩), .func (.func g) #[] #[.pointer (some ⟨B, 0, none⟩), .pointer (some ⟨C, 0, none⟩)]] w fun e w' => e = .returned (.tuple #[.int .i64 0, .bool false]) ∧ w1 = w' := by
  have HC : Hid (Calls Tryz.prog g #[.int .i64 u.r, .pointer (some ⟨B, 0, none⟩), .pointer (some ⟨C, 0, none⟩)] w fun e w' => e = .returned (.bool false) ∧ w1 = w') := hcall
  have H1 : Hid (Rd w1 R tv (u :: t)) := hrd1
  obtain ⟨gu, off, uc, h1, hc, hf, hl, hne, hgl, c0, c1, c3, hu⟩ := hrd.cons
  obtain ⟨gu', off', uc', h1', hc', hf', hl', hne', hgl', c0', c1', c3', hu'⟩ := hrd1.cons
  rw [hb] at c3 c3'
  have HU : Hid (UniAt R w1 (.slice (some ⟨gu', off', none⟩) (t.length + 1) uc') (u :: t)) := hu'
  have hz : ((t.length : Int) + 1 == 0) = false := by simp; omega
  clear hcall hrd hrd1 hu hu' c1 c1' c3'
  go_enter Tryz.func108, Tryz.ntmps108
  go_wp2_with fail
  refine HC.out.mono ?_
  rintro e w' ⟨rfl, rfl⟩
  go_wp2
  go_ret2
  exact ⟨rfl, rfl⟩
set_option maxHeartbeats 1000000 in

theorem sign2_n (B C : Nat) (g : Nat) (w : World) (R : Nat) (tv : Value) (us : List U) (hb : us = [] ∨ ∃ u t, us = u :: t ∧ u.bad = true) (hrd : Rd w R tv us) :
    Calls Tryz.prog 108 #[.pointer (some ⟨R, 0, none⟩), .func (.func g) #[] #[.pointer (some ⟨B, 0, none⟩), .pointer (some ⟨C, 0, none⟩)]] w fun e w' => e = .returned (.tuple #[.int .i64 0, .bool false]) ∧ w = w' := by
  rcases hb with rfl | ⟨u, t, rfl, hb⟩
  · obtain ⟨ua, uc, h1, h0, hl⟩ := hrd.nil
    go_enter Tryz.func108, Tryz.ntmps108
    go_wp2_with fail
    go_ret2
    exact ⟨rfl, rfl⟩
  · obtain ⟨gu, off, uc, h1, hc, hf, hl, hne, hgl, c0, c1, c3, hu⟩ := hrd.cons
    rw [hb] at c3
    have hz : ((t.length : Int) + 1 == 0) = false := by simp; omega
    go_enter Tryz.func108, Tryz.ntmps108
    go_wp2_with fail
    go_ret2
    exact ⟨rfl, rfl⟩
theorem sign0_any (g : Nat) (p : Int → Bool) (hg : RuleF g p) (eg : ∀ args w, (callFunc g args).run Tryz.prog w = .ok (.enter g args) w) (w : World) (R : Nat) (tv : Value) (us : List U) (hrd : Rd w R tv us) :
    Calls Tryz.prog 108 #[.pointer (some ⟨R, 0, none⟩), .func (.func g) #[] #[]] w fun e w' => e = .returned (.tuple #[.int .i64 ((sgn p us).1.getD 0), .bool (sgn p us).1.isSome]) ∧ Rd w' R tv (sgn p us).2 ∧ w.grownBy w' (some R) := by
  match us, hrd with
  | [], hrd => exact (sign0_n _ w R tv [] (.inl rfl) hrd).mono fun e w' ⟨he, hw⟩ => ⟨he, by rw [← hw]; exact hrd, by rw [← hw]; exact World.grownBy.refl _ _⟩
  | u :: t, hrd =>
    cases hb : u.bad with
    | true =>
      have es : sgn p (u :: t) = (none, u :: t) := by rw [sgn_cons, if_neg (by simp [fitU, hb])]
      rw [es]
      exact (sign0_n _ w R tv (u :: t) (.inr ⟨u, t, rfl, hb⟩) hrd).mono fun e w' ⟨he, hw⟩ => ⟨he, by rw [← hw]; exact hrd, by rw [← hw]; exact World.grownBy.refl _ _⟩
    | false =>
      have hc := hg u.r w
      cases hq : p u.r with
      | true =>
        rw [hq] at hc
        have es : sgn p (u :: t) = (some u.r, t) := by rw [sgn_cons, if_pos (by simp [fitU, hb, hq])]
        rw [es]
        exact sign0_t g eg w w R tv u t hb hrd hrd hc
      | false =>
        rw [hq] at hc
        have es : sgn p (u :: t) = (none, u :: t) := by rw [sgn_cons, if_neg (by simp [fitU, hb, hq])]
        rw [es]
        exact (sign0_f g eg w w R tv u t hb hrd hrd hc).mono fun e w' ⟨he, hw⟩ => ⟨he, by rw [← hw]; exact hrd, by rw [← hw]; exact World.grownBy.refl _ _⟩
set_option maxHeartbeats 1000000 in
theorem take0_any (g : Nat) (p : Int → Bool) (hg : RuleF g p) (eg : ∀ args w, (callFunc g args).run Tryz.prog w = .ok (.enter g args) w) (w : World) (R : Nat) (tv : Value) (us : List U) (hrd : Rd w R tv us) :
    Calls Tryz.prog 70 #[.pointer (some ⟨R, 0, none⟩), .func (.func g) #[] #[]] w fun e w' => e = .returned (.bool (sgn p us).1.isSome) ∧ Rd w' R tv (sgn p us).2 ∧ w.grownBy w' (some R) := by
  have HS := sign0_any g p hg eg w R tv us hrd
  obtain ⟨x, hx⟩ : ∃ x : Int, x = (sgn p us).1.getD 0 := ⟨_, rfl⟩
  obtain ⟨b, hb⟩ : ∃ b : Bool, b = (sgn p us).1.isSome := ⟨_, rfl⟩
  rw [← hx, ← hb] at HS
  rw [← hb]
  clear hx hb
  go_enter Tryz.func70, Tryz.ntmps70
  go_wp2_with fail
  refine HS.mono ?_
  rintro e w' ⟨rfl, hr, hw⟩
  go_wp2
  go_ret
  exact ⟨rfl, hr, hw⟩
theorem sign1_any (B : Nat) (c : Int) (w : World) (R : Nat) (tv : Value) (us : List U) (hrd : Rd w R tv us) (hB : w.cell? ⟨B, 0, none⟩ = some (.int .i64 c)) :
    Calls Tryz.prog 108 #[.pointer (some ⟨R, 0, none⟩), .func (.func 109) #[] #[.pointer (some ⟨B, 0, none⟩)]] w fun e w' => e = .returned (.tuple #[.int .i64 ((sgn (isC c) us).1.getD 0), .bool (sgn (isC c) us).1.isSome]) ∧ Rd w' R tv (sgn (isC c) us).2 ∧ w.grownBy w' (some R) := by
  match us, hrd with
  | [], hrd => exact (sign1_n B _ w R tv [] (.inl rfl) hrd).mono fun e w' ⟨he, hw⟩ => ⟨he, by rw [← hw]; exact hrd, by rw [← hw]; exact World.grownBy.refl _ _⟩
  | u :: t, hrd =>
    cases hb : u.bad with
    | true =>
      have es : sgn (isC c) (u :: t) = (none, u :: t) := by rw [sgn_cons, if_neg (by simp [fitU, hb])]
      rw [es]
      exact (sign1_n B _ w R tv (u :: t) (.inr ⟨u, t, rfl, hb⟩) hrd).mono fun e w' ⟨he, hw⟩ => ⟨he, by rw [← hw]; exact hrd, by rw [← hw]; exact World.grownBy.refl _ _⟩
    | false =>
      have hc := is1_any c u.r B w hB
      cases hq : (isC c) u.r with
      | true =>
        rw [hq] at hc
        have es : sgn (isC c) (u :: t) = (some u.r, t) := by rw [sgn_cons, if_pos (by simp [fitU, hb, hq])]
        rw [es]
        exact sign1_t B 109 (enters_of Tryz.func109 (by kernel_rfl) rfl) w w R tv u t hb hrd hrd hc
      | false =>
        rw [hq] at hc
        have es : sgn (isC c) (u :: t) = (none, u :: t) := by rw [sgn_cons, if_neg (by simp [fitU, hb, hq])]
        rw [es]
        exact (sign1_f B 109 (enters_of Tryz.func109 (by kernel_rfl) rfl) w w R tv u t hb hrd hrd hc).mono fun e w' ⟨he, hw⟩ => ⟨he, by rw [← hw]; exact hrd, by rw [← hw]; exact World.grownBy.refl _ _⟩
set_option maxHeartbeats 1000000 in
theorem take1_any (B : Nat) (c : Int) (w : World) (R : Nat) (tv : Value) (us : List U) (hrd : Rd w R tv us) (hB : w.cell? ⟨B, 0, none⟩ = some (.int .i64 c)) :
    Calls Tryz.prog 70 #[.pointer (some ⟨R, 0, none⟩), .func (.func 109) #[] #[.pointer (some ⟨B, 0, none⟩)]] w fun e w' => e = .returned (.bool (sgn (isC c) us).1.isSome) ∧ Rd w' R tv (sgn (isC c) us).2 ∧ w.grownBy w' (some R) := by
  have HS := sign1_any B c w R tv us hrd hB
  obtain ⟨x, hx⟩ : ∃ x : Int, x = (sgn (isC c) us).1.getD 0 := ⟨_, rfl⟩
  obtain ⟨b, hb⟩ : ∃ b : Bool, b = (sgn (isC c) us).1.isSome := ⟨_, rfl⟩
  rw [← hx, ← hb] at HS
  rw [← hb]
  clear hx hb
  go_enter Tryz.func70, Tryz.ntmps70
  go_wp2_with fail
  refine HS.mono ?_
  rintro e w' ⟨rfl, hr, hw⟩
  go_wp2
  go_ret
  exact ⟨rfl, hr, hw⟩
theorem sgn_drop (p : Int → Bool) (us : List U) : ((sgn p us).1.isSome = true → (sgn p us).2.dropWhile (fitU p) = us.dropWhile (fitU p) ∧ (sgn p us).2.length + 1 = us.length) ∧ ((sgn p us).1.isSome = false → us.dropWhile (fitU p) = us ∧ (sgn p us).2 = us) := by
  cases us with
  | nil =>
    refine ⟨fun h => ?_, fun _ => ⟨rfl, rfl⟩⟩
    cases h
  | cons u t =>
    rw [sgn_cons]
    by_cases q : fitU p u = true
    · rw [if_pos q]
      refine ⟨fun _ => ⟨?_, rfl⟩, fun h => ?_⟩
      · simp [q]
      · cases h
    · rw [if_neg q]
      refine ⟨fun h => ?_, fun _ => ⟨?_, rfl⟩⟩
      · cases h
      · simp [q]
set_option maxRecDepth 100000 in
set_option maxHeartbeats 1000000 in
theorem takeAll_any (g : Nat) (p : Int → Bool) (hg : RuleF g p) (eg : ∀ args w, (callFunc g args).run Tryz.prog w = .ok (.enter g args) w) (w : World) (R : Nat) (tv : Value) (us : List U) (hrd : Rd w R tv us) :
    Calls Tryz.prog 73 #[.pointer (some ⟨R, 0, none⟩), .func (.func g) #[] #[]] w fun e w' => e = .returned (.tuple #[]) ∧ Rd w' R tv (us.dropWhile (fitU p)) ∧ w.grownBy w' (some R) := by
  have HG : Hid (RuleF g p) := hg
  clear hg
  go_enter Tryz.func73, Tryz.ntmps73
  go_wp2
  go_loopw [] (fun wr => ∃ vs : List U, vs.dropWhile (fitU p) = us.dropWhile (fitU p) ∧ Rd wr R tv vs ∧ w.grownBy wr (some R)) (fun wr => leftN wr R)
  case atStart => exact ⟨us, rfl, hrd, World.grownBy.refl _ _⟩
  case round =>
    obtain ⟨vs, hd, hr, hw⟩ := hrel
    have HD : Hid (vs.dropWhile (fitU p) = us.dropWhile (fitU p)) := hd
    have hm := take0_any g p HG.out eg wr R tv vs hr
    have hl0 := hr.left
    have hsd := sgn_drop p vs
    cases hq : (sgn p vs).1.isSome with
    | true =>
      rw [hq] at hm
      obtain ⟨e1, e2⟩ := hsd.1 hq
      have HE : Hid ((sgn p vs).2.dropWhile (fitU p) = vs.dropWhile (fitU p)) := e1
      have HL : Hid ((sgn p vs).2.length + 1 = vs.length) := e2
      clear hsd hd e1 e2 hq
      go_wp2_with fail
      refine hm.mono ?_
      rintro e w' ⟨rfl, hr2, hw2⟩
      go_wp2
      go_roundw
      case rel => exact ⟨_, HE.out.trans HD.out, hr2, hw.trans hw2⟩
      case measure => rw [hr2.left, hl0]; have := HL.out; omega
    | false =>
      rw [hq] at hm
      obtain ⟨e1, e2⟩ := hsd.2 hq
      have HE : Hid (vs = us.dropWhile (fitU p)) := e1.symm.trans hd
      rw [e2] at hm
      clear hsd hd e1 e2 hq
      go_wp2_with fail
      refine hm.mono ?_
      rintro e w' ⟨rfl, hr2, hw2⟩
      go_wp2
      go_end0
      exact ⟨rfl, by rw [← HE.out]; exact hr2, hw.trans hw2⟩
end Go.Proofs.YtfdjchnckjgapaaGreatDoor

namespace Go.Proofs.YtfdjchnckjgapaaGreatDoor
open Go.RowKit Go.Shelf S1
set_option linter.unusedVariables false
theorem blank_note : ∀ (us : List U), blankL true us = blankL false (us.dropWhile (fitU noteR))
  | [] => rfl
  | u :: t => by
    have ih := blank_note t
    cases hb : u.bad with
    | true =>
      have h1 : fitU noteR u = false := by simp [fitU, hb]
      rw [List.dropWhile_cons, h1]
      simp [blankL, hb]
    | false =>
      by_cases h10 : u.r = 10
      · have h1 : fitU noteR u = false := by simp [fitU, noteR, h10]
        rw [List.dropWhile_cons, h1]
        simp [blankL, hb, h10, blankR]
      · have h1 : fitU noteR u = true := by simp [fitU, noteR, h10, hb]
        rw [List.dropWhile_cons, h1]
        simp [blankL, hb, h10, ih]
theorem blank_step {us r : List U} {x : Int} (h : sgn blankR us = (some x, r)) : blankL false us = blankL false r := by
  obtain ⟨u, rfl, hf, _⟩ := sgn_some h
  have hb : u.bad = false := by simp [fitU] at hf; exact hf.1
  have hr : blankR u.r = true := by simp [fitU] at hf; exact hf.2
  have h35 : u.r ≠ 35 := fun e => by rw [e] at hr; simp [blankR] at hr
  simp [blankL, hb, hr, h35]
theorem blank_hash {us r : List U} {x : Int} (h : sgn (isC 35) us = (some x, r)) : blankL false us = blankL false (r.dropWhile (fitU noteR)) := by
  obtain ⟨u, rfl, hf, _⟩ := sgn_some h
  have hb : u.bad = false := by simp [fitU] at hf; exact hf.1
  have hr : u.r = 35 := by simp [fitU, isC] at hf; exact hf.2
  rw [← blank_note]
  simp [blankL, hb, hr]
theorem blank_none {us a b : List U} (h : sgn blankR us = (none, a)) (h2 : sgn (isC 35) us = (none, b)) : blankL false us = us := by
  match us, h, h2 with
  | [], _, _ => rfl
  | u :: t, h, h2 =>
    obtain ⟨_, e | ⟨u1, t1, e, q1⟩⟩ := sgn_none h
    · cases e
    obtain ⟨_, e2 | ⟨u2, t2, e2, q2⟩⟩ := sgn_none h2
    · cases e2
    injection e with e3 e4
    injection e2 with e5 e6
    rw [← e3] at q1
    rw [← e5] at q2
    simp [fitU] at q1 q2
    cases hb : u.bad with
    | true => simp [blankL, hb]
    | false =>
      have k1 := q1 hb
      have k2 := q2 hb
      have k3 : u.r ≠ 35 := fun e => by rw [e] at k2; simp [isC] at k2
      simp [blankL, hb, k1, k3]
set_option maxRecDepth 100000 in
set_option maxHeartbeats 2000000 in
theorem takeBlanks_any (w : World) (R : Nat) (tv : Value) (us : List U) (hrd : Rd w R tv us) :
    Calls Tryz.prog 35 #[.pointer (some ⟨R, 0, none⟩)] w fun e w' => e = .returned (.tuple #[]) ∧ Rd w' R tv (blankL false us) ∧ w.grownBy w' (some R) := by
  go_enter Tryz.func35, Tryz.ntmps35
  go_wp2
  go_loopw [] (fun wr => ∃ vs : List U, blankL false vs = blankL false us ∧ Rd wr R tv vs ∧ w.grownBy wr (some R)) (fun wr => leftN wr R)
  case atStart => exact ⟨us, rfl, hrd, World.grownBy.refl _ _⟩
  case round =>
    obtain ⟨vs, hd, hr, hw⟩ := hrel
    have HD : Hid (blankL false vs = blankL false us) := hd
    have hl0 := hr.left
    have HR : Hid (Rd wr R tv vs) := hr
    have hm := take0_any 71 blankR isBlank_any (enters_of Tryz.func71 (by kernel_rfl) rfl) wr R tv vs hr
    cases h1 : sgn blankR vs with
    | mk o1 r1 => cases o1 with
      | some x =>
        have HS := blank_step h1
        have HL := sgn_len h1
        rw [h1] at hm
        have HS' : Hid (blankL false vs = blankL false r1) := HS
        clear HS h1 hd hr
        go_wp2_with fail
        refine hm.mono ?_
        rintro e w' ⟨rfl, hr2, hw2⟩
        go_wp2
        go_roundw
        case rel => exact ⟨r1, HS'.out.symm.trans HD.out, hr2, hw.trans hw2⟩
        case measure => rw [hr2.left, hl0]; show r1.length < _; omega
      | none =>
        rw [h1] at hm
        have e1 := (sgn_none h1).1
        subst e1
        go_wp2_with fail
        refine hm.mono ?_
        rintro e w2 ⟨rfl, hr2, hw2⟩
        have hw02 : w.grownBy w2 (some R) := hw.trans hw2
        have hr3 : Rd (w2.alloc (.cells #[.int .i64 35] 3)) R tv r1 := hr2.alloc _
        have hm2 := take1_any w2.heap.size 35 (w2.alloc (.cells #[.int .i64 35] 3)) R tv r1 hr3 (World.cell?_alloc_new _ _ _ _)
        have hw03 : w.grownBy (w2.alloc (.cells #[.int .i64 35] 3)) (some R) := hw02.trans (World.grownBy_alloc _ _ _)
        cases h2 : sgn (isC 35) r1 with
        | mk o2 r2 => cases o2 with
          | some x =>
            have HS := blank_hash h2
            have HL := sgn_len h2
            have HLD := dropWhile_le (fitU noteR) r2
            rw [h2] at hm2
            have HS' : Hid (blankL false r1 = blankL false (r2.dropWhile (fitU noteR))) := HS
            clear HS h2 h1 hd hr hm HR hw2 hr2 hr3 hw hw02
            go_wp2_with (first | (go_at_call 72; refine (is_any _ _).mono ?_; rintro e w' ⟨rfl, rfl⟩) | (go_at_call 70; refine hm2.mono ?_; rintro e w4 ⟨rfl, hr4, hw4⟩) | (go_at_call 73; refine (takeAll_any 74 noteR isInNote_any (enters_of Tryz.func74 (by kernel_rfl) rfl) w4 R tv r2 hr4).mono ?_; rintro e w5 ⟨rfl, hr5, hw5⟩))
            go_roundw
            case rel => exact ⟨_, HS'.out.symm.trans HD.out, hr5, (hw03.trans hw4).trans hw5⟩
            case measure => rw [hr5.left, hl0]; omega
          | none =>
            have HS := blank_none h1 h2
            rw [h2] at hm2
            have e2 := (sgn_none h2).1
            subst e2
            have HS' : Hid (r2 = blankL false us) := HS.symm.trans hd
            clear HS h2 h1 hd hr hm HR hw2 hr2 hr3 hw hw02
            go_wp2_with (first | (go_at_call 72; refine (is_any _ _).mono ?_; rintro e w' ⟨rfl, rfl⟩) | (go_at_call 70; refine hm2.mono ?_; rintro e w4 ⟨rfl, hr4, hw4⟩))
            refine bodyPost_ret (results_none rfl _ _ _) rfl ?_
            exact ⟨rfl, by rw [← HS'.out]; exact hr4, hw03.trans hw4⟩
set_option maxHeartbeats 1000000 in
theorem stuck_any (us : List U) (R : Nat) (a : Option Addr) (n cap : Nat) (w : World) (hrd : Rd w R (.slice a n cap) us) :
    Calls Tryz.prog 81 #[.pointer (some ⟨R, 0, none⟩)] w fun e w' => e = .returned (.tuple #[.int .i64 (atL n us : Int), .int .i64 (stuckE us)]) ∧ w = w' := by
  have ha := at_any us R a n cap w hrd
  match us, hrd, ha with
  | [], hrd, ha =>
    obtain ⟨ua, uc, h1, h0, hl⟩ := hrd.nil
    go_enter Tryz.func81, Tryz.ntmps81
    go_wp2_with (go_at_call 75; refine ha.mono ?_; rintro e w' ⟨rfl, rfl⟩)
    go_ret2
    exact ⟨rfl, rfl⟩
  | u :: t, hrd, ha =>
    obtain ⟨g, off, uc, h1, hc, hf, hl, hne, hgl, c0, c1, c3, hu⟩ := hrd.cons
    have hz : ((t.length : Int) + 1 == 0) = false := by simp; omega
    go_enter Tryz.func81, Tryz.ntmps81
    go_wp2_with (go_at_call 75; refine ha.mono ?_; rintro e w' ⟨rfl, rfl⟩)
    go_ret2
    exact ⟨rfl, rfl⟩
end Go.Proofs.YtfdjchnckjgapaaGreatDoor
