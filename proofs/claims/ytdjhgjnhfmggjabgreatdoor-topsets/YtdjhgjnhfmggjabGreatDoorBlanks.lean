/-
  What takeBlanks and stuck answer.
-/
import Derived.Test.YtdjhgjnhfmggjabGreatDoorSigns
namespace Go.Proofs.YtdjhgjnhfmggjabGreatDoor
open Go.RowKit Go.Shelf S1
set_option linter.unusedVariables false

theorem blank_note : ∀ (us : List U), blankL true us = blankL false (us.dropWhile (fitU noteR))
  | [] => rfl
  | u :: t => by
    have ih := blank_note t
    cases hb : u.bad with
    | true =>
      have h1 : fitU noteR u = false := by simp [fitU, hb]
      rw [List.dropWhile_cons, h1]
      simp [blankL, hb]
    | false =>
      by_cases h10 : u.r = 10
      · have h1 : fitU noteR u = false := by simp [fitU, noteR, h10]
        rw [List.dropWhile_cons, h1]
        simp [blankL, hb, h10, blankR]
      · have h1 : fitU noteR u = true := by simp [fitU, noteR, h10, hb]
        rw [List.dropWhile_cons, h1]
        simp [blankL, hb, h10, ih]
theorem blank_step {us r : List U} {x : Int} (h : sgn blankR us = (some x, r)) : blankL false us = blankL false r := by
  obtain ⟨u, rfl, hf, _⟩ := sgn_some h
  have hb : u.bad = false := by simp [fitU] at hf; exact hf.1
  have hr : blankR u.r = true := by simp [fitU] at hf; exact hf.2
  have h35 : u.r ≠ 35 := fun e => by rw [e] at hr; simp [blankR] at hr
  simp [blankL, hb, hr, h35]
theorem blank_hash {us r : List U} {x : Int} (h : sgn (isC 35) us = (some x, r)) : blankL false us = blankL false (r.dropWhile (fitU noteR)) := by
  obtain ⟨u, rfl, hf, _⟩ := sgn_some h
  have hb : u.bad = false := by simp [fitU] at hf; exact hf.1
  have hr : u.r = 35 := by simp [fitU, isC] at hf; exact hf.2
  rw [← blank_note]
  simp [blankL, hb, hr]
theorem blank_none {us a b : List U} (h : sgn blankR us = (none, a)) (h2 : sgn (isC 35) us = (none, b)) : blankL false us = us := by
  match us, h, h2 with
  | [], _, _ => rfl
  | u :: t, h, h2 =>
    obtain ⟨_, e | ⟨u1, t1, e, q1⟩⟩ := sgn_none h
    · cases e
    obtain ⟨_, e2 | ⟨u2, t2, e2, q2⟩⟩ := sgn_none h2
    · cases e2
    injection e with e3 e4
    injection e2 with e5 e6
    rw [← e3] at q1
    rw [← e5] at q2
    simp [fitU] at q1 q2
    cases hb : u.bad with
    | true => simp [blankL, hb]
    | false =>
      have k1 := q1 hb
      have k2 := q2 hb
      have k3 : u.r ≠ 35 := fun e => by rw [e] at k2; simp [isC] at k2
      simp [blankL, hb, k1, k3]

set_option maxRecDepth 100000 in
set_option maxHeartbeats 2000000 in
theorem takeBlanks_any (w : World) (R : Nat) (tv : Value) (us : List U) (hrd : Rd w R tv us) :
    Calls Tryz.prog 19 #[.pointer (some ⟨R, 0, none⟩)] w fun e w' => e = .returned (.tuple #[]) ∧ Rd w' R tv (blankL false us) ∧ w.grownBy w' (some R) := by
  go_enter Tryz.func19, Tryz.ntmps19
  go_wp2
  go_loopw [] (fun wr => ∃ vs : List U, blankL false vs = blankL false us ∧ Rd wr R tv vs ∧ w.grownBy wr (some R)) (fun wr => leftN wr R)
  case atStart => exact ⟨us, rfl, hrd, World.grownBy.refl _ _⟩
  case round =>
    obtain ⟨vs, hd, hr, hw⟩ := hrel
    have HD : Hid (blankL false vs = blankL false us) := hd
    have hl0 := hr.left
    have HR : Hid (Rd wr R tv vs) := hr
    have hm := take0_any 35 blankR isBlank_any (enters_of Tryz.func35 (by kernel_rfl) rfl) wr R tv vs hr
    cases h1 : sgn blankR vs with
    | mk o1 r1 => cases o1 with
      | some x =>
        have HS := blank_step h1
        have HL := sgn_len h1
        rw [h1] at hm
        have HS' : Hid (blankL false vs = blankL false r1) := HS
        clear HS h1 hd hr
        go_wp2_with fail
        refine hm.mono ?_
        rintro e w' ⟨rfl, hr2, hw2⟩
        go_wp2
        go_roundw
        case rel => exact ⟨r1, HS'.out.symm.trans HD.out, hr2, hw.trans hw2⟩
        case measure => rw [hr2.left, hl0]; show r1.length < _; omega
      | none =>
        rw [h1] at hm
        have e1 := (sgn_none h1).1
        subst e1
        go_wp2_with fail
        refine hm.mono ?_
        rintro e w2 ⟨rfl, hr2, hw2⟩
        have hw02 : w.grownBy w2 (some R) := hw.trans hw2
        have hr3 : Rd (w2.alloc (.cells #[.int .i64 35] 3)) R tv r1 := hr2.alloc _
        have hm2 := take1_any w2.heap.size 35 (w2.alloc (.cells #[.int .i64 35] 3)) R tv r1 hr3 (World.cell?_alloc_new _ _ _ _)
        have hw03 : w.grownBy (w2.alloc (.cells #[.int .i64 35] 3)) (some R) := hw02.trans (World.grownBy_alloc _ _ _)
        cases h2 : sgn (isC 35) r1 with
        | mk o2 r2 => cases o2 with
          | some x =>
            have HS := blank_hash h2
            have HL := sgn_len h2
            have HLD := dropWhile_le (fitU noteR) r2
            rw [h2] at hm2
            have HS' : Hid (blankL false r1 = blankL false (r2.dropWhile (fitU noteR))) := HS
            clear HS h2 h1 hd hr hm HR hw2 hr2 hr3 hw hw02
            go_wp2_with (first | (go_at_call 36; refine (is_any _ _).mono ?_; rintro e w' ⟨rfl, rfl⟩) | (go_at_call 34; refine hm2.mono ?_; rintro e w4 ⟨rfl, hr4, hw4⟩) | (go_at_call 37; refine (takeAll_any 38 noteR isInNote_any (enters_of Tryz.func38 (by kernel_rfl) rfl) w4 R tv r2 hr4).mono ?_; rintro e w5 ⟨rfl, hr5, hw5⟩))
            go_roundw
            case rel => exact ⟨_, HS'.out.symm.trans HD.out, hr5, (hw03.trans hw4).trans hw5⟩
            case measure => rw [hr5.left, hl0]; omega
          | none =>
            have HS := blank_none h1 h2
            rw [h2] at hm2
            have e2 := (sgn_none h2).1
            subst e2
            have HS' : Hid (r2 = blankL false us) := HS.symm.trans hd
            clear HS h2 h1 hd hr hm HR hw2 hr2 hr3 hw hw02
            go_wp2_with (first | (go_at_call 36; refine (is_any _ _).mono ?_; rintro e w' ⟨rfl, rfl⟩) | (go_at_call 34; refine hm2.mono ?_; rintro e w4 ⟨rfl, hr4, hw4⟩))
            refine bodyPost_ret (results_none rfl _ _ _) rfl ?_
            exact ⟨rfl, by rw [← HS'.out]; exact hr4, hw03.trans hw4⟩

set_option maxHeartbeats 1000000 in
theorem stuck_any (us : List U) (R : Nat) (a : Option Addr) (n cap : Nat) (w : World) (hrd : Rd w R (.slice a n cap) us) :
    Calls Tryz.prog 45 #[.pointer (some ⟨R, 0, none⟩)] w fun e w' => e = .returned (.tuple #[.int .i64 (atL n us : Int), .int .i64 (stuckE us)]) ∧ w = w' := by
  have ha := at_any us R a n cap w hrd
  match us, hrd, ha with
  | [], hrd, ha =>
    obtain ⟨ua, uc, h1, h0, hl⟩ := hrd.nil
    go_enter Tryz.func45, Tryz.ntmps45
    go_wp2_with (go_at_call 39; refine ha.mono ?_; rintro e w' ⟨rfl, rfl⟩)
    go_ret2
    exact ⟨rfl, rfl⟩
  | u :: t, hrd, ha =>
    obtain ⟨g, off, uc, h1, hc, hf, hl, hne, hgl, c0, c1, c3, hu⟩ := hrd.cons
    have hz : ((t.length : Int) + 1 == 0) = false := by simp; omega
    go_enter Tryz.func45, Tryz.ntmps45
    go_wp2_with (go_at_call 39; refine ha.mono ?_; rintro e w' ⟨rfl, rfl⟩)
    go_ret2
    exact ⟨rfl, rfl⟩
end Go.Proofs.YtdjhgjnhfmggjabGreatDoor
