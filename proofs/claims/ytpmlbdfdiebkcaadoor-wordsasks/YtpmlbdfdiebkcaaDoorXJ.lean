/-
  scansionref06.ends, mark, letter, quiet, joined: the document's rules 7 to 18. scansionref06.Head, back, next, kind, flags: the document's own way to the heads. scansionref06.Break, All: the document's twenty rules.
-/
import Derived.Test.YtpmlbdfdiebkcaaDoorAw6
import Derived.Deep.Cut
import Derived.Deep.CutRange
import Derived.Test.YtpmlbdfdiebkcaaDoorXR
namespace Go.Proofs.YtpmlbdfdiebkcaaDoor
open Go.RowKit
set_option linter.unusedVariables false

theorem rends_any (k : Int) (w : World) : Calls Tryd.prog 33 #[.int .i64 k] w fun e w' => e = .returned (.bool (lineK k)) ∧ w' = w := by
  by_cases h0 : k = 1
  · subst h0
    skip
    go_enter Tryd.func33, Tryd.ntmps33
    go_wp2
    go_ret
    exact ⟨rfl, rfl⟩
  by_cases h1 : k = 2
  · subst h1
    clear h0
    go_enter Tryd.func33, Tryd.ntmps33
    go_wp2
    go_ret
    exact ⟨rfl, rfl⟩
  by_cases h2 : k = 3
  · subst h2
    clear h0 h1
    go_enter Tryd.func33, Tryd.ntmps33
    go_wp2
    go_ret
    exact ⟨rfl, rfl⟩
  have e0 : (k == 1) = false := by simpa using h0
  have e1 : (k == 2) = false := by simpa using h1
  have e2 : (k == 3) = false := by simpa using h2
  have e : lineK k = false := by unfold lineK; rw [e0, e1, e2]; rfl
  rw [e]
  clear e h0 h1 h2
  go_enter Tryd.func33, Tryd.ntmps33
  go_wp2
  go_ret
  exact ⟨rfl, rfl⟩
theorem rmark_any (k : Int) (w : World) : Calls Tryd.prog 35 #[.int .i64 k] w fun e w' => e = .returned (.bool (markK k)) ∧ w' = w := by
  by_cases h0 : k = 4
  · subst h0
    skip
    go_enter Tryd.func35, Tryd.ntmps35
    go_wp2
    go_ret
    exact ⟨rfl, rfl⟩
  by_cases h1 : k = 6
  · subst h1
    clear h0
    go_enter Tryd.func35, Tryd.ntmps35
    go_wp2
    go_ret
    exact ⟨rfl, rfl⟩
  by_cases h2 : k = 5
  · subst h2
    clear h0 h1
    go_enter Tryd.func35, Tryd.ntmps35
    go_wp2
    go_ret
    exact ⟨rfl, rfl⟩
  have e0 : (k == 4) = false := by simpa using h0
  have e1 : (k == 6) = false := by simpa using h1
  have e2 : (k == 5) = false := by simpa using h2
  have e : markK k = false := by unfold markK; rw [e0, e1, e2]; rfl
  rw [e]
  clear e h0 h1 h2
  go_enter Tryd.func35, Tryd.ntmps35
  go_wp2
  go_ret
  exact ⟨rfl, rfl⟩
theorem rletter_any (k : Int) (w : World) : Calls Tryd.prog 59 #[.int .i64 k] w fun e w' => e = .returned (.bool (letK k)) ∧ w' = w := by
  by_cases h0 : k = 10
  · subst h0
    skip
    go_enter Tryd.func59, Tryd.ntmps59
    go_wp2
    go_ret
    exact ⟨rfl, rfl⟩
  by_cases h1 : k = 9
  · subst h1
    clear h0
    go_enter Tryd.func59, Tryd.ntmps59
    go_wp2
    go_ret
    exact ⟨rfl, rfl⟩
  have e0 : (k == 10) = false := by simpa using h0
  have e1 : (k == 9) = false := by simpa using h1
  have e : letK k = false := by unfold letK; rw [e0, e1]; rfl
  rw [e]
  clear e h0 h1
  go_enter Tryd.func59, Tryd.ntmps59
  go_wp2
  go_ret
  exact ⟨rfl, rfl⟩
theorem rquiet_any (k : Int) (w : World) : Calls Tryd.prog 60 #[.int .i64 k] w fun e w' => e = .returned (.bool (quietK k)) ∧ w' = w := by
  by_cases h0 : k = 13
  · subst h0
    skip
    go_enter Tryd.func60, Tryd.ntmps60
    go_wp2
    go_ret
    exact ⟨rfl, rfl⟩
  by_cases h1 : k = 11
  · subst h1
    clear h0
    go_enter Tryd.func60, Tryd.ntmps60
    go_wp2
    go_ret
    exact ⟨rfl, rfl⟩
  have e0 : (k == 13) = false := by simpa using h0
  have e1 : (k == 11) = false := by simpa using h1
  have e : quietK k = false := by unfold quietK; rw [e0, e1]; rfl
  rw [e]
  clear e h0 h1
  go_enter Tryd.func60, Tryd.ntmps60
  go_wp2
  go_ret
  exact ⟨rfl, rfl⟩

set_option maxRecDepth 100000 in
set_option maxHeartbeats 16000000 in
theorem joined_any (before last b next : Int) (w : World) :
    Calls Tryd.prog 36 #[.int .i64 before, .int .i64 last, .int .i64 b, .int .i64 next] w fun e w' => e = .returned (.bool (joinK before last b next)) ∧ w' = w := by
  obtain ⟨E, hE⟩ : ∃ E, E = joinK before last b next := ⟨_, rfl⟩
  have HE0 : Hid (E = ((((((((((((letK last && letK b) || ((letK last && ((b == 14) || quietK b)) && letK next)) || ((letK before && ((last == 14) || quietK last)) && letK b)) || ((last == 9) && ((b == 11) || ((b == 12) && (next == 9))))) || (((before == 9) && (last == 12)) && (b == 9))) || (((last == 16) && ((b == 16) || letK b)) || (letK last && (b == 16)))) || (((before == 16) && ((last == 15) || quietK last)) && (b == 16))) || (((last == 16) && ((b == 15) || quietK b)) && (next == 16))) || ((last == 8) && (b == 8))) || ((((letK last || (last == 16)) || (last == 8)) || (last == 17)) && (b == 17))) || ((last == 17) && ((letK b || (b == 16)) || (b == 8)))))) := hE
  rw [← hE]
  clear hE
  go_enter Tryd.func36, Tryd.ntmps36
  go_upto_region 1 with fail
  go_cut [9] from 10 to 15 (fun s wx => s = .bool (letK last && letK b) ∧ w = wx)
  case first =>
    obtain ⟨q, h0⟩ : ∃ q, letK last = q := ⟨_, rfl⟩
    cases q with
    | true =>
      obtain ⟨q, h1⟩ : ∃ q, letK b = q := ⟨_, rfl⟩
      cases q with
      | true =>
        go_wp2_with (first | (go_at_call 59; refine (rletter_any _ _).mono ?_; rintro e w' ⟨rfl, rfl⟩) | (go_at_call 60; refine (rquiet_any _ _).mono ?_; rintro e w' ⟨rfl, rfl⟩) | fail)
        go_meet
        exact ⟨congrArg Value.bool (by first | (rw [h0, h1]; rfl) | rw [h0, h1]), rfl⟩
      | false =>
        go_wp2_with (first | (go_at_call 59; refine (rletter_any _ _).mono ?_; rintro e w' ⟨rfl, rfl⟩) | (go_at_call 60; refine (rquiet_any _ _).mono ?_; rintro e w' ⟨rfl, rfl⟩) | fail)
        go_meet
        exact ⟨congrArg Value.bool (by first | (rw [h0, h1]; rfl) | rw [h0, h1]), rfl⟩
    | false =>
      go_wp2_with (first | (go_at_call 59; refine (rletter_any _ _).mono ?_; rintro e w' ⟨rfl, rfl⟩) | (go_at_call 60; refine (rquiet_any _ _).mono ?_; rintro e w' ⟨rfl, rfl⟩) | fail)
      go_meet
      exact ⟨congrArg Value.bool (by first | (rw [h0]; rfl) | rw [h0]), rfl⟩
  case rest =>
  obtain ⟨rfl, rfl⟩ := hcut
  obtain ⟨c0, hc⟩ : ∃ c, c = (letK last && letK b) := ⟨_, rfl⟩
  rw [← hc]
  have HE1 : Hid (E = (c0 || ((((((((((((letK last && ((b == 14) || quietK b)) && letK next) || ((letK before && ((last == 14) || quietK last)) && letK b)) || ((last == 9) && ((b == 11) || ((b == 12) && (next == 9))))) || (((before == 9) && (last == 12)) && (b == 9))) || (((last == 16) && ((b == 16) || letK b)) || (letK last && (b == 16)))) || (((before == 16) && ((last == 15) || quietK last)) && (b == 16))) || (((last == 16) && ((b == 15) || quietK b)) && (next == 16))) || ((last == 8) && (b == 8))) || ((((letK last || (last == 16)) || (last == 8)) || (last == 17)) && (b == 17))) || ((last == 17) && ((letK b || (b == 16)) || (b == 8))))))) := by show E = _; first | (rw [hc, HE0.out]; simp only [Bool.or_assoc]) | rw [hc, HE0.out]
  clear hc
  cases c0 with
  | true =>
    obtain rfl : E = true := by rw [HE1.out]; rfl
    go_wp2
    go_ret
    exact ⟨rfl, rfl⟩
  | false =>
  replace HE1 : Hid (E = ((((((((((((letK last && ((b == 14) || quietK b)) && letK next) || ((letK before && ((last == 14) || quietK last)) && letK b)) || ((last == 9) && ((b == 11) || ((b == 12) && (next == 9))))) || (((before == 9) && (last == 12)) && (b == 9))) || (((last == 16) && ((b == 16) || letK b)) || (letK last && (b == 16)))) || (((before == 16) && ((last == 15) || quietK last)) && (b == 16))) || (((last == 16) && ((b == 15) || quietK b)) && (next == 16))) || ((last == 8) && (b == 8))) || ((((letK last || (last == 16)) || (last == 8)) || (last == 17)) && (b == 17))) || ((last == 17) && ((letK b || (b == 16)) || (b == 8)))))) := by show E = _; rw [HE1.out]; rfl
  go_upto_region 3 with fail
  go_cut [16] from 17 to 30 (fun s wx => s = .bool ((letK last && ((b == 14) || quietK b)) && letK next) ∧ w = wx)
  case first =>
    obtain ⟨q, h0⟩ : ∃ q, letK last = q := ⟨_, rfl⟩
    cases q with
    | true =>
      obtain ⟨q, h1⟩ : ∃ q, (b == 14) = q := ⟨_, rfl⟩
      cases q with
      | true =>
        obtain ⟨q, h2⟩ : ∃ q, letK next = q := ⟨_, rfl⟩
        cases q with
        | true =>
          go_wp2_with (first | (go_at_call 59; refine (rletter_any _ _).mono ?_; rintro e w' ⟨rfl, rfl⟩) | (go_at_call 60; refine (rquiet_any _ _).mono ?_; rintro e w' ⟨rfl, rfl⟩) | fail)
          go_meet
          exact ⟨congrArg Value.bool (by first | (rw [h0, h1, h2]; rfl) | rw [h0, h1, h2]), rfl⟩
        | false =>
          go_wp2_with (first | (go_at_call 59; refine (rletter_any _ _).mono ?_; rintro e w' ⟨rfl, rfl⟩) | (go_at_call 60; refine (rquiet_any _ _).mono ?_; rintro e w' ⟨rfl, rfl⟩) | fail)
          go_meet
          exact ⟨congrArg Value.bool (by first | (rw [h0, h1, h2]; rfl) | rw [h0, h1, h2]), rfl⟩
      | false =>
        obtain ⟨q, h2⟩ : ∃ q, quietK b = q := ⟨_, rfl⟩
        cases q with
        | true =>
          obtain ⟨q, h3⟩ : ∃ q, letK next = q := ⟨_, rfl⟩
          cases q with
          | true =>
            go_wp2_with (first | (go_at_call 59; refine (rletter_any _ _).mono ?_; rintro e w' ⟨rfl, rfl⟩) | (go_at_call 60; refine (rquiet_any _ _).mono ?_; rintro e w' ⟨rfl, rfl⟩) | fail)
            go_meet
            exact ⟨congrArg Value.bool (by first | (rw [h0, h1, h2, h3]; rfl) | rw [h0, h1, h2, h3]), rfl⟩
          | false =>
            go_wp2_with (first | (go_at_call 59; refine (rletter_any _ _).mono ?_; rintro e w' ⟨rfl, rfl⟩) | (go_at_call 60; refine (rquiet_any _ _).mono ?_; rintro e w' ⟨rfl, rfl⟩) | fail)
            go_meet
            exact ⟨congrArg Value.bool (by first | (rw [h0, h1, h2, h3]; rfl) | rw [h0, h1, h2, h3]), rfl⟩
        | false =>
          go_wp2_with (first | (go_at_call 59; refine (rletter_any _ _).mono ?_; rintro e w' ⟨rfl, rfl⟩) | (go_at_call 60; refine (rquiet_any _ _).mono ?_; rintro e w' ⟨rfl, rfl⟩) | fail)
          go_meet
          exact ⟨congrArg Value.bool (by first | (rw [h0, h1, h2]; rfl) | rw [h0, h1, h2]), rfl⟩
    | false =>
      go_wp2_with (first | (go_at_call 59; refine (rletter_any _ _).mono ?_; rintro e w' ⟨rfl, rfl⟩) | (go_at_call 60; refine (rquiet_any _ _).mono ?_; rintro e w' ⟨rfl, rfl⟩) | fail)
      go_meet
      exact ⟨congrArg Value.bool (by first | (rw [h0]; rfl) | rw [h0]), rfl⟩
  case rest =>
  obtain ⟨rfl, rfl⟩ := hcut
  obtain ⟨c1, hc⟩ : ∃ c, c = ((letK last && ((b == 14) || quietK b)) && letK next) := ⟨_, rfl⟩
  rw [← hc]
  have HE2 : Hid (E = (c1 || (((((((((((letK before && ((last == 14) || quietK last)) && letK b) || ((last == 9) && ((b == 11) || ((b == 12) && (next == 9))))) || (((before == 9) && (last == 12)) && (b == 9))) || (((last == 16) && ((b == 16) || letK b)) || (letK last && (b == 16)))) || (((before == 16) && ((last == 15) || quietK last)) && (b == 16))) || (((last == 16) && ((b == 15) || quietK b)) && (next == 16))) || ((last == 8) && (b == 8))) || ((((letK last || (last == 16)) || (last == 8)) || (last == 17)) && (b == 17))) || ((last == 17) && ((letK b || (b == 16)) || (b == 8))))))) := by show E = _; first | (rw [hc, HE1.out]; simp only [Bool.or_assoc]) | rw [hc, HE1.out]
  clear hc
  cases c1 with
  | true =>
    obtain rfl : E = true := by rw [HE2.out]; rfl
    go_wp2
    go_ret
    exact ⟨rfl, rfl⟩
  | false =>
  replace HE2 : Hid (E = (((((((((((letK before && ((last == 14) || quietK last)) && letK b) || ((last == 9) && ((b == 11) || ((b == 12) && (next == 9))))) || (((before == 9) && (last == 12)) && (b == 9))) || (((last == 16) && ((b == 16) || letK b)) || (letK last && (b == 16)))) || (((before == 16) && ((last == 15) || quietK last)) && (b == 16))) || (((last == 16) && ((b == 15) || quietK b)) && (next == 16))) || ((last == 8) && (b == 8))) || ((((letK last || (last == 16)) || (last == 8)) || (last == 17)) && (b == 17))) || ((last == 17) && ((letK b || (b == 16)) || (b == 8)))))) := by show E = _; rw [HE2.out]; rfl
  go_upto_region 5 with fail
  go_cut [31] from 32 to 45 (fun s wx => s = .bool ((letK before && ((last == 14) || quietK last)) && letK b) ∧ w = wx)
  case first =>
    obtain ⟨q, h0⟩ : ∃ q, letK before = q := ⟨_, rfl⟩
    cases q with
    | true =>
      obtain ⟨q, h1⟩ : ∃ q, (last == 14) = q := ⟨_, rfl⟩
      cases q with
      | true =>
        obtain ⟨q, h2⟩ : ∃ q, letK b = q := ⟨_, rfl⟩
        cases q with
        | true =>
          go_wp2_with (first | (go_at_call 59; refine (rletter_any _ _).mono ?_; rintro e w' ⟨rfl, rfl⟩) | (go_at_call 60; refine (rquiet_any _ _).mono ?_; rintro e w' ⟨rfl, rfl⟩) | fail)
          go_meet
          exact ⟨congrArg Value.bool (by first | (rw [h0, h1, h2]; rfl) | rw [h0, h1, h2]), rfl⟩
        | false =>
          go_wp2_with (first | (go_at_call 59; refine (rletter_any _ _).mono ?_; rintro e w' ⟨rfl, rfl⟩) | (go_at_call 60; refine (rquiet_any _ _).mono ?_; rintro e w' ⟨rfl, rfl⟩) | fail)
          go_meet
          exact ⟨congrArg Value.bool (by first | (rw [h0, h1, h2]; rfl) | rw [h0, h1, h2]), rfl⟩
      | false =>
        obtain ⟨q, h2⟩ : ∃ q, quietK last = q := ⟨_, rfl⟩
        cases q with
        | true =>
          obtain ⟨q, h3⟩ : ∃ q, letK b = q := ⟨_, rfl⟩
          cases q with
          | true =>
            go_wp2_with (first | (go_at_call 59; refine (rletter_any _ _).mono ?_; rintro e w' ⟨rfl, rfl⟩) | (go_at_call 60; refine (rquiet_any _ _).mono ?_; rintro e w' ⟨rfl, rfl⟩) | fail)
            go_meet
            exact ⟨congrArg Value.bool (by first | (rw [h0, h1, h2, h3]; rfl) | rw [h0, h1, h2, h3]), rfl⟩
          | false =>
            go_wp2_with (first | (go_at_call 59; refine (rletter_any _ _).mono ?_; rintro e w' ⟨rfl, rfl⟩) | (go_at_call 60; refine (rquiet_any _ _).mono ?_; rintro e w' ⟨rfl, rfl⟩) | fail)
            go_meet
            exact ⟨congrArg Value.bool (by first | (rw [h0, h1, h2, h3]; rfl) | rw [h0, h1, h2, h3]), rfl⟩
        | false =>
          go_wp2_with (first | (go_at_call 59; refine (rletter_any _ _).mono ?_; rintro e w' ⟨rfl, rfl⟩) | (go_at_call 60; refine (rquiet_any _ _).mono ?_; rintro e w' ⟨rfl, rfl⟩) | fail)
          go_meet
          exact ⟨congrArg Value.bool (by first | (rw [h0, h1, h2]; rfl) | rw [h0, h1, h2]), rfl⟩
    | false =>
      go_wp2_with (first | (go_at_call 59; refine (rletter_any _ _).mono ?_; rintro e w' ⟨rfl, rfl⟩) | (go_at_call 60; refine (rquiet_any _ _).mono ?_; rintro e w' ⟨rfl, rfl⟩) | fail)
      go_meet
      exact ⟨congrArg Value.bool (by first | (rw [h0]; rfl) | rw [h0]), rfl⟩
  case rest =>
  obtain ⟨rfl, rfl⟩ := hcut
  obtain ⟨c2, hc⟩ : ∃ c, c = ((letK before && ((last == 14) || quietK last)) && letK b) := ⟨_, rfl⟩
  rw [← hc]
  have HE3 : Hid (E = (c2 || ((((((((((last == 9) && ((b == 11) || ((b == 12) && (next == 9)))) || (((before == 9) && (last == 12)) && (b == 9))) || (((last == 16) && ((b == 16) || letK b)) || (letK last && (b == 16)))) || (((before == 16) && ((last == 15) || quietK last)) && (b == 16))) || (((last == 16) && ((b == 15) || quietK b)) && (next == 16))) || ((last == 8) && (b == 8))) || ((((letK last || (last == 16)) || (last == 8)) || (last == 17)) && (b == 17))) || ((last == 17) && ((letK b || (b == 16)) || (b == 8))))))) := by show E = _; first | (rw [hc, HE2.out]; simp only [Bool.or_assoc]) | rw [hc, HE2.out]
  clear hc
  cases c2 with
  | true =>
    obtain rfl : E = true := by rw [HE3.out]; rfl
    go_wp2
    go_ret
    exact ⟨rfl, rfl⟩
  | false =>
  replace HE3 : Hid (E = ((((((((((last == 9) && ((b == 11) || ((b == 12) && (next == 9)))) || (((before == 9) && (last == 12)) && (b == 9))) || (((last == 16) && ((b == 16) || letK b)) || (letK last && (b == 16)))) || (((before == 16) && ((last == 15) || quietK last)) && (b == 16))) || (((last == 16) && ((b == 15) || quietK b)) && (next == 16))) || ((last == 8) && (b == 8))) || ((((letK last || (last == 16)) || (last == 8)) || (last == 17)) && (b == 17))) || ((last == 17) && ((letK b || (b == 16)) || (b == 8)))))) := by show E = _; rw [HE3.out]; rfl
  go_upto_region 7 with fail
  go_cut [46] from 47 to 60 (fun s wx => s = .bool ((last == 9) && ((b == 11) || ((b == 12) && (next == 9)))) ∧ w = wx)
  case first =>
    obtain ⟨q, h0⟩ : ∃ q, (last == 9) = q := ⟨_, rfl⟩
    cases q with
    | true =>
      obtain ⟨q, h1⟩ : ∃ q, (b == 11) = q := ⟨_, rfl⟩
      cases q with
      | true =>
        go_wp2_with (first | (go_at_call 59; refine (rletter_any _ _).mono ?_; rintro e w' ⟨rfl, rfl⟩) | (go_at_call 60; refine (rquiet_any _ _).mono ?_; rintro e w' ⟨rfl, rfl⟩) | fail)
        go_meet
        exact ⟨congrArg Value.bool (by first | (rw [h0, h1]; rfl) | rw [h0, h1]), rfl⟩
      | false =>
        obtain ⟨q, h2⟩ : ∃ q, (b == 12) = q := ⟨_, rfl⟩
        cases q with
        | true =>
          obtain ⟨q, h3⟩ : ∃ q, (next == 9) = q := ⟨_, rfl⟩
          cases q with
          | true =>
            go_wp2_with (first | (go_at_call 59; refine (rletter_any _ _).mono ?_; rintro e w' ⟨rfl, rfl⟩) | (go_at_call 60; refine (rquiet_any _ _).mono ?_; rintro e w' ⟨rfl, rfl⟩) | fail)
            go_meet
            exact ⟨congrArg Value.bool (by first | (rw [h0, h1, h2, h3]; rfl) | rw [h0, h1, h2, h3]), rfl⟩
          | false =>
            go_wp2_with (first | (go_at_call 59; refine (rletter_any _ _).mono ?_; rintro e w' ⟨rfl, rfl⟩) | (go_at_call 60; refine (rquiet_any _ _).mono ?_; rintro e w' ⟨rfl, rfl⟩) | fail)
            go_meet
            exact ⟨congrArg Value.bool (by first | (rw [h0, h1, h2, h3]; rfl) | rw [h0, h1, h2, h3]), rfl⟩
        | false =>
          go_wp2_with (first | (go_at_call 59; refine (rletter_any _ _).mono ?_; rintro e w' ⟨rfl, rfl⟩) | (go_at_call 60; refine (rquiet_any _ _).mono ?_; rintro e w' ⟨rfl, rfl⟩) | fail)
          go_meet
          exact ⟨congrArg Value.bool (by first | (rw [h0, h1, h2]; rfl) | rw [h0, h1, h2]), rfl⟩
    | false =>
      go_wp2_with (first | (go_at_call 59; refine (rletter_any _ _).mono ?_; rintro e w' ⟨rfl, rfl⟩) | (go_at_call 60; refine (rquiet_any _ _).mono ?_; rintro e w' ⟨rfl, rfl⟩) | fail)
      go_meet
      exact ⟨congrArg Value.bool (by first | (rw [h0]; rfl) | rw [h0]), rfl⟩
  case rest =>
  obtain ⟨rfl, rfl⟩ := hcut
  obtain ⟨c3, hc⟩ : ∃ c, c = ((last == 9) && ((b == 11) || ((b == 12) && (next == 9)))) := ⟨_, rfl⟩
  rw [← hc]
  have HE4 : Hid (E = (c3 || ((((((((((before == 9) && (last == 12)) && (b == 9)) || (((last == 16) && ((b == 16) || letK b)) || (letK last && (b == 16)))) || (((before == 16) && ((last == 15) || quietK last)) && (b == 16))) || (((last == 16) && ((b == 15) || quietK b)) && (next == 16))) || ((last == 8) && (b == 8))) || ((((letK last || (last == 16)) || (last == 8)) || (last == 17)) && (b == 17))) || ((last == 17) && ((letK b || (b == 16)) || (b == 8))))))) := by show E = _; first | (rw [hc, HE3.out]; simp only [Bool.or_assoc]) | rw [hc, HE3.out]
  clear hc
  cases c3 with
  | true =>
    obtain rfl : E = true := by rw [HE4.out]; rfl
    go_wp2
    go_ret
    exact ⟨rfl, rfl⟩
  | false =>
  replace HE4 : Hid (E = ((((((((((before == 9) && (last == 12)) && (b == 9)) || (((last == 16) && ((b == 16) || letK b)) || (letK last && (b == 16)))) || (((before == 16) && ((last == 15) || quietK last)) && (b == 16))) || (((last == 16) && ((b == 15) || quietK b)) && (next == 16))) || ((last == 8) && (b == 8))) || ((((letK last || (last == 16)) || (last == 8)) || (last == 17)) && (b == 17))) || ((last == 17) && ((letK b || (b == 16)) || (b == 8)))))) := by show E = _; rw [HE4.out]; rfl
  go_upto_region 9 with fail
  go_cut [61] from 62 to 71 (fun s wx => s = .bool (((before == 9) && (last == 12)) && (b == 9)) ∧ w = wx)
  case first =>
    obtain ⟨q, h0⟩ : ∃ q, (before == 9) = q := ⟨_, rfl⟩
    cases q with
    | true =>
      obtain ⟨q, h1⟩ : ∃ q, (last == 12) = q := ⟨_, rfl⟩
      cases q with
      | true =>
        obtain ⟨q, h2⟩ : ∃ q, (b == 9) = q := ⟨_, rfl⟩
        cases q with
        | true =>
          go_wp2_with (first | (go_at_call 59; refine (rletter_any _ _).mono ?_; rintro e w' ⟨rfl, rfl⟩) | (go_at_call 60; refine (rquiet_any _ _).mono ?_; rintro e w' ⟨rfl, rfl⟩) | fail)
          go_meet
          exact ⟨congrArg Value.bool (by first | (rw [h0, h1, h2]; rfl) | rw [h0, h1, h2]), rfl⟩
        | false =>
          go_wp2_with (first | (go_at_call 59; refine (rletter_any _ _).mono ?_; rintro e w' ⟨rfl, rfl⟩) | (go_at_call 60; refine (rquiet_any _ _).mono ?_; rintro e w' ⟨rfl, rfl⟩) | fail)
          go_meet
          exact ⟨congrArg Value.bool (by first | (rw [h0, h1, h2]; rfl) | rw [h0, h1, h2]), rfl⟩
      | false =>
        go_wp2_with (first | (go_at_call 59; refine (rletter_any _ _).mono ?_; rintro e w' ⟨rfl, rfl⟩) | (go_at_call 60; refine (rquiet_any _ _).mono ?_; rintro e w' ⟨rfl, rfl⟩) | fail)
        go_meet
        exact ⟨congrArg Value.bool (by first | (rw [h0, h1]; rfl) | rw [h0, h1]), rfl⟩
    | false =>
      go_wp2_with (first | (go_at_call 59; refine (rletter_any _ _).mono ?_; rintro e w' ⟨rfl, rfl⟩) | (go_at_call 60; refine (rquiet_any _ _).mono ?_; rintro e w' ⟨rfl, rfl⟩) | fail)
      go_meet
      exact ⟨congrArg Value.bool (by first | (rw [h0]; rfl) | rw [h0]), rfl⟩
  case rest =>
  obtain ⟨rfl, rfl⟩ := hcut
  obtain ⟨c4, hc⟩ : ∃ c, c = (((before == 9) && (last == 12)) && (b == 9)) := ⟨_, rfl⟩
  rw [← hc]
  have HE5 : Hid (E = (c4 || (((((((((last == 16) && ((b == 16) || letK b)) || (letK last && (b == 16))) || (((before == 16) && ((last == 15) || quietK last)) && (b == 16))) || (((last == 16) && ((b == 15) || quietK b)) && (next == 16))) || ((last == 8) && (b == 8))) || ((((letK last || (last == 16)) || (last == 8)) || (last == 17)) && (b == 17))) || ((last == 17) && ((letK b || (b == 16)) || (b == 8))))))) := by show E = _; first | (rw [hc, HE4.out]; simp only [Bool.or_assoc]) | rw [hc, HE4.out]
  clear hc
  cases c4 with
  | true =>
    obtain rfl : E = true := by rw [HE5.out]; rfl
    go_wp2
    go_ret
    exact ⟨rfl, rfl⟩
  | false =>
  replace HE5 : Hid (E = (((((((((last == 16) && ((b == 16) || letK b)) || (letK last && (b == 16))) || (((before == 16) && ((last == 15) || quietK last)) && (b == 16))) || (((last == 16) && ((b == 15) || quietK b)) && (next == 16))) || ((last == 8) && (b == 8))) || ((((letK last || (last == 16)) || (last == 8)) || (last == 17)) && (b == 17))) || ((last == 17) && ((letK b || (b == 16)) || (b == 8)))))) := by show E = _; rw [HE5.out]; rfl
  go_upto_region 11 with fail
  go_cut [72] from 73 to 90 (fun s wx => s = .bool (((last == 16) && ((b == 16) || letK b)) || (letK last && (b == 16))) ∧ w = wx)
  case first =>
    obtain ⟨q, h0⟩ : ∃ q, (last == 16) = q := ⟨_, rfl⟩
    cases q with
    | true =>
      obtain ⟨q, h1⟩ : ∃ q, (b == 16) = q := ⟨_, rfl⟩
      cases q with
      | true =>
        go_wp2_with (first | (go_at_call 59; refine (rletter_any _ _).mono ?_; rintro e w' ⟨rfl, rfl⟩) | (go_at_call 60; refine (rquiet_any _ _).mono ?_; rintro e w' ⟨rfl, rfl⟩) | fail)
        go_meet
        exact ⟨congrArg Value.bool (by first | (rw [h0, h1]; rfl) | rw [h0, h1]), rfl⟩
      | false =>
        obtain ⟨q, h2⟩ : ∃ q, letK b = q := ⟨_, rfl⟩
        cases q with
        | true =>
          go_wp2_with (first | (go_at_call 59; refine (rletter_any _ _).mono ?_; rintro e w' ⟨rfl, rfl⟩) | (go_at_call 60; refine (rquiet_any _ _).mono ?_; rintro e w' ⟨rfl, rfl⟩) | fail)
          go_meet
          exact ⟨congrArg Value.bool (by first | (rw [h0, h1, h2]; rfl) | rw [h0, h1, h2]), rfl⟩
        | false =>
          obtain ⟨q, h3⟩ : ∃ q, letK last = q := ⟨_, rfl⟩
          cases q with
          | true =>
            go_wp2_with (first | (go_at_call 59; refine (rletter_any _ _).mono ?_; rintro e w' ⟨rfl, rfl⟩) | (go_at_call 60; refine (rquiet_any _ _).mono ?_; rintro e w' ⟨rfl, rfl⟩) | fail)
            go_meet
            exact ⟨congrArg Value.bool (by first | (rw [h0, h1, h2, h3]; rfl) | rw [h0, h1, h2, h3]), rfl⟩
          | false =>
            go_wp2_with (first | (go_at_call 59; refine (rletter_any _ _).mono ?_; rintro e w' ⟨rfl, rfl⟩) | (go_at_call 60; refine (rquiet_any _ _).mono ?_; rintro e w' ⟨rfl, rfl⟩) | fail)
            go_meet
            exact ⟨congrArg Value.bool (by first | (rw [h0, h1, h2, h3]; rfl) | rw [h0, h1, h2, h3]), rfl⟩
    | false =>
      obtain ⟨q, h1⟩ : ∃ q, letK last = q := ⟨_, rfl⟩
      cases q with
      | true =>
        obtain ⟨q, h2⟩ : ∃ q, (b == 16) = q := ⟨_, rfl⟩
        cases q with
        | true =>
          go_wp2_with (first | (go_at_call 59; refine (rletter_any _ _).mono ?_; rintro e w' ⟨rfl, rfl⟩) | (go_at_call 60; refine (rquiet_any _ _).mono ?_; rintro e w' ⟨rfl, rfl⟩) | fail)
          go_meet
          exact ⟨congrArg Value.bool (by first | (rw [h0, h1, h2]; rfl) | rw [h0, h1, h2]), rfl⟩
        | false =>
          go_wp2_with (first | (go_at_call 59; refine (rletter_any _ _).mono ?_; rintro e w' ⟨rfl, rfl⟩) | (go_at_call 60; refine (rquiet_any _ _).mono ?_; rintro e w' ⟨rfl, rfl⟩) | fail)
          go_meet
          exact ⟨congrArg Value.bool (by first | (rw [h0, h1, h2]; rfl) | rw [h0, h1, h2]), rfl⟩
      | false =>
        go_wp2_with (first | (go_at_call 59; refine (rletter_any _ _).mono ?_; rintro e w' ⟨rfl, rfl⟩) | (go_at_call 60; refine (rquiet_any _ _).mono ?_; rintro e w' ⟨rfl, rfl⟩) | fail)
        go_meet
        exact ⟨congrArg Value.bool (by first | (rw [h0, h1]; rfl) | rw [h0, h1]), rfl⟩
  case rest =>
  obtain ⟨rfl, rfl⟩ := hcut
  obtain ⟨c5, hc⟩ : ∃ c, c = (((last == 16) && ((b == 16) || letK b)) || (letK last && (b == 16))) := ⟨_, rfl⟩
  rw [← hc]
  have HE6 : Hid (E = (c5 || ((((((((before == 16) && ((last == 15) || quietK last)) && (b == 16)) || (((last == 16) && ((b == 15) || quietK b)) && (next == 16))) || ((last == 8) && (b == 8))) || ((((letK last || (last == 16)) || (last == 8)) || (last == 17)) && (b == 17))) || ((last == 17) && ((letK b || (b == 16)) || (b == 8))))))) := by show E = _; first | (rw [hc, HE5.out]; simp only [Bool.or_assoc]) | rw [hc, HE5.out]
  clear hc
  cases c5 with
  | true =>
    obtain rfl : E = true := by rw [HE6.out]; rfl
    go_wp2
    go_ret
    exact ⟨rfl, rfl⟩
  | false =>
  replace HE6 : Hid (E = ((((((((before == 16) && ((last == 15) || quietK last)) && (b == 16)) || (((last == 16) && ((b == 15) || quietK b)) && (next == 16))) || ((last == 8) && (b == 8))) || ((((letK last || (last == 16)) || (last == 8)) || (last == 17)) && (b == 17))) || ((last == 17) && ((letK b || (b == 16)) || (b == 8)))))) := by show E = _; rw [HE6.out]; rfl
  go_upto_region 13 with fail
  go_cut [91] from 92 to 105 (fun s wx => s = .bool (((before == 16) && ((last == 15) || quietK last)) && (b == 16)) ∧ w = wx)
  case first =>
    obtain ⟨q, h0⟩ : ∃ q, (before == 16) = q := ⟨_, rfl⟩
    cases q with
    | true =>
      obtain ⟨q, h1⟩ : ∃ q, (last == 15) = q := ⟨_, rfl⟩
      cases q with
      | true =>
        obtain ⟨q, h2⟩ : ∃ q, (b == 16) = q := ⟨_, rfl⟩
        cases q with
        | true =>
          go_wp2_with (first | (go_at_call 59; refine (rletter_any _ _).mono ?_; rintro e w' ⟨rfl, rfl⟩) | (go_at_call 60; refine (rquiet_any _ _).mono ?_; rintro e w' ⟨rfl, rfl⟩) | fail)
          go_meet
          exact ⟨congrArg Value.bool (by first | (rw [h0, h1, h2]; rfl) | rw [h0, h1, h2]), rfl⟩
        | false =>
          go_wp2_with (first | (go_at_call 59; refine (rletter_any _ _).mono ?_; rintro e w' ⟨rfl, rfl⟩) | (go_at_call 60; refine (rquiet_any _ _).mono ?_; rintro e w' ⟨rfl, rfl⟩) | fail)
          go_meet
          exact ⟨congrArg Value.bool (by first | (rw [h0, h1, h2]; rfl) | rw [h0, h1, h2]), rfl⟩
      | false =>
        obtain ⟨q, h2⟩ : ∃ q, quietK last = q := ⟨_, rfl⟩
        cases q with
        | true =>
          obtain ⟨q, h3⟩ : ∃ q, (b == 16) = q := ⟨_, rfl⟩
          cases q with
          | true =>
            go_wp2_with (first | (go_at_call 59; refine (rletter_any _ _).mono ?_; rintro e w' ⟨rfl, rfl⟩) | (go_at_call 60; refine (rquiet_any _ _).mono ?_; rintro e w' ⟨rfl, rfl⟩) | fail)
            go_meet
            exact ⟨congrArg Value.bool (by first | (rw [h0, h1, h2, h3]; rfl) | rw [h0, h1, h2, h3]), rfl⟩
          | false =>
            go_wp2_with (first | (go_at_call 59; refine (rletter_any _ _).mono ?_; rintro e w' ⟨rfl, rfl⟩) | (go_at_call 60; refine (rquiet_any _ _).mono ?_; rintro e w' ⟨rfl, rfl⟩) | fail)
            go_meet
            exact ⟨congrArg Value.bool (by first | (rw [h0, h1, h2, h3]; rfl) | rw [h0, h1, h2, h3]), rfl⟩
        | false =>
          go_wp2_with (first | (go_at_call 59; refine (rletter_any _ _).mono ?_; rintro e w' ⟨rfl, rfl⟩) | (go_at_call 60; refine (rquiet_any _ _).mono ?_; rintro e w' ⟨rfl, rfl⟩) | fail)
          go_meet
          exact ⟨congrArg Value.bool (by first | (rw [h0, h1, h2]; rfl) | rw [h0, h1, h2]), rfl⟩
    | false =>
      go_wp2_with (first | (go_at_call 59; refine (rletter_any _ _).mono ?_; rintro e w' ⟨rfl, rfl⟩) | (go_at_call 60; refine (rquiet_any _ _).mono ?_; rintro e w' ⟨rfl, rfl⟩) | fail)
      go_meet
      exact ⟨congrArg Value.bool (by first | (rw [h0]; rfl) | rw [h0]), rfl⟩
  case rest =>
  obtain ⟨rfl, rfl⟩ := hcut
  obtain ⟨c6, hc⟩ : ∃ c, c = (((before == 16) && ((last == 15) || quietK last)) && (b == 16)) := ⟨_, rfl⟩
  rw [← hc]
  have HE7 : Hid (E = (c6 || (((((((last == 16) && ((b == 15) || quietK b)) && (next == 16)) || ((last == 8) && (b == 8))) || ((((letK last || (last == 16)) || (last == 8)) || (last == 17)) && (b == 17))) || ((last == 17) && ((letK b || (b == 16)) || (b == 8))))))) := by show E = _; first | (rw [hc, HE6.out]; simp only [Bool.or_assoc]) | rw [hc, HE6.out]
  clear hc
  cases c6 with
  | true =>
    obtain rfl : E = true := by rw [HE7.out]; rfl
    go_wp2
    go_ret
    exact ⟨rfl, rfl⟩
  | false =>
  replace HE7 : Hid (E = (((((((last == 16) && ((b == 15) || quietK b)) && (next == 16)) || ((last == 8) && (b == 8))) || ((((letK last || (last == 16)) || (last == 8)) || (last == 17)) && (b == 17))) || ((last == 17) && ((letK b || (b == 16)) || (b == 8)))))) := by show E = _; rw [HE7.out]; rfl
  go_upto_region 15 with fail
  go_cut [106] from 107 to 120 (fun s wx => s = .bool (((last == 16) && ((b == 15) || quietK b)) && (next == 16)) ∧ w = wx)
  case first =>
    obtain ⟨q, h0⟩ : ∃ q, (last == 16) = q := ⟨_, rfl⟩
    cases q with
    | true =>
      obtain ⟨q, h1⟩ : ∃ q, (b == 15) = q := ⟨_, rfl⟩
      cases q with
      | true =>
        obtain ⟨q, h2⟩ : ∃ q, (next == 16) = q := ⟨_, rfl⟩
        cases q with
        | true =>
          go_wp2_with (first | (go_at_call 59; refine (rletter_any _ _).mono ?_; rintro e w' ⟨rfl, rfl⟩) | (go_at_call 60; refine (rquiet_any _ _).mono ?_; rintro e w' ⟨rfl, rfl⟩) | fail)
          go_meet
          exact ⟨congrArg Value.bool (by first | (rw [h0, h1, h2]; rfl) | rw [h0, h1, h2]), rfl⟩
        | false =>
          go_wp2_with (first | (go_at_call 59; refine (rletter_any _ _).mono ?_; rintro e w' ⟨rfl, rfl⟩) | (go_at_call 60; refine (rquiet_any _ _).mono ?_; rintro e w' ⟨rfl, rfl⟩) | fail)
          go_meet
          exact ⟨congrArg Value.bool (by first | (rw [h0, h1, h2]; rfl) | rw [h0, h1, h2]), rfl⟩
      | false =>
        obtain ⟨q, h2⟩ : ∃ q, quietK b = q := ⟨_, rfl⟩
        cases q with
        | true =>
          obtain ⟨q, h3⟩ : ∃ q, (next == 16) = q := ⟨_, rfl⟩
          cases q with
          | true =>
            go_wp2_with (first | (go_at_call 59; refine (rletter_any _ _).mono ?_; rintro e w' ⟨rfl, rfl⟩) | (go_at_call 60; refine (rquiet_any _ _).mono ?_; rintro e w' ⟨rfl, rfl⟩) | fail)
            go_meet
            exact ⟨congrArg Value.bool (by first | (rw [h0, h1, h2, h3]; rfl) | rw [h0, h1, h2, h3]), rfl⟩
          | false =>
            go_wp2_with (first | (go_at_call 59; refine (rletter_any _ _).mono ?_; rintro e w' ⟨rfl, rfl⟩) | (go_at_call 60; refine (rquiet_any _ _).mono ?_; rintro e w' ⟨rfl, rfl⟩) | fail)
            go_meet
            exact ⟨congrArg Value.bool (by first | (rw [h0, h1, h2, h3]; rfl) | rw [h0, h1, h2, h3]), rfl⟩
        | false =>
          go_wp2_with (first | (go_at_call 59; refine (rletter_any _ _).mono ?_; rintro e w' ⟨rfl, rfl⟩) | (go_at_call 60; refine (rquiet_any _ _).mono ?_; rintro e w' ⟨rfl, rfl⟩) | fail)
          go_meet
          exact ⟨congrArg Value.bool (by first | (rw [h0, h1, h2]; rfl) | rw [h0, h1, h2]), rfl⟩
    | false =>
      go_wp2_with (first | (go_at_call 59; refine (rletter_any _ _).mono ?_; rintro e w' ⟨rfl, rfl⟩) | (go_at_call 60; refine (rquiet_any _ _).mono ?_; rintro e w' ⟨rfl, rfl⟩) | fail)
      go_meet
      exact ⟨congrArg Value.bool (by first | (rw [h0]; rfl) | rw [h0]), rfl⟩
  case rest =>
  obtain ⟨rfl, rfl⟩ := hcut
  obtain ⟨c7, hc⟩ : ∃ c, c = (((last == 16) && ((b == 15) || quietK b)) && (next == 16)) := ⟨_, rfl⟩
  rw [← hc]
  have HE8 : Hid (E = (c7 || (((((last == 8) && (b == 8)) || ((((letK last || (last == 16)) || (last == 8)) || (last == 17)) && (b == 17))) || ((last == 17) && ((letK b || (b == 16)) || (b == 8))))))) := by show E = _; first | (rw [hc, HE7.out]; simp only [Bool.or_assoc]) | rw [hc, HE7.out]
  clear hc
  cases c7 with
  | true =>
    obtain rfl : E = true := by rw [HE8.out]; rfl
    go_wp2
    go_ret
    exact ⟨rfl, rfl⟩
  | false =>
  replace HE8 : Hid (E = (((((last == 8) && (b == 8)) || ((((letK last || (last == 16)) || (last == 8)) || (last == 17)) && (b == 17))) || ((last == 17) && ((letK b || (b == 16)) || (b == 8)))))) := by show E = _; rw [HE8.out]; rfl
  go_upto_region 17 with fail
  go_cut [121] from 122 to 127 (fun s wx => s = .bool ((last == 8) && (b == 8)) ∧ w = wx)
  case first =>
    obtain ⟨q, h0⟩ : ∃ q, (last == 8) = q := ⟨_, rfl⟩
    cases q with
    | true =>
      obtain ⟨q, h1⟩ : ∃ q, (b == 8) = q := ⟨_, rfl⟩
      cases q with
      | true =>
        go_wp2_with (first | (go_at_call 59; refine (rletter_any _ _).mono ?_; rintro e w' ⟨rfl, rfl⟩) | (go_at_call 60; refine (rquiet_any _ _).mono ?_; rintro e w' ⟨rfl, rfl⟩) | fail)
        go_meet
        exact ⟨congrArg Value.bool (by first | (rw [h0, h1]; rfl) | rw [h0, h1]), rfl⟩
      | false =>
        go_wp2_with (first | (go_at_call 59; refine (rletter_any _ _).mono ?_; rintro e w' ⟨rfl, rfl⟩) | (go_at_call 60; refine (rquiet_any _ _).mono ?_; rintro e w' ⟨rfl, rfl⟩) | fail)
        go_meet
        exact ⟨congrArg Value.bool (by first | (rw [h0, h1]; rfl) | rw [h0, h1]), rfl⟩
    | false =>
      go_wp2_with (first | (go_at_call 59; refine (rletter_any _ _).mono ?_; rintro e w' ⟨rfl, rfl⟩) | (go_at_call 60; refine (rquiet_any _ _).mono ?_; rintro e w' ⟨rfl, rfl⟩) | fail)
      go_meet
      exact ⟨congrArg Value.bool (by first | (rw [h0]; rfl) | rw [h0]), rfl⟩
  case rest =>
  obtain ⟨rfl, rfl⟩ := hcut
  obtain ⟨c8, hc⟩ : ∃ c, c = ((last == 8) && (b == 8)) := ⟨_, rfl⟩
  rw [← hc]
  have HE9 : Hid (E = (c8 || ((((((letK last || (last == 16)) || (last == 8)) || (last == 17)) && (b == 17)) || ((last == 17) && ((letK b || (b == 16)) || (b == 8))))))) := by show E = _; first | (rw [hc, HE8.out]; simp only [Bool.or_assoc]) | rw [hc, HE8.out]
  clear hc
  cases c8 with
  | true =>
    obtain rfl : E = true := by rw [HE9.out]; rfl
    go_wp2
    go_ret
    exact ⟨rfl, rfl⟩
  | false =>
  replace HE9 : Hid (E = ((((((letK last || (last == 16)) || (last == 8)) || (last == 17)) && (b == 17)) || ((last == 17) && ((letK b || (b == 16)) || (b == 8)))))) := by show E = _; rw [HE9.out]; rfl
  go_upto_region 19 with fail
  go_cut [128] from 129 to 146 (fun s wx => s = .bool ((((letK last || (last == 16)) || (last == 8)) || (last == 17)) && (b == 17)) ∧ w = wx)
  case first =>
    obtain ⟨q, h0⟩ : ∃ q, letK last = q := ⟨_, rfl⟩
    cases q with
    | true =>
      obtain ⟨q, h1⟩ : ∃ q, (b == 17) = q := ⟨_, rfl⟩
      cases q with
      | true =>
        go_wp2_with (first | (go_at_call 59; refine (rletter_any _ _).mono ?_; rintro e w' ⟨rfl, rfl⟩) | (go_at_call 60; refine (rquiet_any _ _).mono ?_; rintro e w' ⟨rfl, rfl⟩) | fail)
        go_meet
        exact ⟨congrArg Value.bool (by first | (rw [h0, h1]; rfl) | rw [h0, h1]), rfl⟩
      | false =>
        go_wp2_with (first | (go_at_call 59; refine (rletter_any _ _).mono ?_; rintro e w' ⟨rfl, rfl⟩) | (go_at_call 60; refine (rquiet_any _ _).mono ?_; rintro e w' ⟨rfl, rfl⟩) | fail)
        go_meet
        exact ⟨congrArg Value.bool (by first | (rw [h0, h1]; rfl) | rw [h0, h1]), rfl⟩
    | false =>
      obtain ⟨q, h1⟩ : ∃ q, (last == 16) = q := ⟨_, rfl⟩
      cases q with
      | true =>
        obtain ⟨q, h2⟩ : ∃ q, (b == 17) = q := ⟨_, rfl⟩
        cases q with
        | true =>
          go_wp2_with (first | (go_at_call 59; refine (rletter_any _ _).mono ?_; rintro e w' ⟨rfl, rfl⟩) | (go_at_call 60; refine (rquiet_any _ _).mono ?_; rintro e w' ⟨rfl, rfl⟩) | fail)
          go_meet
          exact ⟨congrArg Value.bool (by first | (rw [h0, h1, h2]; rfl) | rw [h0, h1, h2]), rfl⟩
        | false =>
          go_wp2_with (first | (go_at_call 59; refine (rletter_any _ _).mono ?_; rintro e w' ⟨rfl, rfl⟩) | (go_at_call 60; refine (rquiet_any _ _).mono ?_; rintro e w' ⟨rfl, rfl⟩) | fail)
          go_meet
          exact ⟨congrArg Value.bool (by first | (rw [h0, h1, h2]; rfl) | rw [h0, h1, h2]), rfl⟩
      | false =>
        obtain ⟨q, h2⟩ : ∃ q, (last == 8) = q := ⟨_, rfl⟩
        cases q with
        | true =>
          obtain ⟨q, h3⟩ : ∃ q, (b == 17) = q := ⟨_, rfl⟩
          cases q with
          | true =>
            go_wp2_with (first | (go_at_call 59; refine (rletter_any _ _).mono ?_; rintro e w' ⟨rfl, rfl⟩) | (go_at_call 60; refine (rquiet_any _ _).mono ?_; rintro e w' ⟨rfl, rfl⟩) | fail)
            go_meet
            exact ⟨congrArg Value.bool (by first | (rw [h0, h1, h2, h3]; rfl) | rw [h0, h1, h2, h3]), rfl⟩
          | false =>
            go_wp2_with (first | (go_at_call 59; refine (rletter_any _ _).mono ?_; rintro e w' ⟨rfl, rfl⟩) | (go_at_call 60; refine (rquiet_any _ _).mono ?_; rintro e w' ⟨rfl, rfl⟩) | fail)
            go_meet
            exact ⟨congrArg Value.bool (by first | (rw [h0, h1, h2, h3]; rfl) | rw [h0, h1, h2, h3]), rfl⟩
        | false =>
          obtain ⟨q, h3⟩ : ∃ q, (last == 17) = q := ⟨_, rfl⟩
          cases q with
          | true =>
            obtain ⟨q, h4⟩ : ∃ q, (b == 17) = q := ⟨_, rfl⟩
            cases q with
            | true =>
              go_wp2_with (first | (go_at_call 59; refine (rletter_any _ _).mono ?_; rintro e w' ⟨rfl, rfl⟩) | (go_at_call 60; refine (rquiet_any _ _).mono ?_; rintro e w' ⟨rfl, rfl⟩) | fail)
              go_meet
              exact ⟨congrArg Value.bool (by first | (rw [h0, h1, h2, h3, h4]; rfl) | rw [h0, h1, h2, h3, h4]), rfl⟩
            | false =>
              go_wp2_with (first | (go_at_call 59; refine (rletter_any _ _).mono ?_; rintro e w' ⟨rfl, rfl⟩) | (go_at_call 60; refine (rquiet_any _ _).mono ?_; rintro e w' ⟨rfl, rfl⟩) | fail)
              go_meet
              exact ⟨congrArg Value.bool (by first | (rw [h0, h1, h2, h3, h4]; rfl) | rw [h0, h1, h2, h3, h4]), rfl⟩
          | false =>
            go_wp2_with (first | (go_at_call 59; refine (rletter_any _ _).mono ?_; rintro e w' ⟨rfl, rfl⟩) | (go_at_call 60; refine (rquiet_any _ _).mono ?_; rintro e w' ⟨rfl, rfl⟩) | fail)
            go_meet
            exact ⟨congrArg Value.bool (by first | (rw [h0, h1, h2, h3]; rfl) | rw [h0, h1, h2, h3]), rfl⟩
  case rest =>
  obtain ⟨rfl, rfl⟩ := hcut
  obtain ⟨c9, hc⟩ : ∃ c, c = ((((letK last || (last == 16)) || (last == 8)) || (last == 17)) && (b == 17)) := ⟨_, rfl⟩
  rw [← hc]
  have HE10 : Hid (E = (c9 || (((last == 17) && ((letK b || (b == 16)) || (b == 8)))))) := by show E = _; first | (rw [hc, HE9.out]; simp only [Bool.or_assoc]) | rw [hc, HE9.out]
  clear hc
  cases c9 with
  | true =>
    obtain rfl : E = true := by rw [HE10.out]; rfl
    go_wp2
    go_ret
    exact ⟨rfl, rfl⟩
  | false =>
  replace HE10 : Hid (E = (((last == 17) && ((letK b || (b == 16)) || (b == 8))))) := by show E = _; rw [HE10.out]; rfl
  obtain ⟨q, h0⟩ : ∃ q, (last == 17) = q := ⟨_, rfl⟩
  cases q with
  | true =>
    obtain ⟨q, h1⟩ : ∃ q, letK b = q := ⟨_, rfl⟩
    cases q with
    | true =>
      obtain rfl : E = true := by first | (rw [HE10.out, h0, h1]; rfl) | rw [HE10.out, h0, h1]
      go_wp2_with (first | (go_at_call 59; refine (rletter_any _ _).mono ?_; rintro e w' ⟨rfl, rfl⟩) | (go_at_call 60; refine (rquiet_any _ _).mono ?_; rintro e w' ⟨rfl, rfl⟩) | fail)
      go_ret
      exact ⟨rfl, rfl⟩
    | false =>
      obtain ⟨q, h2⟩ : ∃ q, (b == 16) = q := ⟨_, rfl⟩
      cases q with
      | true =>
        obtain rfl : E = true := by first | (rw [HE10.out, h0, h1, h2]; rfl) | rw [HE10.out, h0, h1, h2]
        go_wp2_with (first | (go_at_call 59; refine (rletter_any _ _).mono ?_; rintro e w' ⟨rfl, rfl⟩) | (go_at_call 60; refine (rquiet_any _ _).mono ?_; rintro e w' ⟨rfl, rfl⟩) | fail)
        go_ret
        exact ⟨rfl, rfl⟩
      | false =>
        obtain ⟨q, h3⟩ : ∃ q, (b == 8) = q := ⟨_, rfl⟩
        cases q with
        | true =>
          obtain rfl : E = true := by first | (rw [HE10.out, h0, h1, h2, h3]; rfl) | rw [HE10.out, h0, h1, h2, h3]
          go_wp2_with (first | (go_at_call 59; refine (rletter_any _ _).mono ?_; rintro e w' ⟨rfl, rfl⟩) | (go_at_call 60; refine (rquiet_any _ _).mono ?_; rintro e w' ⟨rfl, rfl⟩) | fail)
          go_ret
          exact ⟨rfl, rfl⟩
        | false =>
          obtain rfl : E = false := by first | (rw [HE10.out, h0, h1, h2, h3]; rfl) | rw [HE10.out, h0, h1, h2, h3]
          go_wp2_with (first | (go_at_call 59; refine (rletter_any _ _).mono ?_; rintro e w' ⟨rfl, rfl⟩) | (go_at_call 60; refine (rquiet_any _ _).mono ?_; rintro e w' ⟨rfl, rfl⟩) | fail)
          go_ret
          exact ⟨rfl, rfl⟩
  | false =>
    obtain rfl : E = false := by first | (rw [HE10.out, h0]; rfl) | rw [HE10.out, h0]
    go_wp2_with (first | (go_at_call 59; refine (rletter_any _ _).mono ?_; rintro e w' ⟨rfl, rfl⟩) | (go_at_call 60; refine (rquiet_any _ _).mono ?_; rintro e w' ⟨rfl, rfl⟩) | fail)
    go_ret
    exact ⟨rfl, rfl⟩
end Go.Proofs.YtpmlbdfdiebkcaaDoor

namespace Go.Proofs.YtpmlbdfdiebkcaaDoor
open Go.RowKit
set_option linter.unusedVariables false

/-- The place of the last head ahead. -/
def bk (l : List Int) : Nat → Int
  | 0 => -1
  | i + 1 => if headB l i = true then (i : Int) else bk l i
/-- The kinds from a head back. -/
def gk (l : List Int) (z : Int) : List Int := if z < 0 then [] else kd l z.toNat :: hk l z.toNat
def kindI (l : List Int) (z : Int) : Int := if z < 0 then -1 else kd l z.toNat
theorem gk_bk (l : List Int) : ∀ i, gk l (bk l i) = hk l i
  | 0 => rfl
  | i + 1 => by
    have e1 : bk l (i + 1) = if headB l i = true then (i : Int) else bk l i := rfl
    have e2 : hk l (i + 1) = if headB l i = true then kd l i :: hk l i else hk l i := rfl
    rw [e1, e2]
    split
    · unfold gk
      rw [if_neg (by omega), Int.toNat_natCast]
    · exact gk_bk l i
theorem bk_lt (l : List Int) : ∀ i, -1 ≤ bk l i ∧ bk l i < (i : Int)
  | 0 => ⟨Int.le_refl _, by show (-1 : Int) < 0; omega⟩
  | i + 1 => by
    have e1 : bk l (i + 1) = if headB l i = true then (i : Int) else bk l i := rfl
    have := bk_lt l i
    rw [e1]
    split <;> omega
theorem kindI_gk (l : List Int) (z : Int) : kindI l z = (gk l z)[0]?.getD (-1) := by
  unfold kindI gk
  split <;> rfl
theorem kind_last (l : List Int) (i : Nat) : kindI l (bk l i) = (hk l i)[0]?.getD (-1) := by rw [kindI_gk, gk_bk]
/-- back of whatever place. -/
def bkI (l : List Int) (z : Int) : Int := if 0 < z then bk l z.toNat else -1
theorem gk_tail (l : List Int) (z : Int) (h : 0 ≤ z) : gk l z = kd l z.toNat :: gk l (bkI l z) := by
  have e : gk l z = kd l z.toNat :: hk l z.toNat := by unfold gk; rw [if_neg (by omega)]
  rw [e]
  congr 1
  unfold bkI
  by_cases h0 : 0 < z
  · rw [if_pos h0, gk_bk]
  · have hz : z = 0 := by omega
    rw [if_neg h0, hz]; rfl
theorem kind_before (l : List Int) (i : Nat) : kindI l (bkI l (bk l i)) = (hk l i)[1]?.getD (-1) := by
  rw [kindI_gk]
  by_cases h : 0 ≤ bk l i
  · rw [← gk_bk l i, gk_tail l _ h]; rfl
  · have e : hk l i = [] := by rw [← gk_bk l i]; unfold gk; rw [if_pos (by omega)]
    rw [e]
    have e2 : bkI l (bk l i) = -1 := by unfold bkI; rw [if_neg (by omega)]
    rw [e2]; rfl
theorem hk_some {l : List Int} {i : Nat} (h : 0 < i) (hl : 0 < l.length) : hk l i ≠ [] := by
  induction i with
  | zero => omega
  | succ i ih =>
    unfold hk
    by_cases q : i = 0
    · subst q
      have : headB l 0 = true := by unfold headB; rw [decide_eq_true hl]; rfl
      rw [this]; simp
    · split
      · simp
      · exact ih (by omega)

set_option maxRecDepth 100000 in
set_option maxHeartbeats 8000000 in
theorem rhead_any (l : List Int) (v : Value) (g i : Nat) (w : World) (hd : RShip w g) (hv : IntsAt w.heap.size w v l) (hn : l.length ≤ 10000) (hi : i < l.length) :
    Calls Tryd.prog 18 #[.pointer (some ⟨g, 0, none⟩), v, .int .i64 (i : Int)] w fun e w' => e = .returned (.bool (headB l i)) ∧ Below w.heap.size w w' := by
  by_cases i0 : i = 0
  · subst i0
    obtain ⟨a, cap, rfl, hcap, hc⟩ := hv
    rw [head_zero hi]
    have h1 : decide ((l.length : Int) ≤ 0) = false := decide_eq_false (by omega)
    have h2 : decide (l.length ≤ 0) = false := decide_eq_false (by omega)
    have h3 : (l.length == 0) = false := by rw [beq_eq_false_iff_ne]; omega
    have h4 : ¬ l.length = 0 := by omega
    clear hc hd hn hi
    go_enter Tryd.func18, Tryd.ntmps18
    go_wp2
    go_ret
    exact ⟨rfl, Below.refl _ _⟩
  obtain ⟨m, rfl⟩ : ∃ m, i = m + 1 := ⟨i - 1, by omega⟩
  have HV : Hid (IntsAt w.heap.size w v l) := hv
  obtain ⟨a, cap, rfl, hcap, hc⟩ := hv
  obtain ⟨gi, off, rfl, hg, c0⟩ := hc m (by omega)
  obtain ⟨gj, offj, ej, _, c1⟩ := hc (m + 1) (by omega)
  obtain ⟨rfl, rfl⟩ : gi = gj ∧ off = offj := by cases ej; exact ⟨rfl, rfl⟩
  obtain ⟨x, hx⟩ : ∃ x, x = l[m]'(by omega) := ⟨_, rfl⟩
  obtain ⟨y, hy⟩ : ∃ y, y = l[m + 1]'(by omega) := ⟨_, rfl⟩
  obtain ⟨E, hE⟩ : ∃ E, E = headB l (m + 1) := ⟨_, rfl⟩
  have HE : Hid (E = (lineK (wdV x) || !markK (wdV y))) := by
    show E = _
    rw [hE, head_pos hi, hx, hy]
  rw [← hx] at c0
  rw [← hy] at c1
  rw [← hE]
  clear hE hx hy hc ej
  obtain ⟨i, hi'⟩ : ∃ i, i = m + 1 := ⟨_, rfl⟩
  rw [← hi'] at c1 i0 ⊢
  have HX : Hid (∀ w', Below w.heap.size w w' → w'.cell? ⟨gi, off + m, none⟩ = some (.int .i64 x)) := fun w' hw' => (hw'.cell (p := ⟨gi, _, none⟩) hg).trans c0
  have HD : Hid (RShip w g) := hd
  have e0 : ((i : Int) == 0) = false := by simp; omega
  have e1 : decide ((i : Int) < 0) = false := decide_eq_false (by omega)
  have e2 : decide ((l.length : Int) ≤ (i : Int)) = false := decide_eq_false (by omega)
  have e3 : decide (l.length ≤ i) = false := decide_eq_false (by omega)
  have hw1 : IntKind.i64.wrap ((i : Int) - 1) = (m : Int) := (IntWalk.i64_in _ (by omega)).trans (by omega)
  have hm1 : (m : Int) < (l.length : Int) := by omega
  have hi1 : (i : Int) < (l.length : Int) := by omega
  have d0 : w.cell? ⟨gi, off + i, none⟩ = some (.int .i64 y) := c1
  clear c0 c1 hd hn hi hi' i0 hg
  go_enter Tryd.func18, Tryd.ntmps18
  go_wp2_with fail
  refine (rship_word w g y HD.out).mono ?_
  rintro e w1 ⟨rfl, hB1⟩
  have HB1 : Hid (Below w.heap.size w w1) := hB1
  clear hB1 d0
  go_wp2_with fail
  refine (rmark_any _ w1).mono ?_
  rintro e w2 ⟨rfl, rfl⟩
  obtain ⟨p, hp⟩ : ∃ p, p = markK (wdV y) := ⟨_, rfl⟩
  rw [← hp] at HE ⊢
  clear hp
  cases p with
  | false =>
    obtain rfl : E = true := by rw [HE.out]; cases lineK (wdV x) <;> rfl
    go_wp2
    go_ret
    exact ⟨rfl, HB1.out⟩
  | true =>
    have d1 := HX.out w2 HB1.out
    go_wp2_with fail
    refine (rship_word w2 g x (HD.out.below HB1.out)).mono ?_
    rintro e w3 ⟨rfl, hB3⟩
    have HB3 : Hid (Below w.heap.size w w3) := HB1.out.trans (hB3.mono HB1.out.size)
    clear hB3 d1
    go_wp2_with fail
    refine (rends_any _ w3).mono ?_
    rintro e w4 ⟨rfl, rfl⟩
    obtain ⟨p, hp⟩ : ∃ p, p = lineK (wdV x) := ⟨_, rfl⟩
    rw [← hp] at HE ⊢
    clear hp
    cases p with
    | true =>
      obtain rfl : E = true := by rw [HE.out]; rfl
      go_wp2
      go_ret
      exact ⟨rfl, HB3.out⟩
    | false =>
      obtain rfl : E = false := by rw [HE.out]; rfl
      go_wp2
      go_ret
      exact ⟨rfl, HB3.out⟩
theorem rhead_out (l : List Int) (v : Value) (g : Nat) (i : Int) (w : World) (hv : IntsAt w.heap.size w v l) (hi : i < 0 ∨ (l.length : Int) ≤ i) :
    Calls Tryd.prog 18 #[.pointer (some ⟨g, 0, none⟩), v, .int .i64 i] w fun e w' => e = .returned (.bool false) ∧ Below w.heap.size w w' := by
  obtain ⟨a, cap, rfl, hcap, hc⟩ := hv
  clear hc
  by_cases h : i < 0
  · clear hi
    go_enter Tryd.func18, Tryd.ntmps18
    go_wp2
    go_ret
    exact ⟨rfl, Below.refl _ _⟩
  · have h1 : decide (i < 0) = false := decide_eq_false h
    have h2 : (l.length : Int) ≤ i := by omega
    clear hi h
    go_enter Tryd.func18, Tryd.ntmps18
    go_wp2
    go_ret
    exact ⟨rfl, Below.refl _ _⟩

theorem meas_dn (m : Nat) : (intOf (.int .i64 ((m : Int) - 1)) + 1).toNat < (intOf (.int .i64 (m : Int)) + 1).toNat := by simp only [intOf]; omega
set_option maxRecDepth 100000 in
set_option maxHeartbeats 8000000 in
theorem back_any (l : List Int) (v : Value) (g : Nat) (z : Int) (w : World) (hd : RShip w g) (hv : IntsAt w.heap.size w v l) (hn : l.length ≤ 10000) (hz0 : -1 ≤ z) (hz : z ≤ (l.length : Int)) :
    Calls Tryd.prog 30 #[.pointer (some ⟨g, 0, none⟩), v, .int .i64 z] w fun e w' => e = .returned (.int .i64 (bkI l z)) ∧ Below w.heap.size w w' := by
  have HV : Hid (IntsAt w.heap.size w v l) := hv
  obtain ⟨a, cap, rfl, hcap, hc⟩ := hv
  have HD : Hid (RShip w g) := hd
  have HN : Hid (l.length ≤ 10000 ∧ -1 ≤ z ∧ z ≤ (l.length : Int)) := ⟨hn, hz0, hz⟩
  obtain ⟨R, hR⟩ : ∃ R, R = bkI l z := ⟨_, rfl⟩
  have HR : Hid (R = bkI l z) := hR
  rw [← hR]
  have hw0 : IntKind.i64.wrap (z - 1) = z - 1 := IntWalk.i64_in _ (by omega)
  clear hR hd hc hn hz0 hz
  go_enter Tryd.func30, Tryd.ntmps30
  go_wp2
  go_loopw [7] (fun x wr => ∃ q : Int, x = .int .i64 q ∧ -2 ≤ q ∧ q < (l.length : Int) ∧ Hid (R = bkI l (q + 1)) ∧ Below w.heap.size w wr) (fun x _ => (intOf x + 1).toNat)
  case atStart => exact ⟨z - 1, rfl, by have := HN.out; omega, by have := HN.out; omega, by show R = _; rw [HR.out]; congr 1; omega, Below.refl _ _⟩
  case round =>
    obtain ⟨q, rfl, hq1, hq2, HI, hB⟩ := hrel
    have HB : Hid (Below w.heap.size w wr) := hB
    clear hB HR
    by_cases hq : 0 ≤ q
    · obtain ⟨m, rfl⟩ : ∃ m : Nat, q = (m : Int) := ⟨q.toNat, by omega⟩
      have hml : m < l.length := by omega
      have hw1 : IntKind.i64.wrap ((m : Int) - 1) = (m : Int) - 1 := IntWalk.i64_in _ (by have := HN.out; omega)
      have HI2 : Hid (R = if headB l m = true then (m : Int) else bkI l (m : Int)) := by
        show R = _
        rw [HI.out]
        have e : bkI l ((m : Int) + 1) = bk l (m + 1) := by unfold bkI; rw [if_pos (by omega)]; congr 1
        have e2 : bk l (m + 1) = if headB l m = true then (m : Int) else bk l m := rfl
        rw [e, e2]
        split
        · rfl
        · unfold bkI
          by_cases h0 : 0 < (m : Int)
          · rw [if_pos h0, Int.toNat_natCast]
          · obtain rfl : m = 0 := by omega
            rfl
      clear HI hq hq1 hq2
      go_wp2_with fail
      refine (rhead_any l _ g m wr (HD.out.below HB.out) (HV.out.on HB.out) HN.out.1 hml).mono ?_
      rintro e w1 ⟨rfl, hB1⟩
      have HB1 : Hid (Below w.heap.size w w1) := HB.out.trans (hB1.mono HB.out.size)
      clear hB1
      obtain ⟨p, hp⟩ : ∃ p, p = headB l m := ⟨_, rfl⟩
      rw [← hp] at HI2 ⊢
      clear hp
      cases p with
      | true =>
        have e : R = (m : Int) := by have := HI2.out; simpa using this
        subst e
        go_wp2
        go_ret
        exact ⟨rfl, HB1.out⟩
      | false =>
        have HI3 : Hid (R = bkI l ((m : Int) - 1 + 1)) := by
          show R = _
          have h2 : R = bkI l (m : Int) := by have := HI2.out; simpa using this
          rw [h2]; congr 1; omega
        go_wp2
        go_roundw
        case rel => exact ⟨(m : Int) - 1, rfl, by omega, by omega, HI3, HB1.out⟩
        case measure => exact meas_dn m
    · have e : R = -1 := by rw [HI.out]; unfold bkI; rw [if_neg (by omega)]
      subst e
      have hqd : decide (0 ≤ q) = false := decide_eq_false hq
      clear hq hq1 hq2
      go_wp2
      go_ret
      exact ⟨rfl, HB.out⟩

set_option maxRecDepth 100000 in
set_option maxHeartbeats 8000000 in
theorem rnext_any (l : List Int) (v : Value) (g i : Nat) (w : World) (hd : RShip w g) (hv : IntsAt w.heap.size w v l) (hn : l.length ≤ 10000) (hi : i < l.length) :
    Calls Tryd.prog 32 #[.pointer (some ⟨g, 0, none⟩), v, .int .i64 (i : Int)] w fun e w' => ∃ z : Int, e = .returned (.int .i64 z) ∧ (-1 ≤ z ∧ z < (l.length : Int) ∧ kindI l z = (nx l (i + 1)).getD (-1)) ∧ Below w.heap.size w w' := by
  have HV : Hid (IntsAt w.heap.size w v l) := hv
  obtain ⟨a, cap, rfl, hcap, hc⟩ := hv
  have HD : Hid (RShip w g) := hd
  have HN : Hid (l.length ≤ 10000 ∧ i < l.length) := ⟨hn, hi⟩
  have hw0 : IntKind.i64.wrap ((i : Int) + 1) = ((i + 1 : Nat) : Int) := (IntWalk.i64_in _ (by omega)).trans (by omega)
  clear hd hc hn hi
  go_enter Tryd.func32, Tryd.ntmps32
  go_wp2
  go_loopw [7] (fun x wr => ∃ q : Nat, x = .int .i64 (q : Int) ∧ q ≤ l.length ∧ Hid (nx l (i + 1) = nx l q) ∧ Below w.heap.size w wr) (fun x _ => l.length - (intOf x).toNat)
  case atStart => exact ⟨i + 1, by first | rfl | go_num, by have := HN.out; omega, rfl, Below.refl _ _⟩
  case round =>
    obtain ⟨q, rfl, hq, HI, hB⟩ := hrel
    have HB : Hid (Below w.heap.size w wr) := hB
    clear hB
    by_cases hlt : q < l.length
    · have hlt' : (q : Int) < (l.length : Int) := by omega
      have HWN : Hid (wrap64 ((q : Int) + 1) = ((q + 1 : Nat) : Int)) := wrap_next (by have := HN.out; omega)
      have HST : Hid (nx l (i + 1) = if headB l q = true then some (kd l q) else nx l (q + 1)) := by show _ = _; rw [HI.out, nx_step hlt]
      clear HI
      go_wp2_with fail
      refine (rhead_any l _ g q wr (HD.out.below HB.out) (HV.out.on HB.out) HN.out.1 hlt).mono ?_
      rintro e w1 ⟨rfl, hB1⟩
      have HB1 : Hid (Below w.heap.size w w1) := HB.out.trans (hB1.mono HB.out.size)
      clear hB1
      obtain ⟨p, hp⟩ : ∃ p, p = headB l q := ⟨_, rfl⟩
      rw [← hp] at HST ⊢
      clear hp
      cases p with
      | true =>
        go_wp2
        go_ret
        refine ⟨(q : Int), rfl, ⟨by omega, by omega, ?_⟩, HB1.out⟩
        have h2 : nx l (i + 1) = some (kd l q) := by have := HST.out; simpa using this
        rw [h2]
        unfold kindI
        rw [if_neg (by omega), Int.toNat_natCast]; rfl
      | false =>
        have HST2 : Hid (nx l (i + 1) = nx l (q + 1)) := by have := HST.out; show _ = _; simpa using this
        go_wp2
        go_roundw
        case rel => exact ⟨q + 1, by rw [HWN.out], by omega, HST2, HB1.out⟩
        case measure => exact meas_up hlt (by have := HN.out; omega)
    · obtain rfl : q = l.length := by omega
      have hge : ¬ ((l.length : Int) < (l.length : Int)) := by omega
      clear hlt hq
      go_wp2
      go_ret
      refine ⟨-1, rfl, ⟨by omega, by omega, ?_⟩, HB.out⟩
      rw [HI.out, nx_end (Nat.le_refl _)]; rfl

set_option maxRecDepth 100000 in
set_option maxHeartbeats 8000000 in
theorem kind_any (l : List Int) (v : Value) (g : Nat) (z : Int) (w : World) (hd : RShip w g) (hv : IntsAt w.heap.size w v l) (hz : z < (l.length : Int)) :
    Calls Tryd.prog 31 #[.pointer (some ⟨g, 0, none⟩), v, .int .i64 z] w fun e w' => e = .returned (.int .i64 (kindI l z)) ∧ Below w.heap.size w w' := by
  obtain ⟨a, cap, rfl, hcap, hc⟩ := hv
  by_cases h : z < 0
  · have e : kindI l z = -1 := by unfold kindI; rw [if_pos h]
    rw [e]
    clear hc hd e
    go_enter Tryd.func31, Tryd.ntmps31
    go_wp2
    go_ret
    exact ⟨rfl, Below.refl _ _⟩
  · obtain ⟨m, rfl⟩ : ∃ m : Nat, z = (m : Int) := ⟨z.toNat, by omega⟩
    have hml : m < l.length := by omega
    obtain ⟨gi, off, rfl, hg, c0⟩ := hc m hml
    obtain ⟨x, hx⟩ : ∃ x, x = l[m] := ⟨_, rfl⟩
    rw [← hx] at c0
    have HE : Hid (kindI l (m : Int) = wdV x) := by
      show _ = _
      unfold kindI
      rw [if_neg h, Int.toNat_natCast, kd_get hml, hx]
    rw [HE.out]
    have HD : Hid (RShip w g) := hd
    have hmd : decide ((m : Int) < 0) = false := decide_eq_false h
    clear hc hd hx h hg
    go_enter Tryd.func31, Tryd.ntmps31
    go_wp2_with fail
    refine (rship_word w g x HD.out).mono ?_
    rintro e w1 ⟨rfl, hB1⟩
    have HB1 : Hid (Below w.heap.size w w1) := hB1
    clear hB1
    go_wp2
    go_ret
    exact ⟨rfl, HB1.out⟩

set_option maxRecDepth 100000 in
set_option maxHeartbeats 8000000 in
theorem flags_any (l : List Int) (v : Value) (g : Nat) (z : Int) (w : World) (hd : RShip w g) (hv : IntsAt w.heap.size w v l) (hn : l.length ≤ 10000) (hz0 : -1 ≤ z) (hz : z < (l.length : Int)) :
    Calls Tryd.prog 37 #[.pointer (some ⟨g, 0, none⟩), v, .int .i64 z] w fun e w' => e = .returned (.int .i64 (regK (gk l z) : Int)) ∧ Below w.heap.size w w' := by
  have HV : Hid (IntsAt w.heap.size w v l) := hv
  obtain ⟨a, cap, rfl, hcap, hc⟩ := hv
  have HD : Hid (RShip w g) := hd
  have HN : Hid (l.length ≤ 10000 ∧ -1 ≤ z ∧ z < (l.length : Int)) := ⟨hn, hz0, hz⟩
  obtain ⟨R, hR⟩ : ∃ R, R = regK (gk l z) := ⟨_, rfl⟩
  have HR : Hid (R = regK (gk l z)) := hR
  rw [← hR]
  clear hR hd hc hn hz0 hz
  go_enter Tryd.func37, Tryd.ntmps37
  go_wp2
  go_loopw [2, 7] (fun x y wr => ∃ (q : Int) (c : Nat), x = .int .i64 q ∧ y = .int .i64 (c : Int) ∧ -1 ≤ q ∧ q < (l.length : Int) ∧ Hid (R = c + regK (gk l q) ∧ (c : Int) + q < (l.length : Int)) ∧ Below w.heap.size w wr) (fun x _ _ => (intOf x + 1).toNat)
  case atStart => exact ⟨z, 0, rfl, rfl, HN.out.2.1, HN.out.2.2, ⟨by rw [Nat.zero_add]; exact HR.out, by have := HN.out; omega⟩, Below.refl _ _⟩
  case round =>
    obtain ⟨q, c, rfl, rfl, hq1, hq2, HI, hB⟩ := hrel
    have HB : Hid (Below w.heap.size w wr) := hB
    clear hB HR
    by_cases hq : 0 ≤ q
    · obtain ⟨m, rfl⟩ : ∃ m : Nat, q = (m : Int) := ⟨q.toNat, by omega⟩
      have HGT : Hid (gk l (m : Int) = kd l m :: gk l (bkI l (m : Int))) := by show _ = _; rw [gk_tail l _ hq, Int.toNat_natCast]
      have HBL : Hid (-1 ≤ bkI l (m : Int) ∧ bkI l (m : Int) < (m : Int)) := by
        show _ ∧ _
        unfold bkI
        by_cases h0 : 0 < (m : Int)
        · rw [if_pos h0, Int.toNat_natCast]; exact bk_lt l m
        · rw [if_neg h0]; omega
      have hwc : IntKind.i64.wrap ((c : Int) + 1) = ((c + 1 : Nat) : Int) := (IntWalk.i64_in _ (by have := HN.out; have := HI.out.2; omega)).trans (by omega)
      go_wp2_with fail
      refine (kind_any l _ g (m : Int) wr (HD.out.below HB.out) (HV.out.on HB.out) hq2).mono ?_
      rintro e w1 ⟨rfl, hB1⟩
      have HB1 : Hid (Below w.heap.size w w1) := HB.out.trans (hB1.mono HB.out.size)
      clear hB1
      obtain ⟨k, hk⟩ : ∃ k, k = kindI l (m : Int) := ⟨_, rfl⟩
      have HK : Hid (kd l m = k) := by show _ = _; rw [hk]; unfold kindI; rw [if_neg (by omega), Int.toNat_natCast]
      rw [← hk]
      clear hk
      by_cases k7 : k = 7
      · have hk7 : (k == 7) = true := by simpa using k7
        have HI2 : Hid (R = (c + 1) + regK (gk l (bkI l (m : Int))) ∧ ((c + 1 : Nat) : Int) + bkI l (m : Int) < (l.length : Int)) := by
          refine ⟨?_, by have := HI.out.2; have := HBL.out; omega⟩
          have h2 := HI.out.1
          rw [HGT.out, HK.out, regK, if_pos k7] at h2
          omega
        clear k7
        go_wp2_with fail
        refine (back_any l _ g (m : Int) w1 (HD.out.below HB1.out) (HV.out.on HB1.out) HN.out.1 (by omega) (by omega)).mono ?_
        rintro e w2 ⟨rfl, hB2⟩
        have HB2 : Hid (Below w.heap.size w w2) := HB1.out.trans (hB2.mono HB1.out.size)
        clear hB2
        go_wp2
        go_roundw
        case rel => exact ⟨bkI l (m : Int), c + 1, rfl, by first | rfl | rw [hwc], HBL.out.1, by have := HBL.out; omega, HI2, HB2.out⟩
        case measure => have := HBL.out; simp only [intOf]; omega
      · have hk7 : (k == 7) = false := by simpa using k7
        have e : R = c := by have h2 := HI.out.1; rw [HGT.out, HK.out, regK, if_neg k7] at h2; omega
        subst e
        clear k7
        go_wp2
        go_ret
        exact ⟨rfl, HB1.out⟩
    · have e : R = c := by
        have h2 := HI.out.1
        unfold gk at h2
        rw [if_pos (by omega)] at h2
        simpa [regK] using h2
      subst e
      have hqd : decide (0 ≤ q) = false := decide_eq_false hq
      clear hq hq1 hq2
      go_wp2
      go_ret
      exact ⟨rfl, HB.out⟩
end Go.Proofs.YtpmlbdfdiebkcaaDoor

namespace Go.Proofs.YtpmlbdfdiebkcaaDoor
open Go.RowKit
set_option linter.unusedVariables false

/-- The rules as the document asks them. -/
def ruleR (a b : Int) (pb : Bool) (before last next : Int) (n : Nat) : Bool :=
  if a = 1 ∧ b = 2 then false
  else if lineK a = true ∨ lineK b = true then true
  else if a = 5 ∧ pb = true then false
  else if a = 18 ∧ b = 18 then false
  else if markK b = true then false
  else if joinK before last b next = true then false
  else if ¬ last = 7 then true
  else if ¬ b = 7 then true
  else n % 2 == 0
theorem getD_no {x : Option Int} {before last b : Int} : joinK before last b (x.getD (-1)) = joinK before last b (x.getD 0) := by
  cases x with
  | none => exact joinK_next ⟨rfl, rfl, rfl⟩ ⟨rfl, rfl, rfl⟩ _ _ _
  | some y => rfl
theorem getD_no' {x : Option Int} {last b next : Int} : joinK (x.getD (-1)) last b next = joinK (x.getD 0) last b next := by
  cases x with
  | none => exact joinK_before ⟨rfl, rfl, rfl⟩ ⟨rfl, rfl, rfl⟩ _ _ _
  | some y => rfl
theorem rule_ref (a b : Int) (pb : Bool) (before last next : Int) (n : Nat) : ruleR a b pb before last next n = ruleW a b pb before last next n := by
  unfold ruleR ruleW
  split
  · rfl
  · split
    · rfl
    · split
      · rfl
      · by_cases h1 : a = 18 ∧ b = 18
        · rw [if_pos h1, if_pos (Or.inl h1)]
        · rw [if_neg h1]
          by_cases h2 : markK b = true
          · rw [if_pos h2, if_pos (Or.inr h2)]
          · rw [if_neg h2, if_neg (show ¬ ((a = 18 ∧ b = 18) ∨ markK b = true) from fun h => h.elim h1 h2)]
            cases hj : joinK before last b next with
            | true => rw [if_pos rfl]; rfl
            | false =>
              rw [if_neg (by simp)]
              by_cases h3 : last = 7
              · rw [if_neg (show ¬ ¬ last = 7 from fun h => h h3)]
                by_cases h4 : b = 7
                · rw [if_neg (show ¬ ¬ b = 7 from fun h => h h4)]
                  subst h3; subst h4
                  rcases Nat.mod_two_eq_zero_or_one n with q | q <;> rw [q] <;> rfl
                · rw [if_pos h4]
                  have : (b == 7) = false := by simpa using h4
                  rw [this]; simp
              · rw [if_pos h3]
                have : (last == 7) = false := by simpa using h3
                rw [this]; rfl
theorem ref_brk {l : List Int} {m : Nat} (h : m + 1 < l.length) : brk l (m + 1) = ruleR (wdV (l[m]'(by omega))) (wdV l[m + 1]) (piV l[m + 1]) ((hk l (m + 1))[1]?.getD (-1)) ((hk l (m + 1))[0]?.getD (-1)) ((nx l (m + 1 + 1)).getD (-1)) (regK (hk l (m + 1))) := by
  rw [rule_ref, brk_mid (by omega) h, Nat.add_sub_cancel, kd_get (by omega), kd_get h]
  have hne := hk_some (l := l) (i := m + 1) (by omega) (by omega)
  match hc : hk l (m + 1), hne with
  | y :: ys, _ =>
    show ruleW _ _ _ _ y _ _ = ruleW _ _ _ _ y _ _
    unfold ruleW
    rw [getD_no, getD_no']

set_option maxRecDepth 100000 in
set_option maxHeartbeats 16000000 in
theorem rbreak_any (l : List Int) (v : Value) (g i : Nat) (w : World) (hd : RShip w g) (hv : IntsAt w.heap.size w v l) (hn : l.length ≤ 10000) (hi : i ≤ l.length) :
    Calls Tryd.prog 16 #[.pointer (some ⟨g, 0, none⟩), v, .int .i64 (i : Int)] w fun e w' => e = .returned (.bool (brk l i)) ∧ Below w.heap.size w w' := by
  by_cases i0 : i = 0
  · subst i0
    obtain ⟨a, cap, rfl, hcap, hc⟩ := hv
    rw [brk_zero]
    have h1 : decide ((l.length : Int) < 0) = false := decide_eq_false (by omega)
    clear hc hd hn hi
    go_enter Tryd.func16, Tryd.ntmps16
    go_wp2
    go_ret
    exact ⟨rfl, Below.refl _ _⟩
  by_cases il : i = l.length
  · subst il
    obtain ⟨a, cap, rfl, hcap, hc⟩ := hv
    rw [brk_end l (Nat.le_refl _)]
    have e0 : ((l.length : Int) == 0) = false := by rw [beq_eq_false_iff_ne]; omega
    have e1 : decide ((l.length : Int) < 0) = false := decide_eq_false (by omega)
    have e2 : decide ((l.length : Int) < (l.length : Int)) = false := decide_eq_false (by omega)
    have e3 : ((l.length : Int) == (l.length : Int)) = true := by simp
    clear hc hd hn i0 hi
    go_enter Tryd.func16, Tryd.ntmps16
    go_wp2
    go_ret
    exact ⟨rfl, Below.refl _ _⟩
  obtain ⟨m, rfl⟩ : ∃ m, i = m + 1 := ⟨i - 1, by omega⟩
  have hil : m + 1 < l.length := by omega
  have HV : Hid (IntsAt w.heap.size w v l) := hv
  obtain ⟨a, cap, rfl, hcap, hc⟩ := hv
  obtain ⟨gi, off, rfl, hg, c0⟩ := hc m (by omega)
  obtain ⟨gj, offj, ej, _, c1⟩ := hc (m + 1) (by omega)
  obtain ⟨rfl, rfl⟩ : gi = gj ∧ off = offj := by cases ej; exact ⟨rfl, rfl⟩
  obtain ⟨x, hx⟩ : ∃ x, x = l[m]'(by omega) := ⟨_, rfl⟩
  obtain ⟨y, hy⟩ : ∃ y, y = l[m + 1]'(by omega) := ⟨_, rfl⟩
  obtain ⟨E, hE⟩ : ∃ E, E = brk l (m + 1) := ⟨_, rfl⟩
  have HE : Hid (E = ruleR (wdV x) (wdV y) (piV y) (kindI l (bkI l (bk l (m + 1)))) (kindI l (bk l (m + 1))) ((nx l (m + 1 + 1)).getD (-1)) (regK (gk l (bk l (m + 1))))) := by
    show E = _
    rw [hE, ref_brk hil, kind_last, kind_before, gk_bk, hx, hy]
  rw [← hx] at c0
  rw [← hy] at c1
  rw [← hE]
  clear hE hx hy hc ej
  obtain ⟨i, hi'⟩ : ∃ i, i = m + 1 := ⟨_, rfl⟩
  rw [← hi'] at c1 HE i0 il hil ⊢
  have HX : Hid (∀ w', Below w.heap.size w w' → w'.cell? ⟨gi, off + m, none⟩ = some (.int .i64 x)) := fun w' hw' => (hw'.cell (p := ⟨gi, _, none⟩) hg).trans c0
  have HY : Hid (∀ w', Below w.heap.size w w' → w'.cell? ⟨gi, off + i, none⟩ = some (.int .i64 y)) := fun w' hw' => (hw'.cell (p := ⟨gi, _, none⟩) hg).trans c1
  have HD : Hid (RShip w g) := hd
  have HBK : Hid (bkI l (i : Int) = bk l i) := by show _ = _; unfold bkI; rw [if_pos (by omega), Int.toNat_natCast]
  have HF : Hid (i < l.length ∧ l.length ≤ 10000 ∧ -1 ≤ bk l i ∧ bk l i < (l.length : Int)) := ⟨hil, hn, (bk_lt l i).1, by have := (bk_lt l i).2; omega⟩
  have e0 : ((i : Int) == 0) = false := by simp; omega
  have e1 : ((i : Int) == (l.length : Int)) = false := by simp; omega
  have e2 : decide ((i : Int) < 0) = false := decide_eq_false (by omega)
  have e3 : decide ((l.length : Int) < (i : Int)) = false := decide_eq_false (by omega)
  have e4 : decide (l.length < i) = false := decide_eq_false (by omega)
  have hw1 : IntKind.i64.wrap ((i : Int) - 1) = (m : Int) := (IntWalk.i64_in _ (by omega)).trans (by omega)
  have hm1 : (m : Int) < (l.length : Int) := by omega
  have hi1 : (i : Int) < (l.length : Int) := by omega
  have d0 := HX.out w (Below.refl _ _)
  clear c0 c1 hd hn hi hi' i0 il hg hil
  go_enter Tryd.func16, Tryd.ntmps16
  go_wp2_with fail
  refine (rship_word w g x HD.out).mono ?_
  rintro e w1 ⟨rfl, hB1⟩
  have HB1 : Hid (Below w.heap.size w w1) := hB1
  have d1 := HY.out w1 hB1
  clear hB1 d0
  go_wp2_with fail
  refine (rship_word w1 g y (HD.out.below HB1.out)).mono ?_
  rintro e w2 ⟨rfl, hB2⟩
  have HB2 : Hid (Below w.heap.size w w2) := HB1.out.trans (hB2.mono HB1.out.size)
  clear hB2 d1
  go_wp2_with fail
  refine (back_any l _ g (i : Int) w2 (HD.out.below HB2.out) (HV.out.on HB2.out) HF.out.2.1 (by omega) (by omega)).mono ?_
  rintro e w3 ⟨rfl, hB3⟩
  have HB3 : Hid (Below w.heap.size w w3) := HB2.out.trans (hB3.mono HB2.out.size)
  clear hB3
  rw [HBK.out]
  obtain ⟨k, hk⟩ : ∃ k, k = bk l i := ⟨_, rfl⟩
  rw [← hk] at HE HF ⊢
  clear hk HBK
  go_wp2_with fail
  refine (kind_any l _ g k w3 (HD.out.below HB3.out) (HV.out.on HB3.out) HF.out.2.2.2).mono ?_
  rintro e w4 ⟨rfl, hB4⟩
  have HB4 : Hid (Below w.heap.size w w4) := HB3.out.trans (hB4.mono HB3.out.size)
  clear hB4
  go_wp2_with fail
  refine (back_any l _ g k w4 (HD.out.below HB4.out) (HV.out.on HB4.out) HF.out.2.1 HF.out.2.2.1 (by have := HF.out; omega)).mono ?_
  rintro e w5 ⟨rfl, hB5⟩
  have HB5 : Hid (Below w.heap.size w w5) := HB4.out.trans (hB5.mono HB4.out.size)
  have HBB : Hid (bkI l k < (l.length : Int)) := by
    show _ < _
    unfold bkI
    by_cases h0 : 0 < k
    · rw [if_pos h0]
      have := (bk_lt l k.toNat).2
      have := HF.out
      omega
    · rw [if_neg h0]; omega
  clear hB5
  go_wp2_with fail
  refine (kind_any l _ g (bkI l k) w5 (HD.out.below HB5.out) (HV.out.on HB5.out) HBB.out).mono ?_
  rintro e w6 ⟨rfl, hB6⟩
  have HB6 : Hid (Below w.heap.size w w6) := HB5.out.trans (hB6.mono HB5.out.size)
  clear hB6
  go_wp2_with fail
  refine (rnext_any l _ g i w6 (HD.out.below HB6.out) (HV.out.on HB6.out) HF.out.2.1 HF.out.1).mono ?_
  rintro e w7 ⟨z, rfl, hz, hB7⟩
  have HB7 : Hid (Below w.heap.size w w7) := HB6.out.trans (hB7.mono HB6.out.size)
  have HZ : Hid (-1 ≤ z ∧ z < (l.length : Int) ∧ kindI l z = (nx l (i + 1)).getD (-1)) := hz
  clear hB7 hz
  go_wp2_with fail
  refine (kind_any l _ g z w7 (HD.out.below HB7.out) (HV.out.on HB7.out) HZ.out.2.1).mono ?_
  rintro e w8 ⟨rfl, hB8⟩
  have HB8 : Hid (Below w.heap.size w w8) := HB7.out.trans (hB8.mono HB7.out.size)
  clear hB8
  rw [← HZ.out.2.2] at HE
  obtain ⟨a, ha⟩ : ∃ a, a = wdV x := ⟨_, rfl⟩
  obtain ⟨b, hb⟩ : ∃ b, b = wdV y := ⟨_, rfl⟩
  obtain ⟨pb, hpb⟩ : ∃ pb, pb = piV y := ⟨_, rfl⟩
  obtain ⟨last, hla⟩ : ∃ c, c = kindI l k := ⟨_, rfl⟩
  obtain ⟨before, hbe⟩ : ∃ c, c = kindI l (bkI l k) := ⟨_, rfl⟩
  obtain ⟨next, hne⟩ : ∃ c, c = kindI l z := ⟨_, rfl⟩
  obtain ⟨n, hnn⟩ : ∃ c, c = regK (gk l k) := ⟨_, rfl⟩
  have HPB : Hid (pb = piV y) := hpb
  have HNN : Hid (regK (gk l k) = n) := hnn.symm
  rw [← ha, ← hb, ← hpb, ← hla, ← hbe, ← hne, ← hnn] at HE
  rw [← ha, ← hb, ← hla, ← hbe, ← hne]
  clear ha hb hpb hla hbe hne hnn HZ HBB
  by_cases a1 : a = 1
  · subst a1
    by_cases b2 : b = 2
    · subst b2
      obtain rfl : E = false := by rw [HE.out]; rfl
      go_wp2
      go_ret
      exact ⟨rfl, HB8.out⟩
    · have b3 : (b == 2) = false := by simpa using b2
      obtain rfl : E = true := by rw [HE.out]; unfold ruleR; rw [if_neg (by omega), if_pos (Or.inl (show lineK 1 = true from rfl))]
      clear b2
      go_wp2_with fail
      refine (rends_any 1 w8).mono ?_
      rintro e wm ⟨rfl, hwm⟩
      obtain rfl : w8 = wm := hwm.symm
      rw [show lineK 1 = true from rfl]
      go_wp2
      go_ret
      exact ⟨rfl, HB8.out⟩
  have a2 : (a == 1) = false := by simpa using a1
  have HE1 : Hid (E = if lineK a = true ∨ lineK b = true then true else if a = 5 ∧ pb = true then false else if a = 18 ∧ b = 18 then false else if markK b = true then false else if joinK before last b next = true then false else if ¬ last = 7 then true else if ¬ b = 7 then true else n % 2 == 0) := by
    show E = _
    rw [HE.out]; unfold ruleR; rw [if_neg (fun h => a1 h.1)]
  clear a1 HE
  go_wp2_with fail
  refine (rends_any a w8).mono ?_
  rintro e wm ⟨rfl, hwm⟩
  obtain rfl : w8 = wm := hwm.symm
  obtain ⟨p1, hp⟩ : ∃ p, p = lineK a := ⟨_, rfl⟩
  rw [← hp] at HE1 ⊢
  clear hp
  cases p1 with
  | true =>
    obtain rfl : E = true := by rw [HE1.out, if_pos (Or.inl rfl)]
    go_wp2
    go_ret
    exact ⟨rfl, HB8.out⟩
  | false =>
  go_wp2_with fail
  refine (rends_any b w8).mono ?_
  rintro e wm ⟨rfl, hwm⟩
  obtain rfl : w8 = wm := hwm.symm
  obtain ⟨p2, hp⟩ : ∃ p, p = lineK b := ⟨_, rfl⟩
  rw [← hp] at HE1 ⊢
  clear hp
  cases p2 with
  | true =>
    obtain rfl : E = true := by rw [HE1.out, if_pos (Or.inr rfl)]
    go_wp2
    go_ret
    exact ⟨rfl, HB8.out⟩
  | false =>
  have HE2 : Hid (E = if a = 5 ∧ pb = true then false else if a = 18 ∧ b = 18 then false else if markK b = true then false else if joinK before last b next = true then false else if ¬ last = 7 then true else if ¬ b = 7 then true else n % 2 == 0) := by
    show E = _
    rw [HE1.out, if_neg (by simp)]
  clear HE1
  by_cases a5 : a = 5
  · subst a5
    have hy2 := HY.out w8 HB8.out
    go_wp2_with fail
    refine (rship_picto w8 g y (HD.out.below HB8.out)).mono ?_
    rintro e w9 ⟨rfl, hB9⟩
    have HB9 : Hid (Below w.heap.size w w9) := HB8.out.trans (hB9.mono HB8.out.size)
    rw [← HPB.out]
    clear hB9 hy2
    cases pb with
    | true =>
      obtain rfl : E = false := by rw [HE2.out, if_pos (by simp)]
      go_wp2
      go_ret
      exact ⟨rfl, HB9.out⟩
    | false =>
      have HE4 : Hid (E = if markK b = true then false else if joinK before last b next = true then false else if ¬ last = 7 then true else if ¬ b = 7 then true else n % 2 == 0) := by
        show E = _
        rw [HE2.out, if_neg (by simp), if_neg (by omega)]
      clear HE2
      go_wp2_with fail
      refine (rmark_any b w9).mono ?_
      rintro e wm ⟨rfl, hwm⟩
      obtain rfl : w9 = wm := hwm.symm
      obtain ⟨p3, hp⟩ : ∃ p, p = markK b := ⟨_, rfl⟩
      rw [← hp] at HE4 ⊢
      clear hp
      cases p3 with
      | true =>
        obtain rfl : E = false := by rw [HE4.out, if_pos rfl]
        go_wp2
        go_ret
        exact ⟨rfl, HB9.out⟩
      | false =>
      replace HE4 : Hid (E = if joinK before last b next = true then false else if ¬ last = 7 then true else if ¬ b = 7 then true else n % 2 == 0) := by
        show E = _
        rw [HE4.out, if_neg (by simp)]
      go_wp2_with fail
      refine (joined_any before last b next w9).mono ?_
      rintro e wm ⟨rfl, hwm⟩
      obtain rfl : w9 = wm := hwm.symm
      obtain ⟨p4, hp⟩ : ∃ p, p = joinK before last b next := ⟨_, rfl⟩
      rw [← hp] at HE4 ⊢
      clear hp
      cases p4 with
      | true =>
        obtain rfl : E = false := by rw [HE4.out, if_pos rfl]
        go_wp2
        go_ret
        exact ⟨rfl, HB9.out⟩
      | false =>
      replace HE4 : Hid (E = if ¬ last = 7 then true else if ¬ b = 7 then true else n % 2 == 0) := by
        show E = _
        rw [HE4.out, if_neg (by simp)]
      by_cases l7 : last = 7
      · subst l7
        by_cases b7 : b = 7
        · subst b7
          have HE5 : Hid (E = (n % 2 == 0)) := by show E = _; rw [HE4.out, if_neg (by simp), if_neg (by simp)]
          clear HE4
          go_wp2_with fail
          refine (flags_any l _ g k w9 (HD.out.below HB9.out) (HV.out.on HB9.out) HF.out.2.1 HF.out.2.2.1 HF.out.2.2.2).mono ?_
          rintro e wf ⟨rfl, hBf⟩
          have HBF : Hid (Below w.heap.size w wf) := HB9.out.trans (hBf.mono HB9.out.size)
          rw [HNN.out]
          clear hBf
          have ht := tmod_two n
          rcases Nat.mod_two_eq_zero_or_one n with q | q
          · rw [q] at ht HE5
            go_wp2
            go_ret
            exact ⟨by rw [HE5.out]; rfl, HBF.out⟩
          · rw [q] at ht HE5
            go_wp2
            go_ret
            exact ⟨by rw [HE5.out]; rfl, HBF.out⟩
        · have b8 : (b != 7) = true := by simpa using b7
          have b9 : (b == 7) = false := by simpa using b7
          obtain rfl : E = true := by rw [HE4.out, if_neg (by simp), if_pos b7]
          clear b7
          go_wp2
          go_ret
          exact ⟨rfl, HB9.out⟩
      · have l8 : (last != 7) = true := by simpa using l7
        have l9 : (last == 7) = false := by simpa using l7
        obtain rfl : E = true := by rw [HE4.out, if_pos l7]
        clear l7
        go_wp2
        go_ret
        exact ⟨rfl, HB9.out⟩
  have a6 : (a == 5) = false := by simpa using a5
  have HE3 : Hid (E = if a = 18 ∧ b = 18 then false else if markK b = true then false else if joinK before last b next = true then false else if ¬ last = 7 then true else if ¬ b = 7 then true else n % 2 == 0) := by
    show E = _
    rw [HE2.out, if_neg (fun h => a5 h.1)]
  clear HE2 a5
  by_cases a18 : a = 18
  · subst a18
    by_cases b18 : b = 18
    · subst b18
      obtain rfl : E = false := by rw [HE3.out, if_pos (by simp)]
      go_wp2
      go_ret
      exact ⟨rfl, HB8.out⟩
    · have b19 : (b == 18) = false := by simpa using b18
      have HE4 : Hid (E = if markK b = true then false else if joinK before last b next = true then false else if ¬ last = 7 then true else if ¬ b = 7 then true else n % 2 == 0) := by
        show E = _
        rw [HE3.out, if_neg (fun h => b18 h.2)]
      clear HE3 b18
      go_wp2_with fail
      refine (rmark_any b w8).mono ?_
      rintro e wm ⟨rfl, hwm⟩
      obtain rfl : w8 = wm := hwm.symm
      obtain ⟨p3, hp⟩ : ∃ p, p = markK b := ⟨_, rfl⟩
      rw [← hp] at HE4 ⊢
      clear hp
      cases p3 with
      | true =>
        obtain rfl : E = false := by rw [HE4.out, if_pos rfl]
        go_wp2
        go_ret
        exact ⟨rfl, HB8.out⟩
      | false =>
      replace HE4 : Hid (E = if joinK before last b next = true then false else if ¬ last = 7 then true else if ¬ b = 7 then true else n % 2 == 0) := by
        show E = _
        rw [HE4.out, if_neg (by simp)]
      go_wp2_with fail
      refine (joined_any before last b next w8).mono ?_
      rintro e wm ⟨rfl, hwm⟩
      obtain rfl : w8 = wm := hwm.symm
      obtain ⟨p4, hp⟩ : ∃ p, p = joinK before last b next := ⟨_, rfl⟩
      rw [← hp] at HE4 ⊢
      clear hp
      cases p4 with
      | true =>
        obtain rfl : E = false := by rw [HE4.out, if_pos rfl]
        go_wp2
        go_ret
        exact ⟨rfl, HB8.out⟩
      | false =>
      replace HE4 : Hid (E = if ¬ last = 7 then true else if ¬ b = 7 then true else n % 2 == 0) := by
        show E = _
        rw [HE4.out, if_neg (by simp)]
      by_cases l7 : last = 7
      · subst l7
        by_cases b7 : b = 7
        · subst b7
          have HE5 : Hid (E = (n % 2 == 0)) := by show E = _; rw [HE4.out, if_neg (by simp), if_neg (by simp)]
          clear HE4
          go_wp2_with fail
          refine (flags_any l _ g k w8 (HD.out.below HB8.out) (HV.out.on HB8.out) HF.out.2.1 HF.out.2.2.1 HF.out.2.2.2).mono ?_
          rintro e wf ⟨rfl, hBf⟩
          have HBF : Hid (Below w.heap.size w wf) := HB8.out.trans (hBf.mono HB8.out.size)
          rw [HNN.out]
          clear hBf
          have ht := tmod_two n
          rcases Nat.mod_two_eq_zero_or_one n with q | q
          · rw [q] at ht HE5
            go_wp2
            go_ret
            exact ⟨by rw [HE5.out]; rfl, HBF.out⟩
          · rw [q] at ht HE5
            go_wp2
            go_ret
            exact ⟨by rw [HE5.out]; rfl, HBF.out⟩
        · have b8 : (b != 7) = true := by simpa using b7
          have b9 : (b == 7) = false := by simpa using b7
          obtain rfl : E = true := by rw [HE4.out, if_neg (by simp), if_pos b7]
          clear b7
          go_wp2
          go_ret
          exact ⟨rfl, HB8.out⟩
      · have l8 : (last != 7) = true := by simpa using l7
        have l9 : (last == 7) = false := by simpa using l7
        obtain rfl : E = true := by rw [HE4.out, if_pos l7]
        clear l7
        go_wp2
        go_ret
        exact ⟨rfl, HB8.out⟩
  · have a19 : (a == 18) = false := by simpa using a18
    have HE4 : Hid (E = if markK b = true then false else if joinK before last b next = true then false else if ¬ last = 7 then true else if ¬ b = 7 then true else n % 2 == 0) := by
      show E = _
      rw [HE3.out, if_neg (fun h => a18 h.1)]
    clear HE3 a18
    go_wp2_with fail
    refine (rmark_any b w8).mono ?_
    rintro e wm ⟨rfl, hwm⟩
    obtain rfl : w8 = wm := hwm.symm
    obtain ⟨p3, hp⟩ : ∃ p, p = markK b := ⟨_, rfl⟩
    rw [← hp] at HE4 ⊢
    clear hp
    cases p3 with
    | true =>
      obtain rfl : E = false := by rw [HE4.out, if_pos rfl]
      go_wp2
      go_ret
      exact ⟨rfl, HB8.out⟩
    | false =>
    replace HE4 : Hid (E = if joinK before last b next = true then false else if ¬ last = 7 then true else if ¬ b = 7 then true else n % 2 == 0) := by
      show E = _
      rw [HE4.out, if_neg (by simp)]
    go_wp2_with fail
    refine (joined_any before last b next w8).mono ?_
    rintro e wm ⟨rfl, hwm⟩
    obtain rfl : w8 = wm := hwm.symm
    obtain ⟨p4, hp⟩ : ∃ p, p = joinK before last b next := ⟨_, rfl⟩
    rw [← hp] at HE4 ⊢
    clear hp
    cases p4 with
    | true =>
      obtain rfl : E = false := by rw [HE4.out, if_pos rfl]
      go_wp2
      go_ret
      exact ⟨rfl, HB8.out⟩
    | false =>
    replace HE4 : Hid (E = if ¬ last = 7 then true else if ¬ b = 7 then true else n % 2 == 0) := by
      show E = _
      rw [HE4.out, if_neg (by simp)]
    by_cases l7 : last = 7
    · subst l7
      by_cases b7 : b = 7
      · subst b7
        have HE5 : Hid (E = (n % 2 == 0)) := by show E = _; rw [HE4.out, if_neg (by simp), if_neg (by simp)]
        clear HE4
        go_wp2_with fail
        refine (flags_any l _ g k w8 (HD.out.below HB8.out) (HV.out.on HB8.out) HF.out.2.1 HF.out.2.2.1 HF.out.2.2.2).mono ?_
        rintro e wf ⟨rfl, hBf⟩
        have HBF : Hid (Below w.heap.size w wf) := HB8.out.trans (hBf.mono HB8.out.size)
        rw [HNN.out]
        clear hBf
        have ht := tmod_two n
        rcases Nat.mod_two_eq_zero_or_one n with q | q
        · rw [q] at ht HE5
          go_wp2
          go_ret
          exact ⟨by rw [HE5.out]; rfl, HBF.out⟩
        · rw [q] at ht HE5
          go_wp2
          go_ret
          exact ⟨by rw [HE5.out]; rfl, HBF.out⟩
      · have b8 : (b != 7) = true := by simpa using b7
        have b9 : (b == 7) = false := by simpa using b7
        obtain rfl : E = true := by rw [HE4.out, if_neg (by simp), if_pos b7]
        clear b7
        go_wp2
        go_ret
        exact ⟨rfl, HB8.out⟩
    · have l8 : (last != 7) = true := by simpa using l7
      have l9 : (last == 7) = false := by simpa using l7
      obtain rfl : E = true := by rw [HE4.out, if_pos l7]
      clear l7
      go_wp2
      go_ret
      exact ⟨rfl, HB8.out⟩
theorem rbreak_out (l : List Int) (v : Value) (g : Nat) (i : Int) (w : World) (hv : IntsAt w.heap.size w v l) (hi : i < 0 ∨ (l.length : Int) < i) :
    Calls Tryd.prog 16 #[.pointer (some ⟨g, 0, none⟩), v, .int .i64 i] w fun e w' => e = .returned (.bool false) ∧ Below w.heap.size w w' := by
  obtain ⟨a, cap, rfl, hcap, hc⟩ := hv
  clear hc
  by_cases h : i < 0
  · clear hi
    go_enter Tryd.func16, Tryd.ntmps16
    go_wp2
    go_ret
    exact ⟨rfl, Below.refl _ _⟩
  · have h1 : decide (i < 0) = false := decide_eq_false h
    have h2 : (l.length : Int) < i := by omega
    clear hi h
    go_enter Tryd.func16, Tryd.ntmps16
    go_wp2
    go_ret
    exact ⟨rfl, Below.refl _ _⟩

set_option maxRecDepth 100000 in
set_option maxHeartbeats 8000000 in
theorem rall_any (l : List Int) (v : Value) (g : Nat) (w : World) (hd : RShip w g) (hv : IntsAt w.heap.size w v l) (hn : l.length ≤ 10000) :
    Calls Tryd.prog 13 #[.pointer (some ⟨g, 0, none⟩), v] w fun e w' => ∃ v', e = .returned v' ∧ w'.ownsRow w.heap.size 3 1 v' (allL l).length (cellsP5 (allL l)) ∧ Below w.heap.size w w' := by
  obtain ⟨iI, hiI, hzI0, hzI1, hzI2⟩ := info_parts Tryd.infoInt
  have HV : Hid (IntsAt w.heap.size w v l) := hv
  obtain ⟨a, cap, rfl, hcap, hc⟩ := hv
  have HD : Hid (RShip w g) := hd
  have HN : Hid (l.length ≤ 10000) := hn
  obtain ⟨A, hA⟩ : ∃ A, A = allL l := ⟨_, rfl⟩
  have HA : Hid (A = below l (l.length + 1)) := hA
  rw [← hA]
  clear hd hc hn hA
  go_enter Tryd.func13, Tryd.ntmps13
  go_wp2
  go_loopw [5, 6] (fun y x wr => ∃ k : Nat, k ≤ l.length + 1 ∧ x = .int .i64 (k : Int) ∧ wr.ownsRow w.heap.size 3 1 y (below l k).length (cellsP5 (below l k)) ∧ Below w.heap.size w wr) (fun _ x _ => l.length + 1 - (intOf x).toNat)
  case atStart => exact ⟨0, Nat.zero_le _, rfl, World.ownsRow_nil _ _ _ _, Below.refl _ _⟩
  case round =>
    obtain ⟨k, hk, rfl, ho, hB⟩ := hrel
    have hsi := hB.size
    obtain ⟨HO, HB⟩ : Hid (wr.ownsRow w.heap.size 3 1 u5 (below l k).length (cellsP5 (below l k))) ∧ Hid (Below w.heap.size w wr) := ⟨ho, hB⟩
    have HBL : Hid ((below l k).length ≤ 10001) := by show _ ≤ _; have := below_len l k; have := HN.out; omega
    clear ho hB
    by_cases hlt : k ≤ l.length
    · have hlt' : (k : Int) ≤ (l.length : Int) := by omega
      have HWN : Hid (wrap64 ((k : Int) + 1) = ((k + 1 : Nat) : Int)) := wrap_next (by have := HN.out; omega)
      go_wp2_with fail
      refine (rbreak_any l _ g k wr (HD.out.below HB.out) (HV.out.on HB.out) HN.out hlt).mono ?_
      rintro e w1 ⟨rfl, hB1⟩
      have hs1 := hB1.size
      have HO1 : Hid (w1.ownsRow w.heap.size 3 1 u5 (below l k).length (cellsP5 (below l k))) := ownsRow_below HO.out hB1
      have HB1 : Hid (Below w.heap.size w w1) := HB.out.trans (hB1.mono HB.out.size)
      clear hB1
      obtain ⟨E, hE⟩ : ∃ E, E = brk l k := ⟨_, rfl⟩
      have HE : Hid (E = brk l k) := hE
      rw [← hE]
      clear hE
      cases E with
      | false =>
        go_wp2
        go_roundw
        case rel =>
          refine ⟨k + 1, by omega, by rw [HWN.out], ?_, HB1.out⟩
          rw [below_succ, ← HE.out, if_neg (by simp)]
          exact HO1.out
        case measure => exact meas_up (by omega) (by have := HN.out; omega)
      | true =>
        go_wp2_with (first | (at_builtin; refine wpList_append_own _ rfl _ _ 22 rfl w.heap.size 3 iI (.int .i64 0) 1 8 Tryd.underlying22 hiI hzI0 hzI1 hzI2 rfl (by decide) _ _ _ rfl (HO1.out.alloc _) ⟨w1.heap.size, 0, none⟩ 1 1 [.int .i64 (k : Int)] rfl rfl (World.news_of_block (World.alloc_heap_new _ _)) (by simp [Value.oneCell']) (by unfold maxLen; have := HBL.out; omega) (by have := HBL.out; omega) (by simp; have := HBL.out; omega) ?_; intro v2 w2 ho2 hg2 _) | fail)
        have HO2 : Hid (w2.ownsRow w.heap.size 3 1 v2 (below l (k + 1)).length (cellsP5 (below l (k + 1)))) := by
          rw [below_succ, ← HE.out, if_pos rfl, cellsP5_snoc, List.length_append]
          exact ho2
        have HG2 : Hid (Below w.heap.size w w2) := (HB1.out.alloc (by omega) _).grown hg2 (by simp; omega) (fun j e => (HO1.out.lt j e).1)
        clear ho2 hg2
        go_roundw
        case rel => exact ⟨k + 1, by omega, by rw [HWN.out], HO2.out, HG2.out⟩
        case measure => exact meas_up (by omega) (by have := HN.out; omega)
    · obtain rfl : k = l.length + 1 := by omega
      have hge : ¬ (((l.length + 1 : Nat) : Int) ≤ (l.length : Int)) := by omega
      clear hlt hk
      go_wp2
      go_ret
      exact ⟨_, rfl, by rw [HA.out]; exact HO.out, HB.out⟩
end Go.Proofs.YtpmlbdfdiebkcaaDoor
