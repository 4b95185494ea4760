/-
  words.joins: the rules 7 to 19.
-/
import Derived.Test.YtpmlbdfdiebkcaaDoorGo
namespace Go.Proofs.YtpmlbdfdiebkcaaDoor
open Go.RowKit
set_option linter.unusedVariables false

theorem tmod_two (n : Nat) : ((n : Int).tmod 2) = ((n % 2 : Nat) : Int) := by rw [Int.tmod_eq_emod_of_nonneg (by omega)]; omega

set_option maxRecDepth 100000 in
set_option maxHeartbeats 8000000 in
theorem joins_any (before last : Int) (regs : Nat) (b next : Int) (w : World) :
    Calls Tryd.prog 53 #[sightV before last (regs : Int) b next] w fun e w' => e = .returned (.bool (joinsP before last regs b next)) ∧ Below w.heap.size w w' := by
  obtain ⟨E, hE⟩ : ∃ E, E = joinsP before last regs b next := ⟨_, rfl⟩
  have HE : Hid (E = joinsP before last regs b next) := hE
  rw [← hE]
  clear hE
  unfold sightV
  go_enter Tryd.func53, Tryd.ntmps53
  go_wp2_with fail
  refine (go_let_any before last (regs : Int) b next (w.alloc (sightO before last (regs : Int) b next))).mono ?_
  rintro e w1 ⟨rfl, hB⟩
  have HB1 : Hid (Below (w.alloc (sightO before last (regs : Int) b next)).heap.size (w.alloc (sightO before last (regs : Int) b next)) w1) := hB
  clear hB
  obtain ⟨c0, c1, c2, c3, c4⟩ := sight_cells HB1.out
  obtain ⟨p1, hp⟩ : ∃ p, p = goK letK inLetK before last b next := ⟨_, rfl⟩
  rw [← hp]
  have HP1 : Hid (goK letK inLetK before last b next = p1) := hp.symm
  clear hp
  cases p1 with
  | true =>
    obtain rfl : E = true := by rw [HE.out]; unfold joinsP; rw [if_pos HP1.out]
    go_wp2
    go_ret
    exact ⟨rfl, sight_below HB1.out⟩
  | false =>
  go_wp2_with fail
  refine (go_heb_any before last (regs : Int) b next w1).mono ?_
  rintro e w2 ⟨rfl, hB⟩
  have HB2 : Hid (Below (w.alloc (sightO before last (regs : Int) b next)).heap.size (w.alloc (sightO before last (regs : Int) b next)) w2) := HB1.out.trans (hB.mono HB1.out.size)
  clear hB
  obtain ⟨c0, c1, c2, c3, c4⟩ := sight_cells HB2.out
  obtain ⟨p2, hp⟩ : ∃ p, p = goK hebK inHebK before last b next := ⟨_, rfl⟩
  rw [← hp]
  have HP2 : Hid (goK hebK inHebK before last b next = p2) := hp.symm
  clear hp
  cases p2 with
  | true =>
    obtain rfl : E = true := by rw [HE.out]; unfold joinsP; rw [if_neg (by rw [HP1.out]; simp), if_pos HP2.out]
    go_wp2
    go_ret
    exact ⟨rfl, sight_below HB2.out⟩
  | false =>
  go_wp2_with fail
  refine (go_num_any before last (regs : Int) b next w2).mono ?_
  rintro e w3 ⟨rfl, hB⟩
  have HB3 : Hid (Below (w.alloc (sightO before last (regs : Int) b next)).heap.size (w.alloc (sightO before last (regs : Int) b next)) w3) := HB2.out.trans (hB.mono HB2.out.size)
  clear hB
  obtain ⟨c0, c1, c2, c3, c4⟩ := sight_cells HB3.out
  obtain ⟨p3, hp⟩ : ∃ p, p = goK numK inNumK before last b next := ⟨_, rfl⟩
  rw [← hp]
  have HP3 : Hid (goK numK inNumK before last b next = p3) := hp.symm
  clear hp
  cases p3 with
  | true =>
    obtain rfl : E = true := by rw [HE.out]; unfold joinsP; rw [if_neg (by rw [HP1.out]; simp), if_neg (by rw [HP2.out]; simp), if_pos HP3.out]
    go_wp2
    go_ret
    exact ⟨rfl, sight_below HB3.out⟩
  | false =>
  have HT : Hid (E = if (letK last && b == 16) = true then true else if (last == 16 && letK b) = true then true else if (last == 9 && b == 11) = true then true else if (last == 8 && b == 8) = true then true else if (last == 17) = true then b == 17 || solidK b else if (b == 17) = true then solidK last else if (last == 7 && b == 7) = true then regs % 2 == 1 else false) := by
    show E = _
    rw [HE.out]; unfold joinsP; rw [if_neg (by rw [HP1.out]; simp), if_neg (by rw [HP2.out]; simp), if_neg (by rw [HP3.out]; simp)]
  clear HE HP1 HP2 HP3
  by_cases l7 : last = 7
  · subst l7
    go_wp2_with fail
    refine (letter_any 7 w3).mono ?_
    rintro e w4 ⟨rfl, hB⟩
    have HB4 : Hid (Below (w.alloc (sightO before 7 (regs : Int) b next)).heap.size (w.alloc (sightO before 7 (regs : Int) b next)) w4) := HB3.out.trans (hB.mono HB3.out.size)
    clear hB c0 c1 c2 c3 c4
    obtain ⟨c0, c1, c2, c3, c4⟩ := sight_cells HB4.out
    rw [show letK 7 = false from rfl]
    rw [show letK 7 = false from rfl] at HT
    obtain ⟨q, hq⟩ : ∃ q, (b == 17) = q := ⟨_, rfl⟩
    rw [hq] at HT
    cases q with
    | true =>
      go_wp2_with fail
      refine (solid_any 7 w4).mono ?_
      rintro e w7 ⟨rfl, hB⟩
      have HB7 : Hid (Below (w.alloc (sightO before 7 (regs : Int) b next)).heap.size (w.alloc (sightO before 7 (regs : Int) b next)) w7) := HB4.out.trans (hB.mono HB4.out.size)
      clear hB c0 c1 c2 c3 c4
      obtain ⟨c0, c1, c2, c3, c4⟩ := sight_cells HB7.out
      rw [show solidK 7 = false from rfl]
      obtain rfl : E = false := by rw [HT.out]; rfl
      go_wp2
      go_ret
      exact ⟨rfl, sight_below HB7.out⟩
    | false =>
    obtain ⟨q, hq⟩ : ∃ q, (b == 7) = q := ⟨_, rfl⟩
    rw [hq] at HT
    cases q with
    | true =>
      have ht := tmod_two regs
      rcases Nat.mod_two_eq_zero_or_one regs with r | r
      · rw [r] at ht HT
        obtain rfl : E = false := by rw [HT.out]; rfl
        go_wp2
        go_ret
        exact ⟨rfl, sight_below HB4.out⟩
      · rw [r] at ht HT
        obtain rfl : E = true := by rw [HT.out]; rfl
        go_wp2
        go_ret
        exact ⟨rfl, sight_below HB4.out⟩
    | false =>
      obtain rfl : E = false := by rw [HT.out]; rfl
      go_wp2
      go_ret
      exact ⟨rfl, sight_below HB4.out⟩
  by_cases l8 : last = 8
  · subst l8
    clear l7
    go_wp2_with fail
    refine (letter_any 8 w3).mono ?_
    rintro e w4 ⟨rfl, hB⟩
    have HB4 : Hid (Below (w.alloc (sightO before 8 (regs : Int) b next)).heap.size (w.alloc (sightO before 8 (regs : Int) b next)) w4) := HB3.out.trans (hB.mono HB3.out.size)
    clear hB c0 c1 c2 c3 c4
    obtain ⟨c0, c1, c2, c3, c4⟩ := sight_cells HB4.out
    rw [show letK 8 = false from rfl]
    rw [show letK 8 = false from rfl] at HT
    obtain ⟨q, hq⟩ : ∃ q, (b == 8) = q := ⟨_, rfl⟩
    rw [hq] at HT
    cases q with
    | true =>
      obtain rfl : E = true := by rw [HT.out]; rfl
      go_wp2
      go_ret
      exact ⟨rfl, sight_below HB4.out⟩
    | false =>
    obtain ⟨q, hq⟩ : ∃ q, (b == 17) = q := ⟨_, rfl⟩
    rw [hq] at HT
    cases q with
    | true =>
      go_wp2_with fail
      refine (solid_any 8 w4).mono ?_
      rintro e w7 ⟨rfl, hB⟩
      have HB7 : Hid (Below (w.alloc (sightO before 8 (regs : Int) b next)).heap.size (w.alloc (sightO before 8 (regs : Int) b next)) w7) := HB4.out.trans (hB.mono HB4.out.size)
      clear hB c0 c1 c2 c3 c4
      obtain ⟨c0, c1, c2, c3, c4⟩ := sight_cells HB7.out
      rw [show solidK 8 = true from rfl]
      obtain rfl : E = true := by rw [HT.out]; rfl
      go_wp2
      go_ret
      exact ⟨rfl, sight_below HB7.out⟩
    | false =>
      obtain rfl : E = false := by rw [HT.out]; rfl
      go_wp2
      go_ret
      exact ⟨rfl, sight_below HB4.out⟩
  by_cases l9 : last = 9
  · subst l9
    clear l7 l8
    go_wp2_with fail
    refine (letter_any 9 w3).mono ?_
    rintro e w4 ⟨rfl, hB⟩
    have HB4 : Hid (Below (w.alloc (sightO before 9 (regs : Int) b next)).heap.size (w.alloc (sightO before 9 (regs : Int) b next)) w4) := HB3.out.trans (hB.mono HB3.out.size)
    clear hB c0 c1 c2 c3 c4
    obtain ⟨c0, c1, c2, c3, c4⟩ := sight_cells HB4.out
    rw [show letK 9 = true from rfl]
    rw [show letK 9 = true from rfl] at HT
    obtain ⟨q, hq⟩ : ∃ q, (b == 16) = q := ⟨_, rfl⟩
    rw [hq] at HT
    cases q with
    | true =>
      obtain rfl : E = true := by rw [HT.out]; rfl
      go_wp2
      go_ret
      exact ⟨rfl, sight_below HB4.out⟩
    | false =>
    obtain ⟨q, hq⟩ : ∃ q, (b == 11) = q := ⟨_, rfl⟩
    rw [hq] at HT
    cases q with
    | true =>
      obtain rfl : E = true := by rw [HT.out]; rfl
      go_wp2
      go_ret
      exact ⟨rfl, sight_below HB4.out⟩
    | false =>
    obtain ⟨q, hq⟩ : ∃ q, (b == 17) = q := ⟨_, rfl⟩
    rw [hq] at HT
    cases q with
    | true =>
      go_wp2_with fail
      refine (solid_any 9 w4).mono ?_
      rintro e w7 ⟨rfl, hB⟩
      have HB7 : Hid (Below (w.alloc (sightO before 9 (regs : Int) b next)).heap.size (w.alloc (sightO before 9 (regs : Int) b next)) w7) := HB4.out.trans (hB.mono HB4.out.size)
      clear hB c0 c1 c2 c3 c4
      obtain ⟨c0, c1, c2, c3, c4⟩ := sight_cells HB7.out
      rw [show solidK 9 = true from rfl]
      obtain rfl : E = true := by rw [HT.out]; rfl
      go_wp2
      go_ret
      exact ⟨rfl, sight_below HB7.out⟩
    | false =>
      obtain rfl : E = false := by rw [HT.out]; rfl
      go_wp2
      go_ret
      exact ⟨rfl, sight_below HB4.out⟩
  by_cases l10 : last = 10
  · subst l10
    clear l7 l8 l9
    go_wp2_with fail
    refine (letter_any 10 w3).mono ?_
    rintro e w4 ⟨rfl, hB⟩
    have HB4 : Hid (Below (w.alloc (sightO before 10 (regs : Int) b next)).heap.size (w.alloc (sightO before 10 (regs : Int) b next)) w4) := HB3.out.trans (hB.mono HB3.out.size)
    clear hB c0 c1 c2 c3 c4
    obtain ⟨c0, c1, c2, c3, c4⟩ := sight_cells HB4.out
    rw [show letK 10 = true from rfl]
    rw [show letK 10 = true from rfl] at HT
    obtain ⟨q, hq⟩ : ∃ q, (b == 16) = q := ⟨_, rfl⟩
    rw [hq] at HT
    cases q with
    | true =>
      obtain rfl : E = true := by rw [HT.out]; rfl
      go_wp2
      go_ret
      exact ⟨rfl, sight_below HB4.out⟩
    | false =>
    obtain ⟨q, hq⟩ : ∃ q, (b == 17) = q := ⟨_, rfl⟩
    rw [hq] at HT
    cases q with
    | true =>
      go_wp2_with fail
      refine (solid_any 10 w4).mono ?_
      rintro e w7 ⟨rfl, hB⟩
      have HB7 : Hid (Below (w.alloc (sightO before 10 (regs : Int) b next)).heap.size (w.alloc (sightO before 10 (regs : Int) b next)) w7) := HB4.out.trans (hB.mono HB4.out.size)
      clear hB c0 c1 c2 c3 c4
      obtain ⟨c0, c1, c2, c3, c4⟩ := sight_cells HB7.out
      rw [show solidK 10 = true from rfl]
      obtain rfl : E = true := by rw [HT.out]; rfl
      go_wp2
      go_ret
      exact ⟨rfl, sight_below HB7.out⟩
    | false =>
      obtain rfl : E = false := by rw [HT.out]; rfl
      go_wp2
      go_ret
      exact ⟨rfl, sight_below HB4.out⟩
  by_cases l16 : last = 16
  · subst l16
    clear l7 l8 l9 l10
    go_wp2_with fail
    refine (letter_any 16 w3).mono ?_
    rintro e w4 ⟨rfl, hB⟩
    have HB4 : Hid (Below (w.alloc (sightO before 16 (regs : Int) b next)).heap.size (w.alloc (sightO before 16 (regs : Int) b next)) w4) := HB3.out.trans (hB.mono HB3.out.size)
    clear hB c0 c1 c2 c3 c4
    obtain ⟨c0, c1, c2, c3, c4⟩ := sight_cells HB4.out
    rw [show letK 16 = false from rfl]
    rw [show letK 16 = false from rfl] at HT
    go_wp2_with fail
    refine (letter_any b w4).mono ?_
    rintro e w5 ⟨rfl, hB⟩
    have HB5 : Hid (Below (w.alloc (sightO before 16 (regs : Int) b next)).heap.size (w.alloc (sightO before 16 (regs : Int) b next)) w5) := HB4.out.trans (hB.mono HB4.out.size)
    clear hB c0 c1 c2 c3 c4
    obtain ⟨c0, c1, c2, c3, c4⟩ := sight_cells HB5.out
    obtain ⟨q, hq⟩ : ∃ q, q = letK b := ⟨_, rfl⟩
    rw [← hq] at HT ⊢
    clear hq
    cases q with
    | true =>
      obtain rfl : E = true := by rw [HT.out]; rfl
      go_wp2
      go_ret
      exact ⟨rfl, sight_below HB5.out⟩
    | false =>
    obtain ⟨q, hq⟩ : ∃ q, (b == 17) = q := ⟨_, rfl⟩
    rw [hq] at HT
    cases q with
    | true =>
      go_wp2_with fail
      refine (solid_any 16 w5).mono ?_
      rintro e w7 ⟨rfl, hB⟩
      have HB7 : Hid (Below (w.alloc (sightO before 16 (regs : Int) b next)).heap.size (w.alloc (sightO before 16 (regs : Int) b next)) w7) := HB5.out.trans (hB.mono HB5.out.size)
      clear hB c0 c1 c2 c3 c4
      obtain ⟨c0, c1, c2, c3, c4⟩ := sight_cells HB7.out
      rw [show solidK 16 = true from rfl]
      obtain rfl : E = true := by rw [HT.out]; rfl
      go_wp2
      go_ret
      exact ⟨rfl, sight_below HB7.out⟩
    | false =>
      obtain rfl : E = false := by rw [HT.out]; rfl
      go_wp2
      go_ret
      exact ⟨rfl, sight_below HB5.out⟩
  by_cases l17 : last = 17
  · subst l17
    clear l7 l8 l9 l10 l16
    go_wp2_with fail
    refine (letter_any 17 w3).mono ?_
    rintro e w4 ⟨rfl, hB⟩
    have HB4 : Hid (Below (w.alloc (sightO before 17 (regs : Int) b next)).heap.size (w.alloc (sightO before 17 (regs : Int) b next)) w4) := HB3.out.trans (hB.mono HB3.out.size)
    clear hB c0 c1 c2 c3 c4
    obtain ⟨c0, c1, c2, c3, c4⟩ := sight_cells HB4.out
    rw [show letK 17 = false from rfl]
    rw [show letK 17 = false from rfl] at HT
    obtain ⟨q, hq⟩ : ∃ q, (b == 17) = q := ⟨_, rfl⟩
    rw [hq] at HT
    cases q with
    | true =>
      obtain rfl : E = true := by rw [HT.out]; rfl
      go_wp2
      go_ret
      exact ⟨rfl, sight_below HB4.out⟩
    | false =>
    go_wp2_with fail
    refine (solid_any b w4).mono ?_
    rintro e w6 ⟨rfl, hB⟩
    have HB6 : Hid (Below (w.alloc (sightO before 17 (regs : Int) b next)).heap.size (w.alloc (sightO before 17 (regs : Int) b next)) w6) := HB4.out.trans (hB.mono HB4.out.size)
    clear hB c0 c1 c2 c3 c4
    obtain ⟨q, hq⟩ : ∃ q, q = solidK b := ⟨_, rfl⟩
    rw [← hq] at HT ⊢
    clear hq
    cases q with
    | true =>
      obtain rfl : E = true := by rw [HT.out]; rfl
      go_wp2
      go_ret
      exact ⟨rfl, sight_below HB6.out⟩
    | false =>
      obtain rfl : E = false := by rw [HT.out]; rfl
      go_wp2
      go_ret
      exact ⟨rfl, sight_below HB6.out⟩
  have e7 : (last == 7) = false := by simpa using l7
  have e8 : (last == 8) = false := by simpa using l8
  have e9 : (last == 9) = false := by simpa using l9
  have e16 : (last == 16) = false := by simpa using l16
  have e17 : (last == 17) = false := by simpa using l17
  have HletK : Hid (letK last = false) := by show _ = _; simp [letK, l9, l10]
  have HsolidK : Hid (solidK last = false) := by show _ = _; simp [solidK, l8, l9, l10, l16]
  obtain ⟨HL1, HL2, HL3, HL4, HL5⟩ : Hid ((last == 7) = false) ∧ Hid ((last == 8) = false) ∧ Hid ((last == 9) = false) ∧ Hid ((last == 16) = false) ∧ Hid ((last == 17) = false) := ⟨e7, e8, e9, e16, e17⟩
  clear l7 l8 l9 l10 l16 l17
  go_wp2_with fail
  refine (letter_any last w3).mono ?_
  rintro e w4 ⟨rfl, hB⟩
  have HB4 : Hid (Below (w.alloc (sightO before last (regs : Int) b next)).heap.size (w.alloc (sightO before last (regs : Int) b next)) w4) := HB3.out.trans (hB.mono HB3.out.size)
  clear hB c0 c1 c2 c3 c4
  obtain ⟨c0, c1, c2, c3, c4⟩ := sight_cells HB4.out
  rw [HletK.out]
  rw [HletK.out] at HT
  obtain ⟨q, hq⟩ : ∃ q, (b == 17) = q := ⟨_, rfl⟩
  rw [hq] at HT
  cases q with
  | true =>
    go_wp2_with fail
    refine (solid_any last w4).mono ?_
    rintro e w7 ⟨rfl, hB⟩
    have HB7 : Hid (Below (w.alloc (sightO before last (regs : Int) b next)).heap.size (w.alloc (sightO before last (regs : Int) b next)) w7) := HB4.out.trans (hB.mono HB4.out.size)
    clear hB c0 c1 c2 c3 c4
    obtain ⟨c0, c1, c2, c3, c4⟩ := sight_cells HB7.out
    rw [HsolidK.out]
    obtain rfl : E = false := by rw [HT.out]; simp [HL2.out, HL3.out, HL4.out, HL5.out, HsolidK.out]
    go_wp2
    go_ret
    exact ⟨rfl, sight_below HB7.out⟩
  | false =>
    obtain rfl : E = false := by rw [HT.out]; simp [HL1.out, HL2.out, HL3.out, HL4.out, HL5.out]
    go_wp2
    go_ret
    exact ⟨rfl, sight_below HB4.out⟩
end Go.Proofs.YtpmlbdfdiebkcaaDoor
