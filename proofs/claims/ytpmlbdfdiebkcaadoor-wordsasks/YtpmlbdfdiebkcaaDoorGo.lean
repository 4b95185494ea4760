/-
  words.goesOn, words.joins: the rules 7 to 19.
-/
import Derived.Test.YtpmlbdfdiebkcaaDoorInts6
namespace Go.Proofs.YtpmlbdfdiebkcaaDoor
open Go.RowKit
set_option linter.unusedVariables false

def sightV (before last regs b next : Int) : Value := .agg #[.int .i64 before, .int .i64 last, .int .i64 regs, .int .i64 b, .int .i64 next]
def sightO (before last regs b next : Int) : Obj := .cells #[.int .i64 before, .int .i64 last, .int .i64 regs, .int .i64 b, .int .i64 next] 83
theorem sight_cells {before last regs b next : Int} {w w' : World} (h : Below (w.alloc (sightO before last regs b next)).heap.size (w.alloc (sightO before last regs b next)) w') :
    w'.cell? ⟨w.heap.size, 0, none⟩ = some (.int .i64 before) ∧ w'.cell? ⟨w.heap.size, 1, none⟩ = some (.int .i64 last) ∧ w'.cell? ⟨w.heap.size, 2, none⟩ = some (.int .i64 regs) ∧ w'.cell? ⟨w.heap.size, 3, none⟩ = some (.int .i64 b) ∧ w'.cell? ⟨w.heap.size, 4, none⟩ = some (.int .i64 next) := by
  have e : w'.heap[w.heap.size]? = some (.cells #[.int .i64 before, .int .i64 last, .int .i64 regs, .int .i64 b, .int .i64 next] 83 (0, 0)) := (h.block w.heap.size (by simp)).trans (heap_new' w _)
  exact ⟨cell_of_row _ _ _ _ _ _ e, cell_of_row _ _ _ _ _ _ e, cell_of_row _ _ _ _ _ _ e, cell_of_row _ _ _ _ _ _ e, cell_of_row _ _ _ _ _ _ e⟩
theorem sight_below {before last regs b next : Int} {w w' : World} (h : Below (w.alloc (sightO before last regs b next)).heap.size (w.alloc (sightO before last regs b next)) w') : Below w.heap.size w w' :=
  ((Below.refl w.heap.size w).alloc (Nat.le_refl _) _).trans (h.mono (by simp))

set_option maxRecDepth 100000 in
set_option maxHeartbeats 4000000 in
theorem go_let_any (before last regs b next : Int) (w : World) :
    Calls Tryd.prog 68 #[sightV before last regs b next, .func (.func 69) #[] #[], .func (.func 70) #[] #[]] w fun e w' => e = .returned (.bool (goK letK inLetK before last b next)) ∧ Below w.heap.size w w' := by
  obtain ⟨E, hE⟩ : ∃ E, E = goK letK inLetK before last b next := ⟨_, rfl⟩
  have HE : Hid (E = goK letK inLetK before last b next) := hE
  rw [← hE]
  clear hE
  unfold sightV
  go_enter Tryd.func68, Tryd.ntmps68
  go_wp2_with fail
  refine (letter_any last (w.alloc (sightO before last regs b next))).mono ?_
  rintro e w1 ⟨rfl, hB⟩
  have HB1 : Hid (Below (w.alloc (sightO before last regs b next)).heap.size (w.alloc (sightO before last regs b next)) w1) := hB
  clear hB
  obtain ⟨c0, c1, c2, c3, c4⟩ := sight_cells HB1.out
  obtain ⟨p1, hp⟩ : ∃ p, p = letK last := ⟨_, rfl⟩
  rw [← hp]
  have HP1 : Hid (letK last = p1) := hp.symm
  clear hp
  cases p1 with
  | true =>
    go_wp2_with fail
    refine (letter_any b w1).mono ?_
    rintro e w2 ⟨rfl, hB⟩
    have HB2 : Hid (Below (w.alloc (sightO before last regs b next)).heap.size (w.alloc (sightO before last regs b next)) w2) := HB1.out.trans (hB.mono HB1.out.size)
    clear hB
    obtain ⟨c0, c1, c2, c3, c4⟩ := sight_cells HB2.out
    obtain ⟨p2, hp⟩ : ∃ p, p = letK b := ⟨_, rfl⟩
    rw [← hp]
    have HP2 : Hid (letK b = p2) := hp.symm
    clear hp
    cases p2 with
    | true =>
      obtain rfl : E = true := by rw [HE.out]; unfold goK; rw [HP1.out, HP2.out]; rfl
      go_wp2
      go_ret
      exact ⟨rfl, sight_below HB2.out⟩
    | false =>
      go_wp2_with fail
      refine (inlet_any b w2).mono ?_
      rintro e w3 ⟨rfl, hB⟩
      have HB3 : Hid (Below (w.alloc (sightO before last regs b next)).heap.size (w.alloc (sightO before last regs b next)) w3) := HB2.out.trans (hB.mono HB2.out.size)
      clear hB
      obtain ⟨c0, c1, c2, c3, c4⟩ := sight_cells HB3.out
      obtain ⟨p3, hp⟩ : ∃ p, p = inLetK b := ⟨_, rfl⟩
      rw [← hp]
      have HP3 : Hid (inLetK b = p3) := hp.symm
      clear hp
      cases p3 with
      | false =>
        obtain rfl : E = false := by rw [HE.out]; unfold goK; rw [HP1.out, HP2.out, HP3.out]; rfl
        go_wp2
        go_ret
        exact ⟨rfl, sight_below HB3.out⟩
      | true =>
        go_wp2_with fail
        refine (letter_any next w3).mono ?_
        rintro e w4 ⟨rfl, hB⟩
        have HB4 : Hid (Below (w.alloc (sightO before last regs b next)).heap.size (w.alloc (sightO before last regs b next)) w4) := HB3.out.trans (hB.mono HB3.out.size)
        clear hB
        obtain ⟨c0, c1, c2, c3, c4⟩ := sight_cells HB4.out
        obtain ⟨p4, hp⟩ : ∃ p, p = letK next := ⟨_, rfl⟩
        rw [← hp]
        have HP4 : Hid (letK next = p4) := hp.symm
        clear hp
        cases p4 with
        | false =>
          obtain rfl : E = false := by rw [HE.out]; unfold goK; rw [HP1.out, HP2.out, HP3.out, HP4.out]; rfl
          go_wp2
          go_ret
          exact ⟨rfl, sight_below HB4.out⟩
        | true =>
          obtain rfl : E = true := by rw [HE.out]; unfold goK; rw [HP1.out, HP2.out, HP3.out, HP4.out]; rfl
          go_wp2
          go_ret
          exact ⟨rfl, sight_below HB4.out⟩
  | false =>
    go_wp2_with fail
    refine (inlet_any last w1).mono ?_
    rintro e w2 ⟨rfl, hB⟩
    have HB2 : Hid (Below (w.alloc (sightO before last regs b next)).heap.size (w.alloc (sightO before last regs b next)) w2) := HB1.out.trans (hB.mono HB1.out.size)
    clear hB
    obtain ⟨c0, c1, c2, c3, c4⟩ := sight_cells HB2.out
    obtain ⟨p2, hp⟩ : ∃ p, p = inLetK last := ⟨_, rfl⟩
    rw [← hp]
    have HP2 : Hid (inLetK last = p2) := hp.symm
    clear hp
    cases p2 with
    | false =>
      obtain rfl : E = false := by rw [HE.out]; unfold goK; rw [HP1.out, HP2.out]; rfl
      go_wp2
      go_ret
      exact ⟨rfl, sight_below HB2.out⟩
    | true =>
      go_wp2_with fail
      refine (letter_any before w2).mono ?_
      rintro e w3 ⟨rfl, hB⟩
      have HB3 : Hid (Below (w.alloc (sightO before last regs b next)).heap.size (w.alloc (sightO before last regs b next)) w3) := HB2.out.trans (hB.mono HB2.out.size)
      clear hB
      obtain ⟨c0, c1, c2, c3, c4⟩ := sight_cells HB3.out
      obtain ⟨p3, hp⟩ : ∃ p, p = letK before := ⟨_, rfl⟩
      rw [← hp]
      have HP3 : Hid (letK before = p3) := hp.symm
      clear hp
      cases p3 with
      | false =>
        obtain rfl : E = false := by rw [HE.out]; unfold goK; rw [HP1.out, HP2.out, HP3.out]; rfl
        go_wp2
        go_ret
        exact ⟨rfl, sight_below HB3.out⟩
      | true =>
        go_wp2_with fail
        refine (letter_any b w3).mono ?_
        rintro e w4 ⟨rfl, hB⟩
        have HB4 : Hid (Below (w.alloc (sightO before last regs b next)).heap.size (w.alloc (sightO before last regs b next)) w4) := HB3.out.trans (hB.mono HB3.out.size)
        clear hB
        obtain ⟨c0, c1, c2, c3, c4⟩ := sight_cells HB4.out
        obtain ⟨p4, hp⟩ : ∃ p, p = letK b := ⟨_, rfl⟩
        rw [← hp]
        have HP4 : Hid (letK b = p4) := hp.symm
        clear hp
        cases p4 with
        | false =>
          obtain rfl : E = false := by rw [HE.out]; unfold goK; rw [HP1.out, HP2.out, HP3.out, HP4.out]; rfl
          go_wp2
          go_ret
          exact ⟨rfl, sight_below HB4.out⟩
        | true =>
          obtain rfl : E = true := by rw [HE.out]; unfold goK; rw [HP1.out, HP2.out, HP3.out, HP4.out]; rfl
          go_wp2
          go_ret
          exact ⟨rfl, sight_below HB4.out⟩
set_option maxRecDepth 100000 in
set_option maxHeartbeats 4000000 in
theorem go_heb_any (before last regs b next : Int) (w : World) :
    Calls Tryd.prog 68 #[sightV before last regs b next, .func (.func 71) #[] #[], .func (.func 72) #[] #[]] w fun e w' => e = .returned (.bool (goK hebK inHebK before last b next)) ∧ Below w.heap.size w w' := by
  obtain ⟨E, hE⟩ : ∃ E, E = goK hebK inHebK before last b next := ⟨_, rfl⟩
  have HE : Hid (E = goK hebK inHebK before last b next) := hE
  rw [← hE]
  clear hE
  unfold sightV
  go_enter Tryd.func68, Tryd.ntmps68
  go_wp2_with fail
  refine (heb_any last (w.alloc (sightO before last regs b next))).mono ?_
  rintro e w1 ⟨rfl, hB⟩
  have HB1 : Hid (Below (w.alloc (sightO before last regs b next)).heap.size (w.alloc (sightO before last regs b next)) w1) := hB
  clear hB
  obtain ⟨c0, c1, c2, c3, c4⟩ := sight_cells HB1.out
  obtain ⟨p1, hp⟩ : ∃ p, p = hebK last := ⟨_, rfl⟩
  rw [← hp]
  have HP1 : Hid (hebK last = p1) := hp.symm
  clear hp
  cases p1 with
  | true =>
    go_wp2_with fail
    refine (heb_any b w1).mono ?_
    rintro e w2 ⟨rfl, hB⟩
    have HB2 : Hid (Below (w.alloc (sightO before last regs b next)).heap.size (w.alloc (sightO before last regs b next)) w2) := HB1.out.trans (hB.mono HB1.out.size)
    clear hB
    obtain ⟨c0, c1, c2, c3, c4⟩ := sight_cells HB2.out
    obtain ⟨p2, hp⟩ : ∃ p, p = hebK b := ⟨_, rfl⟩
    rw [← hp]
    have HP2 : Hid (hebK b = p2) := hp.symm
    clear hp
    cases p2 with
    | true =>
      obtain rfl : E = true := by rw [HE.out]; unfold goK; rw [HP1.out, HP2.out]; rfl
      go_wp2
      go_ret
      exact ⟨rfl, sight_below HB2.out⟩
    | false =>
      go_wp2_with fail
      refine (inheb_any b w2).mono ?_
      rintro e w3 ⟨rfl, hB⟩
      have HB3 : Hid (Below (w.alloc (sightO before last regs b next)).heap.size (w.alloc (sightO before last regs b next)) w3) := HB2.out.trans (hB.mono HB2.out.size)
      clear hB
      obtain ⟨c0, c1, c2, c3, c4⟩ := sight_cells HB3.out
      obtain ⟨p3, hp⟩ : ∃ p, p = inHebK b := ⟨_, rfl⟩
      rw [← hp]
      have HP3 : Hid (inHebK b = p3) := hp.symm
      clear hp
      cases p3 with
      | false =>
        obtain rfl : E = false := by rw [HE.out]; unfold goK; rw [HP1.out, HP2.out, HP3.out]; rfl
        go_wp2
        go_ret
        exact ⟨rfl, sight_below HB3.out⟩
      | true =>
        go_wp2_with fail
        refine (heb_any next w3).mono ?_
        rintro e w4 ⟨rfl, hB⟩
        have HB4 : Hid (Below (w.alloc (sightO before last regs b next)).heap.size (w.alloc (sightO before last regs b next)) w4) := HB3.out.trans (hB.mono HB3.out.size)
        clear hB
        obtain ⟨c0, c1, c2, c3, c4⟩ := sight_cells HB4.out
        obtain ⟨p4, hp⟩ : ∃ p, p = hebK next := ⟨_, rfl⟩
        rw [← hp]
        have HP4 : Hid (hebK next = p4) := hp.symm
        clear hp
        cases p4 with
        | false =>
          obtain rfl : E = false := by rw [HE.out]; unfold goK; rw [HP1.out, HP2.out, HP3.out, HP4.out]; rfl
          go_wp2
          go_ret
          exact ⟨rfl, sight_below HB4.out⟩
        | true =>
          obtain rfl : E = true := by rw [HE.out]; unfold goK; rw [HP1.out, HP2.out, HP3.out, HP4.out]; rfl
          go_wp2
          go_ret
          exact ⟨rfl, sight_below HB4.out⟩
  | false =>
    go_wp2_with fail
    refine (inheb_any last w1).mono ?_
    rintro e w2 ⟨rfl, hB⟩
    have HB2 : Hid (Below (w.alloc (sightO before last regs b next)).heap.size (w.alloc (sightO before last regs b next)) w2) := HB1.out.trans (hB.mono HB1.out.size)
    clear hB
    obtain ⟨c0, c1, c2, c3, c4⟩ := sight_cells HB2.out
    obtain ⟨p2, hp⟩ : ∃ p, p = inHebK last := ⟨_, rfl⟩
    rw [← hp]
    have HP2 : Hid (inHebK last = p2) := hp.symm
    clear hp
    cases p2 with
    | false =>
      obtain rfl : E = false := by rw [HE.out]; unfold goK; rw [HP1.out, HP2.out]; rfl
      go_wp2
      go_ret
      exact ⟨rfl, sight_below HB2.out⟩
    | true =>
      go_wp2_with fail
      refine (heb_any before w2).mono ?_
      rintro e w3 ⟨rfl, hB⟩
      have HB3 : Hid (Below (w.alloc (sightO before last regs b next)).heap.size (w.alloc (sightO before last regs b next)) w3) := HB2.out.trans (hB.mono HB2.out.size)
      clear hB
      obtain ⟨c0, c1, c2, c3, c4⟩ := sight_cells HB3.out
      obtain ⟨p3, hp⟩ : ∃ p, p = hebK before := ⟨_, rfl⟩
      rw [← hp]
      have HP3 : Hid (hebK before = p3) := hp.symm
      clear hp
      cases p3 with
      | false =>
        obtain rfl : E = false := by rw [HE.out]; unfold goK; rw [HP1.out, HP2.out, HP3.out]; rfl
        go_wp2
        go_ret
        exact ⟨rfl, sight_below HB3.out⟩
      | true =>
        go_wp2_with fail
        refine (heb_any b w3).mono ?_
        rintro e w4 ⟨rfl, hB⟩
        have HB4 : Hid (Below (w.alloc (sightO before last regs b next)).heap.size (w.alloc (sightO before last regs b next)) w4) := HB3.out.trans (hB.mono HB3.out.size)
        clear hB
        obtain ⟨c0, c1, c2, c3, c4⟩ := sight_cells HB4.out
        obtain ⟨p4, hp⟩ : ∃ p, p = hebK b := ⟨_, rfl⟩
        rw [← hp]
        have HP4 : Hid (hebK b = p4) := hp.symm
        clear hp
        cases p4 with
        | false =>
          obtain rfl : E = false := by rw [HE.out]; unfold goK; rw [HP1.out, HP2.out, HP3.out, HP4.out]; rfl
          go_wp2
          go_ret
          exact ⟨rfl, sight_below HB4.out⟩
        | true =>
          obtain rfl : E = true := by rw [HE.out]; unfold goK; rw [HP1.out, HP2.out, HP3.out, HP4.out]; rfl
          go_wp2
          go_ret
          exact ⟨rfl, sight_below HB4.out⟩
set_option maxRecDepth 100000 in
set_option maxHeartbeats 4000000 in
theorem go_num_any (before last regs b next : Int) (w : World) :
    Calls Tryd.prog 68 #[sightV before last regs b next, .func (.func 73) #[] #[], .func (.func 74) #[] #[]] w fun e w' => e = .returned (.bool (goK numK inNumK before last b next)) ∧ Below w.heap.size w w' := by
  obtain ⟨E, hE⟩ : ∃ E, E = goK numK inNumK before last b next := ⟨_, rfl⟩
  have HE : Hid (E = goK numK inNumK before last b next) := hE
  rw [← hE]
  clear hE
  unfold sightV
  go_enter Tryd.func68, Tryd.ntmps68
  go_wp2_with fail
  refine (num_any last (w.alloc (sightO before last regs b next))).mono ?_
  rintro e w1 ⟨rfl, hB⟩
  have HB1 : Hid (Below (w.alloc (sightO before last regs b next)).heap.size (w.alloc (sightO before last regs b next)) w1) := hB
  clear hB
  obtain ⟨c0, c1, c2, c3, c4⟩ := sight_cells HB1.out
  obtain ⟨p1, hp⟩ : ∃ p, p = numK last := ⟨_, rfl⟩
  rw [← hp]
  have HP1 : Hid (numK last = p1) := hp.symm
  clear hp
  cases p1 with
  | true =>
    go_wp2_with fail
    refine (num_any b w1).mono ?_
    rintro e w2 ⟨rfl, hB⟩
    have HB2 : Hid (Below (w.alloc (sightO before last regs b next)).heap.size (w.alloc (sightO before last regs b next)) w2) := HB1.out.trans (hB.mono HB1.out.size)
    clear hB
    obtain ⟨c0, c1, c2, c3, c4⟩ := sight_cells HB2.out
    obtain ⟨p2, hp⟩ : ∃ p, p = numK b := ⟨_, rfl⟩
    rw [← hp]
    have HP2 : Hid (numK b = p2) := hp.symm
    clear hp
    cases p2 with
    | true =>
      obtain rfl : E = true := by rw [HE.out]; unfold goK; rw [HP1.out, HP2.out]; rfl
      go_wp2
      go_ret
      exact ⟨rfl, sight_below HB2.out⟩
    | false =>
      go_wp2_with fail
      refine (innum_any b w2).mono ?_
      rintro e w3 ⟨rfl, hB⟩
      have HB3 : Hid (Below (w.alloc (sightO before last regs b next)).heap.size (w.alloc (sightO before last regs b next)) w3) := HB2.out.trans (hB.mono HB2.out.size)
      clear hB
      obtain ⟨c0, c1, c2, c3, c4⟩ := sight_cells HB3.out
      obtain ⟨p3, hp⟩ : ∃ p, p = inNumK b := ⟨_, rfl⟩
      rw [← hp]
      have HP3 : Hid (inNumK b = p3) := hp.symm
      clear hp
      cases p3 with
      | false =>
        obtain rfl : E = false := by rw [HE.out]; unfold goK; rw [HP1.out, HP2.out, HP3.out]; rfl
        go_wp2
        go_ret
        exact ⟨rfl, sight_below HB3.out⟩
      | true =>
        go_wp2_with fail
        refine (num_any next w3).mono ?_
        rintro e w4 ⟨rfl, hB⟩
        have HB4 : Hid (Below (w.alloc (sightO before last regs b next)).heap.size (w.alloc (sightO before last regs b next)) w4) := HB3.out.trans (hB.mono HB3.out.size)
        clear hB
        obtain ⟨c0, c1, c2, c3, c4⟩ := sight_cells HB4.out
        obtain ⟨p4, hp⟩ : ∃ p, p = numK next := ⟨_, rfl⟩
        rw [← hp]
        have HP4 : Hid (numK next = p4) := hp.symm
        clear hp
        cases p4 with
        | false =>
          obtain rfl : E = false := by rw [HE.out]; unfold goK; rw [HP1.out, HP2.out, HP3.out, HP4.out]; rfl
          go_wp2
          go_ret
          exact ⟨rfl, sight_below HB4.out⟩
        | true =>
          obtain rfl : E = true := by rw [HE.out]; unfold goK; rw [HP1.out, HP2.out, HP3.out, HP4.out]; rfl
          go_wp2
          go_ret
          exact ⟨rfl, sight_below HB4.out⟩
  | false =>
    go_wp2_with fail
    refine (innum_any last w1).mono ?_
    rintro e w2 ⟨rfl, hB⟩
    have HB2 : Hid (Below (w.alloc (sightO before last regs b next)).heap.size (w.alloc (sightO before last regs b next)) w2) := HB1.out.trans (hB.mono HB1.out.size)
    clear hB
    obtain ⟨c0, c1, c2, c3, c4⟩ := sight_cells HB2.out
    obtain ⟨p2, hp⟩ : ∃ p, p = inNumK last := ⟨_, rfl⟩
    rw [← hp]
    have HP2 : Hid (inNumK last = p2) := hp.symm
    clear hp
    cases p2 with
    | false =>
      obtain rfl : E = false := by rw [HE.out]; unfold goK; rw [HP1.out, HP2.out]; rfl
      go_wp2
      go_ret
      exact ⟨rfl, sight_below HB2.out⟩
    | true =>
      go_wp2_with fail
      refine (num_any before w2).mono ?_
      rintro e w3 ⟨rfl, hB⟩
      have HB3 : Hid (Below (w.alloc (sightO before last regs b next)).heap.size (w.alloc (sightO before last regs b next)) w3) := HB2.out.trans (hB.mono HB2.out.size)
      clear hB
      obtain ⟨c0, c1, c2, c3, c4⟩ := sight_cells HB3.out
      obtain ⟨p3, hp⟩ : ∃ p, p = numK before := ⟨_, rfl⟩
      rw [← hp]
      have HP3 : Hid (numK before = p3) := hp.symm
      clear hp
      cases p3 with
      | false =>
        obtain rfl : E = false := by rw [HE.out]; unfold goK; rw [HP1.out, HP2.out, HP3.out]; rfl
        go_wp2
        go_ret
        exact ⟨rfl, sight_below HB3.out⟩
      | true =>
        go_wp2_with fail
        refine (num_any b w3).mono ?_
        rintro e w4 ⟨rfl, hB⟩
        have HB4 : Hid (Below (w.alloc (sightO before last regs b next)).heap.size (w.alloc (sightO before last regs b next)) w4) := HB3.out.trans (hB.mono HB3.out.size)
        clear hB
        obtain ⟨c0, c1, c2, c3, c4⟩ := sight_cells HB4.out
        obtain ⟨p4, hp⟩ : ∃ p, p = numK b := ⟨_, rfl⟩
        rw [← hp]
        have HP4 : Hid (numK b = p4) := hp.symm
        clear hp
        cases p4 with
        | false =>
          obtain rfl : E = false := by rw [HE.out]; unfold goK; rw [HP1.out, HP2.out, HP3.out, HP4.out]; rfl
          go_wp2
          go_ret
          exact ⟨rfl, sight_below HB4.out⟩
        | true =>
          obtain rfl : E = true := by rw [HE.out]; unfold goK; rw [HP1.out, HP2.out, HP3.out, HP4.out]; rfl
          go_wp2
          go_ret
          exact ⟨rfl, sight_below HB4.out⟩
end Go.Proofs.YtpmlbdfdiebkcaaDoor
