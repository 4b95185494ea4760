/-
  What ranges.Has, Count and Nth answer of a set.
-/
import Derived.Test.YtdjhgjnhfmggjabGreatDoorStretch
import Derived.Shelf.Abstract
namespace Go.Proofs.YtdjhgjnhfmggjabGreatDoor
open Go.RowKit Go.Shelf
set_option linter.unusedVariables false



/-- How a range stands to a number. -/
def cmpH (x : Rg) (y : Int) : Int := if x.hi < y then -1 else if y < x.lo then 1 else 0
theorem has1_any (x : Rg) (y : Int) (w : World) : Calls Tryz.prog 17 #[.agg #[.int .i64 x.lo, .int .i64 x.hi], .int .i64 y] w fun e w' => e = .returned (.int .i64 (cmpH x y)) ∧ Below w.heap.size w w' := by
  by_cases h1 : x.hi < y
  · have e : cmpH x y = -1 := by simp [cmpH, h1]
    rw [e]
    go_enter Tryz.func17, Tryz.ntmps17
    go_wp2
    go_ret
    exact ⟨rfl, (Below.refl _ _).alloc (Nat.le_refl _) _⟩
  · by_cases h2 : y < x.lo
    · have e : cmpH x y = 1 := by simp [cmpH, h1, h2]
      rw [e]
      go_enter Tryz.func17, Tryz.ntmps17
      go_wp2
      go_ret
      exact ⟨rfl, (Below.refl _ _).alloc (Nat.le_refl _) _⟩
    · have e : cmpH x y = 0 := by simp [cmpH, h1, h2]
      rw [e]
      go_enter Tryz.func17, Tryz.ntmps17
      go_wp2
      go_ret
      exact ⟨rfl, (Below.refl _ _).alloc (Nat.le_refl _) _⟩

theorem cmpH_neg (x : Rg) (y : Int) : cmpH x y < 0 ↔ x.hi < y := by
  unfold cmpH
  repeat' split
  all_goals omega
theorem cmpH_zero (x : Rg) (y : Int) : cmpH x y = 0 ↔ x.lo ≤ y ∧ y ≤ x.hi := by
  unfold cmpH
  repeat' split
  all_goals omega

/-- The place that is found tells whether the number is there. -/
theorem found_has {a : List Rg} {b y : Int} {i : Nat} (hn : NormFrom b a) (hi : i ≤ a.length) (hlo : ∀ k, (h : k < a.length) → k < i → a[k].hi < y) (hhi : ∀ k, (h : k < a.length) → i ≤ k → y ≤ a[k].hi) :
    hasR a y = decide (∃ h : i < a.length, a[i].lo ≤ y ∧ y ≤ a[i].hi) := by
  rw [Bool.eq_iff_iff, hasR_iff, decide_eq_true_eq]
  constructor
  · rintro ⟨r, hr, h1, h2⟩
    obtain ⟨k, hk, rfl⟩ := List.getElem_of_mem hr
    rcases Nat.lt_trichotomy k i with q | q | q
    · have := hlo k hk q; omega
    · subst q; exact ⟨hk, h1, h2⟩
    · have h3 := hhi i (by omega) (Nat.le_refl _)
      have h4 := NormFrom.apart i k (by omega) hk hn q
      omega
  · rintro ⟨h, h1, h2⟩
    exact ⟨a[i], List.getElem_mem h, h1, h2⟩

set_option maxRecDepth 100000 in
set_option maxHeartbeats 2000000 in
theorem search_any (b : Int) (us : List Rg) (hlen : us.length ≤ 600000) (hn : NormFrom b us) (y : Int) (v : Value) (w : World) (hv : RngIn w v us) :
    Calls Tryz.prog 16 #[v, .int .i64 y, .func (.func 17) #[] #[]] w fun e w' => ∃ i : Nat, e = .returned (.tuple #[.int .i64 (i : Int), .bool (hasR us y)]) ∧ Below w.heap.size w w' := by
  obtain ⟨a, ca, rfl, hca, hia⟩ := hv
  have HA : Hid (∀ i, (h : i < us.length) → ∃ g off, a = some ⟨g, off, none⟩ ∧ g < w.heap.size ∧ w.cell? ⟨g, off + i * 2, none⟩ = some (.int .i64 us[i].lo) ∧ w.cell? ⟨g, off + i * 2 + 1, none⟩ = some (.int .i64 us[i].hi)) := hia
  have HN : Hid (NormFrom b us) := hn
  clear hia hn
  obtain ⟨fin, hfin⟩ : ∃ fin, hasR us y = fin := ⟨_, rfl⟩
  have HF : Hid (hasR us y = fin) := hfin
  rw [hfin]
  clear hfin
  go_enter Tryz.func16, Tryz.ntmps16
  go_wp2
  go_loopw [9, 10] (fun x z wr => ∃ i j : Nat, i ≤ j ∧ j ≤ us.length ∧ x = .int .i64 i ∧ z = .int .i64 j ∧ (∀ k, (h : k < us.length) → k < i → us[k].hi < y) ∧ (∀ k, (h : k < us.length) → j ≤ k → y ≤ us[k].hi) ∧ Below w.heap.size w wr) (fun x z _ => (intOf z).toNat - (intOf x).toNat)
  case atStart => exact ⟨0, us.length, Nat.zero_le _, Nat.le_refl _, rfl, rfl, fun k h q => by omega, fun k h q => by omega, Below.refl _ _⟩
  case round =>
    obtain ⟨i, j, hij, hj, rfl, rfl, hlo, hhi, hB⟩ := hrel
    have HLO : Hid (∀ k, (h : k < us.length) → k < i → us[k].hi < y) := hlo
    have HHI : Hid (∀ k, (h : k < us.length) → j ≤ k → y ≤ us[k].hi) := hhi
    clear hlo hhi
    have hbs := hB.size
    by_cases hlt : i < j
    · have hh : (i + j) / 2 < us.length := by omega
      obtain ⟨g, off, rfl, hg, c0, c1⟩ := HA.out _ hh
      obtain ⟨u, hu⟩ : ∃ u, u = us[(i + j) / 2] := ⟨_, rfl⟩
      rw [← hu] at c0 c1
      have d0 : wr.cell? ⟨g, off + (i + j) / 2 * 2, none⟩ = some (.int .i64 u.lo) := (hB.cell (p := ⟨g, _, none⟩) hg).trans c0
      have d1 : wr.cell? ⟨g, off + (i + j) / 2 * 2 + 1, none⟩ = some (.int .i64 u.hi) := (hB.cell (p := ⟨g, _, none⟩) hg).trans c1
      have HU : Hid (u = us[(i + j) / 2]) := hu
      have hord : u.lo ≤ u.hi := (NormFrom.ord HN.out u (by rw [hu]; exact List.getElem_mem hh)).2
      clear c0 c1 hu
      have HI1 : Hid (Calls Tryz.prog 17 #[.agg #[.int .i64 u.lo, .int .i64 u.hi], .int .i64 y] wr fun e w' => e = .returned (.int .i64 (cmpH u y)) ∧ Below wr.heap.size wr w') := has1_any u y wr
      by_cases hlow : u.hi < y
      · have hcm : cmpH u y < 0 := (cmpH_neg _ _).2 hlow
        go_wp2_with (go_at_call 17; refine HI1.out.mono ?_; rintro e w1 ⟨rfl, hB1⟩)
        go_roundw
        case rel =>
          refine ⟨(i + j) / 2 + 1, j, by omega, hj, by go_num, rfl, fun k h q => ?_, HHI.out, hB.trans (hB1.mono hbs)⟩
          by_cases e : k = (i + j) / 2
          · subst e; rw [← HU.out]; exact hlow
          · have := NormFrom.apart k ((i + j) / 2) h hh HN.out (by omega)
            rw [← HU.out] at this
            omega
        case measure => simp [intOf]; omega
      · have hcm : ¬ cmpH u y < 0 := fun h => hlow ((cmpH_neg _ _).1 h)
        go_wp2_with (go_at_call 17; refine HI1.out.mono ?_; rintro e w1 ⟨rfl, hB1⟩)
        go_roundw
        case rel =>
          refine ⟨i, (i + j) / 2, by omega, by omega, rfl, by go_num, HLO.out, fun k h q => ?_, hB.trans (hB1.mono hbs)⟩
          by_cases e : k = (i + j) / 2
          · subst e; rw [← HU.out]; omega
          · have := NormFrom.apart ((i + j) / 2) k hh h HN.out (by omega)
            rw [← HU.out] at this
            have := (NormFrom.ord HN.out us[k] (List.getElem_mem h)).2
            omega
        case measure => simp [intOf]; omega
    · obtain rfl : i = j := by omega
      have HFH : Hid (hasR us y = decide (∃ h : i < us.length, us[i].lo ≤ y ∧ y ≤ us[i].hi)) := found_has HN.out hj HLO.out HHI.out
      by_cases hin : i < us.length
      · obtain ⟨g, off, rfl, hg, c0, c1⟩ := HA.out _ hin
        obtain ⟨u, hu⟩ : ∃ u, u = us[i] := ⟨_, rfl⟩
        rw [← hu] at c0 c1
        have d0 : wr.cell? ⟨g, off + i * 2, none⟩ = some (.int .i64 u.lo) := (hB.cell (p := ⟨g, _, none⟩) hg).trans c0
        have d1 : wr.cell? ⟨g, off + i * 2 + 1, none⟩ = some (.int .i64 u.hi) := (hB.cell (p := ⟨g, _, none⟩) hg).trans c1
        have HU : Hid (u = us[i]) := hu
        clear c0 c1 hu
        have HI1 : Hid (Calls Tryz.prog 17 #[.agg #[.int .i64 u.lo, .int .i64 u.hi], .int .i64 y] wr fun e w' => e = .returned (.int .i64 (cmpH u y)) ∧ Below wr.heap.size wr w') := has1_any u y wr
        have HD : Hid (fin = (cmpH u y == 0)) := by
          show fin = _
          rw [← HF.out, HFH.out]
          have e : (∃ h : i < us.length, us[i].lo ≤ y ∧ y ≤ us[i].hi) ↔ (u.lo ≤ y ∧ y ≤ u.hi) := by rw [HU.out]; exact ⟨fun ⟨_, q⟩ => q, fun q => ⟨hin, q⟩⟩
          by_cases q : u.lo ≤ y ∧ y ≤ u.hi
          · rw [(cmpH_zero _ _).2 q, decide_eq_true (e.2 q)]; rfl
          · have : cmpH u y ≠ 0 := fun z => q ((cmpH_zero _ _).1 z)
            rw [decide_eq_false (fun z => q (e.1 z))]
            simp [this]
        have hin' : (i : Int) < (us.length : Int) := by omega
        go_wp2_with (go_at_call 17; refine HI1.out.mono ?_; rintro e w1 ⟨rfl, hB1⟩)
        go_ret2
        exact ⟨i, by rw [HD.out]; rfl, hB.trans (hB1.mono hbs)⟩
      · have HD : Hid (fin = false) := by
          show fin = _
          rw [← HF.out, HFH.out, decide_eq_false]
          rintro ⟨h, _⟩
          exact hin h
        have hin' : ¬ (i : Int) < (us.length : Int) := by omega
        have hid : decide ((i : Int) < (us.length : Int)) = false := by simpa using hin'
        go_wp2
        go_ret2
        exact ⟨⟨i, by rw [HD.out]; rfl⟩, hB⟩

theorem has_any (b : Int) (a : List Rg) (hlen : a.length ≤ 600000) (hn : NormFrom b a) (y : Int) (v : Value) (w : World) (hv : RngIn w v a) :
    Calls Tryz.prog 5 #[v, .int .i64 y] w fun e w' => e = .returned (.bool (hasR a y)) ∧ Below w.heap.size w w' := by
  have hcon := search_any b a hlen hn y v w hv
  obtain ⟨ad, ca, rfl, _, _⟩ := hv
  obtain ⟨fin, hfin⟩ : ∃ fin, hasR a y = fin := ⟨_, rfl⟩
  rw [hfin] at hcon ⊢
  clear hfin hn
  go_enter Tryz.func5, Tryz.ntmps5
  go_wp2_with fail
  refine hcon.mono ?_
  rintro e w1 ⟨i, rfl, hB⟩
  clear hcon
  go_wp2
  go_ret
  exact ⟨rfl, hB⟩
end Go.Proofs.YtdjhgjnhfmggjabGreatDoor
