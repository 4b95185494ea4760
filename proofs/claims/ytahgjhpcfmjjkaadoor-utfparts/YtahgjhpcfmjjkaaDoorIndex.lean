/-
  What utf.Index and scansionref01.Index answer of units that rise.
-/
import Derived.Test.YtahgjhpcfmjjkaaDoorLawDecodes
namespace Go.Proofs.YtahgjhpcfmjjkaaDoor
open Go.RowKit
set_option linter.unusedVariables false

/-- The order of two ints. -/
def cmpI (x y : Int) : Int := if x < y then -1 else if y < x then 1 else 0
theorem cmpI_neg (x y : Int) : cmpI x y < 0 ↔ x < y := by
  unfold cmpI
  repeat' split
  all_goals omega
theorem cmpI_zero (x y : Int) : cmpI x y = 0 ↔ x = y := by
  unfold cmpI
  repeat' split
  all_goals omega

theorem isNaN_any (x : Int) (w : World) : Calls Tryd.prog 36 #[.int .i64 x] w fun e w' => e = .returned (.bool false) ∧ w' = w := by
  have h : (x != x) = false := by simp
  go_enter Tryd.func36, Tryd.ntmps36
  go_wp2
  go_ret
  exact ⟨rfl, rfl⟩

theorem compare_any (x y : Int) (w : World) : Calls Tryd.prog 31 #[.int .i64 x, .int .i64 y] w fun e w' => e = .returned (.int .i64 (cmpI x y)) ∧ w' = w := by
  by_cases h1 : x < y
  · have e : cmpI x y = -1 := by simp [cmpI, h1]
    rw [e]
    go_enter Tryd.func31, Tryd.ntmps31
    go_wp2_with (go_at_call 36; refine (isNaN_any _ _).mono ?_; rintro e w' ⟨rfl, rfl⟩)
    go_ret
    exact ⟨rfl, rfl⟩
  by_cases h2 : y < x
  · have e : cmpI x y = 1 := by simp [cmpI, h1, h2]
    rw [e]
    go_enter Tryd.func31, Tryd.ntmps31
    go_wp2_with (go_at_call 36; refine (isNaN_any _ _).mono ?_; rintro e w' ⟨rfl, rfl⟩)
    go_ret
    exact ⟨rfl, rfl⟩
  · have e : cmpI x y = 0 := by simp [cmpI, h1, h2]
    rw [e]
    go_enter Tryd.func31, Tryd.ntmps31
    go_wp2_with (go_at_call 36; refine (isNaN_any _ _).mono ?_; rintro e w' ⟨rfl, rfl⟩)
    go_ret
    exact ⟨rfl, rfl⟩

theorem index1_any (u : U) (y : Int) (w : World) : Calls Tryd.prog 30 #[.agg #[.int .i64 u.r, .int .i64 (u.p : Int), .int .i64 (u.w : Int), .bool u.bad], .int .i64 y] w fun e w' => e = .returned (.int .i64 (cmpI (u.p : Int) y)) ∧ Below w.heap.size w w' := by
  go_enter Tryd.func30, Tryd.ntmps30
  go_wp2_with (go_at_call 31; refine (compare_any _ _ _).mono ?_; rintro e w' ⟨rfl, rfl⟩)
  go_ret
  exact ⟨rfl, (Below.refl _ _).alloc (Nat.le_refl _) _⟩

/-- The units rise. -/
def Rise (us : List U) : Prop := ∀ i j, i < j → (hj : j < us.length) → (hi : i < us.length) → us[i].p < us[j].p

set_option maxRecDepth 100000 in
set_option maxHeartbeats 2000000 in
theorem search_any (us : List U) (hlen : us.length ≤ 10000) (hrise : Rise us) (y : Int) (v : Value) (w : World) (hv : UnitsIn w v us) :
    Calls Tryd.prog 29 #[v, .int .i64 y, .func (.func 30) #[] #[]] w fun e w' => ∃ i : Nat, i ≤ us.length ∧ (∀ k, (h : k < us.length) → k < i → (us[k].p : Int) < y) ∧ (∀ k, (h : k < us.length) → i ≤ k → y ≤ (us[k].p : Int)) ∧
      e = .returned (.tuple #[.int .i64 (i : Int), .bool (decide (∃ h : i < us.length, (us[i].p : Int) = y))]) ∧ Below w.heap.size w w' := by
  obtain ⟨a, ca, rfl, hca, hia⟩ := hv
  have HA : Hid (∀ i, (h : i < us.length) → ∃ g off, a = some ⟨g, off, none⟩ ∧ g < w.heap.size ∧ ∀ j, j < 4 → w.cell? ⟨g, off + i * 4 + j, none⟩ = (cellsU us[i])[j]?) := hia
  clear hia
  go_enter Tryd.func29, Tryd.ntmps29
  go_wp2
  go_loopw [9, 10] (fun x z wr => ∃ i j : Nat, i ≤ j ∧ j ≤ us.length ∧ x = .int .i64 i ∧ z = .int .i64 j ∧ (∀ k, (h : k < us.length) → k < i → (us[k].p : Int) < y) ∧ (∀ k, (h : k < us.length) → j ≤ k → y ≤ (us[k].p : Int)) ∧ Below w.heap.size w wr) (fun x z _ => (intOf z).toNat - (intOf x).toNat)
  case atStart => exact ⟨0, us.length, Nat.zero_le _, Nat.le_refl _, rfl, rfl, fun k h q => by omega, fun k h q => by omega, Below.refl _ _⟩
  case round =>
    obtain ⟨i, j, hij, hj, rfl, rfl, hlo, hhi, hB⟩ := hrel
    have HLO : Hid (∀ k, (h : k < us.length) → k < i → (us[k].p : Int) < y) := hlo
    have HHI : Hid (∀ k, (h : k < us.length) → j ≤ k → y ≤ (us[k].p : Int)) := hhi
    clear hlo hhi
    have hbs := hB.size
    by_cases hlt : i < j
    · have hh : (i + j) / 2 < us.length := by omega
      obtain ⟨g, off, rfl, hg, hc⟩ := HA.out _ hh
      obtain ⟨u, hu⟩ : ∃ u, u = us[(i + j) / 2] := ⟨_, rfl⟩
      rw [← hu] at hc
      have c0 : wr.cell? ⟨g, off + (i + j) / 2 * 4, none⟩ = some (.int .i64 u.r) := (hB.cell (p := ⟨g, _, none⟩) hg).trans (hc 0 (by omega))
      have c1 : wr.cell? ⟨g, off + (i + j) / 2 * 4 + 1, none⟩ = some (.int .i64 (u.p : Int)) := (hB.cell (p := ⟨g, _, none⟩) hg).trans (hc 1 (by omega))
      have c2 : wr.cell? ⟨g, off + (i + j) / 2 * 4 + 2, none⟩ = some (.int .i64 (u.w : Int)) := (hB.cell (p := ⟨g, _, none⟩) hg).trans (hc 2 (by omega))
      have c3 : wr.cell? ⟨g, off + (i + j) / 2 * 4 + 3, none⟩ = some (.bool u.bad) := (hB.cell (p := ⟨g, _, none⟩) hg).trans (hc 3 (by omega))
      have HU : Hid (u = us[(i + j) / 2]) := hu
      clear hc hu
      have hi1 := index1_any u y wr
      have HI1 : Hid (Calls Tryd.prog 30 #[.agg #[.int .i64 u.r, .int .i64 (u.p : Int), .int .i64 (u.w : Int), .bool u.bad], .int .i64 y] wr fun e w' => e = .returned (.int .i64 (cmpI (u.p : Int) y)) ∧ Below wr.heap.size wr w') := hi1
      clear hi1
      by_cases hlow : (u.p : Int) < y
      · have hcm : cmpI (u.p : Int) y < 0 := (cmpI_neg _ _).2 hlow
        go_wp2_with (go_at_call 30; refine HI1.out.mono ?_; rintro e w1 ⟨rfl, hB1⟩)
        go_roundw
        case rel =>
          refine ⟨(i + j) / 2 + 1, j, by omega, hj, by go_num, rfl, fun k h q => ?_, HHI.out, hB.trans (hB1.mono hbs)⟩
          by_cases e : k = (i + j) / 2
          · subst e; rw [← HU.out]; exact hlow
          · have := hrise k ((i + j) / 2) (by omega) hh h
            rw [← HU.out] at this
            omega
        case measure => simp [intOf]; omega
      · have hcm : ¬ cmpI (u.p : Int) y < 0 := fun h => hlow ((cmpI_neg _ _).1 h)
        go_wp2_with (go_at_call 30; refine HI1.out.mono ?_; rintro e w1 ⟨rfl, hB1⟩)
        go_roundw
        case rel =>
          refine ⟨i, (i + j) / 2, by omega, by omega, rfl, by go_num, HLO.out, fun k h q => ?_, hB.trans (hB1.mono hbs)⟩
          by_cases e : k = (i + j) / 2
          · subst e; rw [← HU.out]; omega
          · have := hrise ((i + j) / 2) k (by omega) h hh
            rw [← HU.out] at this
            omega
        case measure => simp [intOf]; omega
    · obtain rfl : i = j := by omega
      by_cases hin : i < us.length
      · obtain ⟨g, off, rfl, hg, hc⟩ := HA.out _ hin
        obtain ⟨u, hu⟩ : ∃ u, u = us[i] := ⟨_, rfl⟩
        rw [← hu] at hc
        have c0 : wr.cell? ⟨g, off + i * 4, none⟩ = some (.int .i64 u.r) := (hB.cell (p := ⟨g, _, none⟩) hg).trans (hc 0 (by omega))
        have c1 : wr.cell? ⟨g, off + i * 4 + 1, none⟩ = some (.int .i64 (u.p : Int)) := (hB.cell (p := ⟨g, _, none⟩) hg).trans (hc 1 (by omega))
        have c2 : wr.cell? ⟨g, off + i * 4 + 2, none⟩ = some (.int .i64 (u.w : Int)) := (hB.cell (p := ⟨g, _, none⟩) hg).trans (hc 2 (by omega))
        have c3 : wr.cell? ⟨g, off + i * 4 + 3, none⟩ = some (.bool u.bad) := (hB.cell (p := ⟨g, _, none⟩) hg).trans (hc 3 (by omega))
        have HU : Hid (u = us[i]) := hu
        clear hc hu
        have hi1 := index1_any u y wr
        have HI1 : Hid (Calls Tryd.prog 30 #[.agg #[.int .i64 u.r, .int .i64 (u.p : Int), .int .i64 (u.w : Int), .bool u.bad], .int .i64 y] wr fun e w' => e = .returned (.int .i64 (cmpI (u.p : Int) y)) ∧ Below wr.heap.size wr w') := hi1
        clear hi1
        have HD : Hid (decide (∃ h : i < us.length, (us[i].p : Int) = y) = (cmpI (u.p : Int) y == 0)) := by
          have e : (∃ h : i < us.length, (us[i].p : Int) = y) ↔ (u.p : Int) = y := by rw [HU.out]; exact ⟨fun ⟨_, q⟩ => q, fun q => ⟨hin, q⟩⟩
          show decide _ = _
          by_cases q : (u.p : Int) = y
          · rw [(cmpI_zero _ _).2 q, decide_eq_true (e.2 q)]; rfl
          · have : cmpI (u.p : Int) y ≠ 0 := fun z => q ((cmpI_zero _ _).1 z)
            rw [decide_eq_false (fun z => q (e.1 z))]
            simp [this]
        have hin' : (i : Int) < (us.length : Int) := by omega
        go_wp2_with (go_at_call 30; refine HI1.out.mono ?_; rintro e w1 ⟨rfl, hB1⟩)
        go_ret2
        exact ⟨i, hj, HLO.out, HHI.out, by rw [HD.out]; rfl, hB.trans (hB1.mono hbs)⟩
      · have HD : Hid (decide (∃ h : i < us.length, (us[i].p : Int) = y) = false) := by
          show decide _ = _
          rw [decide_eq_false]
          rintro ⟨h, _⟩
          exact hin h
        have hin' : ¬ (i : Int) < (us.length : Int) := by omega
        have hid : decide ((i : Int) < (us.length : Int)) = false := by simpa using hin'
        go_wp2
        go_ret2
        exact ⟨i, hj, HLO.out, HHI.out, by rw [HD.out]; rfl, hB⟩

/-- Where the last unit ends. -/
def endU (us : List U) : Nat := match us.getLast? with
  | none => 0
  | some u => u.p + u.w
/-- The place that is told of an offset. -/
def Place (us : List U) (y : Int) (res : Int) : Prop :=
  (∃ i, ∃ h : i < us.length, (us[i].p : Int) = y ∧ res = i) ∨
  ((∀ i, (h : i < us.length) → (us[i].p : Int) ≠ y) ∧ ((y = (endU us : Int) ∧ res = us.length) ∨ (y ≠ (endU us : Int) ∧ res = -1)))

theorem Place.unique {us : List U} (hr : Rise us) {y a b : Int} (h : Place us y a) (k : Place us y b) : a = b := by
  rcases h with ⟨i, hi, e, rfl⟩ | ⟨hn, h⟩
  · rcases k with ⟨j, hj, e', rfl⟩ | ⟨kn, _⟩
    · rcases Nat.lt_trichotomy i j with q | q | q
      · have := hr i j q hj hi; omega
      · rw [q]
      · have := hr j i q hi hj; omega
    · exact absurd e (kn i hi)
  · rcases k with ⟨j, hj, e', rfl⟩ | ⟨_, k⟩
    · exact absurd e' (hn j hj)
    · rcases h with ⟨e, rfl⟩ | ⟨e, rfl⟩ <;> rcases k with ⟨e', rfl⟩ | ⟨e', rfl⟩
      · rfl
      · exact absurd e e'
      · exact absurd e' e
      · rfl

theorem endU_of {us : List U} (h : 1 ≤ us.length) : endU us = (us[us.length - 1]'(by omega)).p + (us[us.length - 1]'(by omega)).w := by
  unfold endU
  rw [List.getLast?_eq_getElem?, List.getElem?_eq_getElem (by omega)]

set_option maxHeartbeats 1000000 in
theorem end_any (us : List U) (hlen : us.length ≤ 10000) (hbd : ∀ u ∈ us, u.p ≤ 10000 ∧ u.w ≤ 4) (v : Value) (w : World) (hv : UnitsIn w v us) :
    Calls Tryd.prog 32 #[v] w fun e w' => e = .returned (.int .i64 (endU us : Int)) ∧ Below w.heap.size w w' := by
  obtain ⟨a, ca, rfl, hca, hia⟩ := hv
  by_cases h0 : us.length = 0
  · have e : endU us = 0 := by rw [List.length_eq_zero_iff.1 h0]; rfl
    rw [e, h0]
    go_enter Tryd.func32, Tryd.ntmps32
    go_wp2
    go_ret
    exact ⟨rfl, Below.refl _ _⟩
  · have hl : us.length - 1 < us.length := by omega
    obtain ⟨g, off, rfl, hg, hc⟩ := hia _ hl
    have he := endU_of (us := us) (by omega)
    obtain ⟨u, hu⟩ : ∃ u, u = us[us.length - 1] := ⟨_, rfl⟩
    rw [← hu] at hc he
    have hb := hbd u (by rw [hu]; exact List.getElem_mem hl)
    have c0 : w.cell? ⟨g, off + (us.length - 1) * 4, none⟩ = some (.int .i64 u.r) := hc 0 (by omega)
    have c1 : w.cell? ⟨g, off + (us.length - 1) * 4 + 1, none⟩ = some (.int .i64 (u.p : Int)) := hc 1 (by omega)
    have c2 : w.cell? ⟨g, off + (us.length - 1) * 4 + 2, none⟩ = some (.int .i64 (u.w : Int)) := hc 2 (by omega)
    have c3 : w.cell? ⟨g, off + (us.length - 1) * 4 + 3, none⟩ = some (.bool u.bad) := hc 3 (by omega)
    have HE : Hid (endU us = u.p + u.w) := he
    clear he hc hu hia
    have hlz : ((us.length : Int) == 0) = false := beq_eq_false_iff_ne.2 (by omega)
    have hl0 : (0 : Int) ≤ (us.length : Int) - 1 := by omega
    have hl1 : (us.length : Int) - 1 < (us.length : Int) := by omega
    go_enter Tryd.func32, Tryd.ntmps32
    go_wp2
    go_ret
    exact ⟨by rw [HE.out]; show Ending.returned (Value.int .i64 _) = _; congr 2, (Below.refl _ _).alloc (Nat.le_refl _) _⟩

set_option maxHeartbeats 1000000 in
theorem index_any (us : List U) (hlen : us.length ≤ 10000) (hbd : ∀ u ∈ us, u.p ≤ 10000 ∧ u.w ≤ 4) (hrise : Rise us) (y : Int) (v : Value) (w : World) (hv : UnitsIn w v us) :
    Calls Tryd.prog 22 #[v, .int .i64 y] w fun e w' => ∃ res, Place us y res ∧ e = .returned (.int .i64 res) ∧ Below w.heap.size w w' := by
  have hv' := hv
  obtain ⟨a, ca, rfl, hca, hia⟩ := hv'
  clear hia
  have HV : Hid (UnitsIn w (.slice a us.length ca) us) := hv
  clear hv
  go_enter Tryd.func22, Tryd.ntmps22
  go_wp2_with fail
  refine (search_any us hlen hrise y _ w HV.out).mono ?_
  rintro e w1 ⟨i, hi, hlo, hhi, rfl, hB1⟩
  have HLO : Hid (∀ k, (h : k < us.length) → k < i → (us[k].p : Int) < y) := hlo
  have HHI : Hid (∀ k, (h : k < us.length) → i ≤ k → y ≤ (us[k].p : Int)) := hhi
  clear hlo hhi
  by_cases hf : ∃ h : i < us.length, (us[i].p : Int) = y
  · rw [decide_eq_true hf]
    obtain ⟨h, e⟩ := hf
    have HE : Hid ((us[i].p : Int) = y) := e
    clear e
    go_wp2
    go_ret
    exact ⟨_, .inl ⟨i, h, HE.out, rfl⟩, rfl, hB1⟩
  · rw [decide_eq_false hf]
    have HN : Hid (∀ k, (h : k < us.length) → (us[k].p : Int) ≠ y) := fun k h e => by
      rcases Nat.lt_trichotomy k i with q | q | q
      · have := HLO.out k h q; omega
      · subst q; exact hf ⟨h, e⟩
      · have h1 := HHI.out i (by omega) (Nat.le_refl _)
        have h2 := hrise i k q h (by omega)
        omega
    clear hf
    go_wp2_with fail
    refine (end_any us hlen hbd _ w1 (HV.out.below hB1)).mono ?_
    rintro e w2 ⟨rfl, hB2⟩
    have hs1 := hB1.size
    by_cases hq : y = (endU us : Int)
    · have hq' : (y == (endU us : Int)) = true := by simp [hq]
      have HQ : Hid (y = (endU us : Int)) := hq
      clear hq
      go_wp2
      go_ret
      exact ⟨_, .inr ⟨HN.out, .inl ⟨HQ.out, rfl⟩⟩, rfl, hB1.trans (hB2.mono hs1)⟩
    · have hq' : (y == (endU us : Int)) = false := by simp [hq]
      have HQ : Hid (¬ y = (endU us : Int)) := hq
      clear hq
      go_wp2
      go_ret
      exact ⟨_, .inr ⟨HN.out, .inr ⟨HQ.out, rfl⟩⟩, rfl, hB1.trans (hB2.mono hs1)⟩

theorem endU_snoc (us : List U) (k : Nat) (h : k < us.length) : endU (us.take (k + 1)) = us[k].p + us[k].w := by
  unfold endU
  rw [List.take_succ_eq_append_getElem h, List.getLast?_concat]

set_option maxRecDepth 100000 in
set_option maxHeartbeats 2000000 in
theorem refIndex_any (us : List U) (hlen : us.length ≤ 10000) (hbd : ∀ u ∈ us, u.p ≤ 10000 ∧ u.w ≤ 4) (y : Int) (v : Value) (w : World) (hv : UnitsIn w v us) :
    Calls Tryd.prog 23 #[v, .int .i64 y] w fun e w' => ∃ res, Place us y res ∧ e = .returned (.int .i64 res) ∧ Below w.heap.size w w' := by
  obtain ⟨a, ca, rfl, hca, hia⟩ := hv
  have HA : Hid (∀ i, (h : i < us.length) → ∃ g off, a = some ⟨g, off, none⟩ ∧ g < w.heap.size ∧ ∀ j, j < 4 → w.cell? ⟨g, off + i * 4 + j, none⟩ = (cellsU us[i])[j]?) := hia
  have HBD : Hid (∀ u ∈ us, u.p ≤ 10000 ∧ u.w ≤ 4) := hbd
  clear hia hbd
  go_enter Tryd.func23, Tryd.ntmps23
  go_wp2
  go_loopw [5, 6] (fun z x wr => ∃ k : Nat, k ≤ us.length ∧ x = .int .i64 k ∧ z = .int .i64 (endU (us.take k) : Int) ∧ (∀ i, (h : i < us.length) → i < k → (us[i].p : Int) ≠ y) ∧ ∃ nd, wr = w.drewN nd) (fun _ x _ => us.length - (intOf x).toNat)
  case atStart => exact ⟨0, Nat.zero_le _, rfl, rfl, fun i h q => by omega, 0, rfl⟩
  case round =>
    obtain ⟨k, hk, rfl, rfl, hno, nd, rfl⟩ := hrel
    have HNO : Hid (∀ i, (h : i < us.length) → i < k → (us[i].p : Int) ≠ y) := hno
    clear hno
    by_cases hlt : k < us.length
    · obtain ⟨g, off, rfl, hg, hc⟩ := HA.out k hlt
      obtain ⟨u, hu⟩ : ∃ u, u = us[k] := ⟨_, rfl⟩
      rw [← hu] at hc
      have hb := HBD.out u (by rw [hu]; exact List.getElem_mem hlt)
      have c1 : w.cell? ⟨g, off + k * 4 + 1, none⟩ = some (.int .i64 (u.p : Int)) := hc 1 (by omega)
      have c2 : w.cell? ⟨g, off + k * 4 + 2, none⟩ = some (.int .i64 (u.w : Int)) := hc 2 (by omega)
      have HU : Hid (u = us[k]) := hu
      have HE : Hid (endU (us.take (k + 1)) = u.p + u.w) := by show _ = _; rw [endU_snoc us k hlt, hu]
      clear hc hu
      have hk0 : (0 : Int) ≤ (k : Int) := by omega
      have hk1 : (k : Int) < (us.length : Int) := by omega
      by_cases hq : (u.p : Int) = y
      · have hq' : ((u.p : Int) == y) = true := by simp [hq]
        have HQ : Hid ((u.p : Int) = y) := hq
        clear hq
        go_wp2
        go_ret
        exact ⟨_, .inl ⟨k, hlt, by rw [← HU.out]; exact HQ.out, rfl⟩, rfl, below_drewN' (Below.refl _ _) _⟩
      · have hq' : ((u.p : Int) == y) = false := by simp [hq]
        have HQ : Hid (¬ (u.p : Int) = y) := hq
        clear hq
        go_wp2
        go_quiet (fail)
        go_wp2
        go_roundw
        case rel => exact ⟨k + 1, by omega, by go_num, by rw [HE.out]; go_num, fun i h q => by
          by_cases e : i = k
          · subst e; rw [← HU.out]; exact HQ.out
          · exact HNO.out i h (by omega), _, rfl⟩
        case measure => simp [intOf]; omega
    · obtain rfl : k = us.length := by omega
      rw [List.take_length]
      have HN : Hid (∀ i, (h : i < us.length) → (us[i].p : Int) ≠ y) := fun i h => HNO.out i h h
      by_cases hq : y = (endU us : Int)
      · have hq' : (y == (endU us : Int)) = true := by simp [hq]
        have HQ : Hid (y = (endU us : Int)) := hq
        clear hq
        go_wp2
        go_ret
        exact ⟨_, .inr ⟨HN.out, .inl ⟨HQ.out, rfl⟩⟩, rfl, below_drewN' (Below.refl _ _) _⟩
      · have hq' : (y == (endU us : Int)) = false := by simp [hq]
        have HQ : Hid (¬ y = (endU us : Int)) := hq
        clear hq
        go_wp2
        go_ret
        exact ⟨_, .inr ⟨HN.out, .inr ⟨HQ.out, rfl⟩⟩, rfl, below_drewN' (Below.refl _ _) _⟩
end Go.Proofs.YtahgjhpcfmjjkaaDoor
