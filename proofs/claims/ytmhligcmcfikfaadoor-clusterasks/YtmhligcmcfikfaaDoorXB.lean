/-
  scansionref05.odd, pictured: the document's own way through what stands ahead. scansionref05.Break: the document's rules, case by case. scansionref05.All, At: the document's places.
-/
import Derived.Test.YtmhligcmcfikfaaDoorAw
import Derived.Test.YtmhligcmcfikfaaDoorXR
namespace Go.Proofs.YtmhligcmcfikfaaDoor
open Go.RowKit
set_option linter.unusedVariables false

set_option maxRecDepth 100000 in
set_option maxHeartbeats 8000000 in
theorem odd_any (l : List Int) (v : Value) (g i : Nat) (w : World) (hd : RShip w g) (hv : IntsAt w.heap.size w v l) (hn : l.length ≤ 10000) (hi0 : 0 < i) (hi : i ≤ l.length) :
    Calls Tryd.prog 28 #[.pointer (some ⟨g, 0, none⟩), v, .int .i64 (i : Int)] w fun e w' => e = .returned (.bool (regR (l.take i).reverse % 2 == 1)) ∧ Below w.heap.size w w' := by
  obtain ⟨a, cap, rfl, hcap, hc⟩ := hv
  have HC : Hid (∀ i, (h : i < l.length) → ∃ g off, a = some ⟨g, off, none⟩ ∧ g < w.heap.size ∧ w.cell? ⟨g, off + i, none⟩ = some (.int .i64 l[i])) := hc
  have HD : Hid (RShip w g) := hd
  obtain ⟨p, hp⟩ : ∃ p, i = p + 1 := ⟨i - 1, by omega⟩
  have HN : Hid (l.length ≤ 10000 ∧ i ≤ l.length ∧ i = p + 1) := ⟨hn, hi, hp⟩
  have hw0 : IntKind.i64.wrap ((i : Int) - 1) = (p : Int) := (IntWalk.i64_in _ (by omega)).trans (by omega)
  obtain ⟨E, hE⟩ : ∃ E, E = (regR (l.take i).reverse % 2 == 1) := ⟨_, rfl⟩
  have HE : Hid (E = (regR (l.take i).reverse % 2 == 1)) := hE
  rw [← hE]
  clear hE hd hc hn hi hi0 hp
  go_enter Tryd.func28, Tryd.ntmps28
  go_wp2
  go_loopw [7] (fun x wr => ∃ c : Nat, c ≤ i ∧ x = .int .i64 (c : Int) ∧ Hid (regR (l.take i).reverse = c + regR (l.take (i - c)).reverse) ∧ Below w.heap.size w wr) (fun x _ => i - (intOf x).toNat)
  case atStart => exact ⟨0, Nat.zero_le _, rfl, by show _ = _; rw [Nat.zero_add, Nat.sub_zero], Below.refl _ _⟩
  case round =>
    obtain ⟨c, hc, rfl, HI, hB⟩ := hrel
    have HB : Hid (Below w.heap.size w wr) := hB
    have ht := tmod_two c
    clear hB
    by_cases hci : c = i
    · have HEC : Hid (E = (c % 2 == 1)) := by
        have := HI.out
        rw [hci, Nat.sub_self, List.take_zero] at this
        show E = _
        rw [HE.out, this, hci]
        simp [regR]
      have hw1 : IntKind.i64.wrap ((p : Int) - (c : Int)) = -1 := (IntWalk.i64_in _ (by have := HN.out; omega)).trans (by have := HN.out; omega)
      clear HI hci hc
      rcases Nat.mod_two_eq_zero_or_one c with q | q
      · rw [q] at ht HEC
        go_wp2
        go_ret
        exact ⟨by rw [HEC.out]; rfl, HB.out⟩
      · rw [q] at ht HEC
        go_wp2
        go_ret
        exact ⟨by rw [HEC.out]; rfl, HB.out⟩
    · obtain ⟨m, hm⟩ : ∃ m, i - c = m + 1 := ⟨i - c - 1, by omega⟩
      have hml : m < l.length := by have := HN.out; omega
      have hw1 : IntKind.i64.wrap ((p : Int) - (c : Int)) = (m : Int) := (IntWalk.i64_in _ (by have := HN.out; omega)).trans (by have := HN.out; omega)
      have hw2 : IntKind.i64.wrap ((c : Int) + 1) = ((c + 1 : Nat) : Int) := (IntWalk.i64_in _ (by have := HN.out; omega)).trans (by omega)
      obtain ⟨gi, off, rfl, hg, c0⟩ := HC.out m hml
      have d0 : wr.cell? ⟨gi, off + m, none⟩ = some (.int .i64 l[m]) := (HB.out.cell (p := ⟨gi, _, none⟩) hg).trans c0
      obtain ⟨r, hr⟩ : ∃ r, r = l[m] := ⟨_, rfl⟩
      have HRM : Hid (r = l[m]) := hr
      rw [← hr] at d0
      have HM : Hid (i - c = m + 1) := hm
      have hm1 : (m : Int) < (l.length : Int) := by omega
      have hlt : c < i := by omega
      clear c0 hr hm hci
      go_wp2_with fail
      refine (rship_cluster wr g r (HD.out.below HB.out)).mono ?_
      rintro e w1 ⟨rfl, hB1⟩
      have HB1 : Hid (Below w.heap.size w w1) := HB.out.trans (hB1.mono HB.out.size)
      clear hB1
      obtain ⟨q, hq⟩ : ∃ q, q = clV r := ⟨_, rfl⟩
      have HQ : Hid (q = clV l[m]) := by rw [← HRM.out]; exact hq
      rw [← hq]
      clear hq
      by_cases q6 : q = 6
      · subst q6
        go_wp2
        go_roundw
        case rel =>
          refine ⟨c + 1, by omega, by first | rfl | go_num, ?_, HB1.out⟩
          show _ = _
          have h1 := HI.out
          rw [HM.out, reg_step hml HQ.out.symm] at h1
          have e : i - (c + 1) = m := by have := HM.out; omega
          rw [e, h1]; omega
        case measure => have := HN.out.1; simp [intOf]; omega
      · have q7 : (q == 6) = false := by simpa using q6
        have HEC : Hid (E = (c % 2 == 1)) := by
          have := HI.out
          rw [HM.out, reg_stop' hml (by rw [← HQ.out]; exact q6)] at this
          show E = _
          rw [HE.out, this]
          rfl
        clear q6 HI
        rcases Nat.mod_two_eq_zero_or_one c with q | q
        · rw [q] at ht HEC
          go_wp2
          go_ret
          exact ⟨by rw [HEC.out]; rfl, HB1.out⟩
        · rw [q] at ht HEC
          go_wp2
          go_ret
          exact ⟨by rw [HEC.out]; rfl, HB1.out⟩

set_option maxRecDepth 100000 in
set_option maxHeartbeats 8000000 in
theorem pictured_any (l : List Int) (v : Value) (g m : Nat) (w : World) (hd : RShip w g) (hv : IntsAt w.heap.size w v l) (hn : l.length ≤ 10000) (hi : m < l.length) :
    Calls Tryd.prog 29 #[.pointer (some ⟨g, 0, none⟩), v, .int .i64 ((m + 1 : Nat) : Int)] w fun e w' => e = .returned (.bool (decide (clV l[m] = 5) && picR (l.take m).reverse)) ∧ Below w.heap.size w w' := by
  obtain ⟨a, cap, rfl, hcap, hc⟩ := hv
  have HC : Hid (∀ i, (h : i < l.length) → ∃ g off, a = some ⟨g, off, none⟩ ∧ g < w.heap.size ∧ w.cell? ⟨g, off + i, none⟩ = some (.int .i64 l[i])) := hc
  have HD : Hid (RShip w g) := hd
  obtain ⟨R, hR⟩ : ∃ R : Bool, R = (decide (clV l[m] = 5) && picR (l.take m).reverse) := ⟨_, rfl⟩
  have HR : Hid (R = (decide (clV l[m] = 5) && picR (l.take m).reverse)) := hR
  rw [← hR]
  clear hd hR
  obtain ⟨i, hi'⟩ : ∃ i, i = m + 1 := ⟨_, rfl⟩
  rw [← hi']
  have HN : Hid (l.length ≤ 10000 ∧ i = m + 1 ∧ m < l.length) := ⟨hn, hi', hi⟩
  by_cases m0 : m = 0
  · have e : R = false := by rw [HR.out]; subst m0; simp [picR]
    subst e
    have hi2 : (i : Int) < 2 := by omega
    clear hc hn
    go_enter Tryd.func29, Tryd.ntmps29
    go_wp2
    go_ret
    exact ⟨rfl, Below.refl _ _⟩
  have hi2 : decide ((i : Int) < 2) = false := by simp; omega
  have hw1 : IntKind.i64.wrap ((i : Int) - 1) = (m : Int) := (IntWalk.i64_in _ (by omega)).trans (by omega)
  have hw2 : IntKind.i64.wrap ((i : Int) - 2) = (m : Int) - 1 := (IntWalk.i64_in _ (by omega)).trans (by omega)
  obtain ⟨gi, off, rfl, hg, c0⟩ := hc m hi
  obtain ⟨r, hr⟩ : ∃ r, r = l[m] := ⟨_, rfl⟩
  rw [← hr] at c0 HR
  have hm1 : (m : Int) < (l.length : Int) := by omega
  clear hr hc hn hi'
  go_enter Tryd.func29, Tryd.ntmps29
  go_wp2_with fail
  refine (rship_cluster w g r HD.out).mono ?_
  rintro e w0 ⟨rfl, hB0⟩
  have HB0 : Hid (Below w.heap.size w w0) := hB0
  obtain ⟨q, hq⟩ : ∃ q, q = clV r := ⟨_, rfl⟩
  rw [← hq] at HR
  rw [← hq]
  clear hB0 hq
  by_cases q5 : q = 5
  · subst q5
    have HR2 : Hid (R = picR (l.take m).reverse) := by
      show R = _
      rw [HR.out]; simp
    clear HR c0
    go_wp2
    go_loopw [7] (fun x wr => ∃ k : Nat, k ≤ m ∧ x = .int .i64 ((k : Int) - 1) ∧ Hid (R = picR (l.take k).reverse) ∧ Below w.heap.size w wr) (fun x _ => (intOf x + 1).toNat)
    case atStart => exact ⟨m, Nat.le_refl _, rfl, HR2, HB0.out⟩
    case round =>
      obtain ⟨k, hk, rfl, HI, hB⟩ := hrel
      have HB : Hid (Below w.heap.size w wr) := hB
      clear hB
      cases k with
      | zero =>
        have e : R = false := by have := HI.out; rw [List.take_zero] at this; simpa [picR] using this
        subst e
        go_wp2
        go_ret
        exact ⟨rfl, HB.out⟩
      | succ j =>
        have hx : ((j + 1 : Nat) : Int) - 1 = (j : Int) := by omega
        rw [hx]
        have hjl : j < l.length := by omega
        obtain ⟨gj, offj, ej, hgj, c1⟩ := HC.out j hjl
        obtain ⟨rfl, rfl⟩ : gi = gj ∧ off = offj := by cases ej; exact ⟨rfl, rfl⟩
        obtain ⟨s, hs⟩ : ∃ s, s = l[j] := ⟨_, rfl⟩
        rw [← hs] at c1
        have HL : Hid (∀ w', Below w.heap.size w w' → w'.cell? ⟨gi, off + j, none⟩ = some (.int .i64 s)) := fun w' hw' => (hw'.cell (p := ⟨gi, _, none⟩) hg).trans c1
        have d0 := HL.out wr HB.out
        have HP : Hid (R = if piV s = true then true else if clV s = 4 then picR (l.take j).reverse else false) := by
          have := HI.out
          rw [pic_step hjl] at this
          rw [hs]
          exact this
        clear c1 hs hx HI ej
        have hj1 : (j : Int) < (l.length : Int) := by omega
        have hw3 : IntKind.i64.wrap ((j : Int) - 1) = (j : Int) - 1 := IntWalk.i64_in _ (by have := HN.out; omega)
        go_wp2_with fail
        refine (rship_picto wr g s (HD.out.below HB.out)).mono ?_
        rintro e w1 ⟨rfl, hB1⟩
        have HB1 : Hid (Below w.heap.size w w1) := HB.out.trans (hB1.mono HB.out.size)
        clear hB1 d0
        obtain ⟨q, hq⟩ : ∃ q, q = piV s := ⟨_, rfl⟩
        rw [← hq]
        rw [← hq] at HP
        clear hq
        cases q with
        | true =>
          obtain rfl : R = true := by have := HP.out; simpa using this
          go_wp2
          go_ret
          exact ⟨rfl, HB1.out⟩
        | false =>
          have d1 := HL.out w1 HB1.out
          go_wp2_with fail
          refine (rship_cluster w1 g s (HD.out.below HB1.out)).mono ?_
          rintro e w2 ⟨rfl, hB2⟩
          have HB2 : Hid (Below w.heap.size w w2) := HB1.out.trans (hB2.mono HB1.out.size)
          clear hB2 d1
          obtain ⟨q, hq⟩ : ∃ q, q = clV s := ⟨_, rfl⟩
          rw [← hq]
          rw [← hq] at HP
          clear hq
          by_cases q4 : q = 4
          · subst q4
            have HP2 : Hid (R = picR (l.take j).reverse) := by
              have := HP.out
              show R = _
              simpa using this
            clear HP
            go_wp2
            go_roundw
            case rel => exact ⟨j, by omega, rfl, HP2, HB2.out⟩
            case measure => exact meas_down j
          · have q6 : (q == 4) = false := by simpa using q4
            have q7 : (q != 4) = true := by simpa using q4
            obtain rfl : R = false := by have := HP.out; simpa [q4] using this
            clear q4 HP
            go_wp2
            go_ret
            exact ⟨rfl, HB2.out⟩
  · have q6 : (q == 5) = false := by simpa using q5
    have q7 : (q != 5) = true := by simpa using q5
    obtain rfl : R = false := by rw [HR.out]; simp [q5]
    clear q5 HR c0
    go_wp2
    go_ret
    exact ⟨rfl, HB0.out⟩
end Go.Proofs.YtmhligcmcfikfaaDoor

namespace Go.Proofs.YtmhligcmcfikfaaDoor
open Go.RowKit
set_option linter.unusedVariables false

theorem cl_range (r : Int) : clV r = 0 ∨ clV r = 1 ∨ clV r = 2 ∨ clV r = 3 ∨ (4 ≤ clV r ∧ clV r ≤ 13) := by
  have h := cl_small r
  unfold clV
  split
  · split <;> omega
  · omega

theorem aloneK_iff {k : Int} : aloneK k = true ↔ 1 ≤ k ∧ k ≤ 3 := by
  simp only [aloneK, Bool.or_eq_true, beq_iff_eq]; omega
theorem rule_no12 {a b : Int} {pb pc : Bool} {n : Nat} (h1 : a = 1) (h2 : b = 2) : ruleK a b pb pc n = false := by
  unfold ruleK; rw [if_pos ⟨h1, h2⟩]
theorem rule_alone {a b : Int} {pb pc : Bool} {n : Nat} (h1 : ¬ (a = 1 ∧ b = 2)) (h2 : (1 ≤ a ∧ a ≤ 3) ∨ (1 ≤ b ∧ b ≤ 3)) : ruleK a b pb pc n = true := by
  unfold ruleK; rw [if_neg h1, if_pos (by rw [aloneK_iff, aloneK_iff]; exact h2)]
theorem syl_iff {a b : Int} : (sylK a b = true ∨ markK b = true ∨ a = 7) ↔ (a = 9 ∧ (b = 9 ∨ b = 10 ∨ b = 12 ∨ b = 13) ∨ (a = 10 ∨ a = 12) ∧ (b = 10 ∨ b = 11) ∨ (a = 11 ∨ a = 13) ∧ b = 11 ∨ b = 4 ∨ b = 5 ∨ b = 8 ∨ a = 7) := by
  simp only [sylK, markK, Bool.or_eq_true, Bool.and_eq_true, beq_iff_eq]; omega
theorem rule_syl {a b : Int} {pb pc : Bool} {n : Nat} (h1 : ¬ (1 ≤ a ∧ a ≤ 3)) (h2 : ¬ (1 ≤ b ∧ b ≤ 3)) (h3 : a = 9 ∧ (b = 9 ∨ b = 10 ∨ b = 12 ∨ b = 13) ∨ (a = 10 ∨ a = 12) ∧ (b = 10 ∨ b = 11) ∨ (a = 11 ∨ a = 13) ∧ b = 11 ∨ b = 4 ∨ b = 5 ∨ b = 8 ∨ a = 7) : ruleK a b pb pc n = false := by
  unfold ruleK; rw [if_neg (by omega), if_neg (by rw [aloneK_iff, aloneK_iff]; omega), if_pos (syl_iff.2 h3)]
theorem rule_pic {a b : Int} {pb pc : Bool} {n : Nat} (h1 : a = 5) (h2 : ¬ (1 ≤ b ∧ b ≤ 3)) (h3 : ¬ (b = 4 ∨ b = 5 ∨ b = 8)) (h4 : pb = true) : ruleK a b pb pc n = !pc := by
  unfold ruleK; rw [if_neg (by omega), if_neg (by rw [aloneK_iff, aloneK_iff]; omega), if_neg (by rw [syl_iff]; omega), if_pos ⟨h1, h4⟩]
theorem rule_else {a b : Int} {pb pc : Bool} {n : Nat} (h1 : ¬ (1 ≤ a ∧ a ≤ 3)) (h2 : ¬ (1 ≤ b ∧ b ≤ 3)) (h3 : ¬ (a = 9 ∧ (b = 9 ∨ b = 10 ∨ b = 12 ∨ b = 13) ∨ (a = 10 ∨ a = 12) ∧ (b = 10 ∨ b = 11) ∨ (a = 11 ∨ a = 13) ∧ b = 11 ∨ b = 4 ∨ b = 5 ∨ b = 8 ∨ a = 7)) (h4 : a = 5 → pb = false) (h5 : ¬ (a = 6 ∧ b = 6)) : ruleK a b pb pc n = true := by
  unfold ruleK; rw [if_neg (by omega), if_neg (by rw [aloneK_iff, aloneK_iff]; omega), if_neg (by rw [syl_iff]; exact h3), if_neg (fun h => by rw [h4 h.1] at h; exact absurd h.2 (by simp)), if_neg h5]

set_option maxRecDepth 100000 in
set_option maxHeartbeats 16000000 in
theorem rbreak_any (l : List Int) (v : Value) (g i : Nat) (w : World) (hd : RShip w g) (hv : IntsAt w.heap.size w v l) (hn : l.length ≤ 10000) (hi : i ≤ l.length) :
    Calls Tryd.prog 18 #[.pointer (some ⟨g, 0, none⟩), v, .int .i64 (i : Int)] w fun e w' => e = .returned (.bool (brk l i)) ∧ Below w.heap.size w w' := by
  by_cases i0 : i = 0
  · subst i0
    obtain ⟨a, cap, rfl, hcap, hc⟩ := hv
    rw [brk_zero]
    clear hc hd hn
    have h0 : decide ((l.length : Int) < 0) = false := decide_eq_false (by omega)
    go_enter Tryd.func18, Tryd.ntmps18
    go_wp2
    go_ret
    exact ⟨rfl, Below.refl _ _⟩
  by_cases il : i = l.length
  · subst il
    obtain ⟨a, cap, rfl, hcap, hc⟩ := hv
    rw [brk_end l (Nat.le_refl _)]
    have e0 : ((l.length : Int) == 0) = false := by rw [beq_eq_false_iff_ne]; omega
    have h0 : decide ((l.length : Int) < (l.length : Int)) = false := by simp
    have h1 : decide ((l.length : Int) < 0) = false := decide_eq_false (by omega)
    clear hc hd hn i0
    go_enter Tryd.func18, Tryd.ntmps18
    go_wp2
    go_ret
    exact ⟨rfl, Below.refl _ _⟩
  obtain ⟨m, rfl⟩ : ∃ m, i = m + 1 := ⟨i - 1, by omega⟩
  have HV : Hid (IntsAt w.heap.size w v l) := hv
  obtain ⟨av, cap, rfl, hcap, hc⟩ := hv
  obtain ⟨gi, off, rfl, hg, c0⟩ := hc m (by omega)
  obtain ⟨gj, offj, ej, _, c1⟩ := hc (m + 1) (by omega)
  obtain ⟨rfl, rfl⟩ : gi = gj ∧ off = offj := by cases ej; exact ⟨rfl, rfl⟩
  obtain ⟨x, hx⟩ : ∃ x, x = l[m]'(by omega) := ⟨_, rfl⟩
  obtain ⟨y, hy⟩ : ∃ y, y = l[m + 1]'(by omega) := ⟨_, rfl⟩
  obtain ⟨E, hE⟩ : ∃ E, E = brk l (m + 1) := ⟨_, rfl⟩
  obtain ⟨pc, hpc⟩ : ∃ pc, pc = picR (l.take m).reverse := ⟨_, rfl⟩
  obtain ⟨N, hN⟩ : ∃ N, N = regR (l.take (m + 1)).reverse := ⟨_, rfl⟩
  have HE : Hid (E = ruleK (clV x) (clV y) (piV y) pc N) := by
    show E = _
    rw [hE, brk_mid (by omega), hx, hy, hpc, hN]
  have HOD : Hid (∀ w', Below w.heap.size w w' → Calls Tryd.prog 28 #[.pointer (some ⟨g, 0, none⟩), .slice (some ⟨gi, off, none⟩) l.length cap, .int .i64 ((m + 1 : Nat) : Int)] w' fun e w'' => e = .returned (.bool (N % 2 == 1)) ∧ Below w'.heap.size w' w'') := fun w' hw' => by
    rw [hN]
    exact odd_any l _ g (m + 1) w' (hd.below hw') (HV.out.on hw') hn (by omega) (by omega)
  have HPI : Hid (∀ w', Below w.heap.size w w' → Calls Tryd.prog 29 #[.pointer (some ⟨g, 0, none⟩), .slice (some ⟨gi, off, none⟩) l.length cap, .int .i64 ((m + 1 : Nat) : Int)] w' fun e w'' => e = .returned (.bool (decide (clV x = 5) && pc)) ∧ Below w'.heap.size w' w'') := fun w' hw' => by
    rw [hpc, hx]
    exact pictured_any l _ g m w' (hd.below hw') (HV.out.on hw') hn (by omega)
  rw [← hx] at c0
  rw [← hy] at c1
  rw [← hE]
  clear hE hx hy hc ej hpc hN
  obtain ⟨i, hi'⟩ : ∃ i, i = m + 1 := ⟨_, rfl⟩
  rw [← hi'] at c1 HOD HPI i0 il ⊢
  have HX : Hid (∀ w', Below w.heap.size w w' → w'.cell? ⟨gi, off + m, none⟩ = some (.int .i64 x)) := fun w' hw' => (hw'.cell (p := ⟨gi, _, none⟩) hg).trans c0
  have HY : Hid (∀ w', Below w.heap.size w w' → w'.cell? ⟨gi, off + i, none⟩ = some (.int .i64 y)) := fun w' hw' => (hw'.cell (p := ⟨gi, _, none⟩) hg).trans c1
  have HD : Hid (RShip w g) := hd
  have HF : Hid (i = m + 1 ∧ i < l.length ∧ l.length ≤ 10000) := ⟨hi', by omega, hn⟩
  have e0 : ((i : Int) == 0) = false := by simp; omega
  have e1 : ((i : Int) == (l.length : Int)) = false := by simp; omega
  have e2 : decide ((i : Int) < 0) = false := decide_eq_false (by omega)
  have e3 : decide ((l.length : Int) < (i : Int)) = false := decide_eq_false (by omega)
  have hw1 : IntKind.i64.wrap ((i : Int) - 1) = (m : Int) := (IntWalk.i64_in _ (by omega)).trans (by omega)
  have hm1 : (m : Int) < (l.length : Int) := by omega
  have hi1 : (i : Int) < (l.length : Int) := by omega
  have hx0 := HX.out w (Below.refl _ _)
  clear c0 c1 hd hn hi hi' i0 il hg
  go_enter Tryd.func18, Tryd.ntmps18
  go_wp2_with fail
  refine (rship_cluster w g x HD.out).mono ?_
  rintro e w1 ⟨rfl, hB1⟩
  have HB1 : Hid (Below w.heap.size w w1) := hB1
  have hy1 := HY.out w1 hB1
  clear hB1 hx0
  go_wp2_with fail
  refine (rship_cluster w1 g y (HD.out.below HB1.out)).mono ?_
  rintro e w2 ⟨rfl, hB2⟩
  have HB2 : Hid (Below w.heap.size w w2) := HB1.out.trans (hB2.mono HB1.out.size)
  clear hB2 hy1
  go_wp2_with fail
  refine (HOD.out w2 HB2.out).mono ?_
  rintro e w3 ⟨rfl, hB3⟩
  have HB3 : Hid (Below w.heap.size w w3) := HB2.out.trans (hB3.mono HB2.out.size)
  clear hB3
  go_wp2_with fail
  refine (HPI.out w3 HB3.out).mono ?_
  rintro e w4 ⟨rfl, hB4⟩
  have HB : Hid (Below w.heap.size w w4) := HB3.out.trans (hB4.mono HB3.out.size)
  clear hB4 HOD HPI HB1 HB2 HB3
  have hra := cl_range x
  have hrb := cl_range y
  obtain ⟨a, ha⟩ : ∃ a, a = clV x := ⟨_, rfl⟩
  obtain ⟨b, hb⟩ : ∃ b, b = clV y := ⟨_, rfl⟩
  obtain ⟨pb, hpb⟩ : ∃ pb, pb = piV y := ⟨_, rfl⟩
  have HPB : Hid (pb = piV y) := hpb
  rw [← ha, ← hb, ← hpb] at HE
  rw [← ha] at hra
  rw [← hb] at hrb
  rw [← ha, ← hb]
  clear ha hb hpb
  obtain ⟨fl, hfl⟩ : ∃ fl, fl = (N % 2 == 1) := ⟨_, rfl⟩
  have HFL : Hid (fl = (N % 2 == 1)) := hfl
  obtain ⟨pr, hpr⟩ : ∃ pr, pr = (decide (a = 5) && pc) := ⟨_, rfl⟩
  have HPR : Hid (pr = (decide (a = 5) && pc)) := hpr
  rw [← hfl, ← hpr]
  clear hfl hpr
  have hb : b = 1 ∨ b = 2 ∨ b = 3 ∨ (b = 0 ∨ (4 ≤ b ∧ b ≤ 13)) := by omega
  clear hrb
  rcases hra with ha | ha | ha | ha | ⟨ha4, ha13⟩
  · subst ha
    obtain rfl : pr = false := by
      rw [HPR.out]; simp
    rcases hb with rfl | rfl | rfl | hb
    · skip
      obtain rfl : E = true := by
        rw [HE.out]; exact rule_alone (by omega) (by omega)
      go_wp2
      go_ret
      exact ⟨rfl, HB.out⟩
    · skip
      obtain rfl : E = true := by
        rw [HE.out]; exact rule_alone (by omega) (by omega)
      go_wp2
      go_ret
      exact ⟨rfl, HB.out⟩
    · skip
      obtain rfl : E = true := by
        rw [HE.out]; exact rule_alone (by omega) (by omega)
      go_wp2
      go_ret
      exact ⟨rfl, HB.out⟩
    · skip
      rcases hb with rfl | ⟨hb4, hb13⟩
      · skip
        obtain rfl : E = true := by
          rw [HE.out]; exact rule_else (by omega) (by omega) (by omega) (fun h => absurd h (by omega)) (by omega)
        go_wp2
        go_ret
        exact ⟨rfl, HB.out⟩
      · have fb1 : (1 : Int) ≤ b := by omega
        have fb3 : decide (b ≤ 3) = false := by simp; omega
        have eb1 : (b == 1) = false := by simp; omega
        have eb2 : (b == 2) = false := by simp; omega
        have eb3 : (b == 3) = false := by simp; omega
        by_cases q4 : b = 4
        · subst q4
          clear fb1 fb3 eb1 eb2 eb3 hb4 hb13
          obtain rfl : E = false := by
            rw [HE.out]; exact rule_syl (by omega) (by omega) (by omega)
          go_wp2
          go_ret
          exact ⟨rfl, HB.out⟩
        by_cases q5 : b = 5
        · subst q5
          clear fb1 fb3 eb1 eb2 eb3 hb4 hb13 q4
          obtain rfl : E = false := by
            rw [HE.out]; exact rule_syl (by omega) (by omega) (by omega)
          go_wp2
          go_ret
          exact ⟨rfl, HB.out⟩
        by_cases q8 : b = 8
        · subst q8
          clear fb1 fb3 eb1 eb2 eb3 hb4 hb13 q4 q5
          obtain rfl : E = false := by
            rw [HE.out]; exact rule_syl (by omega) (by omega) (by omega)
          go_wp2
          go_ret
          exact ⟨rfl, HB.out⟩
        have eb4 : (b == 4) = false := by simpa using q4
        have eb5 : (b == 5) = false := by simpa using q5
        have eb8 : (b == 8) = false := by simpa using q8
        clear hb4 hb13 q4 q5 q8
        obtain rfl : E = true := by
          have gb : ¬ b ≤ 3 := by simpa using fb3
          have hb4 : ¬ b = 4 := by simpa using eb4
          have hb5 : ¬ b = 5 := by simpa using eb5
          have hb8 : ¬ b = 8 := by simpa using eb8
          rw [HE.out]; exact rule_else (by omega) (by omega) (by omega) (fun h => absurd h (by omega)) (by omega)
        go_wp2
        go_ret
        exact ⟨rfl, HB.out⟩
  · subst ha
    obtain rfl : pr = false := by
      rw [HPR.out]; simp
    by_cases b2 : b = 2
    · subst b2
      clear hb
      obtain rfl : E = false := by
        rw [HE.out]; exact rule_no12 rfl rfl
      go_wp2
      go_ret
      exact ⟨rfl, HB.out⟩
    · have eb2 : (b == 2) = false := by simpa using b2
      clear hb b2
      have hb2 : ¬ b = 2 := by simpa using eb2
      obtain rfl : E = true := by
        rw [HE.out]; exact rule_alone (by omega) (by omega)
      go_wp2
      go_ret
      exact ⟨rfl, HB.out⟩
  · subst ha
    obtain rfl : pr = false := by
      rw [HPR.out]; simp
    clear hb
    obtain rfl : E = true := by
      rw [HE.out]; exact rule_alone (by omega) (by omega)
    go_wp2
    go_ret
    exact ⟨rfl, HB.out⟩
  · subst ha
    obtain rfl : pr = false := by
      rw [HPR.out]; simp
    clear hb
    obtain rfl : E = true := by
      rw [HE.out]; exact rule_alone (by omega) (by omega)
    go_wp2
    go_ret
    exact ⟨rfl, HB.out⟩
  · have fa1 : (1 : Int) ≤ a := by omega
    have fa3 : decide (a ≤ 3) = false := by simp; omega
    have ea1 : (a == 1) = false := by simp; omega
    have ea2 : (a == 2) = false := by simp; omega
    have ea3 : (a == 3) = false := by simp; omega
    rcases hb with rfl | rfl | rfl | hb
    · clear ha4 ha13
      obtain rfl : E = true := by
        have ga : ¬ a ≤ 3 := by simpa using fa3
        rw [HE.out]; exact rule_alone (by omega) (by omega)
      go_wp2
      go_ret
      exact ⟨rfl, HB.out⟩
    · clear ha4 ha13
      obtain rfl : E = true := by
        have ga : ¬ a ≤ 3 := by simpa using fa3
        rw [HE.out]; exact rule_alone (by omega) (by omega)
      go_wp2
      go_ret
      exact ⟨rfl, HB.out⟩
    · clear ha4 ha13
      obtain rfl : E = true := by
        have ga : ¬ a ≤ 3 := by simpa using fa3
        rw [HE.out]; exact rule_alone (by omega) (by omega)
      go_wp2
      go_ret
      exact ⟨rfl, HB.out⟩
    · skip
      by_cases q9a : a = 9
      · subst q9a
        clear fa1 fa3 ea1 ea2 ea3 ha4 ha13
        obtain rfl : pr = false := by
          rw [HPR.out]; simp
        rcases hb with rfl | ⟨hb4, hb13⟩
        · skip
          obtain rfl : E = true := by
            rw [HE.out]; exact rule_else (by omega) (by omega) (by omega) (fun h => absurd h (by omega)) (by omega)
          go_wp2
          go_ret
          exact ⟨rfl, HB.out⟩
        · have fb1 : (1 : Int) ≤ b := by omega
          have fb3 : decide (b ≤ 3) = false := by simp; omega
          have eb1 : (b == 1) = false := by simp; omega
          have eb2 : (b == 2) = false := by simp; omega
          have eb3 : (b == 3) = false := by simp; omega
          by_cases q9 : b = 9
          · subst q9
            clear fb1 fb3 eb1 eb2 eb3 hb4 hb13
            obtain rfl : E = false := by
              rw [HE.out]; exact rule_syl (by omega) (by omega) (by omega)
            go_wp2
            go_ret
            exact ⟨rfl, HB.out⟩
          by_cases q10 : b = 10
          · subst q10
            clear fb1 fb3 eb1 eb2 eb3 hb4 hb13 q9
            obtain rfl : E = false := by
              rw [HE.out]; exact rule_syl (by omega) (by omega) (by omega)
            go_wp2
            go_ret
            exact ⟨rfl, HB.out⟩
          by_cases q12 : b = 12
          · subst q12
            clear fb1 fb3 eb1 eb2 eb3 hb4 hb13 q9 q10
            obtain rfl : E = false := by
              rw [HE.out]; exact rule_syl (by omega) (by omega) (by omega)
            go_wp2
            go_ret
            exact ⟨rfl, HB.out⟩
          by_cases q13 : b = 13
          · subst q13
            clear fb1 fb3 eb1 eb2 eb3 hb4 hb13 q9 q10 q12
            obtain rfl : E = false := by
              rw [HE.out]; exact rule_syl (by omega) (by omega) (by omega)
            go_wp2
            go_ret
            exact ⟨rfl, HB.out⟩
          by_cases q4 : b = 4
          · subst q4
            clear fb1 fb3 eb1 eb2 eb3 hb4 hb13 q9 q10 q12 q13
            obtain rfl : E = false := by
              rw [HE.out]; exact rule_syl (by omega) (by omega) (by omega)
            go_wp2
            go_ret
            exact ⟨rfl, HB.out⟩
          by_cases q5 : b = 5
          · subst q5
            clear fb1 fb3 eb1 eb2 eb3 hb4 hb13 q9 q10 q12 q13 q4
            obtain rfl : E = false := by
              rw [HE.out]; exact rule_syl (by omega) (by omega) (by omega)
            go_wp2
            go_ret
            exact ⟨rfl, HB.out⟩
          by_cases q8 : b = 8
          · subst q8
            clear fb1 fb3 eb1 eb2 eb3 hb4 hb13 q9 q10 q12 q13 q4 q5
            obtain rfl : E = false := by
              rw [HE.out]; exact rule_syl (by omega) (by omega) (by omega)
            go_wp2
            go_ret
            exact ⟨rfl, HB.out⟩
          have eb9 : (b == 9) = false := by simpa using q9
          have eb10 : (b == 10) = false := by simpa using q10
          have eb12 : (b == 12) = false := by simpa using q12
          have eb13 : (b == 13) = false := by simpa using q13
          have eb4 : (b == 4) = false := by simpa using q4
          have eb5 : (b == 5) = false := by simpa using q5
          have eb8 : (b == 8) = false := by simpa using q8
          clear hb4 hb13 q9 q10 q12 q13 q4 q5 q8
          obtain rfl : E = true := by
            have gb : ¬ b ≤ 3 := by simpa using fb3
            have hb9 : ¬ b = 9 := by simpa using eb9
            have hb10 : ¬ b = 10 := by simpa using eb10
            have hb12 : ¬ b = 12 := by simpa using eb12
            have hb13 : ¬ b = 13 := by simpa using eb13
            have hb4 : ¬ b = 4 := by simpa using eb4
            have hb5 : ¬ b = 5 := by simpa using eb5
            have hb8 : ¬ b = 8 := by simpa using eb8
            rw [HE.out]; exact rule_else (by omega) (by omega) (by omega) (fun h => absurd h (by omega)) (by omega)
          go_wp2
          go_ret
          exact ⟨rfl, HB.out⟩
      by_cases q12a : a = 12
      · subst q12a
        clear fa1 fa3 ea1 ea2 ea3 ha4 ha13 q9a
        obtain rfl : pr = false := by
          rw [HPR.out]; simp
        rcases hb with rfl | ⟨hb4, hb13⟩
        · skip
          obtain rfl : E = true := by
            rw [HE.out]; exact rule_else (by omega) (by omega) (by omega) (fun h => absurd h (by omega)) (by omega)
          go_wp2
          go_ret
          exact ⟨rfl, HB.out⟩
        · have fb1 : (1 : Int) ≤ b := by omega
          have fb3 : decide (b ≤ 3) = false := by simp; omega
          have eb1 : (b == 1) = false := by simp; omega
          have eb2 : (b == 2) = false := by simp; omega
          have eb3 : (b == 3) = false := by simp; omega
          by_cases q10 : b = 10
          · subst q10
            clear fb1 fb3 eb1 eb2 eb3 hb4 hb13
            obtain rfl : E = false := by
              rw [HE.out]; exact rule_syl (by omega) (by omega) (by omega)
            go_wp2
            go_ret
            exact ⟨rfl, HB.out⟩
          by_cases q11 : b = 11
          · subst q11
            clear fb1 fb3 eb1 eb2 eb3 hb4 hb13 q10
            obtain rfl : E = false := by
              rw [HE.out]; exact rule_syl (by omega) (by omega) (by omega)
            go_wp2
            go_ret
            exact ⟨rfl, HB.out⟩
          by_cases q4 : b = 4
          · subst q4
            clear fb1 fb3 eb1 eb2 eb3 hb4 hb13 q10 q11
            obtain rfl : E = false := by
              rw [HE.out]; exact rule_syl (by omega) (by omega) (by omega)
            go_wp2
            go_ret
            exact ⟨rfl, HB.out⟩
          by_cases q5 : b = 5
          · subst q5
            clear fb1 fb3 eb1 eb2 eb3 hb4 hb13 q10 q11 q4
            obtain rfl : E = false := by
              rw [HE.out]; exact rule_syl (by omega) (by omega) (by omega)
            go_wp2
            go_ret
            exact ⟨rfl, HB.out⟩
          by_cases q8 : b = 8
          · subst q8
            clear fb1 fb3 eb1 eb2 eb3 hb4 hb13 q10 q11 q4 q5
            obtain rfl : E = false := by
              rw [HE.out]; exact rule_syl (by omega) (by omega) (by omega)
            go_wp2
            go_ret
            exact ⟨rfl, HB.out⟩
          have eb10 : (b == 10) = false := by simpa using q10
          have eb11 : (b == 11) = false := by simpa using q11
          have eb4 : (b == 4) = false := by simpa using q4
          have eb5 : (b == 5) = false := by simpa using q5
          have eb8 : (b == 8) = false := by simpa using q8
          clear hb4 hb13 q10 q11 q4 q5 q8
          obtain rfl : E = true := by
            have gb : ¬ b ≤ 3 := by simpa using fb3
            have hb10 : ¬ b = 10 := by simpa using eb10
            have hb11 : ¬ b = 11 := by simpa using eb11
            have hb4 : ¬ b = 4 := by simpa using eb4
            have hb5 : ¬ b = 5 := by simpa using eb5
            have hb8 : ¬ b = 8 := by simpa using eb8
            rw [HE.out]; exact rule_else (by omega) (by omega) (by omega) (fun h => absurd h (by omega)) (by omega)
          go_wp2
          go_ret
          exact ⟨rfl, HB.out⟩
      by_cases q10a : a = 10
      · subst q10a
        clear fa1 fa3 ea1 ea2 ea3 ha4 ha13 q9a q12a
        obtain rfl : pr = false := by
          rw [HPR.out]; simp
        rcases hb with rfl | ⟨hb4, hb13⟩
        · skip
          obtain rfl : E = true := by
            rw [HE.out]; exact rule_else (by omega) (by omega) (by omega) (fun h => absurd h (by omega)) (by omega)
          go_wp2
          go_ret
          exact ⟨rfl, HB.out⟩
        · have fb1 : (1 : Int) ≤ b := by omega
          have fb3 : decide (b ≤ 3) = false := by simp; omega
          have eb1 : (b == 1) = false := by simp; omega
          have eb2 : (b == 2) = false := by simp; omega
          have eb3 : (b == 3) = false := by simp; omega
          by_cases q10 : b = 10
          · subst q10
            clear fb1 fb3 eb1 eb2 eb3 hb4 hb13
            obtain rfl : E = false := by
              rw [HE.out]; exact rule_syl (by omega) (by omega) (by omega)
            go_wp2
            go_ret
            exact ⟨rfl, HB.out⟩
          by_cases q11 : b = 11
          · subst q11
            clear fb1 fb3 eb1 eb2 eb3 hb4 hb13 q10
            obtain rfl : E = false := by
              rw [HE.out]; exact rule_syl (by omega) (by omega) (by omega)
            go_wp2
            go_ret
            exact ⟨rfl, HB.out⟩
          by_cases q4 : b = 4
          · subst q4
            clear fb1 fb3 eb1 eb2 eb3 hb4 hb13 q10 q11
            obtain rfl : E = false := by
              rw [HE.out]; exact rule_syl (by omega) (by omega) (by omega)
            go_wp2
            go_ret
            exact ⟨rfl, HB.out⟩
          by_cases q5 : b = 5
          · subst q5
            clear fb1 fb3 eb1 eb2 eb3 hb4 hb13 q10 q11 q4
            obtain rfl : E = false := by
              rw [HE.out]; exact rule_syl (by omega) (by omega) (by omega)
            go_wp2
            go_ret
            exact ⟨rfl, HB.out⟩
          by_cases q8 : b = 8
          · subst q8
            clear fb1 fb3 eb1 eb2 eb3 hb4 hb13 q10 q11 q4 q5
            obtain rfl : E = false := by
              rw [HE.out]; exact rule_syl (by omega) (by omega) (by omega)
            go_wp2
            go_ret
            exact ⟨rfl, HB.out⟩
          have eb10 : (b == 10) = false := by simpa using q10
          have eb11 : (b == 11) = false := by simpa using q11
          have eb4 : (b == 4) = false := by simpa using q4
          have eb5 : (b == 5) = false := by simpa using q5
          have eb8 : (b == 8) = false := by simpa using q8
          clear hb4 hb13 q10 q11 q4 q5 q8
          obtain rfl : E = true := by
            have gb : ¬ b ≤ 3 := by simpa using fb3
            have hb10 : ¬ b = 10 := by simpa using eb10
            have hb11 : ¬ b = 11 := by simpa using eb11
            have hb4 : ¬ b = 4 := by simpa using eb4
            have hb5 : ¬ b = 5 := by simpa using eb5
            have hb8 : ¬ b = 8 := by simpa using eb8
            rw [HE.out]; exact rule_else (by omega) (by omega) (by omega) (fun h => absurd h (by omega)) (by omega)
          go_wp2
          go_ret
          exact ⟨rfl, HB.out⟩
      by_cases q13a : a = 13
      · subst q13a
        clear fa1 fa3 ea1 ea2 ea3 ha4 ha13 q9a q12a q10a
        obtain rfl : pr = false := by
          rw [HPR.out]; simp
        rcases hb with rfl | ⟨hb4, hb13⟩
        · skip
          obtain rfl : E = true := by
            rw [HE.out]; exact rule_else (by omega) (by omega) (by omega) (fun h => absurd h (by omega)) (by omega)
          go_wp2
          go_ret
          exact ⟨rfl, HB.out⟩
        · have fb1 : (1 : Int) ≤ b := by omega
          have fb3 : decide (b ≤ 3) = false := by simp; omega
          have eb1 : (b == 1) = false := by simp; omega
          have eb2 : (b == 2) = false := by simp; omega
          have eb3 : (b == 3) = false := by simp; omega
          by_cases q11 : b = 11
          · subst q11
            clear fb1 fb3 eb1 eb2 eb3 hb4 hb13
            obtain rfl : E = false := by
              rw [HE.out]; exact rule_syl (by omega) (by omega) (by omega)
            go_wp2
            go_ret
            exact ⟨rfl, HB.out⟩
          by_cases q4 : b = 4
          · subst q4
            clear fb1 fb3 eb1 eb2 eb3 hb4 hb13 q11
            obtain rfl : E = false := by
              rw [HE.out]; exact rule_syl (by omega) (by omega) (by omega)
            go_wp2
            go_ret
            exact ⟨rfl, HB.out⟩
          by_cases q5 : b = 5
          · subst q5
            clear fb1 fb3 eb1 eb2 eb3 hb4 hb13 q11 q4
            obtain rfl : E = false := by
              rw [HE.out]; exact rule_syl (by omega) (by omega) (by omega)
            go_wp2
            go_ret
            exact ⟨rfl, HB.out⟩
          by_cases q8 : b = 8
          · subst q8
            clear fb1 fb3 eb1 eb2 eb3 hb4 hb13 q11 q4 q5
            obtain rfl : E = false := by
              rw [HE.out]; exact rule_syl (by omega) (by omega) (by omega)
            go_wp2
            go_ret
            exact ⟨rfl, HB.out⟩
          have eb11 : (b == 11) = false := by simpa using q11
          have eb4 : (b == 4) = false := by simpa using q4
          have eb5 : (b == 5) = false := by simpa using q5
          have eb8 : (b == 8) = false := by simpa using q8
          clear hb4 hb13 q11 q4 q5 q8
          obtain rfl : E = true := by
            have gb : ¬ b ≤ 3 := by simpa using fb3
            have hb11 : ¬ b = 11 := by simpa using eb11
            have hb4 : ¬ b = 4 := by simpa using eb4
            have hb5 : ¬ b = 5 := by simpa using eb5
            have hb8 : ¬ b = 8 := by simpa using eb8
            rw [HE.out]; exact rule_else (by omega) (by omega) (by omega) (fun h => absurd h (by omega)) (by omega)
          go_wp2
          go_ret
          exact ⟨rfl, HB.out⟩
      by_cases q11a : a = 11
      · subst q11a
        clear fa1 fa3 ea1 ea2 ea3 ha4 ha13 q9a q12a q10a q13a
        obtain rfl : pr = false := by
          rw [HPR.out]; simp
        rcases hb with rfl | ⟨hb4, hb13⟩
        · skip
          obtain rfl : E = true := by
            rw [HE.out]; exact rule_else (by omega) (by omega) (by omega) (fun h => absurd h (by omega)) (by omega)
          go_wp2
          go_ret
          exact ⟨rfl, HB.out⟩
        · have fb1 : (1 : Int) ≤ b := by omega
          have fb3 : decide (b ≤ 3) = false := by simp; omega
          have eb1 : (b == 1) = false := by simp; omega
          have eb2 : (b == 2) = false := by simp; omega
          have eb3 : (b == 3) = false := by simp; omega
          by_cases q11 : b = 11
          · subst q11
            clear fb1 fb3 eb1 eb2 eb3 hb4 hb13
            obtain rfl : E = false := by
              rw [HE.out]; exact rule_syl (by omega) (by omega) (by omega)
            go_wp2
            go_ret
            exact ⟨rfl, HB.out⟩
          by_cases q4 : b = 4
          · subst q4
            clear fb1 fb3 eb1 eb2 eb3 hb4 hb13 q11
            obtain rfl : E = false := by
              rw [HE.out]; exact rule_syl (by omega) (by omega) (by omega)
            go_wp2
            go_ret
            exact ⟨rfl, HB.out⟩
          by_cases q5 : b = 5
          · subst q5
            clear fb1 fb3 eb1 eb2 eb3 hb4 hb13 q11 q4
            obtain rfl : E = false := by
              rw [HE.out]; exact rule_syl (by omega) (by omega) (by omega)
            go_wp2
            go_ret
            exact ⟨rfl, HB.out⟩
          by_cases q8 : b = 8
          · subst q8
            clear fb1 fb3 eb1 eb2 eb3 hb4 hb13 q11 q4 q5
            obtain rfl : E = false := by
              rw [HE.out]; exact rule_syl (by omega) (by omega) (by omega)
            go_wp2
            go_ret
            exact ⟨rfl, HB.out⟩
          have eb11 : (b == 11) = false := by simpa using q11
          have eb4 : (b == 4) = false := by simpa using q4
          have eb5 : (b == 5) = false := by simpa using q5
          have eb8 : (b == 8) = false := by simpa using q8
          clear hb4 hb13 q11 q4 q5 q8
          obtain rfl : E = true := by
            have gb : ¬ b ≤ 3 := by simpa using fb3
            have hb11 : ¬ b = 11 := by simpa using eb11
            have hb4 : ¬ b = 4 := by simpa using eb4
            have hb5 : ¬ b = 5 := by simpa using eb5
            have hb8 : ¬ b = 8 := by simpa using eb8
            rw [HE.out]; exact rule_else (by omega) (by omega) (by omega) (fun h => absurd h (by omega)) (by omega)
          go_wp2
          go_ret
          exact ⟨rfl, HB.out⟩
      by_cases q7a : a = 7
      · subst q7a
        clear fa1 fa3 ea1 ea2 ea3 ha4 ha13 q9a q12a q10a q13a q11a
        obtain rfl : pr = false := by
          rw [HPR.out]; simp
        rcases hb with rfl | ⟨hb4, hb13⟩
        · skip
          obtain rfl : E = false := by
            rw [HE.out]; exact rule_syl (by omega) (by omega) (by omega)
          go_wp2
          go_ret
          exact ⟨rfl, HB.out⟩
        · have fb1 : (1 : Int) ≤ b := by omega
          have fb3 : decide (b ≤ 3) = false := by simp; omega
          have eb1 : (b == 1) = false := by simp; omega
          have eb2 : (b == 2) = false := by simp; omega
          have eb3 : (b == 3) = false := by simp; omega
          by_cases q4 : b = 4
          · subst q4
            clear fb1 fb3 eb1 eb2 eb3 hb4 hb13
            obtain rfl : E = false := by
              rw [HE.out]; exact rule_syl (by omega) (by omega) (by omega)
            go_wp2
            go_ret
            exact ⟨rfl, HB.out⟩
          by_cases q5 : b = 5
          · subst q5
            clear fb1 fb3 eb1 eb2 eb3 hb4 hb13 q4
            obtain rfl : E = false := by
              rw [HE.out]; exact rule_syl (by omega) (by omega) (by omega)
            go_wp2
            go_ret
            exact ⟨rfl, HB.out⟩
          by_cases q8 : b = 8
          · subst q8
            clear fb1 fb3 eb1 eb2 eb3 hb4 hb13 q4 q5
            obtain rfl : E = false := by
              rw [HE.out]; exact rule_syl (by omega) (by omega) (by omega)
            go_wp2
            go_ret
            exact ⟨rfl, HB.out⟩
          have eb4 : (b == 4) = false := by simpa using q4
          have eb5 : (b == 5) = false := by simpa using q5
          have eb8 : (b == 8) = false := by simpa using q8
          clear hb4 hb13 q4 q5 q8
          obtain rfl : E = false := by
            have gb : ¬ b ≤ 3 := by simpa using fb3
            have hb4 : ¬ b = 4 := by simpa using eb4
            have hb5 : ¬ b = 5 := by simpa using eb5
            have hb8 : ¬ b = 8 := by simpa using eb8
            rw [HE.out]; exact rule_syl (by omega) (by omega) (by omega)
          go_wp2
          go_ret
          exact ⟨rfl, HB.out⟩
      by_cases q5a : a = 5
      · subst q5a
        clear fa1 fa3 ea1 ea2 ea3 ha4 ha13 q9a q12a q10a q13a q11a q7a
        rcases hb with rfl | ⟨hb4, hb13⟩
        · skip
          have HPC : Hid (pr = pc) := by
            show pr = _; rw [HPR.out]; simp
          cases pr with
          | false =>
            obtain rfl : pc = false := HPC.out.symm
            obtain rfl : E = true := by
              rw [HE.out]
              cases pb with
              | true => exact rule_pic rfl (by omega) (by omega) rfl
              | false => exact rule_else (by omega) (by omega) (by omega) (fun _ => rfl) (by omega)
            go_wp2
            go_ret
            exact ⟨rfl, HB.out⟩
          | true =>
            obtain rfl : pc = true := HPC.out.symm
            have hy4 := HY.out w4 HB.out
            go_wp2_with fail
            refine (rship_picto w4 g y (HD.out.below HB.out)).mono ?_
            rintro e w5 ⟨rfl, hB5⟩
            have HB5 : Hid (Below w.heap.size w w5) := HB.out.trans (hB5.mono HB.out.size)
            rw [← HPB.out]
            clear hB5 hy4
            cases pb with
            | true =>
              obtain rfl : E = false := by
                rw [HE.out]; exact rule_pic rfl (by omega) (by omega) rfl
              go_wp2
              go_ret
              exact ⟨rfl, HB5.out⟩
            | false =>
              obtain rfl : E = true := by
                rw [HE.out]; exact rule_else (by omega) (by omega) (by omega) (fun _ => rfl) (by omega)
              go_wp2
              go_ret
              exact ⟨rfl, HB5.out⟩
        · have fb1 : (1 : Int) ≤ b := by omega
          have fb3 : decide (b ≤ 3) = false := by simp; omega
          have eb1 : (b == 1) = false := by simp; omega
          have eb2 : (b == 2) = false := by simp; omega
          have eb3 : (b == 3) = false := by simp; omega
          by_cases q4 : b = 4
          · subst q4
            clear fb1 fb3 eb1 eb2 eb3 hb4 hb13
            obtain rfl : E = false := by
              rw [HE.out]; exact rule_syl (by omega) (by omega) (by omega)
            go_wp2
            go_ret
            exact ⟨rfl, HB.out⟩
          by_cases q5 : b = 5
          · subst q5
            clear fb1 fb3 eb1 eb2 eb3 hb4 hb13 q4
            obtain rfl : E = false := by
              rw [HE.out]; exact rule_syl (by omega) (by omega) (by omega)
            go_wp2
            go_ret
            exact ⟨rfl, HB.out⟩
          by_cases q8 : b = 8
          · subst q8
            clear fb1 fb3 eb1 eb2 eb3 hb4 hb13 q4 q5
            obtain rfl : E = false := by
              rw [HE.out]; exact rule_syl (by omega) (by omega) (by omega)
            go_wp2
            go_ret
            exact ⟨rfl, HB.out⟩
          have eb4 : (b == 4) = false := by simpa using q4
          have eb5 : (b == 5) = false := by simpa using q5
          have eb8 : (b == 8) = false := by simpa using q8
          clear hb4 hb13 q4 q5 q8
          have HPC : Hid (pr = pc) := by
            show pr = _; rw [HPR.out]; simp
          cases pr with
          | false =>
            obtain rfl : pc = false := HPC.out.symm
            obtain rfl : E = true := by
              have gb : ¬ b ≤ 3 := by simpa using fb3
              have hb4 : ¬ b = 4 := by simpa using eb4
              have hb5 : ¬ b = 5 := by simpa using eb5
              have hb8 : ¬ b = 8 := by simpa using eb8
              rw [HE.out]
              cases pb with
              | true => exact rule_pic rfl (by omega) (by omega) rfl
              | false => exact rule_else (by omega) (by omega) (by omega) (fun _ => rfl) (by omega)
            go_wp2
            go_ret
            exact ⟨rfl, HB.out⟩
          | true =>
            obtain rfl : pc = true := HPC.out.symm
            have hy4 := HY.out w4 HB.out
            go_wp2_with fail
            refine (rship_picto w4 g y (HD.out.below HB.out)).mono ?_
            rintro e w5 ⟨rfl, hB5⟩
            have HB5 : Hid (Below w.heap.size w w5) := HB.out.trans (hB5.mono HB.out.size)
            rw [← HPB.out]
            clear hB5 hy4
            cases pb with
            | true =>
              obtain rfl : E = false := by
                have gb : ¬ b ≤ 3 := by simpa using fb3
                have hb4 : ¬ b = 4 := by simpa using eb4
                have hb5 : ¬ b = 5 := by simpa using eb5
                have hb8 : ¬ b = 8 := by simpa using eb8
                rw [HE.out]; exact rule_pic rfl (by omega) (by omega) rfl
              go_wp2
              go_ret
              exact ⟨rfl, HB5.out⟩
            | false =>
              obtain rfl : E = true := by
                have gb : ¬ b ≤ 3 := by simpa using fb3
                have hb4 : ¬ b = 4 := by simpa using eb4
                have hb5 : ¬ b = 5 := by simpa using eb5
                have hb8 : ¬ b = 8 := by simpa using eb8
                rw [HE.out]; exact rule_else (by omega) (by omega) (by omega) (fun _ => rfl) (by omega)
              go_wp2
              go_ret
              exact ⟨rfl, HB5.out⟩
      by_cases q6a : a = 6
      · subst q6a
        clear fa1 fa3 ea1 ea2 ea3 ha4 ha13 q9a q12a q10a q13a q11a q7a q5a
        obtain rfl : pr = false := by
          rw [HPR.out]; simp
        rcases hb with rfl | ⟨hb4, hb13⟩
        · skip
          obtain rfl : E = true := by
            rw [HE.out]; exact rule_else (by omega) (by omega) (by omega) (fun h => absurd h (by omega)) (by omega)
          go_wp2
          go_ret
          exact ⟨rfl, HB.out⟩
        · have fb1 : (1 : Int) ≤ b := by omega
          have fb3 : decide (b ≤ 3) = false := by simp; omega
          have eb1 : (b == 1) = false := by simp; omega
          have eb2 : (b == 2) = false := by simp; omega
          have eb3 : (b == 3) = false := by simp; omega
          by_cases q4 : b = 4
          · subst q4
            clear fb1 fb3 eb1 eb2 eb3 hb4 hb13
            obtain rfl : E = false := by
              rw [HE.out]; exact rule_syl (by omega) (by omega) (by omega)
            go_wp2
            go_ret
            exact ⟨rfl, HB.out⟩
          by_cases q5 : b = 5
          · subst q5
            clear fb1 fb3 eb1 eb2 eb3 hb4 hb13 q4
            obtain rfl : E = false := by
              rw [HE.out]; exact rule_syl (by omega) (by omega) (by omega)
            go_wp2
            go_ret
            exact ⟨rfl, HB.out⟩
          by_cases q8 : b = 8
          · subst q8
            clear fb1 fb3 eb1 eb2 eb3 hb4 hb13 q4 q5
            obtain rfl : E = false := by
              rw [HE.out]; exact rule_syl (by omega) (by omega) (by omega)
            go_wp2
            go_ret
            exact ⟨rfl, HB.out⟩
          have eb4 : (b == 4) = false := by simpa using q4
          have eb5 : (b == 5) = false := by simpa using q5
          have eb8 : (b == 8) = false := by simpa using q8
          clear hb4 hb13 q4 q5 q8
          by_cases q6 : b = 6
          · subst q6
            clear eb1 eb2 eb3 eb4 eb5 eb8 fb1 fb3
            have fb1 : (1 : Int) ≤ 6 := by omega
            rcases Nat.mod_two_eq_zero_or_one N with z | z
            · obtain rfl : fl = false := by rw [HFL.out, z]; rfl
              obtain rfl : E = true := by rw [HE.out, rule_flags, z]; rfl
              clear z
              go_wp2
              go_ret
              exact ⟨rfl, HB.out⟩
            · obtain rfl : fl = true := by rw [HFL.out, z]; rfl
              obtain rfl : E = false := by rw [HE.out, rule_flags, z]; rfl
              clear z
              go_wp2
              go_ret
              exact ⟨rfl, HB.out⟩
          · have eb6 : (b == 6) = false := by simpa using q6
            clear q6
            obtain rfl : E = true := by
              have gb : ¬ b ≤ 3 := by simpa using fb3
              have hb4 : ¬ b = 4 := by simpa using eb4
              have hb5 : ¬ b = 5 := by simpa using eb5
              have hb8 : ¬ b = 8 := by simpa using eb8
              have hb6 : ¬ b = 6 := by simpa using eb6
              rw [HE.out]; exact rule_else (by omega) (by omega) (by omega) (fun h => absurd h (by omega)) (by omega)
            go_wp2
            go_ret
            exact ⟨rfl, HB.out⟩
      have ea9 : (a == 9) = false := by simpa using q9a
      have ea12 : (a == 12) = false := by simpa using q12a
      have ea10 : (a == 10) = false := by simpa using q10a
      have ea13 : (a == 13) = false := by simpa using q13a
      have ea11 : (a == 11) = false := by simpa using q11a
      have ea7 : (a == 7) = false := by simpa using q7a
      have ea5 : (a == 5) = false := by simpa using q5a
      have ea6 : (a == 6) = false := by simpa using q6a
      clear ha4 ha13 q9a q12a q10a q13a q11a q7a q5a q6a
      obtain rfl : pr = false := by
        have h5 : ¬ a = 5 := by simpa using ea5
        rw [HPR.out]; simp [h5]
      rcases hb with rfl | ⟨hb4, hb13⟩
      · skip
        obtain rfl : E = true := by
          have ga : ¬ a ≤ 3 := by simpa using fa3
          have ha9 : ¬ a = 9 := by simpa using ea9
          have ha12 : ¬ a = 12 := by simpa using ea12
          have ha10 : ¬ a = 10 := by simpa using ea10
          have ha13 : ¬ a = 13 := by simpa using ea13
          have ha11 : ¬ a = 11 := by simpa using ea11
          have ha7 : ¬ a = 7 := by simpa using ea7
          have ha5 : ¬ a = 5 := by simpa using ea5
          have ha6 : ¬ a = 6 := by simpa using ea6
          rw [HE.out]; exact rule_else (by omega) (by omega) (by omega) (fun h => absurd h (by omega)) (by omega)
        go_wp2
        go_ret
        exact ⟨rfl, HB.out⟩
      · have fb1 : (1 : Int) ≤ b := by omega
        have fb3 : decide (b ≤ 3) = false := by simp; omega
        have eb1 : (b == 1) = false := by simp; omega
        have eb2 : (b == 2) = false := by simp; omega
        have eb3 : (b == 3) = false := by simp; omega
        by_cases q4 : b = 4
        · subst q4
          clear fb1 fb3 eb1 eb2 eb3 hb4 hb13
          obtain rfl : E = false := by
            have ga : ¬ a ≤ 3 := by simpa using fa3
            have ha9 : ¬ a = 9 := by simpa using ea9
            have ha12 : ¬ a = 12 := by simpa using ea12
            have ha10 : ¬ a = 10 := by simpa using ea10
            have ha13 : ¬ a = 13 := by simpa using ea13
            have ha11 : ¬ a = 11 := by simpa using ea11
            have ha7 : ¬ a = 7 := by simpa using ea7
            have ha5 : ¬ a = 5 := by simpa using ea5
            have ha6 : ¬ a = 6 := by simpa using ea6
            rw [HE.out]; exact rule_syl (by omega) (by omega) (by omega)
          go_wp2
          go_ret
          exact ⟨rfl, HB.out⟩
        by_cases q5 : b = 5
        · subst q5
          clear fb1 fb3 eb1 eb2 eb3 hb4 hb13 q4
          obtain rfl : E = false := by
            have ga : ¬ a ≤ 3 := by simpa using fa3
            have ha9 : ¬ a = 9 := by simpa using ea9
            have ha12 : ¬ a = 12 := by simpa using ea12
            have ha10 : ¬ a = 10 := by simpa using ea10
            have ha13 : ¬ a = 13 := by simpa using ea13
            have ha11 : ¬ a = 11 := by simpa using ea11
            have ha7 : ¬ a = 7 := by simpa using ea7
            have ha5 : ¬ a = 5 := by simpa using ea5
            have ha6 : ¬ a = 6 := by simpa using ea6
            rw [HE.out]; exact rule_syl (by omega) (by omega) (by omega)
          go_wp2
          go_ret
          exact ⟨rfl, HB.out⟩
        by_cases q8 : b = 8
        · subst q8
          clear fb1 fb3 eb1 eb2 eb3 hb4 hb13 q4 q5
          obtain rfl : E = false := by
            have ga : ¬ a ≤ 3 := by simpa using fa3
            have ha9 : ¬ a = 9 := by simpa using ea9
            have ha12 : ¬ a = 12 := by simpa using ea12
            have ha10 : ¬ a = 10 := by simpa using ea10
            have ha13 : ¬ a = 13 := by simpa using ea13
            have ha11 : ¬ a = 11 := by simpa using ea11
            have ha7 : ¬ a = 7 := by simpa using ea7
            have ha5 : ¬ a = 5 := by simpa using ea5
            have ha6 : ¬ a = 6 := by simpa using ea6
            rw [HE.out]; exact rule_syl (by omega) (by omega) (by omega)
          go_wp2
          go_ret
          exact ⟨rfl, HB.out⟩
        have eb4 : (b == 4) = false := by simpa using q4
        have eb5 : (b == 5) = false := by simpa using q5
        have eb8 : (b == 8) = false := by simpa using q8
        clear hb4 hb13 q4 q5 q8
        obtain rfl : E = true := by
          have ga : ¬ a ≤ 3 := by simpa using fa3
          have gb : ¬ b ≤ 3 := by simpa using fb3
          have ha9 : ¬ a = 9 := by simpa using ea9
          have ha12 : ¬ a = 12 := by simpa using ea12
          have ha10 : ¬ a = 10 := by simpa using ea10
          have ha13 : ¬ a = 13 := by simpa using ea13
          have ha11 : ¬ a = 11 := by simpa using ea11
          have ha7 : ¬ a = 7 := by simpa using ea7
          have ha5 : ¬ a = 5 := by simpa using ea5
          have ha6 : ¬ a = 6 := by simpa using ea6
          have hb4 : ¬ b = 4 := by simpa using eb4
          have hb5 : ¬ b = 5 := by simpa using eb5
          have hb8 : ¬ b = 8 := by simpa using eb8
          rw [HE.out]; exact rule_else (by omega) (by omega) (by omega) (fun h => absurd h (by omega)) (by omega)
        go_wp2
        go_ret
        exact ⟨rfl, HB.out⟩
theorem rbreak_out (l : List Int) (v : Value) (g : Nat) (i : Int) (w : World) (hv : IntsAt w.heap.size w v l) (hi : i < 0 ∨ (l.length : Int) < i) :
    Calls Tryd.prog 18 #[.pointer (some ⟨g, 0, none⟩), v, .int .i64 i] w fun e w' => e = .returned (.bool false) ∧ Below w.heap.size w w' := by
  obtain ⟨a, cap, rfl, hcap, hc⟩ := hv
  clear hc
  by_cases h : i < 0
  · clear hi
    go_enter Tryd.func18, Tryd.ntmps18
    go_wp2
    go_ret
    exact ⟨rfl, Below.refl _ _⟩
  · have h1 : decide (i < 0) = false := by simp; omega
    have h2 : (l.length : Int) < i := by omega
    clear hi h
    go_enter Tryd.func18, Tryd.ntmps18
    go_wp2
    go_ret
    exact ⟨rfl, Below.refl _ _⟩
end Go.Proofs.YtmhligcmcfikfaaDoor

namespace Go.Proofs.YtmhligcmcfikfaaDoor
open Go.RowKit
set_option linter.unusedVariables false

theorem meas_next {N t : Nat} (h : t < N) : N - (intOf (.int .i64 ((t + 1 : Nat) : Int))).toNat < N - (intOf (.int .i64 (t : Int))).toNat := by
  simp only [intOf]; omega

set_option maxRecDepth 100000 in
set_option maxHeartbeats 8000000 in
theorem rall_any (l : List Int) (v : Value) (g : Nat) (w : World) (hd : RShip w g) (hv : IntsAt w.heap.size w v l) (hn : l.length ≤ 10000) :
    Calls Tryd.prog 13 #[.pointer (some ⟨g, 0, none⟩), v] w fun e w' => ∃ v', e = .returned v' ∧ w'.ownsRow w.heap.size 3 1 v' (allL l).length (cellsP5 (allL l)) ∧ Below w.heap.size w w' := by
  obtain ⟨iI, hiI, hzI0, hzI1, hzI2⟩ := info_parts Tryd.infoInt
  have HV : Hid (IntsAt w.heap.size w v l) := hv
  obtain ⟨a, cap, rfl, hcap, hc⟩ := hv
  have HD : Hid (RShip w g) := hd
  have HN : Hid (l.length ≤ 10000) := hn
  obtain ⟨A, hA⟩ : ∃ A, A = allL l := ⟨_, rfl⟩
  have HA : Hid (A = below l (l.length + 1)) := hA
  rw [← hA]
  clear hd hc hn hA
  go_enter Tryd.func13, Tryd.ntmps13
  go_wp2
  go_loopw [5, 6] (fun y x wr => ∃ k : Nat, k ≤ l.length + 1 ∧ x = .int .i64 (k : Int) ∧ wr.ownsRow w.heap.size 3 1 y (below l k).length (cellsP5 (below l k)) ∧ Below w.heap.size w wr) (fun _ x _ => l.length + 1 - (intOf x).toNat)
  case atStart => exact ⟨0, Nat.zero_le _, rfl, World.ownsRow_nil _ _ _ _, Below.refl _ _⟩
  case round =>
    obtain ⟨k, hk, rfl, ho, hB⟩ := hrel
    have hsi := hB.size
    obtain ⟨HO, HB⟩ : Hid (wr.ownsRow w.heap.size 3 1 u5 (below l k).length (cellsP5 (below l k))) ∧ Hid (Below w.heap.size w wr) := ⟨ho, hB⟩
    have HBL : Hid ((below l k).length ≤ 10001) := by show _ ≤ _; have := below_len l k; have := HN.out; omega
    clear ho hB
    by_cases hlt : k ≤ l.length
    · have hlt' : (k : Int) ≤ (l.length : Int) := by omega
      have HWN : Hid (wrap64 ((k : Int) + 1) = ((k + 1 : Nat) : Int)) := wrap_next (by have := HN.out; omega)
      go_wp2_with fail
      refine (rbreak_any l _ g k wr (HD.out.below HB.out) (HV.out.on HB.out) HN.out hlt).mono ?_
      rintro e w1 ⟨rfl, hB1⟩
      have hs1 := hB1.size
      have HO1 : Hid (w1.ownsRow w.heap.size 3 1 u5 (below l k).length (cellsP5 (below l k))) := ownsRow_below HO.out hB1
      have HB1 : Hid (Below w.heap.size w w1) := HB.out.trans (hB1.mono HB.out.size)
      clear hB1
      obtain ⟨E, hE⟩ : ∃ E, E = brk l k := ⟨_, rfl⟩
      have HE : Hid (E = brk l k) := hE
      rw [← hE]
      clear hE
      cases E with
      | false =>
        go_wp2
        go_roundw
        case rel =>
          refine ⟨k + 1, by omega, by rw [HWN.out], ?_, HB1.out⟩
          rw [below_succ, ← HE.out, if_neg (by simp)]
          exact HO1.out
        case measure => exact meas_up (by omega) (by have := HN.out; omega)
      | true =>
        go_wp2_with (first | (at_builtin; refine wpList_append_own _ rfl _ _ 22 rfl w.heap.size 3 iI (.int .i64 0) 1 8 Tryd.underlying22 hiI hzI0 hzI1 hzI2 rfl (by decide) _ _ _ rfl (HO1.out.alloc _) ⟨w1.heap.size, 0, none⟩ 1 1 [.int .i64 (k : Int)] rfl rfl (World.news_of_block (World.alloc_heap_new _ _)) (by simp [Value.oneCell']) (by unfold maxLen; have := HBL.out; omega) (by have := HBL.out; omega) (by simp; have := HBL.out; omega) ?_; intro v2 w2 ho2 hg2 _) | fail)
        have HO2 : Hid (w2.ownsRow w.heap.size 3 1 v2 (below l (k + 1)).length (cellsP5 (below l (k + 1)))) := by
          rw [below_succ, ← HE.out, if_pos rfl, cellsP5_snoc, List.length_append]
          exact ho2
        have HG2 : Hid (Below w.heap.size w w2) := (HB1.out.alloc (by omega) _).grown hg2 (by simp; omega) (fun j e => (HO1.out.lt j e).1)
        clear ho2 hg2
        go_roundw
        case rel => exact ⟨k + 1, by omega, by rw [HWN.out], HO2.out, HG2.out⟩
        case measure => exact meas_up (by omega) (by have := HN.out; omega)
    · obtain rfl : k = l.length + 1 := by omega
      have hge : ¬ (((l.length + 1 : Nat) : Int) ≤ (l.length : Int)) := by omega
      clear hlt hk
      go_wp2
      go_ret
      exact ⟨_, rfl, by rw [HA.out]; exact HO.out, HB.out⟩

set_option maxRecDepth 100000 in
set_option maxHeartbeats 8000000 in
theorem rat_any (l : List Int) (v : Value) (g i : Nat) (w : World) (hd : RShip w g) (hv : IntsAt w.heap.size w v l) (hn : l.length ≤ 10000) (hi : i ≤ l.length) :
    Calls Tryd.prog 16 #[.pointer (some ⟨g, 0, none⟩), v, .int .i64 (i : Int)] w fun e w' => ∃ x y : Nat, e = .returned (.tuple #[.int .i64 (x : Int), .int .i64 (y : Int)]) ∧ IsAt l i x y ∧ Below w.heap.size w w' := by
  have HV : Hid (IntsAt w.heap.size w v l) := hv
  obtain ⟨a, cap, rfl, hcap, hc⟩ := hv
  have HD : Hid (RShip w g) := hd
  have HN : Hid (l.length ≤ 10000 ∧ i ≤ l.length) := ⟨hn, hi⟩
  have e2 : decide ((i : Int) < 0) = false := decide_eq_false (by omega)
  have e3 : decide ((l.length : Int) < (i : Int)) = false := decide_eq_false (by omega)
  have e4 : decide (l.length < i) = false := decide_eq_false (by omega)
  clear hd hc hn hi
  go_enter Tryd.func16, Tryd.ntmps16
  go_wp2_with fail
  refine (rbreak_any l _ g i w HD.out HV.out HN.out.1 HN.out.2).mono ?_
  rintro e w0 ⟨rfl, hB0⟩
  have HB0 : Hid (Below w.heap.size w w0) := hB0
  clear hB0
  go_wp2
  go_loopw [8, 9] (fun x y wr => ∃ k : Nat, k ≤ i ∧ x = .int .i64 (k : Int) ∧ y = .bool (brk l k) ∧ Hid (∀ j, k < j → j ≤ i → brk l j = false) ∧ Below w.heap.size w wr) (fun x _ _ => (intOf x).toNat)
  case atStart => exact ⟨i, Nat.le_refl _, rfl, rfl, fun j h1 h2 => by omega, HB0.out⟩
  case round =>
    obtain ⟨k, hk, rfl, rfl, HK, hB⟩ := hrel
    have HB : Hid (Below w.heap.size w wr) := hB
    obtain ⟨E, hE⟩ : ∃ E, E = brk l k := ⟨_, rfl⟩
    have HE : Hid (brk l k = E) := hE.symm
    rw [← hE]
    clear hE hB
    cases E with
    | false =>
      obtain ⟨m, hm⟩ : ∃ m, k = m + 1 := ⟨k - 1, by
        have : k ≠ 0 := fun e => by have := HE.out; rw [e, brk_zero] at this; cases this
        omega⟩
      have HM : Hid (k = m + 1) := hm
      have hwm : IntKind.i64.wrap ((k : Int) - 1) = (m : Int) := (IntWalk.i64_in _ (by have := HN.out; omega)).trans (by omega)
      clear hm
      go_wp2_with fail
      refine (rbreak_any l _ g m wr (HD.out.below HB.out) (HV.out.on HB.out) HN.out.1 (by have := HN.out; have := HM.out; omega)).mono ?_
      rintro e w1 ⟨rfl, hB1⟩
      have HB1 : Hid (Below w.heap.size w w1) := HB.out.trans (hB1.mono HB.out.size)
      clear hB1
      go_wp2
      go_roundw
      case rel =>
        refine ⟨m, by have := HM.out; omega, rfl, rfl, fun j h1 h2 => ?_, HB1.out⟩
        rcases Nat.lt_or_ge k j with h | h
        · exact HK.out j h h2
        · obtain rfl : j = k := by have := HM.out; omega
          exact HE.out
      case measure => have := HM.out; simp only [intOf]; omega
    | true =>
      obtain ⟨wA, rfl⟩ : ∃ wA, wA = wr := ⟨_, rfl⟩
      by_cases hil : i = l.length
      · have hie : ((i : Int) == (l.length : Int)) = true := by simp; omega
        have HAT : Hid (IsAt l i i i) := ⟨Nat.le_refl _, brk_end l (by omega), fun j h1 h2 => by omega, .inl ⟨hil, rfl⟩⟩
        clear hil
        go_wp2
        go_ret2
        exact ⟨i, i, rfl, HAT.out, HB.out⟩
      · have hie : ((i : Int) == (l.length : Int)) = false := by simp; omega
        have HIL : Hid (i < l.length) := by show _ < _; have := HN.out; omega
        have hw2 : IntKind.i64.wrap ((i : Int) + 1) = ((i + 1 : Nat) : Int) := (IntWalk.i64_in _ (by have := HN.out; omega)).trans (by omega)
        have HKI : Hid (k ≤ i) := hk
        clear hil
        go_wp2_with fail
        refine (rbreak_any l _ g (i + 1) wA (HD.out.below HB.out) (HV.out.on HB.out) HN.out.1 (by have := HIL.out; omega)).mono ?_
        rintro e w1 ⟨rfl, hB1⟩
        have HB1 : Hid (Below w.heap.size w w1) := HB.out.trans (hB1.mono HB.out.size)
        clear hB1 HB0
        go_wp2
        go_loopw [9, 10] (fun y x wr => ∃ t : Nat, t ≤ l.length ∧ i < t ∧ x = .int .i64 (t : Int) ∧ y = .bool (brk l t) ∧ Hid (∀ j, i < j → j < t → brk l j = false) ∧ Below w.heap.size w wr) (fun _ x _ => l.length - (intOf x).toNat)
        case atStart => exact ⟨i + 1, by have := HIL.out; omega, by omega, by first | rfl | go_num, rfl, fun j h1 h2 => by omega, HB1.out⟩
        case round =>
          obtain ⟨t, ht, hit, rfl, rfl, HT, hB⟩ := hrel
          have HB2 : Hid (Below w.heap.size w wr) := hB
          obtain ⟨E, hE⟩ : ∃ E, E = brk l t := ⟨_, rfl⟩
          have HE2 : Hid (brk l t = E) := hE.symm
          rw [← hE]
          clear hE hB
          cases E with
          | false =>
            have htl : t < l.length := by
              rcases Nat.lt_or_ge t l.length with h | h
              · exact h
              · have := HE2.out; rw [brk_end l h] at this; cases this
            have hw3 : IntKind.i64.wrap ((t : Int) + 1) = ((t + 1 : Nat) : Int) := (IntWalk.i64_in _ (by have := HN.out; omega)).trans (by omega)
            go_wp2_with fail
            refine (rbreak_any l _ g (t + 1) wr (HD.out.below HB2.out) (HV.out.on HB2.out) HN.out.1 htl).mono ?_
            rintro e w2 ⟨rfl, hB2⟩
            have HB3 : Hid (Below w.heap.size w w2) := HB2.out.trans (hB2.mono HB2.out.size)
            clear hB2
            go_wp2
            go_roundw
            case rel =>
              refine ⟨t + 1, by omega, by omega, by first | rfl | go_num, rfl, fun j h1 h2 => ?_, HB3.out⟩
              rcases Nat.lt_or_ge j t with h | h
              · exact HT.out j h1 h
              · obtain rfl : j = t := by omega
                exact HE2.out
            case measure => exact meas_next htl
          | true =>
            have HAT : Hid (IsAt l i k t) := ⟨HKI.out, HE.out, HK.out, .inr ⟨HIL.out, hit, ht, HE2.out, HT.out⟩⟩
            go_wp2
            go_ret2
            exact ⟨k, t, rfl, HAT.out, HB2.out⟩
theorem rat_none (l : List Int) (v : Value) (g : Nat) (i : Int) (w : World) (hv : IntsAt w.heap.size w v l) (hi : i < 0 ∨ (l.length : Int) < i) :
    Calls Tryd.prog 16 #[.pointer (some ⟨g, 0, none⟩), v, .int .i64 i] w fun e w' => e = .returned (.tuple #[.int .i64 0, .int .i64 0]) ∧ Below w.heap.size w w' := by
  obtain ⟨a, cap, rfl, hcap, hc⟩ := hv
  clear hc
  by_cases h : i < 0
  · clear hi
    go_enter Tryd.func16, Tryd.ntmps16
    go_wp2
    go_ret2
    exact ⟨rfl, Below.refl _ _⟩
  · have h1 : decide (i < 0) = false := decide_eq_false h
    have h2 : (l.length : Int) < i := by omega
    clear hi h
    go_enter Tryd.func16, Tryd.ntmps16
    go_wp2
    go_ret2
    exact ⟨rfl, Below.refl _ _⟩
end Go.Proofs.YtmhligcmcfikfaaDoor
