/-
  cluster.regionals, cluster.joinsPicture: what stands ahead, gone through backwards.
-/
import Derived.Test.YtmhligcmcfikfaaDoorInts5
import Derived.WalkMore
namespace Go.Proofs.YtmhligcmcfikfaaDoor
open Go.RowKit
set_option linter.unusedVariables false

theorem ship_pic (w : World) (g : Nat) (r : Int) (h : Ship w g) : Calls Tryd.prog 48 #[.pointer (some ⟨g, 0, none⟩), .int .i64 r] w fun e w' => e = .returned (.bool (piV r)) ∧ Below w.heap.size w w' := ship_picto w g r h
theorem meas_down (m : Nat) : (intOf (.int .i64 ((m : Int) - 1)) + 1).toNat < (intOf (.int .i64 (m : Int)) + 1).toNat := by simp only [intOf]; omega
theorem reg_step {l : List Int} {m : Nat} (h : m < l.length) (h6 : clV l[m] = 6) : regR (l.take (m + 1)).reverse = regR (l.take m).reverse + 1 := by
  rw [take_rev h, regR, if_pos h6]
theorem reg_stop' {l : List Int} {m : Nat} (h : m < l.length) (h6 : ¬ clV l[m] = 6) : regR (l.take (m + 1)).reverse = 0 := by
  rw [take_rev h, regR, if_neg h6]
theorem pic_step {l : List Int} {m : Nat} (h : m < l.length) : picR (l.take (m + 1)).reverse = if piV l[m] = true then true else if clV l[m] = 4 then picR (l.take m).reverse else false := by
  rw [take_rev h, picR]

set_option maxRecDepth 100000 in
set_option maxHeartbeats 8000000 in
theorem regionals_any (l : List Int) (v : Value) (g : Nat) (w : World) (hd : Ship w g) (hv : IntsAt w.heap.size w v l) (hn : l.length ≤ 10000) :
    Calls Tryd.prog 50 #[.pointer (some ⟨g, 0, none⟩), v] w fun e w' => e = .returned (.int .i64 (regR l.reverse : Int)) ∧ Below w.heap.size w w' := by
  obtain ⟨a, cap, rfl, hcap, hc⟩ := hv
  have HC : Hid (∀ i, (h : i < l.length) → ∃ g off, a = some ⟨g, off, none⟩ ∧ g < w.heap.size ∧ w.cell? ⟨g, off + i, none⟩ = some (.int .i64 l[i])) := hc
  have HD : Hid (Ship w g) := hd
  have HN : Hid (l.length ≤ 10000) := hn
  obtain ⟨R, hR⟩ : ∃ R : Nat, R = regR l.reverse := ⟨_, rfl⟩
  have HR : Hid (R = regR l.reverse) := hR
  rw [← hR]
  clear hd hc hR
  have hw0 : IntKind.i64.wrap ((l.length : Int) - 1) = (l.length : Int) - 1 := IntWalk.i64_in _ (by omega)
  clear hn
  go_enter Tryd.func50, Tryd.ntmps50
  go_wp2
  go_step3
  go_wp2
  go_step3
  go_wp2
  go_loopw [5, 6] (fun y x wr => ∃ k c : Nat, k ≤ l.length ∧ y = .int .i64 (c : Int) ∧ x = .int .i64 ((k : Int) - 1) ∧ Hid (R = c + regR (l.take k).reverse ∧ c + k ≤ l.length) ∧ Below w.heap.size w wr) (fun _ x _ => (intOf x + 1).toNat)
  case atStart => exact ⟨l.length, 0, Nat.le_refl _, rfl, rfl, ⟨by rw [Nat.zero_add, List.take_length]; exact HR.out, by omega⟩, Below.refl _ _⟩
  case round =>
    obtain ⟨k, c, hk, rfl, rfl, HI, hB⟩ := hrel
    have HB : Hid (Below w.heap.size w wr) := hB
    clear hB
    cases k with
    | zero =>
      have e : R = c := by have := HI.out.1; rw [List.take_zero] at this; simpa [regR] using this
      subst e
      go_wp2
      rw [Exit.noGoto_ret]
      go_ret
      exact ⟨rfl, HB.out⟩
    | succ m =>
      have hx : ((m + 1 : Nat) : Int) - 1 = (m : Int) := by omega
      rw [hx]
      obtain ⟨gi, off, rfl, hg, c0⟩ := HC.out m (by omega)
      have d0 : wr.cell? ⟨gi, off + m, none⟩ = some (.int .i64 (l[m]'(by omega))) := (HB.out.cell (p := ⟨gi, _, none⟩) hg).trans c0
      obtain ⟨r, hr⟩ : ∃ r, r = l[m]'(by omega) := ⟨_, rfl⟩
      have HRM : Hid (r = l[m]'(by omega)) := hr
      rw [← hr] at d0
      clear c0 hr hx
      have hm1 : (m : Int) < (l.length : Int) := by omega
      have hw1 : IntKind.i64.wrap ((m : Int) - 1) = (m : Int) - 1 := IntWalk.i64_in _ (by have := HN.out; omega)
      have hw2 : IntKind.i64.wrap ((c : Int) + 1) = ((c + 1 : Nat) : Int) := (IntWalk.i64_in _ (by have := HN.out; have := HI.out.2; omega)).trans (by omega)
      go_wp2_with fail
      refine (ship_cluster wr g r (HD.out.below HB.out)).mono ?_
      rintro e w1 ⟨rfl, hB1⟩
      have HB1 : Hid (Below w.heap.size w w1) := HB.out.trans (hB1.mono HB.out.size)
      clear hB1
      obtain ⟨q, hq⟩ : ∃ q, q = clV r := ⟨_, rfl⟩
      have HQ : Hid (q = clV (l[m]'(by omega))) := by rw [← HRM.out]; exact hq
      rw [← hq]
      clear hq
      by_cases q6 : q = 6
      · subst q6
        go_wp2
        go_roundw
        case rel => exact ⟨m, c + 1, by omega, rfl, rfl, ⟨by have := HI.out.1; rw [reg_step (by omega) HQ.out.symm] at this; omega, by have := HI.out.2; omega⟩, HB1.out⟩
        case measure => exact meas_down m
      · have q7 : (q == 6) = false := by simpa using q6
        have e : R = c := by have := HI.out.1; rw [reg_stop' (by omega) (by rw [← HQ.out]; exact q6)] at this; omega
        subst e
        clear q6
        go_wp2
        rw [Exit.noGoto_ret]
        go_ret
        exact ⟨rfl, HB1.out⟩

set_option maxRecDepth 100000 in
set_option maxHeartbeats 8000000 in
theorem joins_any (l : List Int) (v : Value) (g : Nat) (w : World) (hd : Ship w g) (hv : IntsAt w.heap.size w v l) (hn : l.length ≤ 10000) :
    Calls Tryd.prog 49 #[.pointer (some ⟨g, 0, none⟩), v] w fun e w' => e = .returned (.bool (picR l.reverse)) ∧ Below w.heap.size w w' := by
  obtain ⟨a, cap, rfl, hcap, hc⟩ := hv
  have HC : Hid (∀ i, (h : i < l.length) → ∃ g off, a = some ⟨g, off, none⟩ ∧ g < w.heap.size ∧ w.cell? ⟨g, off + i, none⟩ = some (.int .i64 l[i])) := hc
  have HD : Hid (Ship w g) := hd
  have HN : Hid (l.length ≤ 10000) := hn
  obtain ⟨R, hR⟩ : ∃ R : Bool, R = picR l.reverse := ⟨_, rfl⟩
  have HR : Hid (R = picR l.reverse) := hR
  rw [← hR]
  clear hd hc hR
  have hw0 : IntKind.i64.wrap ((l.length : Int) - 1) = (l.length : Int) - 1 := IntWalk.i64_in _ (by omega)
  clear hn
  go_enter Tryd.func49, Tryd.ntmps49
  go_wp2
  go_step3
  go_wp2
  go_step3
  go_wp2
  go_loopw [5, 6] (fun y x wr => ∃ k : Nat, k ≤ l.length ∧ y = .bool false ∧ x = .int .i64 ((k : Int) - 1) ∧ Hid (R = picR (l.take k).reverse) ∧ Below w.heap.size w wr) (fun _ x _ => (intOf x + 1).toNat)
  case atStart => exact ⟨l.length, Nat.le_refl _, rfl, rfl, by rw [List.take_length]; exact HR.out, Below.refl _ _⟩
  case round =>
    obtain ⟨k, hk, rfl, rfl, HI, hB⟩ := hrel
    have HB : Hid (Below w.heap.size w wr) := hB
    clear hB HR
    cases k with
    | zero =>
      have e : R = false := by have := HI.out; rw [List.take_zero] at this; simpa [picR] using this
      subst e
      go_wp2
      rw [Exit.noGoto_ret]
      go_ret
      exact ⟨rfl, HB.out⟩
    | succ m =>
      have hx : ((m + 1 : Nat) : Int) - 1 = (m : Int) := by omega
      rw [hx]
      obtain ⟨gi, off, rfl, hg, c0⟩ := HC.out m (by omega)
      obtain ⟨r, hr⟩ : ∃ r, r = l[m]'(by omega) := ⟨_, rfl⟩
      rw [← hr] at c0
      have hL : ∀ w', Below w.heap.size w w' → w'.cell? ⟨gi, off + m, none⟩ = some (.int .i64 r) := fun w' hw' => (hw'.cell (p := ⟨gi, _, none⟩) hg).trans c0
      have HL : Hid (∀ w', Below w.heap.size w w' → w'.cell? ⟨gi, off + m, none⟩ = some (.int .i64 r)) := hL
      have d0 := HL.out wr HB.out
      have HP : Hid (R = if piV r = true then true else if clV r = 4 then picR (l.take m).reverse else false) := by
        have := HI.out
        rw [pic_step (by omega)] at this
        rw [hr]
        exact this
      clear c0 hr hx hL HI
      have hm1 : (m : Int) < (l.length : Int) := by omega
      have hw1 : IntKind.i64.wrap ((m : Int) - 1) = (m : Int) - 1 := IntWalk.i64_in _ (by have := HN.out; omega)
      go_wp2_with fail
      refine (ship_pic wr g r (HD.out.below HB.out)).mono ?_
      rintro e w1 ⟨rfl, hB1⟩
      have HB1 : Hid (Below w.heap.size w w1) := HB.out.trans (hB1.mono HB.out.size)
      clear hB1 d0
      obtain ⟨q, hq⟩ : ∃ q, q = piV r := ⟨_, rfl⟩
      rw [← hq]
      rw [← hq] at HP
      clear hq
      cases q with
      | true =>
        obtain rfl : R = true := by have := HP.out; simpa using this
        go_wp2
        rw [Exit.noGoto_ret]
        go_ret
        exact ⟨rfl, HB1.out⟩
      | false =>
        have d1 := HL.out w1 HB1.out
        go_wp2_with fail
        refine (ship_cluster w1 g r (HD.out.below HB1.out)).mono ?_
        rintro e w2 ⟨rfl, hB2⟩
        have HB2 : Hid (Below w.heap.size w w2) := HB1.out.trans (hB2.mono HB1.out.size)
        clear hB2 d1
        obtain ⟨q, hq⟩ : ∃ q, q = clV r := ⟨_, rfl⟩
        rw [← hq]
        rw [← hq] at HP
        clear hq
        by_cases q4 : q = 4
        · subst q4
          have HP2 : Hid (R = picR (l.take m).reverse) := by
            have := HP.out
            show R = _
            simpa using this
          clear HP
          go_wp2
          go_roundw
          case rel => exact ⟨m, by omega, rfl, rfl, HP2, HB2.out⟩
          case measure => exact meas_down m
        · have q5 : (q == 4) = false := by simpa using q4
          have q6 : (q != 4) = true := by simpa using q4
          obtain rfl : R = false := by have := HP.out; simpa [q4] using this
          clear q4 HP
          go_wp2
          rw [Exit.noGoto_ret]
          go_ret
          exact ⟨rfl, HB2.out⟩
end Go.Proofs.YtmhligcmcfikfaaDoor
