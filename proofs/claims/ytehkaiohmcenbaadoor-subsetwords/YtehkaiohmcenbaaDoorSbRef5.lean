/-
  The document's answer: whether a word ends with one of an expression's.
-/
import Derived.Test.YtehkaiohmcenbaaDoorFlRef4
namespace Go.Proofs.YtehkaiohmcenbaaDoor
open Go.RowKit Go.Shelf
set_option linter.unusedVariables false

theorem suff_whole {ws : List Nat} {n : Nd} : suffP ws n ↔ ∃ m, m ≤ ws.length ∧ wholeP (ws.drop m) n := by
  constructor
  · rintro ⟨hr, m, hm, h⟩
    exact ⟨m, hm, hr, (rel_drop ws n m hm).2 h⟩
  · rintro ⟨m, hm, hr, h⟩
    exact ⟨hr, m, hm, (rel_drop ws n m hm).1 h⟩

set_option maxRecDepth 100000 in
set_option maxHeartbeats 8000000 in
theorem refSuffix_any (d : Nat) (ws : List Nat) (hL : ws.length < 64) (n : Nd) (z : Value) (wa : Option Addr) (wc : Nat) (w : World) (hdp : Dp d n.kids) (hz : KdX (fun k => k < w.heap.size) w z n.kids) (hw : WrdAt w.heap.size w (.slice wa ws.length wc) ws) (hnil : wa = none → wc = 0) :
    Calls Tryd.prog 34 #[ndV n z, .slice wa ws.length wc] w fun e w' => e = .returned (.bool (suffB ws n)) ∧ Below w.heap.size w w' := by
  obtain ⟨a, ca, rfl, _⟩ := hz.slice
  obtain ⟨W, hW⟩ : ∃ W, W = w.alloc (.cells #[.int .i64 n.k, .int .i64 n.s, .slice a n.kids.length ca] 24) := ⟨_, rfl⟩
  have hB0 : Below w.heap.size w W := by rw [hW]; exact below_alloc _ _
  have hbA : Box W w.heap.size n.k n.s (.slice a n.kids.length ca) := by rw [hW]; exact box_new _ _ _ _
  obtain ⟨nk, hnk⟩ : ∃ x, x = n.k := ⟨_, rfl⟩
  obtain ⟨ns, hns⟩ : ∃ x, x = n.s := ⟨_, rfl⟩
  obtain ⟨len, hlen⟩ : ∃ x, x = n.kids.length := ⟨_, rfl⟩
  obtain ⟨wl, hwl⟩ : ∃ x, x = ws.length := ⟨_, rfl⟩
  have HWL : Hid (wl = ws.length) := hwl
  have HS : Hid (∀ W i, Below w.heap.size w W → i ≤ wl → Calls Tryd.prog 33 #[.agg #[.int .i64 nk, .int .i64 ns, .slice a len ca], .slice (dropA wa wc i) (wl - i) (wc - i)] W fun e w' => e = .returned (.bool (wholeB (ws.drop i) n)) ∧ Below W.heap.size W w') := fun W i h hi => by
    have hl : (ws.drop i).length = wl - i := by rw [List.length_drop]; omega
    have hw' := hw
    rw [← hwl] at hw'
    have h1 := refWhole_any d (ws.drop i) (by omega) n (.slice a n.kids.length ca) (dropA wa wc i) (wc - i) W hdp (kdx_below hz h) (by rw [hl]; exact wrd_below (wrd_drop hw' hwl hi) h)
    unfold ndV at h1
    rw [hl, ← hnk, ← hns, ← hlen] at h1
    exact h1
  have hwlc : wl ≤ wc := by
    obtain ⟨a', c', e1, hc, _⟩ := hw
    have e3 : wa = a' ∧ wc = c' := by simpa using e1
    omega
  unfold ndV
  rw [← hnk, ← hns, ← hlen] at hW hbA ⊢
  rw [← hwl]
  have hwlen : wl < 64 := by omega
  have HB0 : Hid (Below w.heap.size w W) := hB0
  have HBA : Hid (Box W w.heap.size nk ns (.slice a len ca)) := hbA
  obtain ⟨b, hb⟩ : ∃ x, x = suffB ws n := ⟨_, rfl⟩
  rw [← hb]
  have HBB : Hid (b = suffB ws n) := hb
  clear hnk hns hlen hwl hz hw hB0 hb hbA hL
  go_enter Tryd.func34, Tryd.ntmps34
  go_wp2
  go_loopw [5] (fun x wr => ∃ (i : Nat), i ≤ wl + 1 ∧ x = .int .i64 (i : Int) ∧ Hid (∀ m, m < i → ¬ wholeP (ws.drop m) n) ∧ Hid (Below W.heap.size W wr)) (fun x _ => wl + 1 - (intOf x).toNat)
  case atStart => exact ⟨0, Nat.zero_le _, rfl, (fun m h => absurd h (Nat.not_lt_zero m)), (by rw [hW]; exact Below.refl _ _)⟩
  case round =>
    obtain ⟨i, hi, rfl, HV, HBr⟩ := hrel
    have HBWr : Hid (Below w.heap.size w wr) := below_after HB0.out HBr.out
    by_cases hil : i ≤ wl
    · have hil' : decide ((i : Int) ≤ (wl : Int)) = true := by simp; omega
      have z0 := (HBA.out.below HBr.out).c0
      have z1 := (HBA.out.below HBr.out).c1
      have z2 := (HBA.out.below HBr.out).c2
      have HKA : Hid (∀ W, Below wr.heap.size wr W → W.cell? ⟨w.heap.size, 0, none⟩ = some (.int .i64 nk) ∧ W.cell? ⟨w.heap.size, 1, none⟩ = some (.int .i64 ns) ∧ W.cell? ⟨w.heap.size, 2, none⟩ = some (.slice a len ca)) := fun W h => ⟨((HBA.out.below HBr.out).below h).c0, ((HBA.out.below HBr.out).below h).c1, ((HBA.out.below HBr.out).below h).c2⟩
      have hi0 : (0 : Int) ≤ (i : Int) := by omega
      have hi1 : (i : Int) ≤ (wc : Int) := by omega
      have hi2 : (i : Int) ≤ (wl : Int) := by omega
      obtain ⟨x, hx⟩ : ∃ x, x = wholeB (ws.drop i) n := ⟨_, rfl⟩
      have HX : Hid (x = wholeB (ws.drop i) n) := hx
      have HS1 : Hid (∀ W, Below w.heap.size w W → Calls Tryd.prog 33 #[.agg #[.int .i64 nk, .int .i64 ns, .slice a len ca], .slice (dropA wa wc i) (wl - i) (wc - i)] W fun e w' => e = .returned (.bool x) ∧ Below W.heap.size W w') := fun W h => by rw [hx]; exact HS.out W i h hil
      have HYES : Hid (x = true → b = true) := fun h => by rw [HBB.out, suffB_iff, suff_whole]; exact ⟨i, by rw [← HWL.out]; exact hil, wholeB_iff.1 (by rw [← HX.out]; exact h)⟩
      have HNO : Hid (x = false → ∀ m, m < i + 1 → ¬ wholeP (ws.drop m) n) := fun h m hm hp => by
        rcases Nat.lt_or_ge m i with q | q
        · exact HV.out m q hp
        · obtain rfl : m = i := by omega
          have := wholeB_iff.2 hp
          rw [← HX.out, h] at this
          cases this
      clear hx HS
      cases wa with
      | none =>
        have hwc0 : wc = 0 := hnil rfl
        obtain rfl : i = 0 := by omega
        obtain rfl : wl = 0 := by omega
        subst hwc0
        have HS2 : Hid (∀ W, Below w.heap.size w W → Calls Tryd.prog 33 #[.agg #[.int .i64 nk, .int .i64 ns, .slice a len ca], .slice none 0 0] W fun e w' => e = .returned (.bool x) ∧ Below W.heap.size W w') := HS1
        go_wp2
        go_region_held3 (fun W => W.cell? ⟨w.heap.size, 0, none⟩ = some (.int .i64 nk) ∧ W.cell? ⟨w.heap.size, 1, none⟩ = some (.int .i64 ns) ∧ W.cell? ⟨w.heap.size, 2, none⟩ = some (.slice a len ca)) (first | go_keep | exact HKA.out _ (below_drew1 hq1)) ((go_at_call 33; refine (HS2.out _ (below_after HBWr.out (below_drewN' (Below.refl _ _) 1))).mono ?_; rintro e w4 ⟨rfl, hq1⟩))
        have HB4 : Hid (Below wr.heap.size wr w4) := below_drew1 hq1
        clear hq1 z0 z1 z2
        cases x with
        | true =>
          obtain rfl : b = true := HYES.out rfl
          go_wp2
          go_ret
          exact ⟨rfl, below_after HBWr.out HB4.out⟩
        | false =>
          have HV2 : Hid (∀ m, m < 0 + 1 → ¬ wholeP (ws.drop m) n) := HNO.out rfl
          have HB5 : Hid (Below W.heap.size W w4) := below_after HBr.out HB4.out
          go_wp2
          go_roundw
          case rel => exact ⟨0 + 1, by omega, by go_num, HV2, HB5⟩
          case measure => simp [intOf]
      | some ad =>
        by_cases hwci : wc = i
        · subst hwci
          obtain rfl : wl = wc := by omega
          have HS2 : Hid (∀ W, Below w.heap.size w W → Calls Tryd.prog 33 #[.agg #[.int .i64 nk, .int .i64 ns, .slice a len ca], .slice (some ad) 0 0] W fun e w' => e = .returned (.bool x) ∧ Below W.heap.size W w') := by
            have := HS1.out
            unfold dropA at this
            simp only [if_pos, Nat.sub_self] at this
            exact this
          go_wp2
          go_region_held3 (fun W => W.cell? ⟨w.heap.size, 0, none⟩ = some (.int .i64 nk) ∧ W.cell? ⟨w.heap.size, 1, none⟩ = some (.int .i64 ns) ∧ W.cell? ⟨w.heap.size, 2, none⟩ = some (.slice a len ca)) (first | go_keep | exact HKA.out _ (below_drew1 hq1)) ((go_at_call 33; refine (HS2.out _ (below_after HBWr.out (below_drewN' (Below.refl _ _) 1))).mono ?_; rintro e w4 ⟨rfl, hq1⟩))
          have HB4 : Hid (Below wr.heap.size wr w4) := below_drew1 hq1
          clear hq1 z0 z1 z2
          cases x with
          | true =>
            obtain rfl : b = true := HYES.out rfl
            go_wp2
            go_ret
            exact ⟨rfl, below_after HBWr.out HB4.out⟩
          | false =>
            have HV2 : Hid (∀ m, m < wl + 1 → ¬ wholeP (ws.drop m) n) := HNO.out rfl
            have HB5 : Hid (Below W.heap.size W w4) := below_after HBr.out HB4.out
            go_wp2
            go_roundw
            case rel => exact ⟨wl + 1, by omega, by go_num, HV2, HB5⟩
            case measure => simp [intOf]
        · have HS2 : Hid (∀ W, Below w.heap.size w W → Calls Tryd.prog 33 #[.agg #[.int .i64 nk, .int .i64 ns, .slice a len ca], .slice (some (ad.add i)) (wl - i) (wc - i)] W fun e w' => e = .returned (.bool x) ∧ Below W.heap.size W w') := by
            have := HS1.out
            unfold dropA at this
            simp only [if_neg hwci] at this
            exact this
          go_wp2
          go_region_held3 (fun W => W.cell? ⟨w.heap.size, 0, none⟩ = some (.int .i64 nk) ∧ W.cell? ⟨w.heap.size, 1, none⟩ = some (.int .i64 ns) ∧ W.cell? ⟨w.heap.size, 2, none⟩ = some (.slice a len ca)) (first | go_keep | exact HKA.out _ (below_drew1 hq1)) ((go_at_call 33; refine (HS2.out _ (below_after HBWr.out (below_drewN' (Below.refl _ _) 1))).mono ?_; rintro e w4 ⟨rfl, hq1⟩))
          have HB4 : Hid (Below wr.heap.size wr w4) := below_drew1 hq1
          clear hq1 z0 z1 z2
          cases x with
          | true =>
            obtain rfl : b = true := HYES.out rfl
            go_wp2
            go_ret
            exact ⟨rfl, below_after HBWr.out HB4.out⟩
          | false =>
            have HV2 : Hid (∀ m, m < i + 1 → ¬ wholeP (ws.drop m) n) := HNO.out rfl
            have HB5 : Hid (Below W.heap.size W w4) := below_after HBr.out HB4.out
            go_wp2
            go_roundw
            case rel => exact ⟨i + 1, by omega, by go_num, HV2, HB5⟩
            case measure => simp [intOf]; omega
    · obtain rfl : i = wl + 1 := by omega
      have hil' : decide (((wl + 1 : Nat) : Int) ≤ (wl : Int)) = false := by simp; omega
      have hbf : b = false := by
        rw [HBB.out]
        cases hq : suffB ws n with
        | false => rfl
        | true =>
          obtain ⟨m, hm, hp⟩ := suff_whole.1 (suffB_iff.1 hq)
          exact absurd hp (HV.out m (by rw [HWL.out]; omega))
      subst hbf
      go_wp2
      go_ret
      exact ⟨rfl, HBWr.out⟩

end Go.Proofs.YtehkaiohmcenbaaDoor
