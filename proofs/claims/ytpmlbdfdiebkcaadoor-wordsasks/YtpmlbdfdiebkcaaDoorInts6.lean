/-
  Slices of ints, and parts of them; what the words' small functions answer.
-/
import Derived.Test.YtpmlbdfdiebkcaaDoorWdMath
import Derived.WalkMore
namespace Go.Proofs.YtpmlbdfdiebkcaaDoor
open Go.RowKit
set_option linter.unusedVariables false

/-- The slice value v holds the ints l, in a block below n. -/
def IntsAt (n : Nat) (w : World) (v : Value) (l : List Int) : Prop :=
  ∃ a cap, v = .slice a l.length cap ∧ l.length ≤ cap ∧ ∀ i, (h : i < l.length) → ∃ g off, a = some ⟨g, off, none⟩ ∧ g < n ∧ w.cell? ⟨g, off + i, none⟩ = some (.int .i64 l[i])
theorem IntsAt.below {n : Nat} {w w' : World} {v : Value} {l : List Int} (h : IntsAt n w v l) (hb : Below n w w') : IntsAt n w' v l := by
  obtain ⟨a, cap, rfl, hc, hi⟩ := h
  refine ⟨a, cap, rfl, hc, fun i hlt => ?_⟩
  obtain ⟨g, off, rfl, hg, hj⟩ := hi i hlt
  exact ⟨g, off, rfl, hg, (hb.cell (p := ⟨g, off + i, none⟩) hg).trans hj⟩
theorem IntsAt.mono {n m : Nat} {w : World} {v : Value} {l : List Int} (h : IntsAt n w v l) (hm : n ≤ m) : IntsAt m w v l := by
  obtain ⟨a, cap, rfl, hc, hi⟩ := h
  refine ⟨a, cap, rfl, hc, fun i hlt => ?_⟩
  obtain ⟨g, off, rfl, hg, hj⟩ := hi i hlt
  exact ⟨g, off, rfl, Nat.lt_of_lt_of_le hg hm, hj⟩
/-- Behind whatever leaves the blocks below. -/
theorem IntsAt.on {w w' : World} {v : Value} {l : List Int} (h : IntsAt w.heap.size w v l) (hb : Below w.heap.size w w') : IntsAt w'.heap.size w' v l := (h.below hb).mono hb.size
/-- A part of a slice. -/
theorem IntsAt.part {n : Nat} {w : World} {g off cap : Nat} {l : List Int} (h : IntsAt n w (.slice (some ⟨g, off, none⟩) l.length cap) l) {a b : Nat} (hab : a ≤ b) (hb : b ≤ l.length) : IntsAt n w (.slice (some ⟨g, off + a, none⟩) (b - a) (cap - a)) ((l.take b).drop a) := by
  obtain ⟨x, c, e, hc, hi⟩ := h
  obtain ⟨rfl, rfl⟩ : x = some ⟨g, off, none⟩ ∧ c = cap := by cases e; exact ⟨rfl, rfl⟩
  have hlen : ((l.take b).drop a).length = b - a := by rw [List.length_drop, List.length_take]; omega
  refine ⟨_, _, by rw [hlen], by rw [hlen]; omega, fun i hlt => ?_⟩
  rw [hlen] at hlt
  obtain ⟨g', off', e', hg, hj⟩ := hi (a + i) (by omega)
  obtain ⟨rfl, rfl⟩ : g = g' ∧ off = off' := by cases e'; exact ⟨rfl, rfl⟩
  refine ⟨g, off + a, rfl, hg, ?_⟩
  rw [Nat.add_assoc, hj, List.getElem_drop, List.getElem_take]
theorem IntsAt.front {n : Nat} {w : World} {g off cap : Nat} {l : List Int} (h : IntsAt n w (.slice (some ⟨g, off, none⟩) l.length cap) l) {b : Nat} (hb : b ≤ l.length) : IntsAt n w (.slice (some ⟨g, off, none⟩) b cap) (l.take b) := by
  have := h.part (Nat.zero_le b) hb
  rw [List.drop_zero] at this
  exact this
theorem ints_of_row {w : World} {base : Nat} {v : Value} {zs : List Int} (h : w.ownsRow base 3 1 v zs.length (zs.map (Value.int .i64))) : IntsAt w.heap.size w v zs := by
  rcases h.2 with ⟨rfl, h0⟩ | ⟨g, cap, cur, rfl, hb, hg, hc, hm, hs, ht⟩
  · exact ⟨none, 0, by rw [h0], by omega, fun i hi => by omega⟩
  · refine ⟨_, cap, rfl, hc, fun i hi => ⟨g, 0, rfl, (Array.getElem?_eq_some_iff.1 hg).1, ?_⟩⟩
    have := h.cells (g := g) rfl i (.int .i64 zs[i]) (by simp [hi])
    rw [addr_add] at this
    exact this

/-- A slice that has just been made. -/
theorem ints_new (w : World) (zs : List Int) (cs : Array Value) (h : cs = (zs.map (Value.int .i64)).toArray) : IntsAt (w.alloc (.cells cs 3)).heap.size (w.alloc (.cells cs 3)) (.slice (some ⟨w.heap.size, 0, none⟩) zs.length zs.length) zs := by
  refine ⟨_, _, rfl, Nat.le_refl _, fun i hi => ⟨w.heap.size, 0, rfl, by simp, ?_⟩⟩
  rw [cell_of_row _ w.heap.size (0 + i) cs 3 (0, 0) (heap_new' w _), h]
  simp [hi]
theorem meas_up {N i : Nat} (h : i < N) (hb : i < 4611686018427387904) : N - (intOf (.int .i64 (wrap64 ((i : Int) + 1)))).toNat < N - (intOf (.int .i64 (i : Int))).toNat := by
  rw [wrap_next hb]; simp only [intOf]; omega
theorem meas_up' {N i : Nat} (h : i < N) : N - (intOf (.int .i64 ((i + 1 : Nat) : Int))).toNat < N - (intOf (.int .i64 (i : Int))).toNat := by
  simp only [intOf]; omega

set_option maxRecDepth 100000 in
set_option maxHeartbeats 4000000 in
theorem index_any (ks : List Int) (k : Int) (v : Value) (w : World) (hv : IntsAt w.heap.size w v ks) (hn : ks.length ≤ 100) :
    Calls Tryd.prog 84 #[v, .int .i64 k] w fun e w' => ∃ z : Int, e = .returned (.int .i64 z) ∧ decide (0 ≤ z) = ks.contains k ∧ w = w' := by
  obtain ⟨a, cap, rfl, hcap, hc⟩ := hv
  have HC : Hid (∀ i, (h : i < ks.length) → ∃ g off, a = some ⟨g, off, none⟩ ∧ g < w.heap.size ∧ w.cell? ⟨g, off + i, none⟩ = some (.int .i64 ks[i])) := hc
  have HN : Hid (ks.length ≤ 100) := hn
  clear hc hn
  go_enter Tryd.func84, Tryd.ntmps84
  go_wp2
  go_loopw [8] (fun x wr => ∃ i : Nat, i ≤ ks.length ∧ x = .int .i64 (i : Int) ∧ Hid ((ks.take i).contains k = false) ∧ wr = w) (fun x _ => ks.length - (intOf x).toNat)
  case atStart => exact ⟨0, Nat.zero_le _, rfl, by show _ = _; rfl, rfl⟩
  case round =>
    obtain ⟨i, hi, rfl, HI, rfl⟩ := hrel
    by_cases hlt : i < ks.length
    · obtain ⟨gi, off, rfl, hg, c0⟩ := HC.out i hlt
      obtain ⟨r, hr⟩ : ∃ r, r = ks[i] := ⟨_, rfl⟩
      have HR : Hid (r = ks[i]) := hr
      rw [← hr] at c0
      have hi1 : (i : Int) < (ks.length : Int) := by omega
      have HT : Hid (ks.take (i + 1) = ks.take i ++ [r]) := by
        show _ = _
        rw [List.take_succ_eq_append_getElem hlt, hr]
      have hwn : IntKind.i64.wrap ((i : Int) + 1) = ((i + 1 : Nat) : Int) := (IntWalk.i64_in _ (by have := HN.out; omega)).trans (by omega)
      clear hr
      by_cases hk : k = r
      · subst hk
        have hke : (k == k) = true := by simp
        go_wp2
        go_ret
        refine ⟨(i : Int), rfl, ?_, by first | rfl | trivial⟩
        rw [decide_eq_true (by omega)]
        symm
        rw [List.contains_iff_mem, HR.out]
        exact List.getElem_mem _
      · have hke : (k == r) = false := by simpa using hk
        have HKE : Hid ((k == r) = false) := hke
        clear hk
        go_wp2
        go_roundw
        case rel =>
          refine ⟨i + 1, by omega, by first | rfl | rw [hwn], ?_, by first | rfl | trivial⟩
          show _ = _
          have h1 := HI.out
          rw [HT.out]
          rw [← Bool.not_eq_true, List.contains_iff_mem] at h1 ⊢
          rw [List.mem_append, List.mem_singleton]
          have h2 := HKE.out
          rw [beq_eq_false_iff_ne] at h2
          exact fun h => h.elim h1 h2
        case measure => first | exact meas_up' hlt | exact meas_up hlt (by have := HN.out; omega)
    · obtain rfl : i = ks.length := by omega
      go_wp2
      go_ret
      refine ⟨-1, rfl, ?_, by first | rfl | trivial⟩
      have := HI.out
      rw [List.take_length] at this
      rw [this]; rfl

theorem isOne_any (ks : List Int) (k : Int) (v : Value) (w : World) (hv : IntsAt w.heap.size w v ks) (hn : ks.length ≤ 100) :
    Calls Tryd.prog 61 #[.int .i64 k, v] w fun e w' => e = .returned (.bool (ks.contains k)) ∧ w = w' := by
  have HC : Hid (Calls Tryd.prog 81 #[v, .int .i64 k] w fun e w' => e = .returned (.bool (ks.contains k)) ∧ w = w') := by
    have HI : Hid (Calls Tryd.prog 84 #[v, .int .i64 k] w fun e w' => ∃ z : Int, e = .returned (.int .i64 z) ∧ decide (0 ≤ z) = ks.contains k ∧ w = w') := index_any ks k v w hv hn
    obtain ⟨E, hE⟩ : ∃ E, E = ks.contains k := ⟨_, rfl⟩
    rw [← hE] at HI ⊢
    clear hE hv hn
    show Calls _ _ _ _ _
    go_enter Tryd.func81, Tryd.ntmps81
    go_wp2_with fail
    refine HI.out.mono ?_
    rintro e w1 ⟨z, rfl, hz, rfl⟩
    cases E with
    | true =>
      have hz2 : 0 ≤ z := of_decide_eq_true hz
      clear hz
      go_wp2
      go_ret
      exact ⟨rfl, rfl⟩
    | false =>
      go_wp2
      go_ret
      exact ⟨rfl, rfl⟩
  obtain ⟨E, hE⟩ : ∃ E, E = ks.contains k := ⟨_, rfl⟩
  rw [← hE] at HC ⊢
  obtain ⟨a, cap, rfl, hcap, hc⟩ := hv
  clear hE hc hn
  go_enter Tryd.func61, Tryd.ntmps61
  go_wp2_with fail
  refine HC.out.mono ?_
  rintro e w1 ⟨rfl, rfl⟩
  go_wp2
  go_ret
  exact ⟨rfl, rfl⟩
theorem line_any (k : Int) (w : World) : Calls Tryd.prog 38 #[.int .i64 k] w fun e w' => e = .returned (.bool (lineK k)) ∧ Below w.heap.size w w' := by
  have HE : Hid (([1, 2, 3] : List Int).contains k = lineK k) := by show _ = _; rw [Bool.eq_iff_iff]; simp [lineK, or_assoc]
  go_enter Tryd.func38, Tryd.ntmps38
  go_wp2_with fail
  refine (isOne_any [1, 2, 3] k _ _ (ints_new w [1, 2, 3] #[.int .i64 1, .int .i64 2, .int .i64 3] rfl) (by decide)).mono ?_
  rintro e w1 ⟨rfl, rfl⟩
  rw [HE.out]
  go_wp2
  go_ret
  exact ⟨rfl, (Below.refl _ _).alloc (Nat.le_refl _) _⟩
theorem mark_any (k : Int) (w : World) : Calls Tryd.prog 39 #[.int .i64 k] w fun e w' => e = .returned (.bool (markK k)) ∧ Below w.heap.size w w' := by
  have HE : Hid (([4, 6, 5] : List Int).contains k = markK k) := by show _ = _; rw [Bool.eq_iff_iff]; simp [markK, or_assoc]
  go_enter Tryd.func39, Tryd.ntmps39
  go_wp2_with fail
  refine (isOne_any [4, 6, 5] k _ _ (ints_new w [4, 6, 5] #[.int .i64 4, .int .i64 6, .int .i64 5] rfl) (by decide)).mono ?_
  rintro e w1 ⟨rfl, rfl⟩
  rw [HE.out]
  go_wp2
  go_ret
  exact ⟨rfl, (Below.refl _ _).alloc (Nat.le_refl _) _⟩
theorem letter_any (k : Int) (w : World) : Calls Tryd.prog 69 #[.int .i64 k] w fun e w' => e = .returned (.bool (letK k)) ∧ Below w.heap.size w w' := by
  have HE : Hid (([10, 9] : List Int).contains k = letK k) := by show _ = _; rw [Bool.eq_iff_iff]; simp [letK]
  go_enter Tryd.func69, Tryd.ntmps69
  go_wp2_with fail
  refine (isOne_any [10, 9] k _ _ (ints_new w [10, 9] #[.int .i64 10, .int .i64 9] rfl) (by decide)).mono ?_
  rintro e w1 ⟨rfl, rfl⟩
  rw [HE.out]
  go_wp2
  go_ret
  exact ⟨rfl, (Below.refl _ _).alloc (Nat.le_refl _) _⟩
theorem solid_any (k : Int) (w : World) : Calls Tryd.prog 75 #[.int .i64 k] w fun e w' => e = .returned (.bool (solidK k)) ∧ Below w.heap.size w w' := by
  have HE : Hid (([10, 9, 16, 8] : List Int).contains k = solidK k) := by show _ = _; rw [Bool.eq_iff_iff]; simp [solidK, or_assoc]
  go_enter Tryd.func75, Tryd.ntmps75
  go_wp2_with fail
  refine (isOne_any [10, 9, 16, 8] k _ _ (ints_new w [10, 9, 16, 8] #[.int .i64 10, .int .i64 9, .int .i64 16, .int .i64 8] rfl) (by decide)).mono ?_
  rintro e w1 ⟨rfl, rfl⟩
  rw [HE.out]
  go_wp2
  go_ret
  exact ⟨rfl, (Below.refl _ _).alloc (Nat.le_refl _) _⟩
theorem inlet_any (k : Int) (w : World) : Calls Tryd.prog 70 #[.int .i64 k] w fun e w' => e = .returned (.bool (inLetK k)) ∧ Below w.heap.size w w' := by
  have HE : Hid (([14, 13, 11] : List Int).contains k = inLetK k) := by show _ = _; rw [Bool.eq_iff_iff]; simp [inLetK, or_assoc]
  go_enter Tryd.func70, Tryd.ntmps70
  go_wp2_with fail
  refine (isOne_any [14, 13, 11] k _ _ (ints_new w [14, 13, 11] #[.int .i64 14, .int .i64 13, .int .i64 11] rfl) (by decide)).mono ?_
  rintro e w1 ⟨rfl, rfl⟩
  rw [HE.out]
  go_wp2
  go_ret
  exact ⟨rfl, (Below.refl _ _).alloc (Nat.le_refl _) _⟩
theorem innum_any (k : Int) (w : World) : Calls Tryd.prog 74 #[.int .i64 k] w fun e w' => e = .returned (.bool (inNumK k)) ∧ Below w.heap.size w w' := by
  have HE : Hid (([15, 13, 11] : List Int).contains k = inNumK k) := by show _ = _; rw [Bool.eq_iff_iff]; simp [inNumK, or_assoc]
  go_enter Tryd.func74, Tryd.ntmps74
  go_wp2_with fail
  refine (isOne_any [15, 13, 11] k _ _ (ints_new w [15, 13, 11] #[.int .i64 15, .int .i64 13, .int .i64 11] rfl) (by decide)).mono ?_
  rintro e w1 ⟨rfl, rfl⟩
  rw [HE.out]
  go_wp2
  go_ret
  exact ⟨rfl, (Below.refl _ _).alloc (Nat.le_refl _) _⟩
theorem heb_any (k : Int) (w : World) : Calls Tryd.prog 71 #[.int .i64 k] w fun e w' => e = .returned (.bool (hebK k)) ∧ Below w.heap.size w w' := by
  unfold hebK
  obtain ⟨E, hE⟩ : ∃ E, E = (k == 9) := ⟨_, rfl⟩
  rw [← hE]
  have hE' : (k == 9) = E := hE.symm
  clear hE
  cases E
  · go_enter Tryd.func71, Tryd.ntmps71
    go_wp2
    go_ret
    exact ⟨rfl, Below.refl _ _⟩
  · obtain rfl : k = 9 := by simpa using hE'
    clear hE'
    go_enter Tryd.func71, Tryd.ntmps71
    go_wp2
    go_ret
    exact ⟨rfl, Below.refl _ _⟩
theorem num_any (k : Int) (w : World) : Calls Tryd.prog 73 #[.int .i64 k] w fun e w' => e = .returned (.bool (numK k)) ∧ Below w.heap.size w w' := by
  unfold numK
  obtain ⟨E, hE⟩ : ∃ E, E = (k == 16) := ⟨_, rfl⟩
  rw [← hE]
  have hE' : (k == 16) = E := hE.symm
  clear hE
  cases E
  · go_enter Tryd.func73, Tryd.ntmps73
    go_wp2
    go_ret
    exact ⟨rfl, Below.refl _ _⟩
  · obtain rfl : k = 16 := by simpa using hE'
    clear hE'
    go_enter Tryd.func73, Tryd.ntmps73
    go_wp2
    go_ret
    exact ⟨rfl, Below.refl _ _⟩
theorem inheb_any (k : Int) (w : World) : Calls Tryd.prog 72 #[.int .i64 k] w fun e w' => e = .returned (.bool (inHebK k)) ∧ Below w.heap.size w w' := by
  unfold inHebK
  obtain ⟨E, hE⟩ : ∃ E, E = (k == 12) := ⟨_, rfl⟩
  rw [← hE]
  have hE' : (k == 12) = E := hE.symm
  clear hE
  cases E
  · go_enter Tryd.func72, Tryd.ntmps72
    go_wp2
    go_ret
    exact ⟨rfl, Below.refl _ _⟩
  · obtain rfl : k = 12 := by simpa using hE'
    clear hE'
    go_enter Tryd.func72, Tryd.ntmps72
    go_wp2
    go_ret
    exact ⟨rfl, Below.refl _ _⟩
end Go.Proofs.YtpmlbdfdiebkcaaDoor
