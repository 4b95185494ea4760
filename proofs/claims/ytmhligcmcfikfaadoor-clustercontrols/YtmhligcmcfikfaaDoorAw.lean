/-
  scansionref01.SameInts of two like slices; scansionlaw05.awake.
-/
import Derived.Test.YtmhligcmcfikfaaDoorAll
namespace Go.Proofs.YtmhligcmcfikfaaDoor
open Go.RowKit
set_option linter.unusedVariables false

set_option maxRecDepth 100000 in
set_option maxHeartbeats 2000000 in
theorem sameInts_any (zs : List Int) (hlen : zs.length ≤ 20000) (va vb : Value) (w : World) (ha : IntsAt w.heap.size w va zs) (hb : IntsAt w.heap.size w vb zs) :
    Calls Tryd.prog 11 #[va, vb] w fun e w' => e = .returned (.bool true) ∧ Below w.heap.size w w' := by
  obtain ⟨a, ca, rfl, hca, hia⟩ := ha
  obtain ⟨b, cb, rfl, hcb, hib⟩ := hb
  have HA : Hid (∀ i, (h : i < zs.length) → ∃ g off, a = some ⟨g, off, none⟩ ∧ g < w.heap.size ∧ w.cell? ⟨g, off + i, none⟩ = some (.int .i64 zs[i])) := hia
  have HB : Hid (∀ i, (h : i < zs.length) → ∃ g off, b = some ⟨g, off, none⟩ ∧ g < w.heap.size ∧ w.cell? ⟨g, off + i, none⟩ = some (.int .i64 zs[i])) := hib
  clear hia hib
  have hneq : ((zs.length : Int) != (zs.length : Int)) = false := by simp
  go_enter Tryd.func11, Tryd.ntmps11
  go_wp2
  go_loopw [5] (fun i wr => ∃ k : Nat, k ≤ zs.length ∧ i = .int .i64 k ∧ ∃ nd, wr = w.drewN nd) (fun i _ => zs.length - (intOf i).toNat)
  case atStart => exact ⟨0, Nat.zero_le _, rfl, 0, rfl⟩
  case round =>
    obtain ⟨k, hk, rfl, nd, rfl⟩ := hrel
    by_cases hlt : k < zs.length
    · obtain ⟨ga, oa, rfl, hga, a0⟩ := HA.out k hlt
      obtain ⟨gb, ob, rfl, hgb, b0⟩ := HB.out k hlt
      obtain ⟨z, hz⟩ : ∃ z : Int, z = zs[k] := ⟨_, rfl⟩
      rw [← hz] at a0 b0
      clear hz
      have hk0 : (0 : Int) ≤ (k : Int) := by omega
      have hk1 : (k : Int) < (zs.length : Int) := by omega
      have hzz : (z != z) = false := by simp
      go_wp2
      go_quiet (fail)
      go_wp2
      go_roundw
      case rel => exact ⟨k + 1, by omega, by go_num, _, rfl⟩
      case measure => simp [intOf]; omega
    · obtain rfl : k = zs.length := by omega
      go_wp2
      go_ret
      exact ⟨rfl, below_drewN' (Below.refl _ _) _⟩
/-- A slice that has just been made. -/
theorem ints_new (w : World) (zs : List Int) (cs : Array Value) (h : cs = (zs.map (Value.int .i64)).toArray) : IntsAt (w.alloc (.cells cs 3)).heap.size (w.alloc (.cells cs 3)) (.slice (some ⟨w.heap.size, 0, none⟩) zs.length zs.length) zs := by
  refine ⟨_, _, rfl, Nat.le_refl _, fun i hi => ⟨w.heap.size, 0, rfl, by simp, ?_⟩⟩
  rw [cell_of_row _ w.heap.size (0 + i) cs 3 (0, 0) (heap_new' w _), h]
  simp [hi]
theorem all_row {w : World} {base : Nat} {v : Value} {ys : List Nat} (h : w.ownsRow base 3 1 v ys.length (cellsP5 ys)) : IntsAt w.heap.size w v (intsP ys) := by
  refine ints_of_row (base := base) ?_
  rw [intsP_length]
  exact h
set_option maxRecDepth 100000 in
theorem awake_all : intsP (allL [65, 769, 66]) = [0, 2, 3] := by kernel_rfl

set_option maxRecDepth 100000 in
set_option maxHeartbeats 8000000 in
theorem awake_c (w : World) (hs : Scripts w) (h0 : 0 < w.heap.size) :
    Calls Tryd.prog 9 #[] w fun e w' => e = .returned (.bool true) ∧ Below w.heap.size w w' := by
  have HS : Hid (Scripts w) := hs
  have HH0 : Hid (0 < w.heap.size) := h0
  clear hs h0
  go_enter Tryd.func9, Tryd.ntmps9
  go_wp2_with fail
  refine (new_ship w HS.out HH0.out).mono ?_
  rintro e w1 ⟨g, rfl, hd, hB1⟩
  obtain ⟨HD1, HB1⟩ : Hid (Ship w1 g) ∧ Hid (Below w.heap.size w w1) := ⟨hd, hB1⟩
  clear hd hB1
  go_wp2_with fail
  have HI1 := ints_new w1 [65, 769, 66] #[.int .i64 65, .int .i64 769, .int .i64 66] rfl
  have hB2 : Below w1.heap.size w1 (w1.alloc (.cells #[.int .i64 65, .int .i64 769, .int .i64 66] 3)) := (Below.refl _ _).alloc (Nat.le_refl _) _
  refine (all_any g _ [65, 769, 66] (by decide) _ (HD1.out.below hB2) HI1).mono ?_
  rintro e w2 ⟨v2, rfl, ho2, hB3⟩
  have HB2 : Hid (Below w.heap.size w w2) := HB1.out.trans ((hB2.trans (hB3.mono hB2.size)).mono HB1.out.size)
  have hI2 := all_row ho2
  rw [awake_all] at hI2
  have HI2 : Hid (IntsAt w2.heap.size w2 v2 [0, 2, 3]) := hI2
  clear hB3 ho2 hI2 HI1 hB2
  go_wp2_with fail
  have hB4 : Below w2.heap.size w2 (w2.alloc (.cells #[.int .i64 0, .int .i64 2, .int .i64 3] 3)) := (Below.refl _ _).alloc (Nat.le_refl _) _
  refine (sameInts_any [0, 2, 3] (by decide) v2 _ _ (HI2.out.on hB4) (ints_new w2 [0, 2, 3] #[.int .i64 0, .int .i64 2, .int .i64 3] rfl)).mono ?_
  rintro e w3 ⟨rfl, hB5⟩
  have HB3 : Hid (Below w.heap.size w w3) := HB2.out.trans ((hB4.trans (hB5.mono hB4.size)).mono HB2.out.size)
  clear hB5 hB4
  go_wp2
  go_ret
  exact ⟨rfl, HB3.out⟩
end Go.Proofs.YtmhligcmcfikfaaDoor
