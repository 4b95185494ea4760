/-
  scansionref01.SameInts of two like slices; scansionlaw06.awake.
-/
import Derived.Test.YtpmlbdfdiebkcaaDoorRunes6
import Derived.Lib.SlBytesConst
namespace Go.Proofs.YtpmlbdfdiebkcaaDoor
open Go.RowKit
set_option linter.unusedVariables false

set_option maxRecDepth 100000 in
set_option maxHeartbeats 2000000 in
theorem sameInts_any (zs : List Int) (hlen : zs.length ≤ 20000) (va vb : Value) (w : World) (ha : IntsAt w.heap.size w va zs) (hb : IntsAt w.heap.size w vb zs) :
    Calls Tryd.prog 11 #[va, vb] w fun e w' => e = .returned (.bool true) ∧ Below w.heap.size w w' := by
  obtain ⟨a, ca, rfl, hca, hia⟩ := ha
  obtain ⟨b, cb, rfl, hcb, hib⟩ := hb
  have HA : Hid (∀ i, (h : i < zs.length) → ∃ g off, a = some ⟨g, off, none⟩ ∧ g < w.heap.size ∧ w.cell? ⟨g, off + i, none⟩ = some (.int .i64 zs[i])) := hia
  have HB : Hid (∀ i, (h : i < zs.length) → ∃ g off, b = some ⟨g, off, none⟩ ∧ g < w.heap.size ∧ w.cell? ⟨g, off + i, none⟩ = some (.int .i64 zs[i])) := hib
  clear hia hib
  have hneq : ((zs.length : Int) != (zs.length : Int)) = false := by simp
  go_enter Tryd.func11, Tryd.ntmps11
  go_wp2
  go_loopw [5] (fun i wr => ∃ k : Nat, k ≤ zs.length ∧ i = .int .i64 k ∧ ∃ nd, wr = w.drewN nd) (fun i _ => zs.length - (intOf i).toNat)
  case atStart => exact ⟨0, Nat.zero_le _, rfl, 0, rfl⟩
  case round =>
    obtain ⟨k, hk, rfl, nd, rfl⟩ := hrel
    by_cases hlt : k < zs.length
    · obtain ⟨ga, oa, rfl, hga, a0⟩ := HA.out k hlt
      obtain ⟨gb, ob, rfl, hgb, b0⟩ := HB.out k hlt
      obtain ⟨z, hz⟩ : ∃ z : Int, z = zs[k] := ⟨_, rfl⟩
      rw [← hz] at a0 b0
      clear hz
      have hk0 : (0 : Int) ≤ (k : Int) := by omega
      have hk1 : (k : Int) < (zs.length : Int) := by omega
      have hzz : (z != z) = false := by simp
      go_wp2
      go_quiet (fail)
      go_wp2
      go_roundw
      case rel => exact ⟨k + 1, by omega, by go_num, _, rfl⟩
      case measure => simp [intOf]; omega
    · obtain rfl : k = zs.length := by omega
      go_wp2
      go_ret
      exact ⟨rfl, below_drewN' (Below.refl _ _) _⟩
theorem all_row {w : World} {base : Nat} {v : Value} {ys : List Nat} (h : w.ownsRow base 3 1 v ys.length (cellsP5 ys)) : IntsAt w.heap.size w v (intsP ys) := by
  refine ints_of_row (base := base) ?_
  rw [intsP_length]
  exact h
def canL : List Int := [99, 97, 110, 39, 116, 32, 51, 46, 53]
set_option maxRecDepth 100000 in
theorem awake_all : intsP (allL canL) = [0, 5, 6, 9] := by kernel_rfl

set_option maxRecDepth 100000 in
set_option maxHeartbeats 8000000 in
theorem awake_w (w : World) (hs : Scripts w) (h0 : 0 < w.heap.size) :
    Calls Tryd.prog 9 #[] w fun e w' => e = .returned (.bool true) ∧ Below w.heap.size w w' := by
  have HS : Hid (Scripts w) := hs
  have HH0 : Hid (0 < w.heap.size) := h0
  clear hs h0
  go_enter Tryd.func9, Tryd.ntmps9
  go_wp2_with fail
  refine (new_ship w HS.out HH0.out).mono ?_
  rintro e w1 ⟨g, rfl, hd, hB1⟩
  obtain ⟨HD1, HB1⟩ : Hid (Ship w1 g) ∧ Hid (Below w.heap.size w w1) := ⟨hd, hB1⟩
  clear hd hB1
  have hcv := Go.Lib.run_convert_bytes_const (P := Tryd.prog) w1 37 5 #[.int .u8 99, .int .u8 97, .int .u8 110, .int .u8 39, .int .u8 116, .int .u8 32, .int .u8 51, .int .u8 46, .int .u8 53] 9 9 Tryd.underlying37 Tryd.underlying5
  simp only [List.size_toArray, List.length_cons, List.length_nil, Nat.reduceAdd] at hcv
  go_wp2_with fail
  have hz : ∀ c ∈ canL, 0 ≤ c ∧ c < 128 := by decide
  have hB2 : Below w1.heap.size w1 (w1.alloc (.cells #[.int .u8 99, .int .u8 97, .int .u8 110, .int .u8 39, .int .u8 116, .int .u8 32, .int .u8 51, .int .u8 46, .int .u8 53] 5 (9, 10))) := (Below.refl _ _).alloc (Nat.le_refl _) _
  have hnew := heap_new' w1 (.cells #[.int .u8 99, .int .u8 97, .int .u8 110, .int .u8 39, .int .u8 116, .int .u8 32, .int .u8 51, .int .u8 46, .int .u8 53] 5 (9, 10))
  refine (runes_low canL hz (by decide) w1.heap.size 0 9 (by decide) (w1.alloc (.cells #[.int .u8 99, .int .u8 97, .int .u8 110, .int .u8 39, .int .u8 116, .int .u8 32, .int .u8 51, .int .u8 46, .int .u8 53] 5 (9, 10))) (by simp) (fun j hj => ?_)).mono ?_
  · rw [Nat.zero_add, cell_of_row _ _ _ _ _ _ hnew]
    have : j = 0 ∨ j = 1 ∨ j = 2 ∨ j = 3 ∨ j = 4 ∨ j = 5 ∨ j = 6 ∨ j = 7 ∨ j = 8 := by have : canL.length = 9 := rfl; omega
    rcases this with rfl | rfl | rfl | rfl | rfl | rfl | rfl | rfl | rfl <;> rfl
  rintro e w2 ⟨v2, rfl, hI2, hB3⟩
  have HI2 : Hid (IntsAt w2.heap.size w2 v2 canL) := hI2
  have HB2 : Hid (Below w1.heap.size w1 w2) := hB2.trans (hB3.mono hB2.size)
  have HBW2 : Hid (Below w.heap.size w w2) := HB1.out.trans (HB2.out.mono HB1.out.size)
  clear hI2 hB3 hB2 hnew hcv hz
  go_wp2_with fail
  refine (all_any g _ canL (by decide) w2 (HD1.out.below HB2.out) HI2.out).mono ?_
  rintro e w3 ⟨v3, rfl, ho3, hB3⟩
  have hI3 := all_row ho3
  rw [awake_all] at hI3
  have HI3 : Hid (IntsAt w3.heap.size w3 v3 [0, 5, 6, 9]) := hI3
  have HB3 : Hid (Below w.heap.size w w3) := HBW2.out.trans (hB3.mono HBW2.out.size)
  clear hB3 ho3 hI3
  go_wp2_with fail
  have hB4 : Below w3.heap.size w3 (w3.alloc (.cells #[.int .i64 0, .int .i64 5, .int .i64 6, .int .i64 9] 3)) := (Below.refl _ _).alloc (Nat.le_refl _) _
  refine (sameInts_any [0, 5, 6, 9] (by decide) v3 _ _ (HI3.out.on hB4) (ints_new w3 [0, 5, 6, 9] #[.int .i64 0, .int .i64 5, .int .i64 6, .int .i64 9] rfl)).mono ?_
  rintro e w4 ⟨rfl, hB5⟩
  have HB4 : Hid (Below w.heap.size w w4) := HB3.out.trans ((hB4.trans (hB5.mono hB4.size)).mono HB3.out.size)
  clear hB5 hB4
  go_wp2
  go_ret
  exact ⟨rfl, HB4.out⟩
end Go.Proofs.YtpmlbdfdiebkcaaDoor
