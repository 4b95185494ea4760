/-
  The law UcdHangul: true, for every number.
-/
import Derived.Test.YtpknmpgbaccffaaDoorAwakeU
import Derived.Test.YtpknmpgbaccffaaDoorFacts
namespace Go.Proofs.YtpknmpgbaccffaaDoor
open Go.RowKit
set_option linter.unusedVariables false

set_option maxRecDepth 100000 in
set_option maxHeartbeats 8000000 in
theorem ucdHangul_any (r : Int) (w : World) (hs : Scripts w) (h0 : 0 < w.heap.size) :
    Calls Tryd.prog 7 #[.int .i64 r] w fun e w' => e = .returned (.bool true) ∧ Below w.heap.size w w' := by
  have HS : Hid (Scripts w) := hs
  have HH0 : Hid (0 < w.heap.size) := h0
  clear hs h0
  go_enter Tryd.func7, Tryd.ntmps7
  go_wp2_with fail
  refine (awake_u w HS.out HH0.out).mono ?_
  rintro e w0 ⟨rfl, hB0⟩
  have HB0 : Hid (Below w.heap.size w w0) := hB0
  have HS0 : Hid (Scripts w0 ∧ 0 < w0.heap.size) := ⟨HS.out.below HH0.out hB0, by have := HH0.out; have := hB0.size; omega⟩
  clear hB0
  go_wp2_with fail
  refine (new_ship w0 HS0.out.1 HS0.out.2).mono ?_
  rintro e w1 ⟨g, rfl, hd, hB1⟩
  obtain ⟨HD1, HB1⟩ : Hid (Ship w1 g) ∧ Hid (Below w.heap.size w w1) := ⟨hd, HB0.out.trans (hB1.mono HB0.out.size)⟩
  clear hd hB1
  go_wp2_with fail
  refine (ship_cluster w1 g r HD1.out).mono ?_
  rintro e w2 ⟨rfl, hB2⟩
  obtain ⟨HD2, HB2⟩ : Hid (Ship w2 g) ∧ Hid (Below w.heap.size w w2) := ⟨HD1.out.below hB2, HB1.out.trans (hB2.mono HB1.out.size)⟩
  clear hB2
  obtain ⟨c, hc⟩ : ∃ c, c = clV r := ⟨_, rfl⟩
  rw [← hc]
  by_cases n1 : r < 44032
  · have h11 := cl_small r
    have e1 : c = valP clR r := by rw [hc]; unfold clV; rw [if_neg (by omega)]
    have f1 : (c == 12) = false := by simp; omega
    have f2 : (c == 13) = false := by simp; omega
    clear hc e1 h11
    go_wp2
    go_ret
    exact ⟨rfl, HB2.out⟩
  by_cases n2 : 55203 < r
  · have h11 := cl_small r
    have e1 : c = valP clR r := by rw [hc]; unfold clV; rw [if_neg (by omega)]
    have f1 : (c == 12) = false := by simp; omega
    have f2 : (c == 13) = false := by simp; omega
    clear hc e1 h11
    go_wp2
    go_ret
    exact ⟨rfl, HB2.out⟩
  obtain ⟨m, rfl⟩ : ∃ m : Nat, r = (m : Int) := ⟨r.toNat, by omega⟩
  have hw1 : IntKind.i64.wrap ((m : Int) - 44032) = (m : Int) - 44032 := IntWalk.i64_in _ (by omega)
  obtain ⟨j, hj⟩ : ∃ j : Nat, (j : Int) = (m : Int) - 44032 := ⟨m - 44032, by omega⟩
  have hm : ((m : Int) - 44032).tmod 28 = ((j % 28 : Nat) : Int) := by rw [← hj, Int.tmod_eq_emod_of_nonneg (by omega)]; omega
  have hw2 : IntKind.i64.wrap ((j % 28 : Nat) : Int) = ((j % 28 : Nat) : Int) := IntWalk.i64_in _ (by omega)
  by_cases n3 : j % 28 = 0
  · have e1 : c = 12 := by rw [hc]; unfold clV; rw [if_pos (by omega), if_pos (by omega)]
    subst e1
    rw [n3] at hm hw2
    clear hj n3 hc
    go_wp2
    go_ret
    exact ⟨rfl, HB2.out⟩
  · have e1 : c = 13 := by rw [hc]; unfold clV; rw [if_pos (by omega), if_neg (by omega)]
    subst e1
    obtain ⟨q, hq⟩ : ∃ q : Nat, q = j % 28 := ⟨_, rfl⟩
    rw [← hq] at hm hw2
    have hz : ((q : Int) == 0) = false := by simp; omega
    clear hj n3 hq hc
    go_wp2
    go_ret
    exact ⟨rfl, HB2.out⟩
end Go.Proofs.YtpknmpgbaccffaaDoor
