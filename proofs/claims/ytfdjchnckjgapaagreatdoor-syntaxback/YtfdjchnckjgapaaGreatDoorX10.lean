/-
  What entry answers. The library's contract of slices.SortFunc, laid at this program (the plain text of the shelf's own laying). What ranges.add answers: a range more behind a row of the call's own, or its last one grown. What ranges.stretch answers of a set.
-/
import Derived.Test.YtfdjchnckjgapaaGreatDoorX09
import Derived.Test.YtfdjchnckjgapaaGreatDoorX07
import Derived.Shelf.SlSortCmp.WholeK
import Derived.Test.YtfdjchnckjgapaaGreatDoorProg
import Derived.Test.YtfdjchnckjgapaaGreatDoorX03
import Derived.BigQuiet
import Derived.BigRegion
import Derived.RegionTactic
namespace Go.Proofs.YtfdjchnckjgapaaGreatDoor
open Go.RowKit Go.Shelf S1
set_option linter.unusedVariables false

theorem entL_a {us r : List U} (h : letL us = (none, r)) : entL us = (none, r) := by unfold entL; rw [h]
theorem entL_b {us r a : List U} {lo : Int} (h : letL us = (some lo, r)) (h2 : sgn (isC 45) r = (none, a)) : entL us = (some ⟨lo, lo⟩, r) := by unfold entL; rw [h]; simp only; rw [h2]
theorem entL_c {us r a b : List U} {lo x : Int} (h : letL us = (some lo, r)) (h2 : sgn (isC 45) r = (some x, a)) (h3 : letL a = (none, b)) : entL us = (none, b) := by unfold entL; rw [h]; simp only; rw [h2]; simp only; rw [h3]
theorem entL_d {us r a b : List U} {lo x hi : Int} (h : letL us = (some lo, r)) (h2 : sgn (isC 45) r = (some x, a)) (h3 : letL a = (some hi, b)) : entL us = (some ⟨lo, hi⟩, b) := by unfold entL; rw [h]; simp only; rw [h2]; simp only; rw [h3]
theorem Runs.of_suffix {zs : List Int} {us r : List U} (h : Runs zs us) (hs : r <:+ us) : Runs zs r := by
  obtain ⟨a, rfl⟩ := hs
  exact h.drop
theorem sgn_suffix (p : Int → Bool) (us : List U) : (sgn p us).2 <:+ us := by
  cases us with
  | nil => exact List.suffix_refl _
  | cons u t =>
    rw [sgn_cons]
    split
    · exact List.suffix_cons u t
    · exact List.suffix_refl _
theorem figsD_suffix (n : Nat) (us : List U) : figsD n us <:+ us := by
  obtain ⟨a, h, _⟩ := figs_split n us
  exact ⟨a, h.symm⟩
theorem numL_suffix (us : List U) : (numL us).2 <:+ us := by
  unfold numL
  split
  · exact List.suffix_refl _
  · have h1 := sgn_suffix (isC 125) (figsD 6 us)
    have h2 := figsD_suffix 6 us
    split
    · rename_i a b c; rw [c] at h1; exact h1.trans h2
    · rename_i a b; rw [b] at h1; exact h1.trans h2
theorem letL_suffix (us : List U) : (letL us).2 <:+ us := by
  have h1 := sgn_suffix (isC 92) us
  unfold letL
  split
  · exact sgn_suffix _ _
  · rename_i a b c
    rw [c] at h1
    have h2 := sgn_suffix (isC 120) b
    split
    · exact (sgn_suffix _ _).trans h1
    · rename_i a2 b2 c2
      rw [c2] at h2
      have h3 := sgn_suffix (isC 123) b2
      split
      · exact h2.trans h1
      · rename_i a3 b3 c3
        rw [c3] at h3
        exact (((numL_suffix b3).trans h3).trans h2).trans h1
theorem entL_suffix (us : List U) : (entL us).2 <:+ us := by
  have h1 := letL_suffix us
  unfold entL
  split
  · rename_i a b; rw [b] at h1; exact h1
  · rename_i a b c
    rw [c] at h1
    have h2 := sgn_suffix (isC 45) b
    split
    · exact h1
    · rename_i a2 b2 c2
      rw [c2] at h2
      have h3 := letL_suffix b2
      split
      · rename_i a3 b3; rw [b3] at h3; exact (h3.trans h2).trans h1
      · rename_i a3 b3 c3; rw [c3] at h3; exact (h3.trans h2).trans h1

set_option maxRecDepth 100000 in
set_option maxHeartbeats 4000000 in
theorem entry_any (zs : List Int) (us : List U) (R : Nat) (ta : Option Addr) (cap : Nat) (w : World) (hrd : Rd w R (.slice ta zs.length cap) us) (htx : TxtAt R w (.slice ta zs.length cap) zs) (hz : zs.length ≤ 65536) (hpos : 0 < zs.length) (hrun : Runs zs us) :
    Calls Tryz.prog 111 #[.pointer (some ⟨R, 0, none⟩)] w fun e w' => ∃ x y, e = .returned (.tuple #[.agg #[.int .i64 x, .int .i64 y], .bool (entL us).1.isSome]) ∧ (∀ v, (entL us).1 = some v → v = ⟨x, y⟩) ∧ Rd w' R (.slice ta zs.length cap) (entL us).2 ∧ w.grownBy w' (some R) := by
  have hg0 : w.grownBy (w.alloc (.cells #[.int .i64 0, .int .i64 0] 94)) (some R) := World.grownBy_alloc _ _ _
  have hl : R < w.heap.size := hrd.text.2
  have hl1 := letter_any zs us R ta cap (w.alloc (.cells #[.int .i64 0, .int .i64 0] 94)) (hrd.alloc _) (htx.grown hg0) hz hpos hrun
  have hsf := letL_suffix us
  cases h1 : letL us with
  | mk o1 r => cases o1 with
    | none =>
      have HEQ : Hid (entL us = (none, r)) := entL_a h1
      rw [h1] at hl1
      clear h1 hsf
      go_enter Tryz.func111, Tryz.ntmps111
      go_wp2_with fail
      refine hl1.mono ?_
      rintro e w1 ⟨x, rfl, hx, hr1, hgE1⟩
      have hg1 : w.grownBy w1 (some R) := hg0.trans hgE1
      have hE1 : w1.heap[w.heap.size]? = some (.cells #[.int .i64 0, .int .i64 0] 94 (0, 0)) := (hgE1.block w.heap.size (by simp) (by simp; omega)).trans (heap_new' w _)
      have d0 : w1.cell? ⟨w.heap.size, 0, none⟩ = some (.int .i64 0) := cell_of_row _ _ 0 _ _ _ hE1
      have d1 : w1.cell? ⟨w.heap.size, 1, none⟩ = some (.int .i64 0) := cell_of_row _ _ 1 _ _ _ hE1
      have f0 : w1.frozen? ⟨w.heap.size, 0, none⟩ = false := frozen_of_row _ _ 0 _ _ hE1
      have f1 : w1.frozen? ⟨w.heap.size, 1, none⟩ = false := frozen_of_row _ _ 1 _ _ hE1
      go_wp2
      refine bodyPost_ret (results_row_tmp rfl _ _ w.heap.size 94 #[.int .i64 x, .int .i64 x] (0, 0) _ rfl ?_ Tryz.underlying94 rfl (by kernel_rfl)) rfl ?_
      · exact heap_set (heap_set hE1 _) _
      rw [HEQ.out]
      exact ⟨x, x, rfl, (fun v h => (by cases h)), (hr1.set hl 0 _).set hl 1 _, (hg1.andThen (grownR_set _ _ 0 _) (fun j e => .inl (by injection e with e; omega))).andThen (grownR_set _ _ 1 _) (fun j e => .inl (by injection e with e; omega))⟩
    | some lo =>
      rw [h1] at hl1 hsf
      have hrun1 := hrun.of_suffix hsf
      cases h2 : sgn (isC 45) r with
      | mk o2 a => cases o2 with
        | none =>
          have ea := (sgn_none h2).1
          have HEQ : Hid (entL us = (some ⟨lo, lo⟩, r)) := entL_b h1 h2
          subst ea
          clear h1 hsf
          have H2 : Hid _ := h2
          clear h2
          go_enter Tryz.func111, Tryz.ntmps111
          go_wp2_with fail
          refine hl1.mono ?_
          rintro e w1 ⟨x, rfl, hx, hr1, hgE1⟩
          have hg1 : w.grownBy w1 (some R) := hg0.trans hgE1
          have hE1 : w1.heap[w.heap.size]? = some (.cells #[.int .i64 0, .int .i64 0] 94 (0, 0)) := (hgE1.block w.heap.size (by simp) (by simp; omega)).trans (heap_new' w _)
          obtain rfl : x = lo := hx lo rfl
          have hra2 := hr1.alloc (.cells #[.int .i64 45] 3)
          have hga2 : w.grownBy (w1.alloc (.cells #[.int .i64 45] 3)) (some R) := hg1.trans (World.grownBy_alloc _ _ _)
          have htk2 := take1_any w1.heap.size 45 _ R _ _ hra2 (World.cell?_alloc_new _ _ _ _)
          rw [H2.out] at htk2
          go_wp2_with fail
          refine (is_any _ _).mono ?_
          rintro e w' ⟨rfl, rfl⟩
          go_wp2_with fail
          refine htk2.mono ?_
          rintro e w2 ⟨rfl, hr2, hgb2⟩
          have hE2 := (hgb2.block w.heap.size (by have := (Array.getElem?_eq_some_iff.1 hE1).1; simp; omega) (by simp; omega)).trans ((Below.heap_alloc w1 (.cells #[.int .i64 45] 3) w.heap.size (Array.getElem?_eq_some_iff.1 hE1).1).trans hE1)
          have hg2 : w.grownBy w2 (some R) := hga2.trans hgb2
          clear htk2 hra2 hga2 hgb2
          have d0 : w2.cell? ⟨w.heap.size, 0, none⟩ = some (.int .i64 0) := cell_of_row _ _ 0 _ _ _ hE2
          have d1 : w2.cell? ⟨w.heap.size, 1, none⟩ = some (.int .i64 0) := cell_of_row _ _ 1 _ _ _ hE2
          have f0 : w2.frozen? ⟨w.heap.size, 0, none⟩ = false := frozen_of_row _ _ 0 _ _ hE2
          have f1 : w2.frozen? ⟨w.heap.size, 1, none⟩ = false := frozen_of_row _ _ 1 _ _ hE2
          go_wp2
          refine bodyPost_ret (results_row_tmp rfl _ _ w.heap.size 94 #[.int .i64 x, .int .i64 x] (0, 0) _ rfl ?_ Tryz.underlying94 rfl (by kernel_rfl)) rfl ?_
          · exact heap_set (heap_set hE2 _) _
          rw [HEQ.out]
          exact ⟨x, x, rfl, (fun v h => (by injection h with h; exact h.symm)), (hr2.set hl 0 _).set hl 1 _, (hg2.andThen (grownR_set _ _ 0 _) (fun j e => .inl (by injection e with e; omega))).andThen (grownR_set _ _ 1 _) (fun j e => .inl (by injection e with e; omega))⟩
        | some c =>
          have hrun2 := hrun1.sgn h2
          have hl2 := fun (W : World) hr htx' => letter_any zs a R ta cap W hr htx' hz hpos hrun2
          cases h3 : letL a with
          | mk o3 b => cases o3 with
            | none =>
              have HEQ : Hid (entL us = (none, b)) := entL_c h1 h2 h3
              rw [h3] at hl2
              clear h1 hsf h3
              have H2 : Hid _ := h2
              clear h2
              go_enter Tryz.func111, Tryz.ntmps111
              go_wp2_with fail
              refine hl1.mono ?_
              rintro e w1 ⟨x, rfl, hx, hr1, hgE1⟩
              have hg1 : w.grownBy w1 (some R) := hg0.trans hgE1
              have hE1 : w1.heap[w.heap.size]? = some (.cells #[.int .i64 0, .int .i64 0] 94 (0, 0)) := (hgE1.block w.heap.size (by simp) (by simp; omega)).trans (heap_new' w _)
              obtain rfl : x = lo := hx lo rfl
              have hra2 := hr1.alloc (.cells #[.int .i64 45] 3)
              have hga2 : w.grownBy (w1.alloc (.cells #[.int .i64 45] 3)) (some R) := hg1.trans (World.grownBy_alloc _ _ _)
              have htk2 := take1_any w1.heap.size 45 _ R _ _ hra2 (World.cell?_alloc_new _ _ _ _)
              rw [H2.out] at htk2
              go_wp2_with fail
              refine (is_any _ _).mono ?_
              rintro e w' ⟨rfl, rfl⟩
              go_wp2_with fail
              refine htk2.mono ?_
              rintro e w2 ⟨rfl, hr2, hgb2⟩
              have hE2 := (hgb2.block w.heap.size (by have := (Array.getElem?_eq_some_iff.1 hE1).1; simp; omega) (by simp; omega)).trans ((Below.heap_alloc w1 (.cells #[.int .i64 45] 3) w.heap.size (Array.getElem?_eq_some_iff.1 hE1).1).trans hE1)
              have hg2 : w.grownBy w2 (some R) := hga2.trans hgb2
              clear htk2 hra2 hga2 hgb2
              have hl3 := hl2 w2 hr2 (htx.grown hg2)
              go_wp2_with fail
              refine hl3.mono ?_
              rintro e w3 ⟨y, rfl, hy, hr3, hgE3⟩
              have hg3 : w.grownBy w3 (some R) := hg2.trans hgE3
              have hE3 := (hgE3.block w.heap.size (Array.getElem?_eq_some_iff.1 hE2).1 (by simp; omega)).trans hE2
              clear hl1 hl2 hl3
              have d0 : w3.cell? ⟨w.heap.size, 0, none⟩ = some (.int .i64 0) := cell_of_row _ _ 0 _ _ _ hE3
              have d1 : w3.cell? ⟨w.heap.size, 1, none⟩ = some (.int .i64 0) := cell_of_row _ _ 1 _ _ _ hE3
              have f0 : w3.frozen? ⟨w.heap.size, 0, none⟩ = false := frozen_of_row _ _ 0 _ _ hE3
              have f1 : w3.frozen? ⟨w.heap.size, 1, none⟩ = false := frozen_of_row _ _ 1 _ _ hE3
              go_wp2
              refine bodyPost_ret (results_row_tmp rfl _ _ w.heap.size 94 #[.int .i64 x, .int .i64 y] (0, 0) _ rfl ?_ Tryz.underlying94 rfl (by kernel_rfl)) rfl ?_
              · exact heap_set (heap_set hE3 _) _
              rw [HEQ.out]
              exact ⟨x, y, rfl, (fun v h => (by cases h)), (hr3.set hl 0 _).set hl 1 _, (hg3.andThen (grownR_set _ _ 0 _) (fun j e => .inl (by injection e with e; omega))).andThen (grownR_set _ _ 1 _) (fun j e => .inl (by injection e with e; omega))⟩
            | some hi =>
              have HEQ : Hid (entL us = (some ⟨lo, hi⟩, b)) := entL_d h1 h2 h3
              rw [h3] at hl2
              clear h1 hsf h3
              have H2 : Hid _ := h2
              clear h2
              go_enter Tryz.func111, Tryz.ntmps111
              go_wp2_with fail
              refine hl1.mono ?_
              rintro e w1 ⟨x, rfl, hx, hr1, hgE1⟩
              have hg1 : w.grownBy w1 (some R) := hg0.trans hgE1
              have hE1 : w1.heap[w.heap.size]? = some (.cells #[.int .i64 0, .int .i64 0] 94 (0, 0)) := (hgE1.block w.heap.size (by simp) (by simp; omega)).trans (heap_new' w _)
              obtain rfl : x = lo := hx lo rfl
              have hra2 := hr1.alloc (.cells #[.int .i64 45] 3)
              have hga2 : w.grownBy (w1.alloc (.cells #[.int .i64 45] 3)) (some R) := hg1.trans (World.grownBy_alloc _ _ _)
              have htk2 := take1_any w1.heap.size 45 _ R _ _ hra2 (World.cell?_alloc_new _ _ _ _)
              rw [H2.out] at htk2
              go_wp2_with fail
              refine (is_any _ _).mono ?_
              rintro e w' ⟨rfl, rfl⟩
              go_wp2_with fail
              refine htk2.mono ?_
              rintro e w2 ⟨rfl, hr2, hgb2⟩
              have hE2 := (hgb2.block w.heap.size (by have := (Array.getElem?_eq_some_iff.1 hE1).1; simp; omega) (by simp; omega)).trans ((Below.heap_alloc w1 (.cells #[.int .i64 45] 3) w.heap.size (Array.getElem?_eq_some_iff.1 hE1).1).trans hE1)
              have hg2 : w.grownBy w2 (some R) := hga2.trans hgb2
              clear htk2 hra2 hga2 hgb2
              have hl3 := hl2 w2 hr2 (htx.grown hg2)
              go_wp2_with fail
              refine hl3.mono ?_
              rintro e w3 ⟨y, rfl, hy, hr3, hgE3⟩
              obtain rfl : y = hi := hy hi rfl
              have hg3 : w.grownBy w3 (some R) := hg2.trans hgE3
              have hE3 := (hgE3.block w.heap.size (Array.getElem?_eq_some_iff.1 hE2).1 (by simp; omega)).trans hE2
              clear hl1 hl2 hl3
              have d0 : w3.cell? ⟨w.heap.size, 0, none⟩ = some (.int .i64 0) := cell_of_row _ _ 0 _ _ _ hE3
              have d1 : w3.cell? ⟨w.heap.size, 1, none⟩ = some (.int .i64 0) := cell_of_row _ _ 1 _ _ _ hE3
              have f0 : w3.frozen? ⟨w.heap.size, 0, none⟩ = false := frozen_of_row _ _ 0 _ _ hE3
              have f1 : w3.frozen? ⟨w.heap.size, 1, none⟩ = false := frozen_of_row _ _ 1 _ _ hE3
              go_wp2
              refine bodyPost_ret (results_row_tmp rfl _ _ w.heap.size 94 #[.int .i64 x, .int .i64 y] (0, 0) _ rfl ?_ Tryz.underlying94 rfl (by kernel_rfl)) rfl ?_
              · exact heap_set (heap_set hE3 _) _
              rw [HEQ.out]
              exact ⟨x, y, rfl, (fun v h => (by injection h with h; exact h.symm)), (hr3.set hl 0 _).set hl 1 _, (hg3.andThen (grownR_set _ _ 0 _) (fun j e => .inl (by injection e with e; omega))).andThen (grownR_set _ _ 1 _) (fun j e => .inl (by injection e with e; omega))⟩
end Go.Proofs.YtfdjchnckjgapaaGreatDoor

namespace Go.Proofs.YtfdjchnckjgapaaGreatDoor
open Go.Shelf
def sortR_ren : Go.Shelf.Ren := ⟨fun | 6 => 100 | 15 => 134 | 14 => 133 | 28 => 171 | 29 => 172 | 20 => 163 | 21 => 164 | 22 => 165 | 23 => 166 | 24 => 167 | 25 => 168 | 26 => 169 | 27 => 170 | 46 => 196 | 47 => 197 | 48 => 198 | 49 => 199 | 50 => 200 | 57 => 219 | n => n, fun | 22 => 43 | 24 => 94 | 25 => 139 | 3 => 3 | 39 => 166 | 0 => 0 | 53 => 201 | 55 => 188 | 4 => 4 | 46 => 195 | 45 => 194 | 50 => 146 | 5 => 5 | 9 => 9 | 66 => 213 | 70 => 217 | 76 => 232 | 77 => 144 | n => n, fun | n => n⟩
theorem sortR : Go.Proofs.SlLaysF0.n6 Tryz.prog sortR_ren := {
  mixed := by kernel_rfl
  f6 := ⟨Tryz.f100.name, by decide, Tryz.func100.trans (congrArg some (by kernel_rfl))⟩
  f14 := ⟨Tryz.f133.name, by decide, Tryz.func133.trans (congrArg some (by kernel_rfl))⟩
  f15 := Tryz.func134.trans (congrArg some (by kernel_rfl))
  f20 := ⟨Tryz.f163.name, by decide, Tryz.func163.trans (congrArg some (by kernel_rfl))⟩
  f21 := ⟨Tryz.f164.name, by decide, Tryz.func164.trans (congrArg some (by kernel_rfl))⟩
  f22 := ⟨Tryz.f165.name, by decide, Tryz.func165.trans (congrArg some (by kernel_rfl))⟩
  f23 := ⟨Tryz.f166.name, by decide, Tryz.func166.trans (congrArg some (by kernel_rfl))⟩
  f24 := ⟨Tryz.f167.name, by decide, Tryz.func167.trans (congrArg some (by kernel_rfl))⟩
  f25 := ⟨Tryz.f168.name, by decide, Tryz.func168.trans (congrArg some (by kernel_rfl))⟩
  f26 := ⟨Tryz.f169.name, by decide, Tryz.func169.trans (congrArg some (by kernel_rfl))⟩
  f27 := ⟨Tryz.f170.name, by decide, Tryz.func170.trans (congrArg some (by kernel_rfl))⟩
  f28 := Tryz.func171.trans (congrArg some (by kernel_rfl))
  f29 := Tryz.func172.trans (congrArg some (by kernel_rfl))
  f46 := ⟨Tryz.f196.name, by decide, Tryz.func196.trans (congrArg some (by kernel_rfl))⟩
  f47 := Tryz.func197.trans (congrArg some (by kernel_rfl))
  f48 := Tryz.func198.trans (congrArg some (by kernel_rfl))
  f49 := ⟨Tryz.f199.name, by decide, Tryz.func199.trans (congrArg some (by kernel_rfl))⟩
  f50 := ⟨Tryz.f200.name, by decide, Tryz.func200.trans (congrArg some (by kernel_rfl))⟩
  f57 := ⟨Tryz.f219.name, by decide, Tryz.func219.trans (congrArg some (by kernel_rfl))⟩
  t0 := Tryz.underlying0
  a0 := Tryz.isAgg0
  z0 := Tryz.sizeOf0
  v0 := Tryz.zeroValue0
  t3 := Tryz.underlying3
  a3 := Tryz.isAgg3
  z3 := Tryz.sizeOf3
  v3 := Tryz.zeroValue3
  t4 := Tryz.underlying4
  a4 := Tryz.isAgg4
  z4 := Tryz.sizeOf4
  v4 := Tryz.zeroValue4
  t5 := Tryz.underlying5
  a5 := Tryz.isAgg5
  z5 := Tryz.sizeOf5
  v5 := Tryz.zeroValue5
  t9 := Tryz.underlying9
  a9 := Tryz.isAgg9
  z9 := Tryz.sizeOf9
  v9 := Tryz.zeroValue9
  t22 := Tryz.underlying43
  a22 := Tryz.isAgg43
  z22 := Tryz.sizeOf43
  v22 := Tryz.zeroValue43
  t25 := Tryz.underlying139
  a25 := Tryz.isAgg139
  z25 := Tryz.sizeOf139
  v25 := Tryz.zeroValue139
  t39 := Tryz.underlying166
  a39 := Tryz.isAgg166
  z39 := Tryz.sizeOf166
  v39 := Tryz.zeroValue166
  t45 := Tryz.underlying194
  a45 := Tryz.isAgg194
  z45 := Tryz.sizeOf194
  v45 := Tryz.zeroValue194
  t46 := Tryz.underlying195
  a46 := Tryz.isAgg195
  z46 := Tryz.sizeOf195
  v46 := Tryz.zeroValue195
  t50 := Tryz.underlying146
  a50 := Tryz.isAgg146
  z50 := Tryz.sizeOf146
  v50 := Tryz.zeroValue146
  t53 := Tryz.underlying201
  a53 := Tryz.isAgg201
  z53 := Tryz.sizeOf201
  v53 := Tryz.zeroValue201
  t55 := Tryz.underlying188
  a55 := Tryz.isAgg188
  z55 := Tryz.sizeOf188
  v55 := Tryz.zeroValue188
  t66 := Tryz.underlying213
  a66 := Tryz.isAgg213
  z66 := Tryz.sizeOf213
  v66 := Tryz.zeroValue213
  t70 := Tryz.underlying217
  a70 := Tryz.isAgg217
  z70 := Tryz.sizeOf217
  v70 := Tryz.zeroValue217
  t76 := Tryz.underlying232
  a76 := Tryz.isAgg232
  z76 := Tryz.sizeOf232
  v76 := Tryz.zeroValue232
  t77 := Tryz.underlying144
  a77 := Tryz.isAgg144
  z77 := Tryz.sizeOf144
  v77 := Tryz.zeroValue144 }
end Go.Proofs.YtfdjchnckjgapaaGreatDoor

namespace Go.Proofs.YtfdjchnckjgapaaGreatDoor
open Go.RowKit
set_option linter.unusedVariables false

theorem heap_new2 (w : World) (o o' : Obj) : ((w.alloc o).alloc o').heap[w.heap.size + 1]? = some o' := by
  have := heap_new' (w.alloc o) o'
  rwa [World.size_alloc] at this

theorem own_frozen {w : World} {base e size n g m c : Nat} {xs : List Value} (h : w.ownsRow base e size (.slice (some ⟨g, 0, none⟩) m c) n xs) (j : Nat) : w.frozen? ⟨g, j, none⟩ = false := by
  rcases h.2 with ⟨e, _⟩ | ⟨g', cap', cur, e, hb, hg, _⟩
  · cases e
  · obtain ⟨rfl, _⟩ : g = g' ∧ _ := by simpa using e
    exact frozen_of_row _ _ _ _ _ hg

set_option maxRecDepth 100000 in
set_option maxHeartbeats 2000000 in
theorem add_any (base : Nat) (l : List Rg) (r : Rg) (v : Value) (w : World) (hlen : l.length ≤ 600000) (hbd : ∀ s ∈ l, -10 ≤ s.hi ∧ s.hi ≤ 2000000) (hbase : base ≤ w.heap.size) (hown : w.ownsRow base 94 2 v l.length (cellsRs l)) :
    Calls Tryz.prog 103 #[v, .agg #[.int .i64 r.lo, .int .i64 r.hi]] w fun e w' => ∃ v', e = .returned v' ∧ w'.ownsRow base 94 2 v' (addL l r).length (cellsRs (addL l r)) ∧ Below base w w' := by
  obtain ⟨i0, hi, hz0, hz1, hz2⟩ := info_parts Tryz.infoRange
  obtain ⟨a, cap, rfl, hc, hcell⟩ := rng_of_row hown
  have HO : Hid (w.ownsRow base 94 2 (.slice a l.length cap) l.length (cellsRs l)) := hown
  clear hown
  rcases list_last l with rfl | ⟨ini, s, rfl⟩
  · have HO2 : Hid (((w.alloc (.cells #[.int .i64 r.lo, .int .i64 r.hi] 94)).alloc (.cells #[.int .i64 r.lo, .int .i64 r.hi] 94)).ownsRow base 94 2 (.slice a 0 cap) 0 []) := (World.ownsRow.alloc HO.out _).alloc _
    have HN : Hid _ := heap_new2 w (.cells #[.int .i64 r.lo, .int .i64 r.hi] 94) (.cells #[.int .i64 r.lo, .int .i64 r.hi] 94)
    have HB : Hid (Below base w ((w.alloc (.cells #[.int .i64 r.lo, .int .i64 r.hi] 94)).alloc (.cells #[.int .i64 r.lo, .int .i64 r.hi] 94))) := ((Below.refl base w).alloc hbase _).alloc (by simp; omega) _
    rw [addL_nil]
    clear hcell HO
    go_enter Tryz.func103, Tryz.ntmps103
    go_wp2_with (at_builtin; go_must (refine wpList_append_own _ rfl (.tmp 33) (.tmp 35) 43 rfl base 94 i0 (.agg #[.int .i64 0, .int .i64 0]) 2 16 Tryz.underlying43 hi hz0 hz1 hz2 rfl (by decide) _ _ _ rfl HO2.out ⟨w.heap.size + 1, 0, none⟩ 1 1 (cellsR r) rfl rfl (World.news_of_block HN.out) (by simp [cellsR, Value.oneCell']) (by unfold maxLen; omega) (by omega) (by simp; omega) ?_); intro v' w1 hown' hgrow hnil)
    go_ret
    exact ⟨v', rfl, by simpa [cellsRs] using hown', HB.out.grown hgrow (by simp; omega) (fun j e => (World.ownsRow.lt HO2.out j e).1)⟩
  · have hl1 : (ini ++ [s]).length = ini.length + 1 := by simp
    have hbs := hbd s (by simp)
    have hle : ini.length + 1 ≤ 600000 := by rw [← hl1]; exact hlen
    obtain ⟨g, off, rfl, hg, c0, c1⟩ := hcell ini.length (by omega)
    have e1 : (ini ++ [s])[ini.length]'(by omega) = s := by simp
    rw [e1] at c0 c1
    have hoff : off = 0 ∧ base ≤ g := by
      rcases HO.out.2 with ⟨e, _⟩ | ⟨g', cap', cur, e, hb, _⟩
      · cases e
      · simp at e; exact ⟨e.1.2, by rw [e.1.1]; exact hb⟩
    obtain ⟨hoff, hbg⟩ := hoff
    subst hoff
    simp only [Nat.zero_add] at c0 c1
    rw [hl1] at HO hc ⊢
    have HO1 : Hid ((w.alloc (.cells #[.int .i64 r.lo, .int .i64 r.hi] 94)).ownsRow base 94 2 (.slice (some ⟨g, 0, none⟩) (ini.length + 1) cap) (ini.length + 1) (cellsRs (ini ++ [s]))) := World.ownsRow.alloc HO.out _
    have hB1 : Below base w (w.alloc (.cells #[.int .i64 r.lo, .int .i64 r.hi] 94)) := (Below.refl base w).alloc hbase _
    clear hcell hbd hlen e1 HO
    have hn0 : (0 : Int) < (ini.length : Int) + 1 := by omega
    by_cases q : r.lo ≤ s.hi + 1
    · rw [addL_join q]
      obtain ⟨mx, hmx0⟩ : ∃ mx, max s.hi r.hi = mx := ⟨_, rfl⟩
      rw [hmx0]
      have HMX : Hid (max s.hi r.hi = mx) := hmx0
      clear hmx0
      go_enter Tryz.func103, Tryz.ntmps103
      go_wp2
      go_quiet (fail)
      have HB2 := below_drewN' hB1 nq
      have HO2 := ownsRow_drewN HO1.out nq
      have b0 : ((w.alloc (.cells #[.int .i64 r.lo, .int .i64 r.hi] 94)).drewN nq).cell? ⟨w.heap.size, 0, none⟩ = some (.int .i64 r.lo) := cell_of_row _ _ 0 _ _ _ (heap_new' w _)
      have b1 : ((w.alloc (.cells #[.int .i64 r.lo, .int .i64 r.hi] 94)).drewN nq).cell? ⟨w.heap.size, 1, none⟩ = some (.int .i64 r.hi) := cell_of_row _ _ 1 _ _ _ (heap_new' w _)
      have d1 : ((w.alloc (.cells #[.int .i64 r.lo, .int .i64 r.hi] 94)).drewN nq).cell? ⟨g, ini.length * 2 + 1, none⟩ = some (.int .i64 s.hi) := (World.cell?_of_block (a := ⟨g, ini.length * 2 + 1, none⟩) (Below.heap_alloc w _ g hg)).trans c1
      have f1 : ((w.alloc (.cells #[.int .i64 r.lo, .int .i64 r.hi] 94)).drewN nq).frozen? ⟨g, ini.length * 2 + 1, none⟩ = false := own_frozen HO2 _
      obtain ⟨W1, hW1⟩ : ∃ W1, (w.alloc (.cells #[.int .i64 r.lo, .int .i64 r.hi] 94)).drewN nq = W1 := ⟨_, rfl⟩
      rw [hW1] at HO2 HB2 b0 b1 d1 f1 ⊢
      have HO3 : Hid (W1.ownsRow base 94 2 (.slice (some ⟨g, 0, none⟩) (ini.length + 1) cap) (ini.length + 1) (cellsRs (ini ++ [s]))) := HO2
      have HB3 : Hid (Below base w W1) := HB2
      clear hW1 HO1 hB1 c0 c1 HO2 HB2
      go_wp2
      go_region
      have hmx : (if s.hi < r.hi then r.hi else s.hi) = mx := by
        rw [← HMX.out]
        split
        · rename_i z; exact (Int.max_eq_right (by omega)).symm
        · rename_i z; exact (Int.max_eq_left (by omega)).symm
      first | rw [hmx] | rw [HMX.out]
      clear hmx
      have HO4 : Hid ((W1.setCell ⟨g, ini.length * 2 + 1, none⟩ (.int .i64 mx)).ownsRow base 94 2 (.slice (some ⟨g, 0, none⟩) (ini.length + 1) cap) (ini ++ [(⟨s.lo, mx⟩ : Rg)]).length (cellsRs (ini ++ [⟨s.lo, mx⟩]))) := by
        have := own_grow (base := base) (g := g) (cap := cap) (ini := ini) (s := s) (w := W1) (by rw [hl1]; exact HO3.out) mx
        rw [hl1] at this
        exact this
      have HB4 : Hid (Below base w (W1.setCell ⟨g, ini.length * 2 + 1, none⟩ (.int .i64 mx))) := HB3.out.setCell (p := ⟨g, ini.length * 2 + 1, none⟩) hbg _
      clear d1 f1 b0 b1 HO3 HB3
      go_wp2
      go_ret
      exact ⟨.slice (some ⟨g, 0, none⟩) (ini.length + 1) cap, rfl, ownsRow_drewN HO4.out 1, below_drewN' HB4.out 1⟩
    · rw [addL_snoc q]
      go_enter Tryz.func103, Tryz.ntmps103
      go_wp2
      go_quiet (fail)
      have HO2 := World.ownsRow.alloc (ownsRow_drewN HO1.out nq) (.cells #[.int .i64 r.lo, .int .i64 r.hi] 94)
      have HB2 := (below_drewN' hB1 nq).alloc (by simp; omega) (.cells #[.int .i64 r.lo, .int .i64 r.hi] 94)
      have HN2 := heap_new' ((w.alloc (.cells #[.int .i64 r.lo, .int .i64 r.hi] 94)).drewN nq) (.cells #[.int .i64 r.lo, .int .i64 r.hi] 94)
      have b0 : ((w.alloc (.cells #[.int .i64 r.lo, .int .i64 r.hi] 94)).drewN nq).cell? ⟨w.heap.size, 0, none⟩ = some (.int .i64 r.lo) := cell_of_row _ _ 0 _ _ _ (heap_new' w _)
      have b1 : ((w.alloc (.cells #[.int .i64 r.lo, .int .i64 r.hi] 94)).drewN nq).cell? ⟨w.heap.size, 1, none⟩ = some (.int .i64 r.hi) := cell_of_row _ _ 1 _ _ _ (heap_new' w _)
      have hsz : ((w.alloc (.cells #[.int .i64 r.lo, .int .i64 r.hi] 94)).drewN nq).heap.size = w.heap.size + 1 := by show (w.alloc _).heap.size = _; simp
      obtain ⟨W1, hW1⟩ : ∃ W1, (w.alloc (.cells #[.int .i64 r.lo, .int .i64 r.hi] 94)).drewN nq = W1 := ⟨_, rfl⟩
      rw [hW1] at HO2 HB2 HN2 b0 b1 hsz ⊢
      have HO3 : Hid ((W1.alloc (.cells #[.int .i64 r.lo, .int .i64 r.hi] 94)).ownsRow base 94 2 (.slice (some ⟨g, 0, none⟩) (ini.length + 1) cap) (ini.length + 1) (cellsRs (ini ++ [s]))) := HO2
      have HB3 : Hid (Below base w (W1.alloc (.cells #[.int .i64 r.lo, .int .i64 r.hi] 94))) := HB2
      have HN3 : Hid ((W1.alloc (.cells #[.int .i64 r.lo, .int .i64 r.hi] 94)).heap[W1.heap.size]? = some (.cells #[.int .i64 r.lo, .int .i64 r.hi] 94)) := HN2
      have HS : Hid (W1.heap.size = w.heap.size + 1) := hsz
      clear hW1 HO1 hB1 c0 c1 HO2 HB2 HN2 hsz
      go_wp2_with (at_builtin; go_must (refine wpList_append_own _ rfl (.tmp 33) (.tmp 35) 43 rfl base 94 i0 (.agg #[.int .i64 0, .int .i64 0]) 2 16 Tryz.underlying43 hi hz0 hz1 hz2 rfl (by decide) _ _ _ rfl HO3.out ⟨W1.heap.size, 0, none⟩ 1 1 (cellsR r) rfl rfl (World.news_of_block HN3.out) (by simp [cellsR, Value.oneCell']) (by unfold maxLen; omega) (by omega) (by simp; have := HS.out; omega) ?_); intro v' w1 hown' hgrow hnil)
      go_ret
      refine ⟨v', rfl, ?_, HB3.out.grown hgrow (by simp; have := HS.out; omega) (fun j e => (World.ownsRow.lt HO3.out j e).1)⟩
      rw [cellsRs_snoc]
      simpa using hown'
end Go.Proofs.YtfdjchnckjgapaaGreatDoor

namespace Go.Proofs.YtfdjchnckjgapaaGreatDoor
open Go.RowKit
set_option linter.unusedVariables false

theorem RngAt.cons {n : Nat} {w : World} {v : Value} {r : Rg} {t : List Rg} (h : RngAt n w v (r :: t)) : ∃ g off cap, v = .slice (some ⟨g, off, none⟩) (t.length + 1) cap ∧ t.length + 1 ≤ cap ∧ g < n ∧ w.cell? ⟨g, off, none⟩ = some (.int .i64 r.lo) ∧ w.cell? ⟨g, off + 1, none⟩ = some (.int .i64 r.hi) := by
  obtain ⟨a, cap, rfl, hc, hi⟩ := h
  obtain ⟨g, off, rfl, hg, h0, h1⟩ := hi 0 (by simp)
  refine ⟨g, off, cap, rfl, by simpa using hc, hg, by simpa using h0, by simpa using h1⟩
theorem RngAt.tail' {n : Nat} {w : World} {g off cap : Nat} {r : Rg} {t : List Rg} (h : RngAt n w (.slice (some ⟨g, off, none⟩) (t.length + 1) cap) (r :: t)) : RngAt n w (.slice (if cap = 1 then some ⟨g, off, none⟩ else some ⟨g, off + 2, none⟩) t.length (cap - 1)) t := by
  by_cases q : cap = 1
  · obtain ⟨a, c, e, hc, _⟩ := h
    simp at e hc
    have : t = [] := List.length_eq_zero_iff.1 (by omega)
    subst this
    exact RngAt.empty _ _
  · rw [if_neg q]
    exact h.tail
theorem RngAt.drew {m : Nat} {w : World} {v : Value} {l : List Rg} (h : RngAt m w v l) (n : Nat) : RngAt m (w.drewN n) v l := h.below (below_drewN' (Below.refl _ _) n)

set_option maxRecDepth 100000 in
set_option maxHeartbeats 2000000 in
theorem stretch_any (n : Nat) (a : List Rg) (low : Int) (v : Value) (w : World) (hnw : n ≤ w.heap.size) (hlen : a.length ≤ 600000) (hlow : 0 ≤ low ∧ low ≤ 1114111) (hn : NormFrom 0 a) (hf : ∀ r ∈ a, r.hi ≤ 1114111) (hv : RngAt n w v a) :
    Calls Tryz.prog 223 #[v, .int .i64 low] w fun e w' => ∃ is high rest v', Stretch a low is high rest ∧ e = .returned (.tuple #[.bool is, .int .i64 high, v']) ∧ RngAt n w' v' rest ∧ Below w.heap.size w w' := by
  have HV : Hid (RngAt n w v a) := hv
  have HN : Hid (NormFrom 0 a) := hn
  have HF : Hid (∀ r ∈ a, r.hi ≤ 1114111) := hf
  obtain ⟨ad, cap, rfl, hc, _⟩ := hv
  clear hn hf
  go_enter Tryz.func223, Tryz.ntmps223
  go_wp2
  go_loopw [0] (fun x wr => ∃ k : Nat, k ≤ a.length ∧ RngAt n w x (a.drop k) ∧ (∀ r ∈ a.take k, r.hi < low) ∧ wr = w) (fun x _ => match x with | .slice _ n _ => n | _ => 0)
  case atStart => exact ⟨0, Nat.zero_le _, HV.out, fun r hr => by simp at hr, rfl⟩
  case round =>
    obtain ⟨k, hk, hx, hb, rfl⟩ := hrel
    have HB : Hid (∀ r ∈ a.take k, r.hi < low) := hb
    clear hb
    cases hd : a.drop k with
    | nil =>
      rw [hd] at hx
      have HD : Hid (a.drop k = []) := hd
      obtain ⟨ad', cap', rfl, hc', _⟩ := hx
      clear hd
      simp only [List.length_nil]
      have hid : decide ((0 : Int) < 0) = false := rfl
      go_wp2
      go_ret3
      exact ⟨_, _, _, _, stretch_none hlow.2 HB.out HD.out, rfl, RngAt.nil _ _, Below.refl _ _⟩
    | cons r t =>
      rw [hd] at hx
      have HX : Hid (RngAt n wr _ (r :: t)) := hx
      have HD : Hid (a.drop k = r :: t) := hd
      have hkl : k + t.length + 1 = a.length := by
        have := congrArg List.length hd
        simp at this; omega
      have hord := NormFrom.ord HN.out r (List.mem_of_mem_drop (i := k) (by rw [hd]; simp))
      have hrh := HF.out r (List.mem_of_mem_drop (i := k) (by rw [hd]; simp))
      obtain ⟨g, off, cap', rfl, hc', hg0, c0, c1⟩ := hx.cons
      have hg : g < wr.heap.size := by omega
      clear hd hx
      have hn0 : (0 : Int) < (t.length : Int) + 1 := by omega
      by_cases q : r.hi < low
      · have HR : Hid (∀ s ∈ a.take (k + 1), s.hi < low) := fun s hs => by
          have e : a.take (k + 1) = a.take k ++ [r] := by
            rw [List.take_add_one, ← List.head?_drop, HD.out]; rfl
          rw [e] at hs
          rcases List.mem_append.1 hs with z | z
          · exact HB.out s z
          · rw [List.mem_singleton.1 z]; exact q
        have HT : Hid (a.drop (k + 1) = t) := by
          show a.drop (k + 1) = t
          rw [← List.tail_drop, HD.out]; rfl
        go_wp2
        go_roundw
        case rel => exact ⟨k + 1, by omega, by rw [HT.out]; exact RngAt.tail' HX.out, HR.out, trivial⟩
        case measure => exact Nat.lt_succ_self _
      · have hnl : low ≤ r.hi := by omega
        by_cases q2 : low < r.lo
        · have HS : Hid _ := stretch_out hlow.2 HN.out HF.out HB.out HD.out q2
          go_wp2
          go_region
          go_wp2
          go_ret3
          refine ⟨_, _, _, _, HS.out, ?_, HX.out.drew 1, (Below.refl _ _).drew⟩
          rw [show min (r.lo - 1) 1114111 = r.lo - 1 from Int.min_eq_left (by omega)]
          rfl
        · have HS : Hid _ := stretch_in hlow.2 HN.out HF.out HB.out HD.out q2 hnl
          go_wp2
          go_region
          go_wp2
          go_ret3
          refine ⟨_, _, _, _, HS.out, ?_, HX.out.drew 1, (Below.refl _ _).drew⟩
          rw [show min r.hi 1114111 = r.hi from Int.min_eq_left hrh]
          rfl
end Go.Proofs.YtfdjchnckjgapaaGreatDoor
