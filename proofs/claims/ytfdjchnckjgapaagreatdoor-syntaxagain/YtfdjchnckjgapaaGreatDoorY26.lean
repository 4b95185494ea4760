/-
  What entry answers. The library's contract of slices.SortFunc, laid at this program (the plain text of the shelf's own laying). What slices.Clone and slices.SortFunc answer at ranges: a copy; the ranges put in order by their low numbers.
-/
import Derived.Test.YtfdjchnckjgapaaGreatDoorY25
import Derived.Test.YtfdjchnckjgapaaGreatDoorY09
import Derived.Shelf.SlSortCmp.WholeK
import Derived.Test.YtfdjchnckjgapaaGreatDoorProg
import Derived.Test.YtfdjchnckjgapaaGreatDoorY11
import Derived.Shelf.SlSortCmp.NoneTotal
import Derived.Lib.SliceRun
namespace Go.Proofs.YtfdjchnckjgapaaGreatDoor
open Go.RowKit Go.Shelf S1
set_option linter.unusedVariables false

theorem entL_a {us r : List U} (h : letL us = (none, r)) : entL us = (none, r) := by unfold entL; rw [h]
theorem entL_b {us r a : List U} {lo : Int} (h : letL us = (some lo, r)) (h2 : sgn (isC 45) r = (none, a)) : entL us = (some ⟨lo, lo⟩, r) := by unfold entL; rw [h]; simp only; rw [h2]
theorem entL_c {us r a b : List U} {lo x : Int} (h : letL us = (some lo, r)) (h2 : sgn (isC 45) r = (some x, a)) (h3 : letL a = (none, b)) : entL us = (none, b) := by unfold entL; rw [h]; simp only; rw [h2]; simp only; rw [h3]
theorem entL_d {us r a b : List U} {lo x hi : Int} (h : letL us = (some lo, r)) (h2 : sgn (isC 45) r = (some x, a)) (h3 : letL a = (some hi, b)) : entL us = (some ⟨lo, hi⟩, b) := by unfold entL; rw [h]; simp only; rw [h2]; simp only; rw [h3]
theorem Runs.of_suffix {zs : List Int} {us r : List U} (h : Runs zs us) (hs : r <:+ us) : Runs zs r := by
  obtain ⟨a, rfl⟩ := hs
  exact h.drop
theorem sgn_suffix (p : Int → Bool) (us : List U) : (sgn p us).2 <:+ us := by
  cases us with
  | nil => exact List.suffix_refl _
  | cons u t =>
    rw [sgn_cons]
    split
    · exact List.suffix_cons u t
    · exact List.suffix_refl _
theorem figsD_suffix (n : Nat) (us : List U) : figsD n us <:+ us := by
  obtain ⟨a, h, _⟩ := figs_split n us
  exact ⟨a, h.symm⟩
theorem numL_suffix (us : List U) : (numL us).2 <:+ us := by
  unfold numL
  split
  · exact List.suffix_refl _
  · have h1 := sgn_suffix (isC 125) (figsD 6 us)
    have h2 := figsD_suffix 6 us
    split
    · rename_i a b c; rw [c] at h1; exact h1.trans h2
    · rename_i a b; rw [b] at h1; exact h1.trans h2
theorem letL_suffix (us : List U) : (letL us).2 <:+ us := by
  have h1 := sgn_suffix (isC 92) us
  unfold letL
  split
  · exact sgn_suffix _ _
  · rename_i a b c
    rw [c] at h1
    have h2 := sgn_suffix (isC 120) b
    split
    · exact (sgn_suffix _ _).trans h1
    · rename_i a2 b2 c2
      rw [c2] at h2
      have h3 := sgn_suffix (isC 123) b2
      split
      · exact h2.trans h1
      · rename_i a3 b3 c3
        rw [c3] at h3
        exact (((numL_suffix b3).trans h3).trans h2).trans h1
theorem entL_suffix (us : List U) : (entL us).2 <:+ us := by
  have h1 := letL_suffix us
  unfold entL
  split
  · rename_i a b; rw [b] at h1; exact h1
  · rename_i a b c
    rw [c] at h1
    have h2 := sgn_suffix (isC 45) b
    split
    · exact h1
    · rename_i a2 b2 c2
      rw [c2] at h2
      have h3 := letL_suffix b2
      split
      · rename_i a3 b3; rw [b3] at h3; exact (h3.trans h2).trans h1
      · rename_i a3 b3 c3; rw [c3] at h3; exact (h3.trans h2).trans h1

set_option maxRecDepth 100000 in
set_option maxHeartbeats 4000000 in
theorem entry_any (zs : List Int) (us : List U) (R : Nat) (ta : Option Addr) (cap : Nat) (w : World) (hrd : Rd w R (.slice ta zs.length cap) us) (htx : TxtAt R w (.slice ta zs.length cap) zs) (hz : zs.length ≤ 65536) (hpos : 0 < zs.length) (hrun : Runs zs us) :
    Calls Tryz.prog 111 #[.pointer (some ⟨R, 0, none⟩)] w fun e w' => ∃ x y, e = .returned (.tuple #[.agg #[.int .i64 x, .int .i64 y], .bool (entL us).1.isSome]) ∧ (∀ v, (entL us).1 = some v → v = ⟨x, y⟩) ∧ Rd w' R (.slice ta zs.length cap) (entL us).2 ∧ w.grownBy w' (some R) := by
  have hg0 : w.grownBy (w.alloc (.cells #[.int .i64 0, .int .i64 0] 94)) (some R) := World.grownBy_alloc _ _ _
  have hl : R < w.heap.size := hrd.text.2
  have hl1 := letter_any zs us R ta cap (w.alloc (.cells #[.int .i64 0, .int .i64 0] 94)) (hrd.alloc _) (htx.grown hg0) hz hpos hrun
  have hsf := letL_suffix us
  cases h1 : letL us with
  | mk o1 r => cases o1 with
    | none =>
      have HEQ : Hid (entL us = (none, r)) := entL_a h1
      rw [h1] at hl1
      clear h1 hsf
      go_enter Tryz.func111, Tryz.ntmps111
      go_wp2_with fail
      refine hl1.mono ?_
      rintro e w1 ⟨x, rfl, hx, hr1, hgE1⟩
      have hg1 : w.grownBy w1 (some R) := hg0.trans hgE1
      have hE1 : w1.heap[w.heap.size]? = some (.cells #[.int .i64 0, .int .i64 0] 94 (0, 0)) := (hgE1.block w.heap.size (by simp) (by simp; omega)).trans (heap_new' w _)
      have d0 : w1.cell? ⟨w.heap.size, 0, none⟩ = some (.int .i64 0) := cell_of_row _ _ 0 _ _ _ hE1
      have d1 : w1.cell? ⟨w.heap.size, 1, none⟩ = some (.int .i64 0) := cell_of_row _ _ 1 _ _ _ hE1
      have f0 : w1.frozen? ⟨w.heap.size, 0, none⟩ = false := frozen_of_row _ _ 0 _ _ hE1
      have f1 : w1.frozen? ⟨w.heap.size, 1, none⟩ = false := frozen_of_row _ _ 1 _ _ hE1
      go_wp2
      refine bodyPost_ret (results_row_tmp rfl _ _ w.heap.size 94 #[.int .i64 x, .int .i64 x] (0, 0) _ rfl ?_ Tryz.underlying94 rfl (by kernel_rfl)) rfl ?_
      · exact heap_set (heap_set hE1 _) _
      rw [HEQ.out]
      exact ⟨x, x, rfl, (fun v h => (by cases h)), (hr1.set hl 0 _).set hl 1 _, (hg1.andThen (grownR_set _ _ 0 _) (fun j e => .inl (by injection e with e; omega))).andThen (grownR_set _ _ 1 _) (fun j e => .inl (by injection e with e; omega))⟩
    | some lo =>
      rw [h1] at hl1 hsf
      have hrun1 := hrun.of_suffix hsf
      cases h2 : sgn (isC 45) r with
      | mk o2 a => cases o2 with
        | none =>
          have ea := (sgn_none h2).1
          have HEQ : Hid (entL us = (some ⟨lo, lo⟩, r)) := entL_b h1 h2
          subst ea
          clear h1 hsf
          have H2 : Hid _ := h2
          clear h2
          go_enter Tryz.func111, Tryz.ntmps111
          go_wp2_with fail
          refine hl1.mono ?_
          rintro e w1 ⟨x, rfl, hx, hr1, hgE1⟩
          have hg1 : w.grownBy w1 (some R) := hg0.trans hgE1
          have hE1 : w1.heap[w.heap.size]? = some (.cells #[.int .i64 0, .int .i64 0] 94 (0, 0)) := (hgE1.block w.heap.size (by simp) (by simp; omega)).trans (heap_new' w _)
          obtain rfl : x = lo := hx lo rfl
          have hra2 := hr1.alloc (.cells #[.int .i64 45] 3)
          have hga2 : w.grownBy (w1.alloc (.cells #[.int .i64 45] 3)) (some R) := hg1.trans (World.grownBy_alloc _ _ _)
          have htk2 := take1_any w1.heap.size 45 _ R _ _ hra2 (World.cell?_alloc_new _ _ _ _)
          rw [H2.out] at htk2
          go_wp2_with fail
          refine (is_any _ _).mono ?_
          rintro e w' ⟨rfl, rfl⟩
          go_wp2_with fail
          refine htk2.mono ?_
          rintro e w2 ⟨rfl, hr2, hgb2⟩
          have hE2 := (hgb2.block w.heap.size (by have := (Array.getElem?_eq_some_iff.1 hE1).1; simp; omega) (by simp; omega)).trans ((Below.heap_alloc w1 (.cells #[.int .i64 45] 3) w.heap.size (Array.getElem?_eq_some_iff.1 hE1).1).trans hE1)
          have hg2 : w.grownBy w2 (some R) := hga2.trans hgb2
          clear htk2 hra2 hga2 hgb2
          have d0 : w2.cell? ⟨w.heap.size, 0, none⟩ = some (.int .i64 0) := cell_of_row _ _ 0 _ _ _ hE2
          have d1 : w2.cell? ⟨w.heap.size, 1, none⟩ = some (.int .i64 0) := cell_of_row _ _ 1 _ _ _ hE2
          have f0 : w2.frozen? ⟨w.heap.size, 0, none⟩ = false := frozen_of_row _ _ 0 _ _ hE2
          have f1 : w2.frozen? ⟨w.heap.size, 1, none⟩ = false := frozen_of_row _ _ 1 _ _ hE2
          go_wp2
          refine bodyPost_ret (results_row_tmp rfl _ _ w.heap.size 94 #[.int .i64 x, .int .i64 x] (0, 0) _ rfl ?_ Tryz.underlying94 rfl (by kernel_rfl)) rfl ?_
          · exact heap_set (heap_set hE2 _) _
          rw [HEQ.out]
          exact ⟨x, x, rfl, (fun v h => (by injection h with h; exact h.symm)), (hr2.set hl 0 _).set hl 1 _, (hg2.andThen (grownR_set _ _ 0 _) (fun j e => .inl (by injection e with e; omega))).andThen (grownR_set _ _ 1 _) (fun j e => .inl (by injection e with e; omega))⟩
        | some c =>
          have hrun2 := hrun1.sgn h2
          have hl2 := fun (W : World) hr htx' => letter_any zs a R ta cap W hr htx' hz hpos hrun2
          cases h3 : letL a with
          | mk o3 b => cases o3 with
            | none =>
              have HEQ : Hid (entL us = (none, b)) := entL_c h1 h2 h3
              rw [h3] at hl2
              clear h1 hsf h3
              have H2 : Hid _ := h2
              clear h2
              go_enter Tryz.func111, Tryz.ntmps111
              go_wp2_with fail
              refine hl1.mono ?_
              rintro e w1 ⟨x, rfl, hx, hr1, hgE1⟩
              have hg1 : w.grownBy w1 (some R) := hg0.trans hgE1
              have hE1 : w1.heap[w.heap.size]? = some (.cells #[.int .i64 0, .int .i64 0] 94 (0, 0)) := (hgE1.block w.heap.size (by simp) (by simp; omega)).trans (heap_new' w _)
              obtain rfl : x = lo := hx lo rfl
              have hra2 := hr1.alloc (.cells #[.int .i64 45] 3)
              have hga2 : w.grownBy (w1.alloc (.cells #[.int .i64 45] 3)) (some R) := hg1.trans (World.grownBy_alloc _ _ _)
              have htk2 := take1_any w1.heap.size 45 _ R _ _ hra2 (World.cell?_alloc_new _ _ _ _)
              rw [H2.out] at htk2
              go_wp2_with fail
              refine (is_any _ _).mono ?_
              rintro e w' ⟨rfl, rfl⟩
              go_wp2_with fail
              refine htk2.mono ?_
              rintro e w2 ⟨rfl, hr2, hgb2⟩
              have hE2 := (hgb2.block w.heap.size (by have := (Array.getElem?_eq_some_iff.1 hE1).1; simp; omega) (by simp; omega)).trans ((Below.heap_alloc w1 (.cells #[.int .i64 45] 3) w.heap.size (Array.getElem?_eq_some_iff.1 hE1).1).trans hE1)
              have hg2 : w.grownBy w2 (some R) := hga2.trans hgb2
              clear htk2 hra2 hga2 hgb2
              have hl3 := hl2 w2 hr2 (htx.grown hg2)
              go_wp2_with fail
              refine hl3.mono ?_
              rintro e w3 ⟨y, rfl, hy, hr3, hgE3⟩
              have hg3 : w.grownBy w3 (some R) := hg2.trans hgE3
              have hE3 := (hgE3.block w.heap.size (Array.getElem?_eq_some_iff.1 hE2).1 (by simp; omega)).trans hE2
              clear hl1 hl2 hl3
              have d0 : w3.cell? ⟨w.heap.size, 0, none⟩ = some (.int .i64 0) := cell_of_row _ _ 0 _ _ _ hE3
              have d1 : w3.cell? ⟨w.heap.size, 1, none⟩ = some (.int .i64 0) := cell_of_row _ _ 1 _ _ _ hE3
              have f0 : w3.frozen? ⟨w.heap.size, 0, none⟩ = false := frozen_of_row _ _ 0 _ _ hE3
              have f1 : w3.frozen? ⟨w.heap.size, 1, none⟩ = false := frozen_of_row _ _ 1 _ _ hE3
              go_wp2
              refine bodyPost_ret (results_row_tmp rfl _ _ w.heap.size 94 #[.int .i64 x, .int .i64 y] (0, 0) _ rfl ?_ Tryz.underlying94 rfl (by kernel_rfl)) rfl ?_
              · exact heap_set (heap_set hE3 _) _
              rw [HEQ.out]
              exact ⟨x, y, rfl, (fun v h => (by cases h)), (hr3.set hl 0 _).set hl 1 _, (hg3.andThen (grownR_set _ _ 0 _) (fun j e => .inl (by injection e with e; omega))).andThen (grownR_set _ _ 1 _) (fun j e => .inl (by injection e with e; omega))⟩
            | some hi =>
              have HEQ : Hid (entL us = (some ⟨lo, hi⟩, b)) := entL_d h1 h2 h3
              rw [h3] at hl2
              clear h1 hsf h3
              have H2 : Hid _ := h2
              clear h2
              go_enter Tryz.func111, Tryz.ntmps111
              go_wp2_with fail
              refine hl1.mono ?_
              rintro e w1 ⟨x, rfl, hx, hr1, hgE1⟩
              have hg1 : w.grownBy w1 (some R) := hg0.trans hgE1
              have hE1 : w1.heap[w.heap.size]? = some (.cells #[.int .i64 0, .int .i64 0] 94 (0, 0)) := (hgE1.block w.heap.size (by simp) (by simp; omega)).trans (heap_new' w _)
              obtain rfl : x = lo := hx lo rfl
              have hra2 := hr1.alloc (.cells #[.int .i64 45] 3)
              have hga2 : w.grownBy (w1.alloc (.cells #[.int .i64 45] 3)) (some R) := hg1.trans (World.grownBy_alloc _ _ _)
              have htk2 := take1_any w1.heap.size 45 _ R _ _ hra2 (World.cell?_alloc_new _ _ _ _)
              rw [H2.out] at htk2
              go_wp2_with fail
              refine (is_any _ _).mono ?_
              rintro e w' ⟨rfl, rfl⟩
              go_wp2_with fail
              refine htk2.mono ?_
              rintro e w2 ⟨rfl, hr2, hgb2⟩
              have hE2 := (hgb2.block w.heap.size (by have := (Array.getElem?_eq_some_iff.1 hE1).1; simp; omega) (by simp; omega)).trans ((Below.heap_alloc w1 (.cells #[.int .i64 45] 3) w.heap.size (Array.getElem?_eq_some_iff.1 hE1).1).trans hE1)
              have hg2 : w.grownBy w2 (some R) := hga2.trans hgb2
              clear htk2 hra2 hga2 hgb2
              have hl3 := hl2 w2 hr2 (htx.grown hg2)
              go_wp2_with fail
              refine hl3.mono ?_
              rintro e w3 ⟨y, rfl, hy, hr3, hgE3⟩
              obtain rfl : y = hi := hy hi rfl
              have hg3 : w.grownBy w3 (some R) := hg2.trans hgE3
              have hE3 := (hgE3.block w.heap.size (Array.getElem?_eq_some_iff.1 hE2).1 (by simp; omega)).trans hE2
              clear hl1 hl2 hl3
              have d0 : w3.cell? ⟨w.heap.size, 0, none⟩ = some (.int .i64 0) := cell_of_row _ _ 0 _ _ _ hE3
              have d1 : w3.cell? ⟨w.heap.size, 1, none⟩ = some (.int .i64 0) := cell_of_row _ _ 1 _ _ _ hE3
              have f0 : w3.frozen? ⟨w.heap.size, 0, none⟩ = false := frozen_of_row _ _ 0 _ _ hE3
              have f1 : w3.frozen? ⟨w.heap.size, 1, none⟩ = false := frozen_of_row _ _ 1 _ _ hE3
              go_wp2
              refine bodyPost_ret (results_row_tmp rfl _ _ w.heap.size 94 #[.int .i64 x, .int .i64 y] (0, 0) _ rfl ?_ Tryz.underlying94 rfl (by kernel_rfl)) rfl ?_
              · exact heap_set (heap_set hE3 _) _
              rw [HEQ.out]
              exact ⟨x, y, rfl, (fun v h => (by injection h with h; exact h.symm)), (hr3.set hl 0 _).set hl 1 _, (hg3.andThen (grownR_set _ _ 0 _) (fun j e => .inl (by injection e with e; omega))).andThen (grownR_set _ _ 1 _) (fun j e => .inl (by injection e with e; omega))⟩
end Go.Proofs.YtfdjchnckjgapaaGreatDoor

namespace Go.Proofs.YtfdjchnckjgapaaGreatDoor
open Go.Shelf
def sortR_ren : Go.Shelf.Ren := ⟨fun | 6 => 100 | 15 => 134 | 14 => 133 | 28 => 171 | 29 => 172 | 20 => 163 | 21 => 164 | 22 => 165 | 23 => 166 | 24 => 167 | 25 => 168 | 26 => 169 | 27 => 170 | 46 => 196 | 47 => 197 | 48 => 198 | 49 => 199 | 50 => 200 | 57 => 219 | n => n, fun | 22 => 43 | 24 => 94 | 25 => 139 | 3 => 3 | 39 => 166 | 0 => 0 | 53 => 201 | 55 => 188 | 4 => 4 | 46 => 195 | 45 => 194 | 50 => 146 | 5 => 5 | 9 => 9 | 66 => 213 | 70 => 217 | 76 => 232 | 77 => 144 | n => n, fun | n => n⟩
theorem sortR : Go.Proofs.SlLaysF0.n6 Tryz.prog sortR_ren := {
  mixed := by kernel_rfl
  f6 := ⟨Tryz.f100.name, by decide, Tryz.func100.trans (congrArg some (by kernel_rfl))⟩
  f14 := ⟨Tryz.f133.name, by decide, Tryz.func133.trans (congrArg some (by kernel_rfl))⟩
  f15 := Tryz.func134.trans (congrArg some (by kernel_rfl))
  f20 := ⟨Tryz.f163.name, by decide, Tryz.func163.trans (congrArg some (by kernel_rfl))⟩
  f21 := ⟨Tryz.f164.name, by decide, Tryz.func164.trans (congrArg some (by kernel_rfl))⟩
  f22 := ⟨Tryz.f165.name, by decide, Tryz.func165.trans (congrArg some (by kernel_rfl))⟩
  f23 := ⟨Tryz.f166.name, by decide, Tryz.func166.trans (congrArg some (by kernel_rfl))⟩
  f24 := ⟨Tryz.f167.name, by decide, Tryz.func167.trans (congrArg some (by kernel_rfl))⟩
  f25 := ⟨Tryz.f168.name, by decide, Tryz.func168.trans (congrArg some (by kernel_rfl))⟩
  f26 := ⟨Tryz.f169.name, by decide, Tryz.func169.trans (congrArg some (by kernel_rfl))⟩
  f27 := ⟨Tryz.f170.name, by decide, Tryz.func170.trans (congrArg some (by kernel_rfl))⟩
  f28 := Tryz.func171.trans (congrArg some (by kernel_rfl))
  f29 := Tryz.func172.trans (congrArg some (by kernel_rfl))
  f46 := ⟨Tryz.f196.name, by decide, Tryz.func196.trans (congrArg some (by kernel_rfl))⟩
  f47 := Tryz.func197.trans (congrArg some (by kernel_rfl))
  f48 := Tryz.func198.trans (congrArg some (by kernel_rfl))
  f49 := ⟨Tryz.f199.name, by decide, Tryz.func199.trans (congrArg some (by kernel_rfl))⟩
  f50 := ⟨Tryz.f200.name, by decide, Tryz.func200.trans (congrArg some (by kernel_rfl))⟩
  f57 := ⟨Tryz.f219.name, by decide, Tryz.func219.trans (congrArg some (by kernel_rfl))⟩
  t0 := Tryz.underlying0
  a0 := Tryz.isAgg0
  z0 := Tryz.sizeOf0
  v0 := Tryz.zeroValue0
  t3 := Tryz.underlying3
  a3 := Tryz.isAgg3
  z3 := Tryz.sizeOf3
  v3 := Tryz.zeroValue3
  t4 := Tryz.underlying4
  a4 := Tryz.isAgg4
  z4 := Tryz.sizeOf4
  v4 := Tryz.zeroValue4
  t5 := Tryz.underlying5
  a5 := Tryz.isAgg5
  z5 := Tryz.sizeOf5
  v5 := Tryz.zeroValue5
  t9 := Tryz.underlying9
  a9 := Tryz.isAgg9
  z9 := Tryz.sizeOf9
  v9 := Tryz.zeroValue9
  t22 := Tryz.underlying43
  a22 := Tryz.isAgg43
  z22 := Tryz.sizeOf43
  v22 := Tryz.zeroValue43
  t25 := Tryz.underlying139
  a25 := Tryz.isAgg139
  z25 := Tryz.sizeOf139
  v25 := Tryz.zeroValue139
  t39 := Tryz.underlying166
  a39 := Tryz.isAgg166
  z39 := Tryz.sizeOf166
  v39 := Tryz.zeroValue166
  t45 := Tryz.underlying194
  a45 := Tryz.isAgg194
  z45 := Tryz.sizeOf194
  v45 := Tryz.zeroValue194
  t46 := Tryz.underlying195
  a46 := Tryz.isAgg195
  z46 := Tryz.sizeOf195
  v46 := Tryz.zeroValue195
  t50 := Tryz.underlying146
  a50 := Tryz.isAgg146
  z50 := Tryz.sizeOf146
  v50 := Tryz.zeroValue146
  t53 := Tryz.underlying201
  a53 := Tryz.isAgg201
  z53 := Tryz.sizeOf201
  v53 := Tryz.zeroValue201
  t55 := Tryz.underlying188
  a55 := Tryz.isAgg188
  z55 := Tryz.sizeOf188
  v55 := Tryz.zeroValue188
  t66 := Tryz.underlying213
  a66 := Tryz.isAgg213
  z66 := Tryz.sizeOf213
  v66 := Tryz.zeroValue213
  t70 := Tryz.underlying217
  a70 := Tryz.isAgg217
  z70 := Tryz.sizeOf217
  v70 := Tryz.zeroValue217
  t76 := Tryz.underlying232
  a76 := Tryz.isAgg232
  z76 := Tryz.sizeOf232
  v76 := Tryz.zeroValue232
  t77 := Tryz.underlying144
  a77 := Tryz.isAgg144
  z77 := Tryz.sizeOf144
  v77 := Tryz.zeroValue144 }
end Go.Proofs.YtfdjchnckjgapaaGreatDoor

namespace Go.Proofs.YtfdjchnckjgapaaGreatDoor
open Go.RowKit Go.Shelf Go.Lib Go.Sort
set_option linter.unusedVariables false

/-- The order of two ints. -/
def cmpI (x y : Int) : Int := if x < y then -1 else if y < x then 1 else 0
theorem cmpI_neg (x y : Int) : cmpI x y < 0 ↔ x < y := by
  unfold cmpI
  repeat' split
  all_goals omega
def cmpR (x y : Rg) : Int := cmpI x.lo y.lo
theorem ltOf_cmpR (x y : Rg) : ltOf cmpR x y = decide (x.lo < y.lo) := by
  unfold ltOf cmpR
  exact decide_eq_decide.2 (cmpI_neg _ _)
theorem swoR : SWO (ltOf cmpR) where
  irrefl x := by rw [ltOf_cmpR]; simp
  trans x y z h1 h2 := by rw [ltOf_cmpR] at *; simp at *; omega
  ntrans x y z h1 h2 := by rw [ltOf_cmpR] at *; simp at *; omega

theorem isNaN_any (x : Int) (w : World) : Calls Tryz.prog 135 #[.int .i64 x] w fun e w' => e = .returned (.bool false) ∧ w' = w := by
  have h : (x != x) = false := by simp
  go_enter Tryz.func135, Tryz.ntmps135
  go_wp2
  go_ret
  exact ⟨rfl, rfl⟩

theorem compare_any (x y : Int) (w : World) : Calls Tryz.prog 102 #[.int .i64 x, .int .i64 y] w fun e w' => e = .returned (.int .i64 (cmpI x y)) ∧ w' = w := by
  by_cases h1 : x < y
  · have e : cmpI x y = -1 := by simp [cmpI, h1]
    rw [e]
    go_enter Tryz.func102, Tryz.ntmps102
    go_wp2_with (go_at_call 135; refine (isNaN_any _ _).mono ?_; rintro e w' ⟨rfl, rfl⟩)
    go_ret
    exact ⟨rfl, rfl⟩
  by_cases h2 : y < x
  · have e : cmpI x y = 1 := by simp [cmpI, h1, h2]
    rw [e]
    go_enter Tryz.func102, Tryz.ntmps102
    go_wp2_with (go_at_call 135; refine (isNaN_any _ _).mono ?_; rintro e w' ⟨rfl, rfl⟩)
    go_ret
    exact ⟨rfl, rfl⟩
  · have e : cmpI x y = 0 := by simp [cmpI, h1, h2]
    rw [e]
    go_enter Tryz.func102, Tryz.ntmps102
    go_wp2_with (go_at_call 135; refine (isNaN_any _ _).mono ?_; rintro e w' ⟨rfl, rfl⟩)
    go_ret
    exact ⟨rfl, rfl⟩

theorem make1_any (x y : Rg) (w : World) : Calls Tryz.prog 101 #[.agg #[.int .i64 x.lo, .int .i64 x.hi], .agg #[.int .i64 y.lo, .int .i64 y.hi]] w fun e w' => e = .returned (.int .i64 (cmpR x y)) ∧ ∃ q os', w' = grow (w.drewN q) os' := by
  have hcon := fun W => compare_any x.lo y.lo W
  have e0 : cmpI x.lo y.lo = cmpR x y := rfl
  rw [e0] at hcon
  generalize cmpR x y = r at hcon ⊢
  go_enter Tryz.func101, Tryz.ntmps101
  go_wp2_with (go_at_call 102; refine (hcon _).mono ?_; rintro e w' ⟨rfl, rfl⟩)
  go_ret
  exact ⟨rfl, 0, _, by rw [alloc_eq_grow, alloc_eq_grow, grow_grow]; rfl⟩

/-- What the sort leaves: below the row all is as it was. -/
theorem below_sorted [Inhabited Rg] {w : World} {base g n : Nat} {d : Array Rg} {os : Array Obj} (hb : base ≤ g) (hs : base ≤ w.heap.size) : Below base w (sortWorldK cellsR 2 w g 0 n d os) := by
  refine ⟨rfl, rfl, rfl, ?_, fun k hk => ?_⟩
  · unfold sortWorldK
    rw [size_grow, size_putRowK]
    show w.heap.size ≤ w.heap.size + _
    omega
  · have h1 : (putRowK cellsR 2 (Sort.ahead w n) g 0 d).heap[k]? = w.heap[k]? := by
      unfold putRowK putRow mapBlock
      show (w.heap.modify g _)[k]? = _
      rw [Array.getElem?_modify, if_neg (by omega)]
    rw [← h1]
    unfold sortWorldK grow
    have hk2 : k < (putRowK cellsR 2 (Sort.ahead w n) g 0 d).heap.size := by
      rw [size_putRowK]
      show k < w.heap.size
      omega
    exact Array.getElem?_append_left hk2

/-- The slice is of the call's own, and so holds what the sort asks. -/
theorem holds_of_own [Inhabited Rg] {w : World} {base g cap : Nat} {l : List Rg} (h : w.ownsRow base 94 2 (.slice (some ⟨g, 0, none⟩) l.length cap) l.length (cellsRs l)) : HoldsK cellsR 2 w g 0 l.toArray := by
  intro j hj
  rw [size_flatK] at hj
  have hj' : j < l.length * 2 := by simpa using hj
  have hlt : j / 2 < l.length := by omega
  refine ⟨?_, own_frozen h _⟩
  rw [get_flatK _ _ _ _ hj]
  have hx := cellsRs_at l (j / 2) (j % 2) hlt (by omega)
  have e : j / 2 * 2 + j % 2 = j := by omega
  rw [e] at hx
  have e2 : l.toArray[j / 2]! = l[j / 2] := by simp [hlt]
  rw [e2]
  have hy : (cellsR l[j / 2])[j % 2]? = some (cellsR l[j / 2])[j % 2]! := by
    have : j % 2 < (cellsR l[j / 2]).length := by simp [cellsR]; omega
    rw [getElem!_pos (cellsR l[j / 2]) (j % 2) this, List.getElem?_eq_getElem this]
  rw [hy] at hx
  have := h.cells (g := g) rfl j _ hx
  rw [add_lit'] at this
  exact this

/-- What the sort is told to make. -/
def Ordered (l s : List Rg) : Prop := s.length = l.length ∧ (∀ r, r ∈ s ↔ r ∈ l) ∧ ∀ i j, i < j → (hi : i < s.length) → (hj : j < s.length) → s[i].lo ≤ s[j].lo

theorem rng_of_holds [Inhabited Rg] {w : World} {g cap : Nat} {s : List Rg} (h : HoldsK cellsR 2 w g 0 s.toArray) (hc : s.length ≤ cap) (hg : g < w.heap.size) : RngIn w (.slice (some ⟨g, 0, none⟩) s.length cap) s := by
  refine ⟨_, cap, rfl, hc, fun i hi => ⟨g, 0, rfl, hg, ?_, ?_⟩⟩
  · have := (HoldsK.cell h (i := i) (c := 0) (by simpa using hi) (by omega)).1
    have e2 : s.toArray[i]! = s[i] := by simp [hi]
    rw [e2] at this
    simpa [cellsR] using this
  · have := (HoldsK.cell h (i := i) (c := 1) (by simpa using hi) (by omega)).1
    have e2 : s.toArray[i]! = s[i] := by simp [hi]
    rw [e2] at this
    simpa [cellsR] using this

theorem sort_any (base : Nat) (l : List Rg) (v : Value) (w : World) (hlen : l.length < 4611686018427387904) (hbase : base ≤ w.heap.size) (hown : w.ownsRow base 94 2 v l.length (cellsRs l)) :
    Calls Tryz.prog 100 #[v, .func (.func 101) #[] #[]] w fun e w' => e = .returned (.tuple #[]) ∧ ∃ s, Ordered l s ∧ RngIn w' v s ∧ Below base w w' := by
  haveI : Inhabited Rg := ⟨⟨0, 0⟩⟩
  rcases hown.2 with ⟨rfl, h0⟩ | ⟨g, cap, cur, rfl, hb, hg, hc, hm, hs, ht⟩
  · have e : l = [] := List.length_eq_zero_iff.1 h0
    subst e
    refine (AnyF.slices_SortFunc_none sortR none 0 (.func (.func 101) #[] #[]) w).mono ?_
    rintro e w' ⟨rfl, rfl⟩
    exact ⟨rfl, [], ⟨rfl, fun r => Iff.rfl, fun i j hij hi => by cases hi⟩, RngAt.nil _ _, Below.refl _ _⟩
  · have eg : ∀ args w, (callFunc 101 args).run Tryz.prog w = .ok (.enter 101 args) w := enters_of Tryz.func101 (by kernel_rfl) rfl
    have hgl : g < w.heap.size := (Array.getElem?_eq_some_iff.1 hg).1
    have hH := holds_of_own hown
    have hcon := AnyQ.slices_SortFunc sortR 2 Tryz.isAgg94 Tryz.sizeOf94 cellsR (fun _ => rfl) (fun x u hu => by simp [cellsR] at hu; rcases hu with rfl | rfl <;> rfl) cmpR swoR 101 #[] g 0 cap l.toArray w eg (fun _ _ _ _ x y => make1_any x y _) hH hgl (by simpa using hlen)
    have e1 : l.toArray.size = l.length := by simp
    rw [e1] at hcon
    refine Calls.mono hcon ?_
    rintro e w' ⟨rfl, d', n, os, hp, hso, hw⟩
    have hd : d'.size = l.length := by rw [hp.1]; simp
    have hperm : d'.toList.Perm l := by
      have := hp.2.2
      have a1 : d'.extract 0 l.length = d' := by rw [← hd]; simp
      have a2 : l.toArray.extract 0 l.length = l.toArray := by simp
      rw [a1, a2] at this
      exact this
    refine ⟨rfl, d'.toList, ⟨by simpa using hd, fun r => hperm.mem_iff, fun i j hij hi hj => ?_⟩, ?_, by rw [hw]; exact below_sorted hb hbase⟩
    · have hi' : i < d'.size := by simpa using hi
      have hj' : j < d'.size := by simpa using hj
      have := hso i j (Nat.zero_le _) hij (by omega)
      rw [ltOf_cmpR, getElem!_pos d' i hi', getElem!_pos d' j hj'] at this
      have := of_decide_eq_false this
      simp only [Array.getElem_toList]
      omega
    · have hh : HoldsK cellsR 2 w' g 0 d' := SWK.holds (w0 := w) ⟨n, os, hw⟩ hgl hH (by simpa using hd)
      have hle : w.heap.size ≤ w'.heap.size := by
        have := SWK.le (w0 := w) (enc := cellsR) (k := 2) (blk := g) (off := 0) (dk := d') ⟨n, os, hw⟩
        exact this
      have := rng_of_holds (w := w') (g := g) (cap := cap) (s := d'.toList) (by simpa using hh) (by simpa [hd] using hc) (by omega)
      have e3 : d'.toList.length = l.length := by simpa using hd
      rw [e3] at this
      exact this

set_option maxHeartbeats 2000000 in
theorem clone_any (l : List Rg) (v : Value) (w : World) (hbig : l.length * 16 ≤ 140737488355328) (hv : RngIn w v l) :
    Calls Tryz.prog 99 #[v] w fun e w' => ∃ v', e = .returned v' ∧ w'.ownsRow w.heap.size 94 2 v' l.length (cellsRs l) ∧ Below w.heap.size w w' := by
  obtain ⟨i0, hi, hz0, hz1, hz2⟩ := info_parts Tryz.infoRange
  have q22 : ∀ (w : World) (a : Option Addr) (n c n' c' : Nat), (binOp .eql 43 (.slice a n c) (.slice none n' c')).run Tryz.prog w = .ok (.bool a.isNone) w := fun w a n c n' c' => Lib.run_eql_slice_nil w _ _ a n c n' c' Tryz.underlying43
  obtain ⟨a, cap, rfl, hc, hcell⟩ := hv
  cases a with
  | none =>
    have h0 : l = [] := by
      cases l with
      | nil => rfl
      | cons r t =>
        obtain ⟨g, off, e, _⟩ := hcell 0 (by simp)
        cases e
    subst h0
    go_enter Tryz.func99, Tryz.ntmps99
    go_wp2
    go_ret
    exact ⟨_, rfl, World.ownsRow_nil _ _ _ _, Below.refl _ _⟩
  | some ad =>
    have HO : Hid ((w.alloc (.cells #[] 94)).ownsRow w.heap.size 94 2 (.slice (some ⟨w.heap.size, 0, none⟩) 0 0) 0 []) := World.ownsRow_made w #[] 0 (Nat.le_refl _) (Nat.zero_le _) (by simp)
    have HC : Hid (∀ j u, (cellsRs l)[j]? = some u → (w.alloc (.cells #[] 94)).cell? (ad.add j) = some u) := by
      intro j u hj
      have hjl : j < l.length * 2 := by
        rw [← cellsRs_length]
        exact (List.getElem?_eq_some_iff.1 hj).1
      have hlt : j / 2 < l.length := by omega
      obtain ⟨g, off, e, hg, c0, c1⟩ := hcell (j / 2) hlt
      obtain rfl : ad = ⟨g, off, none⟩ := by simpa using e
      have hx := cellsRs_at l (j / 2) (j % 2) hlt (by omega)
      have e1 : j / 2 * 2 + j % 2 = j := by omega
      rw [e1, hj] at hx
      have e2 : (⟨g, off, none⟩ : Addr).add j = ⟨g, off + j, none⟩ := by unfold Addr.add; split <;> simp_all
      rw [e2, World.cell?_of_block (a := ⟨g, off + j, none⟩) (Below.heap_alloc w _ g hg)]
      rcases Nat.mod_two_eq_zero_or_one j with q | q
      · rw [q] at hx
        have : off + j / 2 * 2 = off + j := by omega
        rw [this] at c0
        rw [c0]
        simpa [cellsR] using hx.symm
      · rw [q] at hx
        have : off + j / 2 * 2 + 1 = off + j := by omega
        rw [this] at c1
        rw [c1]
        simpa [cellsR] using hx.symm
    have HL : Hid ((cellsRs l).length = l.length * 2) := cellsRs_length l
    have H1 : Hid (∀ u ∈ cellsRs l, u.oneCell' = true) := cellsRs_one l
    have hmax : l.length ≤ maxLen := by unfold maxLen; omega
    clear hcell
    go_enter Tryz.func99, Tryz.ntmps99
    go_wp2_with (at_builtin; go_must (refine wpList_append_own _ rfl (.tmp 5) (.tmp 6) 43 rfl w.heap.size 94 i0 (.agg #[.int .i64 0, .int .i64 0]) 2 16 Tryz.underlying43 hi hz0 hz1 hz2 rfl (by decide) _ _ _ rfl HO.out ad l.length cap (cellsRs l) rfl HL.out HC.out H1.out (by rw [Nat.zero_add]; exact hmax) (by rw [Nat.zero_add]; exact hbig) (by simp) ?_); intro v' w1 hown' hgrow hnil)
    go_ret
    refine ⟨v', rfl, by simpa using hown', ((Below.refl _ w).alloc (Nat.le_refl _) _).grown hgrow (by simp) (fun j e => (World.ownsRow.lt HO.out j e).1)⟩
end Go.Proofs.YtfdjchnckjgapaaGreatDoor
