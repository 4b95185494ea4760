/-
  What letter and entry answer. What entry answers. The library's contract of slices.SortFunc, laid at this program (the plain text of the shelf's own laying).
-/
import Derived.Test.YtohaegaocklnkaaGreatDoorX07
import Derived.Shelf.SlSortCmp.WholeK
import Derived.Test.YtohaegaocklnkaaGreatDoorProg
namespace Go.Proofs.YtohaegaocklnkaaGreatDoor
open Go.RowKit Go.Shelf S1
set_option linter.unusedVariables false

theorem letL_a {us a : List U} (h : sgn (isC 92) us = (none, a)) : letL us = sgn plainR us := by unfold letL; rw [h]
theorem letL_b {us a b : List U} {x : Int} (h : sgn (isC 92) us = (some x, a)) (h2 : sgn (isC 120) a = (none, b)) : letL us = sgn guardR a := by unfold letL; rw [h]; simp only; rw [h2]
theorem letL_c {us a b c : List U} {x y : Int} (h : sgn (isC 92) us = (some x, a)) (h2 : sgn (isC 120) a = (some y, b)) (h3 : sgn (isC 123) b = (none, c)) : letL us = (none, b) := by unfold letL; rw [h]; simp only; rw [h2]; simp only; rw [h3]
theorem letL_d {us a b c : List U} {x y z : Int} (h : sgn (isC 92) us = (some x, a)) (h2 : sgn (isC 120) a = (some y, b)) (h3 : sgn (isC 123) b = (some z, c)) : letL us = numL c := by unfold letL; rw [h]; simp only; rw [h2]; simp only; rw [h3]

set_option maxRecDepth 100000 in
set_option maxHeartbeats 4000000 in
theorem letter_any (zs : List Int) (us : List U) (R : Nat) (ta : Option Addr) (cap : Nat) (w : World) (hrd : Rd w R (.slice ta zs.length cap) us) (htx : TxtAt R w (.slice ta zs.length cap) zs) (hz : zs.length ≤ 65536) (hpos : 0 < zs.length) (hrun : Runs zs us) :
    Calls Tryz.prog 152 #[.pointer (some ⟨R, 0, none⟩)] w fun e w' => ∃ x, e = .returned (.tuple #[.int .i64 x, .bool (letL us).1.isSome]) ∧ (∀ v, (letL us).1 = some v → x = v) ∧ Rd w' R (.slice ta zs.length cap) (letL us).2 ∧ w.grownBy w' (some R) := by
  have hg0 : w.grownBy w (some R) := World.grownBy.refl _ _
  cases h1 : sgn (isC 92) us with
  | mk o1 a => cases o1 with
    | none =>
      have ea := (sgn_none h1).1
      have HEQ : Hid (letL us = sgn plainR us) := letL_a h1
      subst ea
      have H1 : Hid _ := h1
      clear h1
      go_enter Tryz.func152, Tryz.ntmps152
      have hra1 := hrd.alloc (.cells #[.int .i64 92] 3)
      have hga1 : w.grownBy (w.alloc (.cells #[.int .i64 92] 3)) (some R) := hg0.trans (World.grownBy_alloc _ _ _)
      have htk1 := take1_any w.heap.size 92 _ R _ _ hra1 (World.cell?_alloc_new _ _ _ _)
      rw [H1.out] at htk1
      go_wp2_with fail
      refine (is_any _ _).mono ?_
      rintro e w' ⟨rfl, rfl⟩
      go_wp2_with fail
      refine htk1.mono ?_
      rintro e w1 ⟨rfl, hr1, hgb1⟩
      have hg1 : w.grownBy w1 (some R) := hga1.trans hgb1
      clear htk1 hra1 hga1 hgb1
      have hsg := sign0_any 183 plainR isPlain_any (enters_of Tryz.func183 (by kernel_rfl) rfl) _ R _ _ hr1
      go_wp2_with fail
      refine hsg.mono ?_
      rintro e w9 ⟨rfl, hr9, hg9⟩
      go_wp2
      go_ret2
      rw [HEQ.out]
      exact ⟨_, rfl, (fun v h => (by rw [h]; rfl)), hr9, hg1.trans hg9⟩
    | some x =>
      have hrun1 := hrun.sgn h1
      cases h2 : sgn (isC 120) a with
      | mk o2 b => cases o2 with
        | none =>
          have eb := (sgn_none h2).1
          have HEQ : Hid (letL us = sgn guardR a) := letL_b h1 h2
          subst eb
          have H1 : Hid _ := h1
          have H2 : Hid _ := h2
          clear h1 h2
          go_enter Tryz.func152, Tryz.ntmps152
          have hra1 := hrd.alloc (.cells #[.int .i64 92] 3)
          have hga1 : w.grownBy (w.alloc (.cells #[.int .i64 92] 3)) (some R) := hg0.trans (World.grownBy_alloc _ _ _)
          have htk1 := take1_any w.heap.size 92 _ R _ _ hra1 (World.cell?_alloc_new _ _ _ _)
          rw [H1.out] at htk1
          go_wp2_with fail
          refine (is_any _ _).mono ?_
          rintro e w' ⟨rfl, rfl⟩
          go_wp2_with fail
          refine htk1.mono ?_
          rintro e w1 ⟨rfl, hr1, hgb1⟩
          have hg1 : w.grownBy w1 (some R) := hga1.trans hgb1
          clear htk1 hra1 hga1 hgb1
          have hra2 := hr1.alloc (.cells #[.int .i64 120] 3)
          have hga2 : w.grownBy (w1.alloc (.cells #[.int .i64 120] 3)) (some R) := hg1.trans (World.grownBy_alloc _ _ _)
          have htk2 := take1_any w1.heap.size 120 _ R _ _ hra2 (World.cell?_alloc_new _ _ _ _)
          rw [H2.out] at htk2
          go_wp2_with fail
          refine (is_any _ _).mono ?_
          rintro e w' ⟨rfl, rfl⟩
          go_wp2_with fail
          refine htk2.mono ?_
          rintro e w2 ⟨rfl, hr2, hgb2⟩
          have hg2 : w.grownBy w2 (some R) := hga2.trans hgb2
          clear htk2 hra2 hga2 hgb2
          have hsg := sign0_any 184 guardR isGuarded_any (enters_of Tryz.func184 (by kernel_rfl) rfl) _ R _ _ hr2
          go_wp2_with fail
          refine hsg.mono ?_
          rintro e w9 ⟨rfl, hr9, hg9⟩
          go_wp2
          go_ret2
          rw [HEQ.out]
          exact ⟨_, rfl, (fun v h => (by rw [h]; rfl)), hr9, hg2.trans hg9⟩
        | some y =>
          have hrun2 := hrun1.sgn h2
          cases h3 : sgn (isC 123) b with
          | mk o3 c => cases o3 with
            | none =>
              have ec := (sgn_none h3).1
              have HEQ : Hid (letL us = (none, b)) := letL_c h1 h2 h3
              subst ec
              have H1 : Hid _ := h1
              have H2 : Hid _ := h2
              have H3 : Hid _ := h3
              clear h1 h2 h3
              go_enter Tryz.func152, Tryz.ntmps152
              have hra1 := hrd.alloc (.cells #[.int .i64 92] 3)
              have hga1 : w.grownBy (w.alloc (.cells #[.int .i64 92] 3)) (some R) := hg0.trans (World.grownBy_alloc _ _ _)
              have htk1 := take1_any w.heap.size 92 _ R _ _ hra1 (World.cell?_alloc_new _ _ _ _)
              rw [H1.out] at htk1
              go_wp2_with fail
              refine (is_any _ _).mono ?_
              rintro e w' ⟨rfl, rfl⟩
              go_wp2_with fail
              refine htk1.mono ?_
              rintro e w1 ⟨rfl, hr1, hgb1⟩
              have hg1 : w.grownBy w1 (some R) := hga1.trans hgb1
              clear htk1 hra1 hga1 hgb1
              have hra2 := hr1.alloc (.cells #[.int .i64 120] 3)
              have hga2 : w.grownBy (w1.alloc (.cells #[.int .i64 120] 3)) (some R) := hg1.trans (World.grownBy_alloc _ _ _)
              have htk2 := take1_any w1.heap.size 120 _ R _ _ hra2 (World.cell?_alloc_new _ _ _ _)
              rw [H2.out] at htk2
              go_wp2_with fail
              refine (is_any _ _).mono ?_
              rintro e w' ⟨rfl, rfl⟩
              go_wp2_with fail
              refine htk2.mono ?_
              rintro e w2 ⟨rfl, hr2, hgb2⟩
              have hg2 : w.grownBy w2 (some R) := hga2.trans hgb2
              clear htk2 hra2 hga2 hgb2
              have hra3 := hr2.alloc (.cells #[.int .i64 123] 3)
              have hga3 : w.grownBy (w2.alloc (.cells #[.int .i64 123] 3)) (some R) := hg2.trans (World.grownBy_alloc _ _ _)
              have htk3 := take1_any w2.heap.size 123 _ R _ _ hra3 (World.cell?_alloc_new _ _ _ _)
              rw [H3.out] at htk3
              go_wp2_with fail
              refine (is_any _ _).mono ?_
              rintro e w' ⟨rfl, rfl⟩
              go_wp2_with fail
              refine htk3.mono ?_
              rintro e w3 ⟨rfl, hr3, hgb3⟩
              have hg3 : w.grownBy w3 (some R) := hga3.trans hgb3
              clear htk3 hra3 hga3 hgb3
              go_wp2
              go_ret2
              rw [HEQ.out]
              exact ⟨_, rfl, (fun v h => (by cases h)), hr3, hg3⟩
            | some z =>
              have hrun3 := hrun2.sgn h3
              have HEQ : Hid (letL us = numL c) := letL_d h1 h2 h3
              have H1 : Hid _ := h1
              have H2 : Hid _ := h2
              have H3 : Hid _ := h3
              clear h1 h2 h3
              go_enter Tryz.func152, Tryz.ntmps152
              have hra1 := hrd.alloc (.cells #[.int .i64 92] 3)
              have hga1 : w.grownBy (w.alloc (.cells #[.int .i64 92] 3)) (some R) := hg0.trans (World.grownBy_alloc _ _ _)
              have htk1 := take1_any w.heap.size 92 _ R _ _ hra1 (World.cell?_alloc_new _ _ _ _)
              rw [H1.out] at htk1
              go_wp2_with fail
              refine (is_any _ _).mono ?_
              rintro e w' ⟨rfl, rfl⟩
              go_wp2_with fail
              refine htk1.mono ?_
              rintro e w1 ⟨rfl, hr1, hgb1⟩
              have hg1 : w.grownBy w1 (some R) := hga1.trans hgb1
              clear htk1 hra1 hga1 hgb1
              have hra2 := hr1.alloc (.cells #[.int .i64 120] 3)
              have hga2 : w.grownBy (w1.alloc (.cells #[.int .i64 120] 3)) (some R) := hg1.trans (World.grownBy_alloc _ _ _)
              have htk2 := take1_any w1.heap.size 120 _ R _ _ hra2 (World.cell?_alloc_new _ _ _ _)
              rw [H2.out] at htk2
              go_wp2_with fail
              refine (is_any _ _).mono ?_
              rintro e w' ⟨rfl, rfl⟩
              go_wp2_with fail
              refine htk2.mono ?_
              rintro e w2 ⟨rfl, hr2, hgb2⟩
              have hg2 : w.grownBy w2 (some R) := hga2.trans hgb2
              clear htk2 hra2 hga2 hgb2
              have hra3 := hr2.alloc (.cells #[.int .i64 123] 3)
              have hga3 : w.grownBy (w2.alloc (.cells #[.int .i64 123] 3)) (some R) := hg2.trans (World.grownBy_alloc _ _ _)
              have htk3 := take1_any w2.heap.size 123 _ R _ _ hra3 (World.cell?_alloc_new _ _ _ _)
              rw [H3.out] at htk3
              go_wp2_with fail
              refine (is_any _ _).mono ?_
              rintro e w' ⟨rfl, rfl⟩
              go_wp2_with fail
              refine htk3.mono ?_
              rintro e w3 ⟨rfl, hr3, hgb3⟩
              have hg3 : w.grownBy w3 (some R) := hga3.trans hgb3
              clear htk3 hra3 hga3 hgb3
              have hnm := number_any zs c R ta cap w3 hr3 (htx.grown hg3) hz hpos hrun3
              go_wp2_with fail
              refine hnm.mono ?_
              rintro e w9 ⟨nv, rfl, hnv, hr9, hg9⟩
              go_wp2
              go_ret2
              rw [HEQ.out]
              exact ⟨_, rfl, hnv, hr9, hg3.trans hg9⟩
end Go.Proofs.YtohaegaocklnkaaGreatDoor

namespace Go.Proofs.YtohaegaocklnkaaGreatDoor
open Go.RowKit Go.Shelf S1
set_option linter.unusedVariables false

theorem entL_a {us r : List U} (h : letL us = (none, r)) : entL us = (none, r) := by unfold entL; rw [h]
theorem entL_b {us r a : List U} {lo : Int} (h : letL us = (some lo, r)) (h2 : sgn (isC 45) r = (none, a)) : entL us = (some ⟨lo, lo⟩, r) := by unfold entL; rw [h]; simp only; rw [h2]
theorem entL_c {us r a b : List U} {lo x : Int} (h : letL us = (some lo, r)) (h2 : sgn (isC 45) r = (some x, a)) (h3 : letL a = (none, b)) : entL us = (none, b) := by unfold entL; rw [h]; simp only; rw [h2]; simp only; rw [h3]
theorem entL_d {us r a b : List U} {lo x hi : Int} (h : letL us = (some lo, r)) (h2 : sgn (isC 45) r = (some x, a)) (h3 : letL a = (some hi, b)) : entL us = (some ⟨lo, hi⟩, b) := by unfold entL; rw [h]; simp only; rw [h2]; simp only; rw [h3]
theorem Runs.of_suffix {zs : List Int} {us r : List U} (h : Runs zs us) (hs : r <:+ us) : Runs zs r := by
  obtain ⟨a, rfl⟩ := hs
  exact h.drop
theorem sgn_suffix (p : Int → Bool) (us : List U) : (sgn p us).2 <:+ us := by
  cases us with
  | nil => exact List.suffix_refl _
  | cons u t =>
    rw [sgn_cons]
    split
    · exact List.suffix_cons u t
    · exact List.suffix_refl _
theorem figsD_suffix (n : Nat) (us : List U) : figsD n us <:+ us := by
  obtain ⟨a, h, _⟩ := figs_split n us
  exact ⟨a, h.symm⟩
theorem numL_suffix (us : List U) : (numL us).2 <:+ us := by
  unfold numL
  split
  · exact List.suffix_refl _
  · have h1 := sgn_suffix (isC 125) (figsD 6 us)
    have h2 := figsD_suffix 6 us
    split
    · rename_i a b c; rw [c] at h1; exact h1.trans h2
    · rename_i a b; rw [b] at h1; exact h1.trans h2
theorem letL_suffix (us : List U) : (letL us).2 <:+ us := by
  have h1 := sgn_suffix (isC 92) us
  unfold letL
  split
  · exact sgn_suffix _ _
  · rename_i a b c
    rw [c] at h1
    have h2 := sgn_suffix (isC 120) b
    split
    · exact (sgn_suffix _ _).trans h1
    · rename_i a2 b2 c2
      rw [c2] at h2
      have h3 := sgn_suffix (isC 123) b2
      split
      · exact h2.trans h1
      · rename_i a3 b3 c3
        rw [c3] at h3
        exact (((numL_suffix b3).trans h3).trans h2).trans h1
theorem entL_suffix (us : List U) : (entL us).2 <:+ us := by
  have h1 := letL_suffix us
  unfold entL
  split
  · rename_i a b; rw [b] at h1; exact h1
  · rename_i a b c
    rw [c] at h1
    have h2 := sgn_suffix (isC 45) b
    split
    · exact h1
    · rename_i a2 b2 c2
      rw [c2] at h2
      have h3 := letL_suffix b2
      split
      · rename_i a3 b3; rw [b3] at h3; exact (h3.trans h2).trans h1
      · rename_i a3 b3 c3; rw [c3] at h3; exact (h3.trans h2).trans h1

set_option maxRecDepth 100000 in
set_option maxHeartbeats 4000000 in
theorem entry_any (zs : List Int) (us : List U) (R : Nat) (ta : Option Addr) (cap : Nat) (w : World) (hrd : Rd w R (.slice ta zs.length cap) us) (htx : TxtAt R w (.slice ta zs.length cap) zs) (hz : zs.length ≤ 65536) (hpos : 0 < zs.length) (hrun : Runs zs us) :
    Calls Tryz.prog 117 #[.pointer (some ⟨R, 0, none⟩)] w fun e w' => ∃ x y, e = .returned (.tuple #[.agg #[.int .i64 x, .int .i64 y], .bool (entL us).1.isSome]) ∧ (∀ v, (entL us).1 = some v → v = ⟨x, y⟩) ∧ Rd w' R (.slice ta zs.length cap) (entL us).2 ∧ w.grownBy w' (some R) := by
  have hg0 : w.grownBy (w.alloc (.cells #[.int .i64 0, .int .i64 0] 80)) (some R) := World.grownBy_alloc _ _ _
  have hl : R < w.heap.size := hrd.text.2
  have hl1 := letter_any zs us R ta cap (w.alloc (.cells #[.int .i64 0, .int .i64 0] 80)) (hrd.alloc _) (htx.grown hg0) hz hpos hrun
  have hsf := letL_suffix us
  cases h1 : letL us with
  | mk o1 r => cases o1 with
    | none =>
      have HEQ : Hid (entL us = (none, r)) := entL_a h1
      rw [h1] at hl1
      clear h1 hsf
      go_enter Tryz.func117, Tryz.ntmps117
      go_wp2_with fail
      refine hl1.mono ?_
      rintro e w1 ⟨x, rfl, hx, hr1, hgE1⟩
      have hg1 : w.grownBy w1 (some R) := hg0.trans hgE1
      have hE1 : w1.heap[w.heap.size]? = some (.cells #[.int .i64 0, .int .i64 0] 80 (0, 0)) := (hgE1.block w.heap.size (by simp) (by simp; omega)).trans (heap_new' w _)
      have d0 : w1.cell? ⟨w.heap.size, 0, none⟩ = some (.int .i64 0) := cell_of_row _ _ 0 _ _ _ hE1
      have d1 : w1.cell? ⟨w.heap.size, 1, none⟩ = some (.int .i64 0) := cell_of_row _ _ 1 _ _ _ hE1
      have f0 : w1.frozen? ⟨w.heap.size, 0, none⟩ = false := frozen_of_row _ _ 0 _ _ hE1
      have f1 : w1.frozen? ⟨w.heap.size, 1, none⟩ = false := frozen_of_row _ _ 1 _ _ hE1
      go_wp2
      refine bodyPost_ret (results_row_tmp rfl _ _ w.heap.size 80 #[.int .i64 x, .int .i64 x] (0, 0) _ rfl ?_ Tryz.underlying80 rfl (by kernel_rfl)) rfl ?_
      · exact heap_set (heap_set hE1 _) _
      rw [HEQ.out]
      exact ⟨x, x, rfl, (fun v h => (by cases h)), (hr1.set hl 0 _).set hl 1 _, (hg1.andThen (grownR_set _ _ 0 _) (fun j e => .inl (by injection e with e; omega))).andThen (grownR_set _ _ 1 _) (fun j e => .inl (by injection e with e; omega))⟩
    | some lo =>
      rw [h1] at hl1 hsf
      have hrun1 := hrun.of_suffix hsf
      cases h2 : sgn (isC 45) r with
      | mk o2 a => cases o2 with
        | none =>
          have ea := (sgn_none h2).1
          have HEQ : Hid (entL us = (some ⟨lo, lo⟩, r)) := entL_b h1 h2
          subst ea
          clear h1 hsf
          have H2 : Hid _ := h2
          clear h2
          go_enter Tryz.func117, Tryz.ntmps117
          go_wp2_with fail
          refine hl1.mono ?_
          rintro e w1 ⟨x, rfl, hx, hr1, hgE1⟩
          have hg1 : w.grownBy w1 (some R) := hg0.trans hgE1
          have hE1 : w1.heap[w.heap.size]? = some (.cells #[.int .i64 0, .int .i64 0] 80 (0, 0)) := (hgE1.block w.heap.size (by simp) (by simp; omega)).trans (heap_new' w _)
          obtain rfl : x = lo := hx lo rfl
          have hra2 := hr1.alloc (.cells #[.int .i64 45] 3)
          have hga2 : w.grownBy (w1.alloc (.cells #[.int .i64 45] 3)) (some R) := hg1.trans (World.grownBy_alloc _ _ _)
          have htk2 := take1_any w1.heap.size 45 _ R _ _ hra2 (World.cell?_alloc_new _ _ _ _)
          rw [H2.out] at htk2
          go_wp2_with fail
          refine (is_any _ _).mono ?_
          rintro e w' ⟨rfl, rfl⟩
          go_wp2_with fail
          refine htk2.mono ?_
          rintro e w2 ⟨rfl, hr2, hgb2⟩
          have hE2 := (hgb2.block w.heap.size (by have := (Array.getElem?_eq_some_iff.1 hE1).1; simp; omega) (by simp; omega)).trans ((Below.heap_alloc w1 (.cells #[.int .i64 45] 3) w.heap.size (Array.getElem?_eq_some_iff.1 hE1).1).trans hE1)
          have hg2 : w.grownBy w2 (some R) := hga2.trans hgb2
          clear htk2 hra2 hga2 hgb2
          have d0 : w2.cell? ⟨w.heap.size, 0, none⟩ = some (.int .i64 0) := cell_of_row _ _ 0 _ _ _ hE2
          have d1 : w2.cell? ⟨w.heap.size, 1, none⟩ = some (.int .i64 0) := cell_of_row _ _ 1 _ _ _ hE2
          have f0 : w2.frozen? ⟨w.heap.size, 0, none⟩ = false := frozen_of_row _ _ 0 _ _ hE2
          have f1 : w2.frozen? ⟨w.heap.size, 1, none⟩ = false := frozen_of_row _ _ 1 _ _ hE2
          go_wp2
          refine bodyPost_ret (results_row_tmp rfl _ _ w.heap.size 80 #[.int .i64 x, .int .i64 x] (0, 0) _ rfl ?_ Tryz.underlying80 rfl (by kernel_rfl)) rfl ?_
          · exact heap_set (heap_set hE2 _) _
          rw [HEQ.out]
          exact ⟨x, x, rfl, (fun v h => (by injection h with h; exact h.symm)), (hr2.set hl 0 _).set hl 1 _, (hg2.andThen (grownR_set _ _ 0 _) (fun j e => .inl (by injection e with e; omega))).andThen (grownR_set _ _ 1 _) (fun j e => .inl (by injection e with e; omega))⟩
        | some c =>
          have hrun2 := hrun1.sgn h2
          have hl2 := fun (W : World) hr htx' => letter_any zs a R ta cap W hr htx' hz hpos hrun2
          cases h3 : letL a with
          | mk o3 b => cases o3 with
            | none =>
              have HEQ : Hid (entL us = (none, b)) := entL_c h1 h2 h3
              rw [h3] at hl2
              clear h1 hsf h3
              have H2 : Hid _ := h2
              clear h2
              go_enter Tryz.func117, Tryz.ntmps117
              go_wp2_with fail
              refine hl1.mono ?_
              rintro e w1 ⟨x, rfl, hx, hr1, hgE1⟩
              have hg1 : w.grownBy w1 (some R) := hg0.trans hgE1
              have hE1 : w1.heap[w.heap.size]? = some (.cells #[.int .i64 0, .int .i64 0] 80 (0, 0)) := (hgE1.block w.heap.size (by simp) (by simp; omega)).trans (heap_new' w _)
              obtain rfl : x = lo := hx lo rfl
              have hra2 := hr1.alloc (.cells #[.int .i64 45] 3)
              have hga2 : w.grownBy (w1.alloc (.cells #[.int .i64 45] 3)) (some R) := hg1.trans (World.grownBy_alloc _ _ _)
              have htk2 := take1_any w1.heap.size 45 _ R _ _ hra2 (World.cell?_alloc_new _ _ _ _)
              rw [H2.out] at htk2
              go_wp2_with fail
              refine (is_any _ _).mono ?_
              rintro e w' ⟨rfl, rfl⟩
              go_wp2_with fail
              refine htk2.mono ?_
              rintro e w2 ⟨rfl, hr2, hgb2⟩
              have hE2 := (hgb2.block w.heap.size (by have := (Array.getElem?_eq_some_iff.1 hE1).1; simp; omega) (by simp; omega)).trans ((Below.heap_alloc w1 (.cells #[.int .i64 45] 3) w.heap.size (Array.getElem?_eq_some_iff.1 hE1).1).trans hE1)
              have hg2 : w.grownBy w2 (some R) := hga2.trans hgb2
              clear htk2 hra2 hga2 hgb2
              have hl3 := hl2 w2 hr2 (htx.grown hg2)
              go_wp2_with fail
              refine hl3.mono ?_
              rintro e w3 ⟨y, rfl, hy, hr3, hgE3⟩
              have hg3 : w.grownBy w3 (some R) := hg2.trans hgE3
              have hE3 := (hgE3.block w.heap.size (Array.getElem?_eq_some_iff.1 hE2).1 (by simp; omega)).trans hE2
              clear hl1 hl2 hl3
              have d0 : w3.cell? ⟨w.heap.size, 0, none⟩ = some (.int .i64 0) := cell_of_row _ _ 0 _ _ _ hE3
              have d1 : w3.cell? ⟨w.heap.size, 1, none⟩ = some (.int .i64 0) := cell_of_row _ _ 1 _ _ _ hE3
              have f0 : w3.frozen? ⟨w.heap.size, 0, none⟩ = false := frozen_of_row _ _ 0 _ _ hE3
              have f1 : w3.frozen? ⟨w.heap.size, 1, none⟩ = false := frozen_of_row _ _ 1 _ _ hE3
              go_wp2
              refine bodyPost_ret (results_row_tmp rfl _ _ w.heap.size 80 #[.int .i64 x, .int .i64 y] (0, 0) _ rfl ?_ Tryz.underlying80 rfl (by kernel_rfl)) rfl ?_
              · exact heap_set (heap_set hE3 _) _
              rw [HEQ.out]
              exact ⟨x, y, rfl, (fun v h => (by cases h)), (hr3.set hl 0 _).set hl 1 _, (hg3.andThen (grownR_set _ _ 0 _) (fun j e => .inl (by injection e with e; omega))).andThen (grownR_set _ _ 1 _) (fun j e => .inl (by injection e with e; omega))⟩
            | some hi =>
              have HEQ : Hid (entL us = (some ⟨lo, hi⟩, b)) := entL_d h1 h2 h3
              rw [h3] at hl2
              clear h1 hsf h3
              have H2 : Hid _ := h2
              clear h2
              go_enter Tryz.func117, Tryz.ntmps117
              go_wp2_with fail
              refine hl1.mono ?_
              rintro e w1 ⟨x, rfl, hx, hr1, hgE1⟩
              have hg1 : w.grownBy w1 (some R) := hg0.trans hgE1
              have hE1 : w1.heap[w.heap.size]? = some (.cells #[.int .i64 0, .int .i64 0] 80 (0, 0)) := (hgE1.block w.heap.size (by simp) (by simp; omega)).trans (heap_new' w _)
              obtain rfl : x = lo := hx lo rfl
              have hra2 := hr1.alloc (.cells #[.int .i64 45] 3)
              have hga2 : w.grownBy (w1.alloc (.cells #[.int .i64 45] 3)) (some R) := hg1.trans (World.grownBy_alloc _ _ _)
              have htk2 := take1_any w1.heap.size 45 _ R _ _ hra2 (World.cell?_alloc_new _ _ _ _)
              rw [H2.out] at htk2
              go_wp2_with fail
              refine (is_any _ _).mono ?_
              rintro e w' ⟨rfl, rfl⟩
              go_wp2_with fail
              refine htk2.mono ?_
              rintro e w2 ⟨rfl, hr2, hgb2⟩
              have hE2 := (hgb2.block w.heap.size (by have := (Array.getElem?_eq_some_iff.1 hE1).1; simp; omega) (by simp; omega)).trans ((Below.heap_alloc w1 (.cells #[.int .i64 45] 3) w.heap.size (Array.getElem?_eq_some_iff.1 hE1).1).trans hE1)
              have hg2 : w.grownBy w2 (some R) := hga2.trans hgb2
              clear htk2 hra2 hga2 hgb2
              have hl3 := hl2 w2 hr2 (htx.grown hg2)
              go_wp2_with fail
              refine hl3.mono ?_
              rintro e w3 ⟨y, rfl, hy, hr3, hgE3⟩
              obtain rfl : y = hi := hy hi rfl
              have hg3 : w.grownBy w3 (some R) := hg2.trans hgE3
              have hE3 := (hgE3.block w.heap.size (Array.getElem?_eq_some_iff.1 hE2).1 (by simp; omega)).trans hE2
              clear hl1 hl2 hl3
              have d0 : w3.cell? ⟨w.heap.size, 0, none⟩ = some (.int .i64 0) := cell_of_row _ _ 0 _ _ _ hE3
              have d1 : w3.cell? ⟨w.heap.size, 1, none⟩ = some (.int .i64 0) := cell_of_row _ _ 1 _ _ _ hE3
              have f0 : w3.frozen? ⟨w.heap.size, 0, none⟩ = false := frozen_of_row _ _ 0 _ _ hE3
              have f1 : w3.frozen? ⟨w.heap.size, 1, none⟩ = false := frozen_of_row _ _ 1 _ _ hE3
              go_wp2
              refine bodyPost_ret (results_row_tmp rfl _ _ w.heap.size 80 #[.int .i64 x, .int .i64 y] (0, 0) _ rfl ?_ Tryz.underlying80 rfl (by kernel_rfl)) rfl ?_
              · exact heap_set (heap_set hE3 _) _
              rw [HEQ.out]
              exact ⟨x, y, rfl, (fun v h => (by injection h with h; exact h.symm)), (hr3.set hl 0 _).set hl 1 _, (hg3.andThen (grownR_set _ _ 0 _) (fun j e => .inl (by injection e with e; omega))).andThen (grownR_set _ _ 1 _) (fun j e => .inl (by injection e with e; omega))⟩
end Go.Proofs.YtohaegaocklnkaaGreatDoor

namespace Go.Proofs.YtohaegaocklnkaaGreatDoor
open Go.Shelf
def sortR_ren : Go.Shelf.Ren := ⟨fun | 6 => 101 | 15 => 135 | 14 => 134 | 28 => 172 | 29 => 173 | 20 => 164 | 21 => 165 | 22 => 166 | 23 => 167 | 24 => 168 | 25 => 169 | 26 => 170 | 27 => 171 | 46 => 197 | 47 => 198 | 48 => 199 | 49 => 200 | 50 => 201 | 57 => 220 | n => n, fun | 22 => 44 | 24 => 80 | 25 => 139 | 3 => 3 | 39 => 166 | 0 => 0 | 53 => 201 | 55 => 178 | 4 => 4 | 46 => 195 | 45 => 194 | 50 => 151 | 5 => 5 | 9 => 9 | 66 => 213 | 70 => 217 | 76 => 232 | 77 => 149 | n => n, fun | n => n⟩
theorem sortR : Go.Proofs.SlLaysF0.n6 Tryz.prog sortR_ren := {
  mixed := by kernel_rfl
  f6 := ⟨Tryz.f101.name, by decide, Tryz.func101.trans (congrArg some (by kernel_rfl))⟩
  f14 := ⟨Tryz.f134.name, by decide, Tryz.func134.trans (congrArg some (by kernel_rfl))⟩
  f15 := Tryz.func135.trans (congrArg some (by kernel_rfl))
  f20 := ⟨Tryz.f164.name, by decide, Tryz.func164.trans (congrArg some (by kernel_rfl))⟩
  f21 := ⟨Tryz.f165.name, by decide, Tryz.func165.trans (congrArg some (by kernel_rfl))⟩
  f22 := ⟨Tryz.f166.name, by decide, Tryz.func166.trans (congrArg some (by kernel_rfl))⟩
  f23 := ⟨Tryz.f167.name, by decide, Tryz.func167.trans (congrArg some (by kernel_rfl))⟩
  f24 := ⟨Tryz.f168.name, by decide, Tryz.func168.trans (congrArg some (by kernel_rfl))⟩
  f25 := ⟨Tryz.f169.name, by decide, Tryz.func169.trans (congrArg some (by kernel_rfl))⟩
  f26 := ⟨Tryz.f170.name, by decide, Tryz.func170.trans (congrArg some (by kernel_rfl))⟩
  f27 := ⟨Tryz.f171.name, by decide, Tryz.func171.trans (congrArg some (by kernel_rfl))⟩
  f28 := Tryz.func172.trans (congrArg some (by kernel_rfl))
  f29 := Tryz.func173.trans (congrArg some (by kernel_rfl))
  f46 := ⟨Tryz.f197.name, by decide, Tryz.func197.trans (congrArg some (by kernel_rfl))⟩
  f47 := Tryz.func198.trans (congrArg some (by kernel_rfl))
  f48 := Tryz.func199.trans (congrArg some (by kernel_rfl))
  f49 := ⟨Tryz.f200.name, by decide, Tryz.func200.trans (congrArg some (by kernel_rfl))⟩
  f50 := ⟨Tryz.f201.name, by decide, Tryz.func201.trans (congrArg some (by kernel_rfl))⟩
  f57 := ⟨Tryz.f220.name, by decide, Tryz.func220.trans (congrArg some (by kernel_rfl))⟩
  t0 := Tryz.underlying0
  a0 := Tryz.isAgg0
  z0 := Tryz.sizeOf0
  v0 := Tryz.zeroValue0
  t3 := Tryz.underlying3
  a3 := Tryz.isAgg3
  z3 := Tryz.sizeOf3
  v3 := Tryz.zeroValue3
  t4 := Tryz.underlying4
  a4 := Tryz.isAgg4
  z4 := Tryz.sizeOf4
  v4 := Tryz.zeroValue4
  t5 := Tryz.underlying5
  a5 := Tryz.isAgg5
  z5 := Tryz.sizeOf5
  v5 := Tryz.zeroValue5
  t9 := Tryz.underlying9
  a9 := Tryz.isAgg9
  z9 := Tryz.sizeOf9
  v9 := Tryz.zeroValue9
  t22 := Tryz.underlying44
  a22 := Tryz.isAgg44
  z22 := Tryz.sizeOf44
  v22 := Tryz.zeroValue44
  t25 := Tryz.underlying139
  a25 := Tryz.isAgg139
  z25 := Tryz.sizeOf139
  v25 := Tryz.zeroValue139
  t39 := Tryz.underlying166
  a39 := Tryz.isAgg166
  z39 := Tryz.sizeOf166
  v39 := Tryz.zeroValue166
  t45 := Tryz.underlying194
  a45 := Tryz.isAgg194
  z45 := Tryz.sizeOf194
  v45 := Tryz.zeroValue194
  t46 := Tryz.underlying195
  a46 := Tryz.isAgg195
  z46 := Tryz.sizeOf195
  v46 := Tryz.zeroValue195
  t50 := Tryz.underlying151
  a50 := Tryz.isAgg151
  z50 := Tryz.sizeOf151
  v50 := Tryz.zeroValue151
  t53 := Tryz.underlying201
  a53 := Tryz.isAgg201
  z53 := Tryz.sizeOf201
  v53 := Tryz.zeroValue201
  t55 := Tryz.underlying178
  a55 := Tryz.isAgg178
  z55 := Tryz.sizeOf178
  v55 := Tryz.zeroValue178
  t66 := Tryz.underlying213
  a66 := Tryz.isAgg213
  z66 := Tryz.sizeOf213
  v66 := Tryz.zeroValue213
  t70 := Tryz.underlying217
  a70 := Tryz.isAgg217
  z70 := Tryz.sizeOf217
  v70 := Tryz.zeroValue217
  t76 := Tryz.underlying232
  a76 := Tryz.isAgg232
  z76 := Tryz.sizeOf232
  v76 := Tryz.zeroValue232
  t77 := Tryz.underlying149
  a77 := Tryz.isAgg149
  z77 := Tryz.sizeOf149
  v77 := Tryz.zeroValue149 }
end Go.Proofs.YtohaegaocklnkaaGreatDoor
