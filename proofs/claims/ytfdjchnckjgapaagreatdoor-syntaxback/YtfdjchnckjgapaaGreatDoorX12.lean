/-
  Rows7 Entry
-/
import Derived.Test.YtfdjchnckjgapaaGreatDoorX07
import Derived.Laws.ResultCell
import Derived.Laws.Rows
import Derived.Test.YtfdjchnckjgapaaGreatDoorX11
namespace Go.Proofs.YtfdjchnckjgapaaGreatDoor
open Go.RowKit
set_option linter.unusedVariables false
theorem heap_set {w : World} {b i : Nat} {cs : Array Value} {t : TypeId} {fr : Nat × Nat} (h : w.heap[b]? = some (.cells cs t fr)) (v : Value) : (w.setCell ⟨b, i, none⟩ v).heap[b]? = some (.cells (cs.setIfInBounds i v) t fr) := by
  simp [World.setCell]
  rw [Array.getElem?_modify, if_pos rfl, h]
  rfl
theorem results_row_tmp {P : Program} {fn : Func} {p u : Tmp} {ty : TypeId} (h : fn.results = #[.cell p ty, .tmp u]) (tmps : Array Value) (w : World) (g : Nat) (t : TypeId) (cs : Array Value) (fr : Nat × Nat) (d : TypeDesc)
    (hp : tmps.getD p undef = .pointer (some ⟨g, 0, none⟩)) (hg : w.heap[g]? = some (.cells cs t fr))
    (hu : P.underlying ty = some d) (hd : (match d with | .struct _ | .array _ _ => true | _ => false) = true) (hi : (P.info? ty).map (·.size) = some cs.size) :
    (results fn tmps).run P w = .ok (.tuple #[.agg cs, tmps.getD u undef]) w := by
  have hp' : tmps[p]?.getD undef = .pointer (some ⟨g, 0, none⟩) := by simpa using hp
  simp [results, h, hp', asAddr, run_loadVar_row w g t ty cs fr d hg hu hd hi]
theorem results_row_tmp2 {P : Program} {fn : Func} {p u v : Tmp} {ty : TypeId} (h : fn.results = #[.cell p ty, .tmp u, .tmp v]) (tmps : Array Value) (w : World) (g : Nat) (t : TypeId) (cs : Array Value) (fr : Nat × Nat) (d : TypeDesc)
    (hp : tmps.getD p undef = .pointer (some ⟨g, 0, none⟩)) (hg : w.heap[g]? = some (.cells cs t fr))
    (hu : P.underlying ty = some d) (hd : (match d with | .struct _ | .array _ _ => true | _ => false) = true) (hi : (P.info? ty).map (·.size) = some cs.size) :
    (results fn tmps).run P w = .ok (.tuple #[.agg cs, tmps.getD u undef, tmps.getD v undef]) w := by
  have hp' : tmps[p]?.getD undef = .pointer (some ⟨g, 0, none⟩) := by simpa using hp
  simp [results, h, hp', asAddr, run_loadVar_row w g t ty cs fr d hg hu hd hi]
end Go.Proofs.YtfdjchnckjgapaaGreatDoor

namespace Go.Proofs.YtfdjchnckjgapaaGreatDoor
open Go.RowKit Go.Shelf S1
set_option linter.unusedVariables false
theorem entL_a {us r : List U} (h : letL us = (none, r)) : entL us = (none, r) := by unfold entL; rw [h]
theorem entL_b {us r a : List U} {lo : Int} (h : letL us = (some lo, r)) (h2 : sgn (isC 45) r = (none, a)) : entL us = (some ⟨lo, lo⟩, r) := by unfold entL; rw [h]; simp only; rw [h2]
theorem entL_c {us r a b : List U} {lo x : Int} (h : letL us = (some lo, r)) (h2 : sgn (isC 45) r = (some x, a)) (h3 : letL a = (none, b)) : entL us = (none, b) := by unfold entL; rw [h]; simp only; rw [h2]; simp only; rw [h3]
theorem entL_d {us r a b : List U} {lo x hi : Int} (h : letL us = (some lo, r)) (h2 : sgn (isC 45) r = (some x, a)) (h3 : letL a = (some hi, b)) : entL us = (some ⟨lo, hi⟩, b) := by unfold entL; rw [h]; simp only; rw [h2]; simp only; rw [h3]
theorem Runs.of_suffix {zs : List Int} {us r : List U} (h : Runs zs us) (hs : r <:+ us) : Runs zs r := by
  obtain ⟨a, rfl⟩ := hs
  exact h.drop
theorem sgn_suffix (p : Int → Bool) (us : List U) : (sgn p us).2 <:+ us := by
  cases us with
  | nil => exact List.suffix_refl _
  | cons u t =>
    rw [sgn_cons]
    split
    · exact List.suffix_cons u t
    · exact List.suffix_refl _
theorem figsD_suffix (n : Nat) (us : List U) : figsD n us <:+ us := by
  obtain ⟨a, h, _⟩ := figs_split n us
  exact ⟨a, h.symm⟩
theorem numL_suffix (us : List U) : (numL us).2 <:+ us := by
  unfold numL
  split
  · exact List.suffix_refl _
  · have h1 := sgn_suffix (isC 125) (figsD 6 us)
    have h2 := figsD_suffix 6 us
    split
    · rename_i a b c; rw [c] at h1; exact h1.trans h2
    · rename_i a b; rw [b] at h1; exact h1.trans h2
theorem letL_suffix (us : List U) : (letL us).2 <:+ us := by
  have h1 := sgn_suffix (isC 92) us
  unfold letL
  split
  · exact sgn_suffix _ _
  · rename_i a b c
    rw [c] at h1
    have h2 := sgn_suffix (isC 120) b
    split
    · exact (sgn_suffix _ _).trans h1
    · rename_i a2 b2 c2
      rw [c2] at h2
      have h3 := sgn_suffix (isC 123) b2
      split
      · exact h2.trans h1
      · rename_i a3 b3 c3
        rw [c3] at h3
        exact (((numL_suffix b3).trans h3).trans h2).trans h1
theorem entL_suffix (us : List U) : (entL us).2 <:+ us := by
  have h1 := letL_suffix us
  unfold entL
  split
  · rename_i a b; rw [b] at h1; exact h1
  · rename_i a b c
    rw [c] at h1
    have h2 := sgn_suffix (isC 45) b
    split
    · exact h1
    · rename_i a2 b2 c2
      rw [c2] at h2
      have h3 := letL_suffix b2
      split
      · rename_i a3 b3; rw [b3] at h3; exact (h3.trans h2).trans h1
      · rename_i a3 b3 c3; rw [c3] at h3; exact (h3.trans h2).trans h1
set_option maxRecDepth 100000 in
set_option maxHeartbeats 4000000 in
theorem entry_any (zs : List Int) (us : List U) (R : Nat) (ta : Option Addr) (cap : Nat) (w : World) (hrd : Rd w R (.slice ta zs.length cap) us) (htx : TxtAt R w (.slice ta zs.length cap) zs) (hz : zs.length ≤ 65536) (hpos : 0 < zs.length) (hrun : Runs zs us) :
    Calls Tryz.prog 111 #[.pointer (some ⟨R, 0, none⟩)] w fun e w' => ∃ x y, e = .returned (.tuple #[.agg #[.int .i64 x, .int .i64 y], .bool (entL us).1.isSome]) ∧ (∀ v, (entL us).1 = some v → v = ⟨x, y⟩) ∧ Rd w' R (.slice ta zs.length cap) (entL us).2 ∧ w.grownBy w' (some R) := by
  have hg0 : w.grownBy (w.alloc (.cells #[.int .i64 0, .int .i64 0] 94)) (some R) := World.grownBy_alloc _ _ _
  have hl : R < w.heap.size := hrd.text.2
  have hl1 := letter_any zs us R ta cap (w.alloc (.cells #[.int .i64 0, .int .i64 0] 94)) (hrd.alloc _) (htx.grown hg0) hz hpos hrun
  have hsf := letL_suffix us
  cases h1 : letL us with
  | mk o1 r => cases o1 with
    | none =>
      have HEQ : Hid (entL us = (none, r)) := entL_a h1
      rw [h1] at hl1
      clear h1 hsf
      go_enter Tryz.func111, Tryz.ntmps111
      go_wp2_with fail
      refine hl1.mono ?_
      rintro e w1 ⟨x, rfl, hx, hr1, hgE1⟩
      have hg1 : w.grownBy w1 (some R) := hg0.trans hgE1
      have hE1 : w1.heap[w.heap.size]? = some (.cells #[.int .i64 0, .int .i64 0] 94 (0, 0)) := (hgE1.block w.heap.size (by simp) (by simp; omega)).trans (heap_new' w _)
      have d0 : w1.cell? ⟨w.heap.size, 0, none⟩ = some (.int .i64 0) := cell_of_row _ _ 0 _ _ _ hE1
      have d1 : w1.cell? ⟨w.heap.size, 1, none⟩ = some (.int .i64 0) := cell_of_row _ _ 1 _ _ _ hE1
      have f0 : w1.frozen? ⟨w.heap.size, 0, none⟩ = false := frozen_of_row _ _ 0 _ _ hE1
      have f1 : w1.frozen? ⟨w.heap.size, 1, none⟩ = false := frozen_of_row _ _ 1 _ _ hE1
      go_wp2
      refine bodyPost_ret (results_row_tmp rfl _ _ w.heap.size 94 #[.int .i64 x, .int .i64 x] (0, 0) _ rfl ?_ Tryz.underlying94 rfl (by kernel_rfl)) rfl ?_
      · exact heap_set (heap_set hE1 _) _
      rw [HEQ.out]
      exact ⟨x, x, rfl, (fun v h => (by cases h)), (hr1.set hl 0 _).set hl 1 _, (hg1.andThen (grownR_set _ _ 0 _) (fun j e => .inl (by injection e with e; omega))).andThen (grownR_set _ _ 1 _) (fun j e => .inl (by injection e with e; omega))⟩
    | some lo =>
      rw [h1] at hl1 hsf
      have hrun1 := hrun.of_suffix hsf
      cases h2 : sgn (isC 45) r with
      | mk o2 a => cases o2 with
        | none =>
          have ea := (sgn_none h2).1
          have HEQ : Hid (entL us = (some ⟨lo, lo⟩, r)) := entL_b h1 h2
          subst ea
          clear h1 hsf
          have H2 : Hid _ := h2
          clear h2
          go_enter Tryz.func111, Tryz.ntmps111
          go_wp2_with fail
          refine hl1.mono ?_
          rintro e w1 ⟨x, rfl, hx, hr1, hgE1⟩
          have hg1 : w.grownBy w1 (some R) := hg0.trans hgE1
          have hE1 : w1.heap[w.heap.size]? = some (.cells #[.int .i64 0, .int .i64 0] 94 (0, 0)) := (hgE1.block w.heap.size (by simp) (by simp; omega)).trans (heap_new' w _)
          obtain rfl : x = lo := hx lo rfl
          have hra2 := hr1.alloc (.cells #[.int .i64 45] 3)
          have hga2 : w.grownBy (w1.alloc (.cells #[.int .i64 45] 3)) (some R) := hg1.trans (World.grownBy_alloc _ _ _)
          have htk2 := take1_any w1.heap.size 45 _ R _ _ hra2 (World.cell?_alloc_new _ _ _ _)
          rw [H2.out] at htk2
          go_wp2_with fail
          refine (is_any _ _).mono ?_
          rintro e w' ⟨rfl, rfl⟩
          go_wp2_with fail
          refine htk2.mono ?_
          rintro e w2 ⟨rfl, hr2, hgb2⟩
          have hE2 := (hgb2.block w.heap.size (by have := (Array.getElem?_eq_some_iff.1 hE1).1; simp; omega) (by simp; omega)).trans ((Below.heap_alloc w1 (.cells #[.int .i64 45] 3) w.heap.size (Array.getElem?_eq_some_iff.1 hE1).1).trans hE1)
          have hg2 : w.grownBy w2 (some R) := hga2.trans hgb2
          clear htk2 hra2 hga2 hgb2
          have d0 : w2.cell? ⟨w.heap.size, 0, none⟩ = some (.int .i64 0) := cell_of_row _ _ 0 _ _ _ hE2
          have d1 : w2.cell? ⟨w.heap.size, 1, none⟩ = some (.int .i64 0) := cell_of_row _ _ 1 _ _ _ hE2
          have f0 : w2.frozen? ⟨w.heap.size, 0, none⟩ = false := frozen_of_row _ _ 0 _ _ hE2
          have f1 : w2.frozen? ⟨w.heap.size, 1, none⟩ = false := frozen_of_row _ _ 1 _ _ hE2
          go_wp2
          refine bodyPost_ret (results_row_tmp rfl _ _ w.heap.size 94 #[.int .i64 x, .int .i64 x] (0, 0) _ rfl ?_ Tryz.underlying94 rfl (by kernel_rfl)) rfl ?_
          · exact heap_set (heap_set hE2 _) _
          rw [HEQ.out]
          exact ⟨x, x, rfl, (fun v h => (by injection h with h; exact h.symm)), (hr2.set hl 0 _).set hl 1 _, (hg2.andThen (grownR_set _ _ 0 _) (fun j e => .inl (by injection e with e; omega))).andThen (grownR_set _ _ 1 _) (fun j e => .inl (by injection e with e; omega))⟩
        | some c =>
          have hrun2 := hrun1.sgn h2
          have hl2 := fun (W : World) hr htx' => letter_any zs a R ta cap W hr htx' hz hpos hrun2
          cases h3 : letL a with
          | mk o3 b => cases o3 with
            | none =>
              have HEQ : Hid (entL us = (none, b)) := entL_c h1 h2 h3
              rw [h3] at hl2
              clear h1 hsf h3
              have H2 : Hid _ := h2
              clear h2
              go_enter Tryz.func111, Tryz.ntmps111
              go_wp2_with fail
              refine hl1.mono ?_
              rintro e w1 ⟨x, rfl, hx, hr1, hgE1⟩
              have hg1 : w.grownBy w1 (some R) := hg0.trans hgE1
              have hE1 : w1.heap[w.heap.size]? = some (.cells #[.int .i64 0, .int .i64 0] 94 (0, 0)) := (hgE1.block w.heap.size (by simp) (by simp; omega)).trans (heap_new' w _)
              obtain rfl : x = lo := hx lo rfl
              have hra2 := hr1.alloc (.cells #[.int .i64 45] 3)
              have hga2 : w.grownBy (w1.alloc (.cells #[.int .i64 45] 3)) (some R) := hg1.trans (World.grownBy_alloc _ _ _)
              have htk2 := take1_any w1.heap.size 45 _ R _ _ hra2 (World.cell?_alloc_new _ _ _ _)
              rw [H2.out] at htk2
              go_wp2_with fail
              refine (is_any _ _).mono ?_
              rintro e w' ⟨rfl, rfl⟩
              go_wp2_with fail
              refine htk2.mono ?_
              rintro e w2 ⟨rfl, hr2, hgb2⟩
              have hE2 := (hgb2.block w.heap.size (by have := (Array.getElem?_eq_some_iff.1 hE1).1; simp; omega) (by simp; omega)).trans ((Below.heap_alloc w1 (.cells #[.int .i64 45] 3) w.heap.size (Array.getElem?_eq_some_iff.1 hE1).1).trans hE1)
              have hg2 : w.grownBy w2 (some R) := hga2.trans hgb2
              clear htk2 hra2 hga2 hgb2
              have hl3 := hl2 w2 hr2 (htx.grown hg2)
              go_wp2_with fail
              refine hl3.mono ?_
              rintro e w3 ⟨y, rfl, hy, hr3, hgE3⟩
              have hg3 : w.grownBy w3 (some R) := hg2.trans hgE3
              have hE3 := (hgE3.block w.heap.size (Array.getElem?_eq_some_iff.1 hE2).1 (by simp; omega)).trans hE2
              clear hl1 hl2 hl3
              have d0 : w3.cell? ⟨w.heap.size, 0, none⟩ = some (.int .i64 0) := cell_of_row _ _ 0 _ _ _ hE3
              have d1 : w3.cell? ⟨w.heap.size, 1, none⟩ = some (.int .i64 0) := cell_of_row _ _ 1 _ _ _ hE3
              have f0 : w3.frozen? ⟨w.heap.size, 0, none⟩ = false := frozen_of_row _ _ 0 _ _ hE3
              have f1 : w3.frozen? ⟨w.heap.size, 1, none⟩ = false := frozen_of_row _ _ 1 _ _ hE3
              go_wp2
              refine bodyPost_ret (results_row_tmp rfl _ _ w.heap.size 94 #[.int .i64 x, .int .i64 y] (0, 0) _ rfl ?_ Tryz.underlying94 rfl (by kernel_rfl)) rfl ?_
              · exact heap_set (heap_set hE3 _) _
              rw [HEQ.out]
              exact ⟨x, y, rfl, (fun v h => (by cases h)), (hr3.set hl 0 _).set hl 1 _, (hg3.andThen (grownR_set _ _ 0 _) (fun j e => .inl (by injection e with e; omega))).andThen (grownR_set _ _ 1 _) (fun j e => .inl (by injection e with e; omega))⟩
            | some hi =>
              have HEQ : Hid (entL us = (some ⟨lo, hi⟩, b)) := entL_d h1 h2 h3
              rw [h3] at hl2
              clear h1 hsf h3
              have H2 : Hid _ := h2
              clear h2
              go_enter Tryz.func111, Tryz.ntmps111
              go_wp2_with fail
              refine hl1.mono ?_
              rintro e w1 ⟨x, rfl, hx, hr1, hgE1⟩
              have hg1 : w.grownBy w1 (some R) := hg0.trans hgE1
              have hE1 : w1.heap[w.heap.size]? = some (.cells #[.int .i64 0, .int .i64 0] 94 (0, 0)) := (hgE1.block w.heap.size (by simp) (by simp; omega)).trans (heap_new' w _)
              obtain rfl : x = lo := hx lo rfl
              have hra2 := hr1.alloc (.cells #[.int .i64 45] 3)
              have hga2 : w.grownBy (w1.alloc (.cells #[.int .i64 45] 3)) (some R) := hg1.trans (World.grownBy_alloc _ _ _)
              have htk2 := take1_any w1.heap.size 45 _ R _ _ hra2 (World.cell?_alloc_new _ _ _ _)
              rw [H2.out] at htk2
              go_wp2_with fail
              refine (is_any _ _).mono ?_
              rintro e w' ⟨rfl, rfl⟩
              go_wp2_with fail
              refine htk2.mono ?_
              rintro e w2 ⟨rfl, hr2, hgb2⟩
              have hE2 := (hgb2.block w.heap.size (by have := (Array.getElem?_eq_some_iff.1 hE1).1; simp; omega) (by simp; omega)).trans ((Below.heap_alloc w1 (.cells #[.int .i64 45] 3) w.heap.size (Array.getElem?_eq_some_iff.1 hE1).1).trans hE1)
              have hg2 : w.grownBy w2 (some R) := hga2.trans hgb2
              clear htk2 hra2 hga2 hgb2
              have hl3 := hl2 w2 hr2 (htx.grown hg2)
              go_wp2_with fail
              refine hl3.mono ?_
              rintro e w3 ⟨y, rfl, hy, hr3, hgE3⟩
              obtain rfl : y = hi := hy hi rfl
              have hg3 : w.grownBy w3 (some R) := hg2.trans hgE3
              have hE3 := (hgE3.block w.heap.size (Array.getElem?_eq_some_iff.1 hE2).1 (by simp; omega)).trans hE2
              clear hl1 hl2 hl3
              have d0 : w3.cell? ⟨w.heap.size, 0, none⟩ = some (.int .i64 0) := cell_of_row _ _ 0 _ _ _ hE3
              have d1 : w3.cell? ⟨w.heap.size, 1, none⟩ = some (.int .i64 0) := cell_of_row _ _ 1 _ _ _ hE3
              have f0 : w3.frozen? ⟨w.heap.size, 0, none⟩ = false := frozen_of_row _ _ 0 _ _ hE3
              have f1 : w3.frozen? ⟨w.heap.size, 1, none⟩ = false := frozen_of_row _ _ 1 _ _ hE3
              go_wp2
              refine bodyPost_ret (results_row_tmp rfl _ _ w.heap.size 94 #[.int .i64 x, .int .i64 y] (0, 0) _ rfl ?_ Tryz.underlying94 rfl (by kernel_rfl)) rfl ?_
              · exact heap_set (heap_set hE3 _) _
              rw [HEQ.out]
              exact ⟨x, y, rfl, (fun v h => (by injection h with h; exact h.symm)), (hr3.set hl 0 _).set hl 1 _, (hg3.andThen (grownR_set _ _ 0 _) (fun j e => .inl (by injection e with e; omega))).andThen (grownR_set _ _ 1 _) (fun j e => .inl (by injection e with e; omega))⟩
end Go.Proofs.YtfdjchnckjgapaaGreatDoor
