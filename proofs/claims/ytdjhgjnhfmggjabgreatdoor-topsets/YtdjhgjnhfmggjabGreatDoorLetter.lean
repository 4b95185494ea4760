/-
  What letter and entry answer.
-/
import Derived.Test.YtdjhgjnhfmggjabGreatDoorNumb
namespace Go.Proofs.YtdjhgjnhfmggjabGreatDoor
open Go.RowKit Go.Shelf S1
set_option linter.unusedVariables false

theorem letL_a {us a : List U} (h : sgn (isC 92) us = (none, a)) : letL us = sgn plainR us := by unfold letL; rw [h]
theorem letL_b {us a b : List U} {x : Int} (h : sgn (isC 92) us = (some x, a)) (h2 : sgn (isC 120) a = (none, b)) : letL us = sgn guardR a := by unfold letL; rw [h]; simp only; rw [h2]
theorem letL_c {us a b c : List U} {x y : Int} (h : sgn (isC 92) us = (some x, a)) (h2 : sgn (isC 120) a = (some y, b)) (h3 : sgn (isC 123) b = (none, c)) : letL us = (none, b) := by unfold letL; rw [h]; simp only; rw [h2]; simp only; rw [h3]
theorem letL_d {us a b c : List U} {x y z : Int} (h : sgn (isC 92) us = (some x, a)) (h2 : sgn (isC 120) a = (some y, b)) (h3 : sgn (isC 123) b = (some z, c)) : letL us = numL c := by unfold letL; rw [h]; simp only; rw [h2]; simp only; rw [h3]

set_option maxRecDepth 100000 in
set_option maxHeartbeats 4000000 in
theorem letter_any (zs : List Int) (us : List U) (R : Nat) (ta : Option Addr) (cap : Nat) (w : World) (hrd : Rd w R (.slice ta zs.length cap) us) (htx : TxtAt R w (.slice ta zs.length cap) zs) (hz : zs.length ≤ 10000) (hpos : 0 < zs.length) (hrun : Runs zs us) :
    Calls Tryz.prog 80 #[.pointer (some ⟨R, 0, none⟩)] w fun e w' => ∃ x, e = .returned (.tuple #[.int .i64 x, .bool (letL us).1.isSome]) ∧ (∀ v, (letL us).1 = some v → x = v) ∧ Rd w' R (.slice ta zs.length cap) (letL us).2 ∧ w.grownBy w' (some R) := by
  have hg0 : w.grownBy w (some R) := World.grownBy.refl _ _
  cases h1 : sgn (isC 92) us with
  | mk o1 a => cases o1 with
    | none =>
      have ea := (sgn_none h1).1
      have HEQ : Hid (letL us = sgn plainR us) := letL_a h1
      subst ea
      have H1 : Hid _ := h1
      clear h1
      go_enter Tryz.func80, Tryz.ntmps80
      have hra1 := hrd.alloc (.cells #[.int .i64 92] 3)
      have hga1 : w.grownBy (w.alloc (.cells #[.int .i64 92] 3)) (some R) := hg0.trans (World.grownBy_alloc _ _ _)
      have htk1 := take1_any w.heap.size 92 _ R _ _ hra1 (World.cell?_alloc_new _ _ _ _)
      rw [H1.out] at htk1
      go_wp2_with fail
      refine (is_any _ _).mono ?_
      rintro e w' ⟨rfl, rfl⟩
      go_wp2_with fail
      refine htk1.mono ?_
      rintro e w1 ⟨rfl, hr1, hgb1⟩
      have hg1 : w.grownBy w1 (some R) := hga1.trans hgb1
      clear htk1 hra1 hga1 hgb1
      have hsg := sign0_any 92 plainR isPlain_any (enters_of Tryz.func92 (by kernel_rfl) rfl) _ R _ _ hr1
      go_wp2_with fail
      refine hsg.mono ?_
      rintro e w9 ⟨rfl, hr9, hg9⟩
      go_wp2
      go_ret2
      rw [HEQ.out]
      exact ⟨_, rfl, (fun v h => (by rw [h]; rfl)), hr9, hg1.trans hg9⟩
    | some x =>
      have hrun1 := hrun.sgn h1
      cases h2 : sgn (isC 120) a with
      | mk o2 b => cases o2 with
        | none =>
          have eb := (sgn_none h2).1
          have HEQ : Hid (letL us = sgn guardR a) := letL_b h1 h2
          subst eb
          have H1 : Hid _ := h1
          have H2 : Hid _ := h2
          clear h1 h2
          go_enter Tryz.func80, Tryz.ntmps80
          have hra1 := hrd.alloc (.cells #[.int .i64 92] 3)
          have hga1 : w.grownBy (w.alloc (.cells #[.int .i64 92] 3)) (some R) := hg0.trans (World.grownBy_alloc _ _ _)
          have htk1 := take1_any w.heap.size 92 _ R _ _ hra1 (World.cell?_alloc_new _ _ _ _)
          rw [H1.out] at htk1
          go_wp2_with fail
          refine (is_any _ _).mono ?_
          rintro e w' ⟨rfl, rfl⟩
          go_wp2_with fail
          refine htk1.mono ?_
          rintro e w1 ⟨rfl, hr1, hgb1⟩
          have hg1 : w.grownBy w1 (some R) := hga1.trans hgb1
          clear htk1 hra1 hga1 hgb1
          have hra2 := hr1.alloc (.cells #[.int .i64 120] 3)
          have hga2 : w.grownBy (w1.alloc (.cells #[.int .i64 120] 3)) (some R) := hg1.trans (World.grownBy_alloc _ _ _)
          have htk2 := take1_any w1.heap.size 120 _ R _ _ hra2 (World.cell?_alloc_new _ _ _ _)
          rw [H2.out] at htk2
          go_wp2_with fail
          refine (is_any _ _).mono ?_
          rintro e w' ⟨rfl, rfl⟩
          go_wp2_with fail
          refine htk2.mono ?_
          rintro e w2 ⟨rfl, hr2, hgb2⟩
          have hg2 : w.grownBy w2 (some R) := hga2.trans hgb2
          clear htk2 hra2 hga2 hgb2
          have hsg := sign0_any 93 guardR isGuarded_any (enters_of Tryz.func93 (by kernel_rfl) rfl) _ R _ _ hr2
          go_wp2_with fail
          refine hsg.mono ?_
          rintro e w9 ⟨rfl, hr9, hg9⟩
          go_wp2
          go_ret2
          rw [HEQ.out]
          exact ⟨_, rfl, (fun v h => (by rw [h]; rfl)), hr9, hg2.trans hg9⟩
        | some y =>
          have hrun2 := hrun1.sgn h2
          cases h3 : sgn (isC 123) b with
          | mk o3 c => cases o3 with
            | none =>
              have ec := (sgn_none h3).1
              have HEQ : Hid (letL us = (none, b)) := letL_c h1 h2 h3
              subst ec
              have H1 : Hid _ := h1
              have H2 : Hid _ := h2
              have H3 : Hid _ := h3
              clear h1 h2 h3
              go_enter Tryz.func80, Tryz.ntmps80
              have hra1 := hrd.alloc (.cells #[.int .i64 92] 3)
              have hga1 : w.grownBy (w.alloc (.cells #[.int .i64 92] 3)) (some R) := hg0.trans (World.grownBy_alloc _ _ _)
              have htk1 := take1_any w.heap.size 92 _ R _ _ hra1 (World.cell?_alloc_new _ _ _ _)
              rw [H1.out] at htk1
              go_wp2_with fail
              refine (is_any _ _).mono ?_
              rintro e w' ⟨rfl, rfl⟩
              go_wp2_with fail
              refine htk1.mono ?_
              rintro e w1 ⟨rfl, hr1, hgb1⟩
              have hg1 : w.grownBy w1 (some R) := hga1.trans hgb1
              clear htk1 hra1 hga1 hgb1
              have hra2 := hr1.alloc (.cells #[.int .i64 120] 3)
              have hga2 : w.grownBy (w1.alloc (.cells #[.int .i64 120] 3)) (some R) := hg1.trans (World.grownBy_alloc _ _ _)
              have htk2 := take1_any w1.heap.size 120 _ R _ _ hra2 (World.cell?_alloc_new _ _ _ _)
              rw [H2.out] at htk2
              go_wp2_with fail
              refine (is_any _ _).mono ?_
              rintro e w' ⟨rfl, rfl⟩
              go_wp2_with fail
              refine htk2.mono ?_
              rintro e w2 ⟨rfl, hr2, hgb2⟩
              have hg2 : w.grownBy w2 (some R) := hga2.trans hgb2
              clear htk2 hra2 hga2 hgb2
              have hra3 := hr2.alloc (.cells #[.int .i64 123] 3)
              have hga3 : w.grownBy (w2.alloc (.cells #[.int .i64 123] 3)) (some R) := hg2.trans (World.grownBy_alloc _ _ _)
              have htk3 := take1_any w2.heap.size 123 _ R _ _ hra3 (World.cell?_alloc_new _ _ _ _)
              rw [H3.out] at htk3
              go_wp2_with fail
              refine (is_any _ _).mono ?_
              rintro e w' ⟨rfl, rfl⟩
              go_wp2_with fail
              refine htk3.mono ?_
              rintro e w3 ⟨rfl, hr3, hgb3⟩
              have hg3 : w.grownBy w3 (some R) := hga3.trans hgb3
              clear htk3 hra3 hga3 hgb3
              go_wp2
              go_ret2
              rw [HEQ.out]
              exact ⟨_, rfl, (fun v h => (by cases h)), hr3, hg3⟩
            | some z =>
              have hrun3 := hrun2.sgn h3
              have HEQ : Hid (letL us = numL c) := letL_d h1 h2 h3
              have H1 : Hid _ := h1
              have H2 : Hid _ := h2
              have H3 : Hid _ := h3
              clear h1 h2 h3
              go_enter Tryz.func80, Tryz.ntmps80
              have hra1 := hrd.alloc (.cells #[.int .i64 92] 3)
              have hga1 : w.grownBy (w.alloc (.cells #[.int .i64 92] 3)) (some R) := hg0.trans (World.grownBy_alloc _ _ _)
              have htk1 := take1_any w.heap.size 92 _ R _ _ hra1 (World.cell?_alloc_new _ _ _ _)
              rw [H1.out] at htk1
              go_wp2_with fail
              refine (is_any _ _).mono ?_
              rintro e w' ⟨rfl, rfl⟩
              go_wp2_with fail
              refine htk1.mono ?_
              rintro e w1 ⟨rfl, hr1, hgb1⟩
              have hg1 : w.grownBy w1 (some R) := hga1.trans hgb1
              clear htk1 hra1 hga1 hgb1
              have hra2 := hr1.alloc (.cells #[.int .i64 120] 3)
              have hga2 : w.grownBy (w1.alloc (.cells #[.int .i64 120] 3)) (some R) := hg1.trans (World.grownBy_alloc _ _ _)
              have htk2 := take1_any w1.heap.size 120 _ R _ _ hra2 (World.cell?_alloc_new _ _ _ _)
              rw [H2.out] at htk2
              go_wp2_with fail
              refine (is_any _ _).mono ?_
              rintro e w' ⟨rfl, rfl⟩
              go_wp2_with fail
              refine htk2.mono ?_
              rintro e w2 ⟨rfl, hr2, hgb2⟩
              have hg2 : w.grownBy w2 (some R) := hga2.trans hgb2
              clear htk2 hra2 hga2 hgb2
              have hra3 := hr2.alloc (.cells #[.int .i64 123] 3)
              have hga3 : w.grownBy (w2.alloc (.cells #[.int .i64 123] 3)) (some R) := hg2.trans (World.grownBy_alloc _ _ _)
              have htk3 := take1_any w2.heap.size 123 _ R _ _ hra3 (World.cell?_alloc_new _ _ _ _)
              rw [H3.out] at htk3
              go_wp2_with fail
              refine (is_any _ _).mono ?_
              rintro e w' ⟨rfl, rfl⟩
              go_wp2_with fail
              refine htk3.mono ?_
              rintro e w3 ⟨rfl, hr3, hgb3⟩
              have hg3 : w.grownBy w3 (some R) := hga3.trans hgb3
              clear htk3 hra3 hga3 hgb3
              have hnm := number_any zs c R ta cap w3 hr3 (htx.grown hg3) hz hpos hrun3
              go_wp2_with fail
              refine hnm.mono ?_
              rintro e w9 ⟨nv, rfl, hnv, hr9, hg9⟩
              go_wp2
              go_ret2
              rw [HEQ.out]
              exact ⟨_, rfl, hnv, hr9, hg3.trans hg9⟩
end Go.Proofs.YtdjhgjnhfmggjabGreatDoor
