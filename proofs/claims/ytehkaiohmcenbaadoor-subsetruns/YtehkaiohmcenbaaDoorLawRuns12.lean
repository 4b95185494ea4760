/-
  scansionlaw12.SubsetRuns.
-/
import Derived.Test.YtehkaiohmcenbaaDoorSbLaw
import Derived.Deep.RegionLaw
namespace Go.Proofs.YtehkaiohmcenbaaDoor
open Go.RowKit Go.Shelf
set_option linter.unusedVariables false

set_option maxRecDepth 100000 in
set_option maxHeartbeats 32000000 in
theorem subsetRuns_any (dv : Value) (N : List (List Int)) (F : List Bool) (a0 : Int) (cv : Value) (cs : List Int) (w : World) (hT : TabW w) (hP : PowW w) (hd : DfaAt w dv N F) (hcv : IntsAt w cv cs) :
    Calls Tryd.prog 6 #[dv, .int .i64 a0, cv] w fun e w' => e = .returned (.bool true) ∧ Below w.heap.size w w' := by
  have HD : Hid (DfaAt w dv N F) := hd
  have HCV : Hid (IntsAt w cv cs) := hcv
  obtain ⟨nv, fv, rfl, ⟨na, nc, hne, hnc, hn0, hx⟩, fa, fc, hfe, hfc, hf0, hfx⟩ := hd
  obtain ⟨ca, cc, hce, hcc⟩ := hcv.slice
  obtain ⟨n, hn⟩ : ∃ x, x = N.length := ⟨_, rfl⟩
  obtain ⟨m, hm⟩ : ∃ x, x = F.length := ⟨_, rfl⟩
  obtain ⟨L, hL⟩ : ∃ x, x = cs.length := ⟨_, rfl⟩
  have HL : Hid (L = cs.length) := hL
  rw [← hn] at hne hnc
  rw [← hm] at hfe hfc
  rw [← hL] at hce hcc
  subst hne hfe hce
  obtain ⟨W0, hW0⟩ : ∃ W, W = w.alloc (.cells #[.slice na n nc, .slice fa m fc] 46) := ⟨_, rfl⟩
  have hB0 : Below w.heap.size w W0 := by rw [hW0]; exact below_alloc _ _
  have hbx : DBox W0 w.heap.size (.slice na n nc) (.slice fa m fc) := by rw [hW0]; exact heap_new' _ _
  have HBX : Hid (DBox W0 w.heap.size (.slice na n nc) (.slice fa m fc)) := hbx
  have HW0 : Hid (W0 = _) := hW0
  have HB0 : Hid (Below w.heap.size w W0) := hB0
  have haw := awake_any12 W0 (hT.below hB0) (hP.below hB0)
  have HFW : Hid (∀ W, Below w.heap.size w W → Calls Tryd.prog 26 #[.agg #[.slice na n nc, .slice fa m fc], .int .i64 60] W fun e w' => ∃ b, e = .returned (.bool b) ∧ (b = true → FewD N F 60) ∧ Below W.heap.size W w') := fun W hb => rfew_any12 N F _ 60 (by decide) W (HD.out.below hb)
  obtain ⟨V, hV⟩ : ∃ V, V = runV N F a0 cs := ⟨_, rfl⟩
  obtain ⟨E, hE⟩ : ∃ V, V = runE N F a0 cs := ⟨_, rfl⟩
  obtain ⟨R, hR⟩ : ∃ V, V = rightD N F := ⟨_, rfl⟩
  have HR1 : Hid (∀ W, Below w.heap.size w W → cs.length ≤ 100000 → Calls Tryd.prog 27 #[.agg #[.slice na n nc, .slice fa m fc], .int .i64 a0, .slice ca L cc] W fun e w' => e = .returned (.tuple #[.int .i64 V, .int .i64 E]) ∧ Below W.heap.size W w') := fun W hb hl => by
    rw [hV, hE]; exact srun_any N F _ a0 cs _ W (HD.out.below hb) (HCV.out.below hb) hl
  have HR2 : Hid (∀ W, Below w.heap.size w W → cs.length ≤ 100000 → Calls Tryd.prog 28 #[.agg #[.slice na n nc, .slice fa m fc], .int .i64 a0, .slice ca L cc] W fun e w' => e = .returned (.tuple #[.int .i64 V, .int .i64 E]) ∧ Below W.heap.size W w') := fun W hb hl => by
    rw [hV, hE]; exact rrun_any12 N F _ a0 cs _ W (HD.out.below hb) (HCV.out.below hb) hl
  have HT1 : Hid (∀ W, Below w.heap.size w W → Calls Tryd.prog 29 #[.agg #[.slice na n nc, .slice fa m fc]] W fun e w' => e = .returned (.bool R) ∧ Below W.heap.size W w') := fun W hb => by
    rw [hR]; exact sright_any N F _ W (HD.out.below hb)
  have HT2 : Hid (∀ W, Below w.heap.size w W → Calls Tryd.prog 30 #[.agg #[.slice na n nc, .slice fa m fc]] W fun e w' => e = .returned (.bool R) ∧ Below W.heap.size W w') := fun W hb => by
    rw [hR]; exact rright_any12 N F _ W (HD.out.below hb)
  rw [hW0] at haw
  clear hx hfx hn hm hL hbx hW0 hB0 hcv hV hE hR
  go_enter Tryd.func6, Tryd.ntmps6
  go_wp2_with fail
  refine haw.mono ?_
  rw [← HW0.out]
  rintro e w1 ⟨rfl, hB1⟩
  have HB1 : Hid (Below w.heap.size w w1) := below_after HB0.out hB1
  have HX1 : Hid (DBox w1 w.heap.size (.slice na n nc) (.slice fa m fc)) := HBX.out.below hB1
  have c0 := HX1.out.c0
  have c1 := HX1.out.c1
  have hlt := HX1.out.lt
  have hfw := HFW.out w1 HB1.out
  clear haw hB1
  go_wp2_with fail
  refine hfw.mono ?_
  rintro e w2 ⟨ok, rfl, hok, hB2⟩
  have HB2 : Hid (Below w.heap.size w w2) := below_after HB1.out hB2
  have HX2 : Hid (DBox w2 w.heap.size (.slice na n nc) (.slice fa m fc)) := HX1.out.below hB2
  clear hfw hB2 c0 c1 hlt hok
  cases ok with
  | false =>
    go_wp2
    go_ret
    exact ⟨rfl, HB2.out⟩
  | true =>
  by_cases hl : 300 < L
  case pos =>
    go_wp2
    go_ret
    exact ⟨rfl, HB2.out⟩
  case neg =>
  have c0 := HX2.out.c0
  have c1 := HX2.out.c1
  have hlt := HX2.out.lt
  have hr1 := HR1.out w2 HB2.out (by have := HL.out; omega)
  go_wp2_with fail
  refine hr1.mono ?_
  rintro e w3 ⟨rfl, hB3⟩
  have HB3 : Hid (Below w.heap.size w w3) := below_after HB2.out hB3
  have HX3 : Hid (DBox w3 w.heap.size (.slice na n nc) (.slice fa m fc)) := HX2.out.below hB3
  have c0' := HX3.out.c0
  have c1' := HX3.out.c1
  have hlt' := HX3.out.lt
  have hr2 := HR2.out w3 HB3.out (by have := HL.out; omega)
  clear hr1 hB3 c0 c1 hlt
  go_wp2_with fail
  refine hr2.mono ?_
  rintro e w4 ⟨rfl, hB4⟩
  have HB4 : Hid (Below w.heap.size w w4) := below_after HB3.out hB4
  have HX4 : Hid (DBox w4 w.heap.size (.slice na n nc) (.slice fa m fc)) := HX3.out.below hB4
  have HC : Hid (∀ W, Below w4.heap.size w4 W → W.cell? ⟨w.heap.size, 0, none⟩ = some (.slice na n nc) ∧ W.cell? ⟨w.heap.size, 1, none⟩ = some (.slice fa m fc) ∧ w.heap.size < W.heap.size) := fun W hb => ⟨(HX4.out.below hb).c0, (HX4.out.below hb).c1, (HX4.out.below hb).lt⟩
  obtain ⟨c0, c1, hlt⟩ := HC.out w4 (Below.refl _ _)
  have hvv : (V == V) = true := by simp
  have hee : (E == E) = true := by simp
  have hrr : (R == R) = true := by simp
  clear hr2 hB4 c0' c1' hlt'
  go_wp2
  go_region_law (first | (go_simp; (with_reducible refine (HT1.out w4.drew (HB4.out.trans ((Below.refl _ _).drew.mono HB4.out.size))).mono ?_); rintro e w5 ⟨rfl, hB5⟩; have hB5' : Below w4.heap.size w4 w5 := below_drw hB5; obtain ⟨d0, d1, dlt⟩ := HC.out w5 hB5'; try dsimp only) | (go_simp; (with_reducible refine (HT2.out w5 (below_after HB4.out hB5')).mono ?_); rintro e w6 ⟨rfl, hB6⟩; have hB6' : Below w4.heap.size w4 w6 := below_after hB5' hB6; obtain ⟨d2, d3, dlt2⟩ := HC.out w6 hB6'; try dsimp only))
  all_goals (
    go_wp2
    go_ret
    exact ⟨rfl, below_after HB4.out hB6'⟩)
end Go.Proofs.YtehkaiohmcenbaaDoor
