/-
  scansionlaw12.SubsetParts.
-/
import Derived.Test.YtehkaiohmcenbaaDoorSbLaw
import Derived.Test.YtehkaiohmcenbaaDoorSbApp
import Derived.Deep.RegionLaw
import Derived.Deep.CutRange
namespace Go.Proofs.YtehkaiohmcenbaaDoor
open Go.RowKit Go.Shelf
set_option linter.unusedVariables false

set_option maxRecDepth 100000 in
set_option maxHeartbeats 32000000 in
theorem subsetParts_any (dv : Value) (N : List (List Int)) (F : List Bool) (av : Value) (ls : List Int) (bv : Value) (ms : List Int) (w : World) (hT : TabW w) (hP : PowW w) (hd : DfaAt w dv N F) (hav : IntsAt w av ls) (hbv : IntsAt w bv ms) :
    Calls Tryd.prog 8 #[dv, av, bv] w fun e w' => e = .returned (.bool true) ∧ Below w.heap.size w w' := by
  obtain ⟨i0, hi0, hz0, hz1, hz2⟩ := info_parts Tryd.infoInt
  have HD : Hid (DfaAt w dv N F) := hd
  have HAV : Hid (IntsAt w av ls) := hav
  have HBV : Hid (IntsAt w bv ms) := hbv
  obtain ⟨nv, fv, rfl, ⟨na, nc, hne, hnc, hn0, hx⟩, fa, fc, hfe, hfc, hf0, hfx⟩ := hd
  obtain ⟨aa, ac, hae, hac⟩ := hav.slice
  obtain ⟨ba, bc, hbe, hbc⟩ := hbv.slice
  obtain ⟨n, hn⟩ : ∃ x, x = N.length := ⟨_, rfl⟩
  obtain ⟨m, hm⟩ : ∃ x, x = F.length := ⟨_, rfl⟩
  obtain ⟨al, hal⟩ : ∃ x, x = ls.length := ⟨_, rfl⟩
  obtain ⟨bl, hbl⟩ : ∃ x, x = ms.length := ⟨_, rfl⟩
  have HL : Hid (al = ls.length ∧ bl = ms.length) := ⟨hal, hbl⟩
  rw [← hn] at hne hnc
  rw [← hm] at hfe hfc
  rw [← hal] at hae hac
  rw [← hbl] at hbe hbc
  subst hne hfe hae hbe
  obtain ⟨W0, hW0⟩ : ∃ W, W = w.alloc (.cells #[.slice na n nc, .slice fa m fc] 46) := ⟨_, rfl⟩
  have hB0 : Below w.heap.size w W0 := by rw [hW0]; exact below_alloc _ _
  have hbx : DBox W0 w.heap.size (.slice na n nc) (.slice fa m fc) := by rw [hW0]; exact heap_new' _ _
  have HBX : Hid (DBox W0 w.heap.size (.slice na n nc) (.slice fa m fc)) := hbx
  have HW0 : Hid (W0 = _) := hW0
  have HB0 : Hid (Below w.heap.size w W0) := hB0
  have haw := awake_any12 W0 (hT.below hB0) (hP.below hB0)
  have HFW : Hid (∀ W, Below w.heap.size w W → Calls Tryd.prog 26 #[.agg #[.slice na n nc, .slice fa m fc], .int .i64 60] W fun e w' => ∃ b, e = .returned (.bool b) ∧ (b = true → FewD N F 60) ∧ Below W.heap.size W w') := fun W hb => rfew_any12 N F _ 60 (by decide) W (HD.out.below hb)
  have HR : Hid (∀ W x v l, Below w.heap.size w W → IntsAt W v l → l.length ≤ 100000 → Calls Tryd.prog 27 #[.agg #[.slice na n nc, .slice fa m fc], .int .i64 x, v] W fun e w' => e = .returned (.tuple #[.int .i64 (runV N F x l), .int .i64 (runE N F x l)]) ∧ Below W.heap.size W w') := fun W x v l hb hv hl => srun_any N F _ x l _ W (HD.out.below hb) hv hl
  rw [hW0] at haw
  clear hx hfx hn hm hal hbl hbx hW0 hB0 hav hbv
  go_enter Tryd.func8, Tryd.ntmps8
  go_wp2_with fail
  refine haw.mono ?_
  rw [← HW0.out]
  rintro e w1 ⟨rfl, hB1⟩
  have HB1 : Hid (Below w.heap.size w w1) := below_after HB0.out hB1
  have HX1 : Hid (DBox w1 w.heap.size (.slice na n nc) (.slice fa m fc)) := HBX.out.below hB1
  have c0 := HX1.out.c0
  have c1 := HX1.out.c1
  have hlt := HX1.out.lt
  have hfw := HFW.out w1 HB1.out
  clear haw hB1
  go_wp2_with fail
  refine hfw.mono ?_
  rintro e w2 ⟨ok, rfl, hok, hB2⟩
  have HB2 : Hid (Below w.heap.size w w2) := below_after HB1.out hB2
  have HX2 : Hid (DBox w2 w.heap.size (.slice na n nc) (.slice fa m fc)) := HX1.out.below hB2
  clear hfw hB2 c0 c1 hlt hok
  cases ok with
  | false =>
    go_wp2
    go_ret
    exact ⟨rfl, HB2.out⟩
  | true =>
  by_cases hl1 : 100 < al
  case pos =>
    go_wp2
    go_ret
    exact ⟨rfl, HB2.out⟩
  case neg =>
  by_cases hl2 : 100 < bl
  case pos =>
    go_wp2
    go_ret
    exact ⟨rfl, HB2.out⟩
  case neg =>
  have HC : Hid (∀ W, Below w2.heap.size w2 W → W.cell? ⟨w.heap.size, 0, none⟩ = some (.slice na n nc) ∧ W.cell? ⟨w.heap.size, 1, none⟩ = some (.slice fa m fc) ∧ w.heap.size < W.heap.size) := fun W hb => ⟨(HX2.out.below hb).c0, (HX2.out.below hb).c1, (HX2.out.below hb).lt⟩
  obtain ⟨c0, c1, hlt⟩ := HC.out w2 (Below.refl _ _)
  have HSA : Hid (∀ W, Below w2.heap.size w2 W → SrcIs W (.slice aa al ac) al 1 (cellI ls)) := fun W hb => by
    have := (HAV.out.below (below_after HB2.out hb)).src
    rw [← HL.out.1] at this
    exact this
  have HSB : Hid (∀ W, Below w2.heap.size w2 W → SrcIs W (.slice ba bl bc) bl 1 (cellI ms)) := fun W hb => by
    have := (HBV.out.below (below_after HB2.out hb)).src
    rw [← HL.out.2] at this
    exact this
  have HBE : Hid (Below w2.heap.size w2 (w2.drew.alloc (.cells #[] 3))) := (Below.refl _ _).drew.alloc (Nat.le_refl _) _
  have HOE : Hid ((w2.drew.alloc (.cells #[] 3)).ownsRow w2.heap.size 3 1 (.slice (some ⟨w2.heap.size, 0, none⟩) 0 0) 0 []) := own_empty12 w2.drew _ _ _ (Nat.le_refl _)
  have HI5 : Hid (∀ w5 v5, w5.ownsRow w2.heap.size 3 1 v5 (0 + al + bl) ([] ++ cellI ls ++ cellI ms) → IntsAt w5 v5 (ls ++ ms)) := fun w5 v5 h => by
    rw [HL.out.1, HL.out.2] at h
    exact two_ints h
  have hLN : (ls ++ ms).length ≤ 100000 := by rw [List.length_append, ← HL.out.1, ← HL.out.2]; omega
  have HLN : Hid ((ls ++ ms).length ≤ 100000) := hLN
  obtain ⟨V0, hV0⟩ : ∃ x, x = runV N F 0 (ls ++ ms) := ⟨_, rfl⟩
  obtain ⟨E0, hE0⟩ : ∃ x, x = runE N F 0 (ls ++ ms) := ⟨_, rfl⟩
  obtain ⟨V1, hV1⟩ : ∃ x, x = runV N F 0 ls := ⟨_, rfl⟩
  obtain ⟨E1, hE1⟩ : ∃ x, x = runE N F 0 ls := ⟨_, rfl⟩
  obtain ⟨V2, hV2⟩ : ∃ x, x = runV N F V1 ms := ⟨_, rfl⟩
  obtain ⟨E2, hE2⟩ : ∃ x, x = runE N F V1 ms := ⟨_, rfl⟩
  have hpr := parts_run N F ls ms
  rw [← hV0, ← hE0, ← hE1, ← hV1, ← hV2, ← hE2] at hpr
  have HRA : Hid (∀ W v, Below w2.heap.size w2 W → IntsAt W v (ls ++ ms) → Calls Tryd.prog 27 #[.agg #[.slice na n nc, .slice fa m fc], .int .i64 0, v] W fun e w' => e = .returned (.tuple #[.int .i64 V0, .int .i64 E0]) ∧ Below W.heap.size W w') := fun W v hb hv => by
    rw [hV0, hE0]; exact HR.out W 0 v _ (below_after HB2.out hb) hv HLN.out
  have HRB : Hid (∀ W, Below w2.heap.size w2 W → Calls Tryd.prog 27 #[.agg #[.slice na n nc, .slice fa m fc], .int .i64 0, .slice aa al ac] W fun e w' => e = .returned (.tuple #[.int .i64 V1, .int .i64 E1]) ∧ Below W.heap.size W w') := fun W hb => by
    rw [hV1, hE1]; exact HR.out W 0 _ _ (below_after HB2.out hb) (HAV.out.below (below_after HB2.out hb)) (by have := HL.out.1; omega)
  have HRC : Hid (∀ W, Below w2.heap.size w2 W → Calls Tryd.prog 27 #[.agg #[.slice na n nc, .slice fa m fc], .int .i64 V1, .slice ba bl bc] W fun e w' => e = .returned (.tuple #[.int .i64 V2, .int .i64 E2]) ∧ Below W.heap.size W w') := fun W hb => by
    rw [hV2, hE2]; exact HR.out W V1 _ _ (below_after HB2.out hb) (HBV.out.below (below_after HB2.out hb)) (by have := HL.out.2; omega)
  have HPR : Hid ((E0 = 1 ∧ E1 = 1) ∨ (E0 = 1 ∧ E1 = 0 ∧ E2 = 1) ∨ (E0 = 0 ∧ E1 = 0 ∧ E2 = 0 ∧ V0 = V2)) := hpr
  clear hV0 hE0 hV1 hE1 hV2 hE2 hpr hLN
  go_upto_region 5 with fail
  go_cut [9, 10] from 35 to 44 (fun s t wx => s = .int .i64 V0 ∧ t = .int .i64 E0 ∧ Hid (Below w2.heap.size w2 wx))
  case first =>
    go_region_law (first
      | (refine step_append_src12 _ (by rfl) (.tmp 37) (.tmp 38) 27 (by rfl) w2.heap.size 3 i0 (.int .i64 0) 1 8 Tryd.underlying27 hi0 hz0 hz1 hz2 rfl (by decide) (.slice (some ⟨w2.heap.size, 0, none⟩) 0 0) 0 [] (by rfl) (by exact HOE.out) (.slice aa al ac) (by rfl) al (cellI ls) (by exact HSA.out _ HBE.out) (by unfold maxLen; omega) (by omega) (by exact HBE.out.size) ?_; intro v3 w3 ho3 hg3; have hB3 : Below w2.heap.size w2 w3 := HBE.out.grown hg3 HBE.out.size (fun k e => (HOE.out.lt k e).1); obtain ⟨d0, d1, d2⟩ := HC.out w3 hB3)
      | (refine step_append_src12 _ (by rfl) (.tmp 39) (.tmp 40) 27 (by rfl) w2.heap.size 3 i0 (.int .i64 0) 1 8 Tryd.underlying27 hi0 hz0 hz1 hz2 rfl (by decide) v3 (0 + al) ([] ++ cellI ls) (by rfl) (by exact ho3) (.slice ba bl bc) (by rfl) bl (cellI ms) (by exact HSB.out _ hB3) (by unfold maxLen; omega) (by omega) (by exact hB3.size) ?_; intro v4 w4 ho4 hg4; have hB4 : Below w2.heap.size w2 w4 := hB3.grown hg4 hB3.size (fun k e => (ho3.lt k e).1); obtain ⟨d3, d4, d5⟩ := HC.out w4 hB4)
      | (go_simp; (with_reducible refine (HRA.out w4 v4 hB4 (HI5.out w4 v4 ho4)).mono ?_); rintro e w5 ⟨rfl, hB5⟩; have hB5' : Below w2.heap.size w2 w5 := below_after hB4 hB5; try dsimp only))
    all_goals (
      go_wp2
      go_meet
      exact ⟨rfl, rfl, hB5'⟩)
  case rest =>
    obtain ⟨rfl, rfl, HB5⟩ := hcut
    obtain ⟨d0, d1, d2⟩ := HC.out wc HB5.out
    have hr1 := HRB.out wc HB5.out
    clear c0 c1 hlt
    go_wp2_with fail
    refine hr1.mono ?_
    rintro e w6 ⟨rfl, hB6⟩
    have HB6 : Hid (Below w2.heap.size w2 w6) := below_after HB5.out hB6
    obtain ⟨c0, c1, hlt⟩ := HC.out w6 HB6.out
    have hr2 := HRC.out w6 HB6.out
    clear hr1 hB6 d0 d1 d2
    go_wp2_with fail
    refine hr2.mono ?_
    rintro e w7 ⟨rfl, hB7⟩
    have HB7 : Hid (Below w2.heap.size w2 w7) := below_after HB6.out hB7
    clear hr2 hB7
    rcases HPR.out with ⟨rfl, rfl⟩ | ⟨rfl, rfl, rfl⟩ | ⟨rfl, rfl, rfl, rfl⟩
    · go_wp2
      go_ret
      exact ⟨rfl, below_after HB2.out HB7.out⟩
    · go_wp2
      go_ret
      exact ⟨rfl, below_after HB2.out HB7.out⟩
    · have hvv : (V0 == V0) = true := by simp
      go_wp2
      go_ret
      exact ⟨rfl, below_after HB2.out HB7.out⟩
end Go.Proofs.YtehkaiohmcenbaaDoor
