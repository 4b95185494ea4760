/-
  least.Least, walked.
-/
import Derived.Test.YtklhjjgnhigbiaaGreatDoorLsJf
import Derived.Test.YtklhjjgnhigbiaaGreatDoorSbRgt
namespace Go.Proofs.YtklhjjgnhigbiaaGreatDoor
open Go.RowKit Go.Shelf
set_option linter.unusedVariables false

set_option maxRecDepth 100000 in
set_option maxHeartbeats 16000000 in
theorem least_any (N : List (List Int)) (F : List Bool) (dv : Value) (w : World) (hd : DfaAt w dv N F) (hPT : PowT w) : Calls Tryz.prog 8 #[dv] w (LesA N F w) := by
  have HD : Hid (DfaAt w dv N F ∧ PowT w) := ⟨hd, hPT⟩
  obtain ⟨na, nc, fa, fc, rfl, hnc, hfc, hx, hfx⟩ := dfa_parts hd
  obtain ⟨W0, hW0⟩ : ∃ W, W = (w.alloc (.cells #[.slice na N.length nc, .slice fa F.length fc] 35)).alloc (.cells #[.slice none 0 0, .slice none 0 0] 35) := ⟨_, rfl⟩
  obtain ⟨h0, h1, hB0, hs0⟩ := alloc2 hW0
  have hrt := sright_any N F (.agg #[.slice na N.length nc, .slice fa F.length fc]) W0 (hd.below hB0)
  have HPA : Hid (∀ W, rightD N F = true → Below w.heap.size w W → Calls Tryz.prog 31 #[.agg #[.slice na N.length nc, .slice fa F.length fc]] W fun e w' => ∃ gp p, e = .returned (.slice (some ⟨gp, 0, none⟩) N.length N.length) ∧ Hid (RowN w' W.heap.size gp N.length p ∧ (∀ i k, i < N.length → k < N.length → (p i = p k ↔ alk (mch N F) i k)) ∧ (∀ i, i < N.length → p i < N.length)) ∧ Below W.heap.size W w') := fun W hr hb => (partsOf_any N F _ W (hd.below hb) hr (hPT.below hb)).mono (fun e w' h => by
    obtain ⟨gp, p, k1, k2, k3, k4, k5⟩ := h
    exact ⟨gp, p, k1, ⟨k2, k3, k4⟩, k5⟩)
  have HJO : Hid (∀ W gp bq p, rightD N F = true → Below w.heap.size w W → Hid (RowN W bq gp N.length p ∧ (∀ i k, i < N.length → k < N.length → (p i = p k ↔ alk (mch N F) i k)) ∧ (∀ i, i < N.length → p i < N.length)) → Calls Tryz.prog 30 #[.agg #[.slice na N.length nc, .slice fa F.length fc], .slice (some ⟨gp, 0, none⟩) N.length N.length] W fun e w' => ∃ nb mb cb fb gb db, e = .returned (.agg #[.slice nb mb cb, .slice fb gb db]) ∧ Hid (∀ V, (∀ k, W.heap.size ≤ k → V.heap[k]? = w'.heap[k]?) → DfaAt V (.agg #[.slice nb mb cb, .slice fb gb db]) (leN N F) (leF N F)) ∧ Below W.heap.size W w') := fun W gp bq p hr hb hp => (joined_any N F _ gp bq p W (hd.below hb) hr hp.out.1 hp.out.2.1 hp.out.2.2).mono (fun e w' h => by
    obtain ⟨v, k1, k2, k3⟩ := h
    obtain ⟨na', nc', fa', fc', e2, _, _, _, _⟩ := dfa_parts (k2 w' (fun _ _ => rfl))
    subst e2
    exact ⟨_, _, _, _, _, _, k1, k2, k3⟩)
  obtain ⟨n, hn⟩ : ∃ x, x = N.length := ⟨_, rfl⟩
  obtain ⟨fl, hfl⟩ : ∃ x, x = F.length := ⟨_, rfl⟩
  rw [← hn, ← hfl] at hrt hW0 h0 HPA HJO ⊢
  have HA0 : Hid (DBox W0 w.heap.size (.slice na n nc) (.slice fa fl fc)) := h0
  have HD0 : Hid (DBox W0 (w.heap.size + 1) (.slice none 0 0) (.slice none 0 0)) := h1
  have HB0 : Hid (Below w.heap.size w W0) := hB0
  have HW0 : Hid (W0 = _) := hW0
  have a0 := HA0.out.c0
  have a1 := HA0.out.c1
  have al := HA0.out.lt
  obtain ⟨R, hR⟩ : ∃ R, R = rightD N F := ⟨_, rfl⟩
  have HR : Hid (R = rightD N F) := hR
  rw [← hR] at hrt
  clear hd hPT hx hfx hn hfl h0 h1 hB0 hs0 hW0 hR hnc hfc
  go_enter Tryz.func8, Tryz.ntmps8
  go_upto_region 1 with fail
  rw [← HW0.out]
  go_wp2_with fail
  refine hrt.mono ?_
  rintro e wa ⟨rfl, hBa⟩
  have HBa : Hid (Below W0.heap.size W0 wa) := hBa
  have HAa : Hid (DBox wa w.heap.size (.slice na n nc) (.slice fa fl fc)) := HA0.out.below hBa
  have HDa : Hid (DBox wa (w.heap.size + 1) (.slice none 0 0) (.slice none 0 0)) := HD0.out.below hBa
  have HBWa : Hid (Below w.heap.size w wa) := below_after HB0.out hBa
  clear hrt a0 a1 al hBa
  cases R with
  | false =>
    have HRF : Hid (lesE N F = 1 ∧ lesN N F = [] ∧ lesF N F = []) := by
      have e := HR.out
      unfold lesE lesN lesF
      rw [← e]
      exact ⟨rfl, rfl, rfl⟩
    have e0 := HDa.out.c0
    have e1 := HDa.out.c1
    have f0 := HDa.out.nf 0
    have f1 := HDa.out.nf 1
    have hlt := HDa.out.lt
    have HBF : Hid (Below w.heap.size w ((wa.setCell ⟨w.heap.size + 1, 0, none⟩ (.slice none 0 0)).setCell ⟨w.heap.size + 1, 1, none⟩ (.slice none 0 0))) := (HBWa.out.setCell (p := ⟨w.heap.size + 1, 0, none⟩) (Nat.le_succ _) _).setCell (p := ⟨w.heap.size + 1, 1, none⟩) (Nat.le_succ _) _
    go_wp2
    refine bodyPost_ret (results_cell_tmp_row rfl _ _ (w.heap.size + 1) 35 #[.slice none 0 0, .slice none 0 0] (0, 0) _ rfl ?_ Tryz.underlying35 rfl (by kernel_rfl)) rfl ?_
    · exact (HDa.out.s0 _).s1 _
    · exact ⟨_, by rw [HRF.out.1]; rfl, by rw [HRF.out.2.1, HRF.out.2.2]; exact dfaZ _, HBF.out⟩
  | true =>
    have HRT : Hid (rightD N F = true) := HR.out.symm
    have HRF : Hid (lesE N F = 0 ∧ lesN N F = leN N F ∧ lesF N F = leF N F) := by
      have e := HRT.out
      unfold lesE lesN lesF
      rw [e]
      exact ⟨rfl, rfl, rfl⟩
    have HC : Hid (∀ W, Below wa.heap.size wa W → W.cell? ⟨w.heap.size, 0, none⟩ = some (.slice na n nc) ∧ W.cell? ⟨w.heap.size, 1, none⟩ = some (.slice fa fl fc) ∧ w.heap.size < W.heap.size) := fun W hb => ⟨(HAa.out.below hb).c0, (HAa.out.below hb).c1, (HAa.out.below hb).lt⟩
    have HDC : Hid (∀ W, Below wa.heap.size wa W → DBox W (w.heap.size + 1) (.slice none 0 0) (.slice none 0 0) ∧ Hid (DBox W (w.heap.size + 1) (.slice none 0 0) (.slice none 0 0))) := fun W hb => ⟨HDa.out.below hb, HDa.out.below hb⟩
    obtain ⟨c0, c1, cl⟩ := HC.out wa (Below.refl _ _)
    have HDR : Hid (Below wa.heap.size wa wa.drew) := (Below.refl _ _).drew
    go_wp2
    go_region_law (first | (go_simp; (with_reducible refine (HPA.out wa.drew HRT.out (below_after HBWa.out HDR.out)).mono ?_); rintro e w5 ⟨gp, p, rfl, HQ, hB5⟩; have HB5 : Hid (Below wa.heap.size wa w5) := below_after HDR.out hB5; clear hB5; have HD5 : Hid (w.heap.size + 1 < w5.heap.size) := (HDa.out.below HB5.out).lt; obtain ⟨d0, d1, dlt⟩ := HC.out w5 HB5.out; try dsimp only) | (go_simp; (with_reducible refine (HJO.out w5 _ _ _ HRT.out (below_after HBWa.out HB5.out) HQ).mono ?_); rintro e w6 ⟨nb, mb, cb, fb, gb, db, rfl, HZ, hB6⟩; have HB6 : Hid (Below wa.heap.size wa w6) := below_after HB5.out hB6; clear hB6; obtain ⟨HE, HDB⟩ := HDC.out w6 HB6.out; have e0 := HE.c0; have e1 := HE.c1; have f0 := HE.nf 0; have f1 := HE.nf 1; have hlt := HE.lt; clear HE; try dsimp only))
    all_goals (
      go_wp2
      refine bodyPost_ret (results_cell_tmp_row rfl _ _ (w.heap.size + 1) 35 #[.slice nb mb cb, .slice fb gb db] (0, 0) _ rfl (by exact (HDB.out.s0 _).s1 _) Tryz.underlying35 rfl (by kernel_rfl)) rfl ?_
      refine ⟨_, by rw [HRF.out.1]; rfl, ?_, ?_⟩
      · rw [HRF.out.2.1, HRF.out.2.2]
        refine HZ.out _ (fun k hk => ?_)
        have hOn : OnlyB (w.heap.size + 1) w6 ((w6.setCell ⟨w.heap.size + 1, 0, none⟩ (.slice nb mb cb)).setCell ⟨w.heap.size + 1, 1, none⟩ (.slice fb gb db)) := ((OnlyB.refl _ _).set _ _).set _ _
        exact hOn.block k (by have := HD5.out; omega)
      · exact ((below_after HBWa.out HB6.out).setCell (p := ⟨w.heap.size + 1, 0, none⟩) (Nat.le_succ _) _).setCell (p := ⟨w.heap.size + 1, 1, none⟩) (Nat.le_succ _) _)
end Go.Proofs.YtklhjjgnhigbiaaGreatDoor
