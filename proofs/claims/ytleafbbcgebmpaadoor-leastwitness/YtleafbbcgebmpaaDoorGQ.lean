/-
  least.Least, walked. What the laws of layer 13 share.
-/
import Derived.Test.YtleafbbcgebmpaaDoorLsJf
import Derived.Test.YtleafbbcgebmpaaDoorSbRgt
import Derived.Test.YtleafbbcgebmpaaDoorLsAk
import Derived.Test.YtleafbbcgebmpaaDoorLsSame
import Derived.Test.YtleafbbcgebmpaaDoorLsRLeast
import Derived.Test.YtleafbbcgebmpaaDoorLsRApart
import Derived.Test.YtleafbbcgebmpaaDoorSbRFew
import Derived.Test.YtleafbbcgebmpaaDoorSbRRun
namespace Go.Proofs.YtleafbbcgebmpaaDoor
open Go.RowKit Go.Shelf
set_option linter.unusedVariables false

set_option maxRecDepth 100000 in
set_option maxHeartbeats 16000000 in
theorem least_any (N : List (List Int)) (F : List Bool) (dv : Value) (w : World) (hd : DfaAt w dv N F) (hPT : PowT w) : Calls Tryd.prog 11 #[dv] w (LesA N F w) := by
  have HD : Hid (DfaAt w dv N F ∧ PowT w) := ⟨hd, hPT⟩
  obtain ⟨na, nc, fa, fc, rfl, hnc, hfc, hx, hfx⟩ := dfa_parts hd
  obtain ⟨W0, hW0⟩ : ∃ W, W = (w.alloc (.cells #[.slice na N.length nc, .slice fa F.length fc] 25)).alloc (.cells #[.slice none 0 0, .slice none 0 0] 25) := ⟨_, rfl⟩
  obtain ⟨h0, h1, hB0, hs0⟩ := alloc2 hW0
  have hrt := sright_any N F (.agg #[.slice na N.length nc, .slice fa F.length fc]) W0 (hd.below hB0)
  have HPA : Hid (∀ W, rightD N F = true → Below w.heap.size w W → Calls Tryd.prog 22 #[.agg #[.slice na N.length nc, .slice fa F.length fc]] W fun e w' => ∃ gp p, e = .returned (.slice (some ⟨gp, 0, none⟩) N.length N.length) ∧ Hid (RowN w' W.heap.size gp N.length p ∧ (∀ i k, i < N.length → k < N.length → (p i = p k ↔ alk (mch N F) i k)) ∧ (∀ i, i < N.length → p i < N.length)) ∧ Below W.heap.size W w') := fun W hr hb => (partsOf_any N F _ W (hd.below hb) hr (hPT.below hb)).mono (fun e w' h => by
    obtain ⟨gp, p, k1, k2, k3, k4, k5⟩ := h
    exact ⟨gp, p, k1, ⟨k2, k3, k4⟩, k5⟩)
  have HJO : Hid (∀ W gp bq p, rightD N F = true → Below w.heap.size w W → Hid (RowN W bq gp N.length p ∧ (∀ i k, i < N.length → k < N.length → (p i = p k ↔ alk (mch N F) i k)) ∧ (∀ i, i < N.length → p i < N.length)) → Calls Tryd.prog 21 #[.agg #[.slice na N.length nc, .slice fa F.length fc], .slice (some ⟨gp, 0, none⟩) N.length N.length] W fun e w' => ∃ nb mb cb fb gb db, e = .returned (.agg #[.slice nb mb cb, .slice fb gb db]) ∧ Hid (∀ V, (∀ k, W.heap.size ≤ k → V.heap[k]? = w'.heap[k]?) → DfaAt V (.agg #[.slice nb mb cb, .slice fb gb db]) (leN N F) (leF N F)) ∧ Below W.heap.size W w') := fun W gp bq p hr hb hp => (joined_any N F _ gp bq p W (hd.below hb) hr hp.out.1 hp.out.2.1 hp.out.2.2).mono (fun e w' h => by
    obtain ⟨v, k1, k2, k3⟩ := h
    obtain ⟨na', nc', fa', fc', e2, _, _, _, _⟩ := dfa_parts (k2 w' (fun _ _ => rfl))
    subst e2
    exact ⟨_, _, _, _, _, _, k1, k2, k3⟩)
  obtain ⟨n, hn⟩ : ∃ x, x = N.length := ⟨_, rfl⟩
  obtain ⟨fl, hfl⟩ : ∃ x, x = F.length := ⟨_, rfl⟩
  rw [← hn, ← hfl] at hrt hW0 h0 HPA HJO ⊢
  have HA0 : Hid (DBox W0 w.heap.size (.slice na n nc) (.slice fa fl fc)) := h0
  have HD0 : Hid (DBox W0 (w.heap.size + 1) (.slice none 0 0) (.slice none 0 0)) := h1
  have HB0 : Hid (Below w.heap.size w W0) := hB0
  have HW0 : Hid (W0 = _) := hW0
  have a0 := HA0.out.c0
  have a1 := HA0.out.c1
  have al := HA0.out.lt
  obtain ⟨R, hR⟩ : ∃ R, R = rightD N F := ⟨_, rfl⟩
  have HR : Hid (R = rightD N F) := hR
  rw [← hR] at hrt
  clear hd hPT hx hfx hn hfl h0 h1 hB0 hs0 hW0 hR hnc hfc
  go_enter Tryd.func11, Tryd.ntmps11
  go_upto_region 1 with fail
  rw [← HW0.out]
  go_wp2_with fail
  refine hrt.mono ?_
  rintro e wa ⟨rfl, hBa⟩
  have HBa : Hid (Below W0.heap.size W0 wa) := hBa
  have HAa : Hid (DBox wa w.heap.size (.slice na n nc) (.slice fa fl fc)) := HA0.out.below hBa
  have HDa : Hid (DBox wa (w.heap.size + 1) (.slice none 0 0) (.slice none 0 0)) := HD0.out.below hBa
  have HBWa : Hid (Below w.heap.size w wa) := below_after HB0.out hBa
  clear hrt a0 a1 al hBa
  cases R with
  | false =>
    have HRF : Hid (lesE N F = 1 ∧ lesN N F = [] ∧ lesF N F = []) := by
      have e := HR.out
      unfold lesE lesN lesF
      rw [← e]
      exact ⟨rfl, rfl, rfl⟩
    have e0 := HDa.out.c0
    have e1 := HDa.out.c1
    have f0 := HDa.out.nf 0
    have f1 := HDa.out.nf 1
    have hlt := HDa.out.lt
    have HBF : Hid (Below w.heap.size w ((wa.setCell ⟨w.heap.size + 1, 0, none⟩ (.slice none 0 0)).setCell ⟨w.heap.size + 1, 1, none⟩ (.slice none 0 0))) := (HBWa.out.setCell (p := ⟨w.heap.size + 1, 0, none⟩) (Nat.le_succ _) _).setCell (p := ⟨w.heap.size + 1, 1, none⟩) (Nat.le_succ _) _
    go_wp2
    refine bodyPost_ret (results_cell_tmp_row rfl _ _ (w.heap.size + 1) 25 #[.slice none 0 0, .slice none 0 0] (0, 0) _ rfl ?_ Tryd.underlying25 rfl (by kernel_rfl)) rfl ?_
    · exact (HDa.out.s0 _).s1 _
    · exact ⟨_, by rw [HRF.out.1]; rfl, by rw [HRF.out.2.1, HRF.out.2.2]; exact dfaZ _, HBF.out⟩
  | true =>
    have HRT : Hid (rightD N F = true) := HR.out.symm
    have HRF : Hid (lesE N F = 0 ∧ lesN N F = leN N F ∧ lesF N F = leF N F) := by
      have e := HRT.out
      unfold lesE lesN lesF
      rw [e]
      exact ⟨rfl, rfl, rfl⟩
    have HC : Hid (∀ W, Below wa.heap.size wa W → W.cell? ⟨w.heap.size, 0, none⟩ = some (.slice na n nc) ∧ W.cell? ⟨w.heap.size, 1, none⟩ = some (.slice fa fl fc) ∧ w.heap.size < W.heap.size) := fun W hb => ⟨(HAa.out.below hb).c0, (HAa.out.below hb).c1, (HAa.out.below hb).lt⟩
    have HDC : Hid (∀ W, Below wa.heap.size wa W → DBox W (w.heap.size + 1) (.slice none 0 0) (.slice none 0 0) ∧ Hid (DBox W (w.heap.size + 1) (.slice none 0 0) (.slice none 0 0))) := fun W hb => ⟨HDa.out.below hb, HDa.out.below hb⟩
    obtain ⟨c0, c1, cl⟩ := HC.out wa (Below.refl _ _)
    have HDR : Hid (Below wa.heap.size wa wa.drew) := (Below.refl _ _).drew
    go_wp2
    go_region_law (first | (go_simp; (with_reducible refine (HPA.out wa.drew HRT.out (below_after HBWa.out HDR.out)).mono ?_); rintro e w5 ⟨gp, p, rfl, HQ, hB5⟩; have HB5 : Hid (Below wa.heap.size wa w5) := below_after HDR.out hB5; clear hB5; have HD5 : Hid (w.heap.size + 1 < w5.heap.size) := (HDa.out.below HB5.out).lt; obtain ⟨d0, d1, dlt⟩ := HC.out w5 HB5.out; try dsimp only) | (go_simp; (with_reducible refine (HJO.out w5 _ _ _ HRT.out (below_after HBWa.out HB5.out) HQ).mono ?_); rintro e w6 ⟨nb, mb, cb, fb, gb, db, rfl, HZ, hB6⟩; have HB6 : Hid (Below wa.heap.size wa w6) := below_after HB5.out hB6; clear hB6; obtain ⟨HE, HDB⟩ := HDC.out w6 HB6.out; have e0 := HE.c0; have e1 := HE.c1; have f0 := HE.nf 0; have f1 := HE.nf 1; have hlt := HE.lt; clear HE; try dsimp only))
    all_goals (
      go_wp2
      refine bodyPost_ret (results_cell_tmp_row rfl _ _ (w.heap.size + 1) 25 #[.slice nb mb cb, .slice fb gb db] (0, 0) _ rfl (by exact (HDB.out.s0 _).s1 _) Tryd.underlying25 rfl (by kernel_rfl)) rfl ?_
      refine ⟨_, by rw [HRF.out.1]; rfl, ?_, ?_⟩
      · rw [HRF.out.2.1, HRF.out.2.2]
        refine HZ.out _ (fun k hk => ?_)
        have hOn : OnlyB (w.heap.size + 1) w6 ((w6.setCell ⟨w.heap.size + 1, 0, none⟩ (.slice nb mb cb)).setCell ⟨w.heap.size + 1, 1, none⟩ (.slice fb gb db)) := ((OnlyB.refl _ _).set _ _).set _ _
        exact hOn.block k (by have := HD5.out; omega)
      · exact ((below_after HBWa.out HB6.out).setCell (p := ⟨w.heap.size + 1, 0, none⟩) (Nat.le_succ _) _).setCell (p := ⟨w.heap.size + 1, 1, none⟩) (Nat.le_succ _) _)
end Go.Proofs.YtleafbbcgebmpaaDoor

namespace Go.Proofs.YtleafbbcgebmpaaDoor
open Go.RowKit Go.Shelf
set_option linter.unusedVariables false

theorem aw13 : lesE [[1], [0]] [true, true] = 0 ∧ lesN [[1], [0]] [true, true] = [[0]] ∧ lesF [[1], [0]] [true, true] = [true] := ⟨by kernel_rfl, by kernel_rfl, by kernel_rfl⟩

/-- Least's answer, in slices. -/
def LesC (E : Int) (LN : List (List Int)) (LF : List Bool) (w : World) (e : Ending) (w' : World) : Prop := ∃ na nc fa fc, e = .returned (.tuple #[.agg #[.slice na LN.length nc, .slice fa LF.length fc], .int .i64 E]) ∧ Hid (DfaAt w' (.agg #[.slice na LN.length nc, .slice fa LF.length fc]) LN LF) ∧ Below w.heap.size w w'
theorem LesA.c {N : List (List Int)} {F : List Bool} {w w' : World} {e : Ending} (h : LesA N F w e w') : LesC (lesE N F) (lesN N F) (lesF N F) w e w' := by
  obtain ⟨v, rfl, hd, hb⟩ := h
  obtain ⟨na, nc, fa, fc, rfl, _⟩ := dfa_parts hd
  exact ⟨na, nc, fa, fc, rfl, hd, hb⟩

set_option maxRecDepth 100000 in
set_option maxHeartbeats 8000000 in
theorem awake_any13 (w : World) (hP : PowT w) : Calls Tryd.prog 9 #[] w fun e w' => e = .returned (.bool true) ∧ Below w.heap.size w w' := by
  obtain ⟨A1, h1⟩ : ∃ A, A = w.alloc (.cells #[.int .i64 1] 3) := ⟨_, rfl⟩
  obtain ⟨A2, h2⟩ : ∃ A, A = A1.alloc (.cells #[.int .i64 0] 3) := ⟨_, rfl⟩
  obtain ⟨A3, h3⟩ : ∃ A, A = A2.alloc (.cells #[.slice (some ⟨w.heap.size, 0, none⟩) 1 1, .slice (some ⟨w.heap.size + 1, 0, none⟩) 1 1] 33) := ⟨_, rfl⟩
  obtain ⟨W0, h4⟩ : ∃ A, A = A3.alloc (.cells #[.bool true, .bool true] 4) := ⟨_, rfl⟩
  have s1 : A1.heap.size = w.heap.size + 1 := by rw [h1]; simp
  have s2 : A2.heap.size = w.heap.size + 2 := by rw [h2]; simp [s1]
  have s3 : A3.heap.size = w.heap.size + 3 := by rw [h3]; simp [s2]
  have s4 : W0.heap.size = w.heap.size + 4 := by rw [h4]; simp [s3]
  have b1 : Below w.heap.size w A1 := by rw [h1]; exact below_alloc _ _
  have b2 : Below A1.heap.size A1 A2 := by rw [h2]; exact below_alloc _ _
  have b3 : Below A2.heap.size A2 A3 := by rw [h3]; exact below_alloc _ _
  have b4 : Below A3.heap.size A3 W0 := by rw [h4]; exact below_alloc _ _
  have b24 : Below A2.heap.size A2 W0 := below_after b3 b4
  have b14 : Below A1.heap.size A1 W0 := below_after b2 b24
  have x1 : A1.heap[w.heap.size]? = some (.cells #[.int .i64 1] 3 (0, 0)) := by rw [h1]; exact heap_new' _ _
  have x2 : A2.heap[A1.heap.size]? = some (.cells #[.int .i64 0] 3 (0, 0)) := by rw [h2]; exact heap_new' _ _
  have x3 : A3.heap[A2.heap.size]? = some (.cells #[.slice (some ⟨w.heap.size, 0, none⟩) 1 1, .slice (some ⟨w.heap.size + 1, 0, none⟩) 1 1] 33 (0, 0)) := by rw [h3]; exact heap_new' _ _
  have x4 : W0.heap[A3.heap.size]? = some (.cells #[.bool true, .bool true] 4 (0, 0)) := by rw [h4]; exact heap_new' _ _
  rw [s1] at x2
  rw [s2] at x3
  rw [s3] at x4
  replace x1 := (b14.block _ (by omega)).trans x1
  replace x2 := (b24.block _ (by omega)).trans x2
  replace x3 := (b4.block _ (by omega)).trans x3
  have hd : DfaAt W0 (.agg #[.slice (some ⟨w.heap.size + 1 + 1, 0, none⟩) 2 2, .slice (some ⟨w.heap.size + 1 + 1 + 1, 0, none⟩) 2 2]) [[1], [0]] [true, true] := by
    refine ⟨_, _, rfl, ⟨_, 2, rfl, Nat.le_refl _, fun h => (by cases h), fun i hi => ?_⟩, _, 2, rfl, Nat.le_refl _, fun h => (by cases h), fun i hi => ?_⟩
    · have hl : i < 2 := hi
      refine ⟨w.heap.size + 1 + 1, 0, .slice (some ⟨w.heap.size + i, 0, none⟩) 1 1, rfl, by omega, ?_, ⟨some ⟨w.heap.size + i, 0, none⟩, 1, ?_, ?_, fun h => (by cases h), fun k hk => ⟨w.heap.size + i, 0, rfl, by omega, ?_⟩⟩⟩
      · rcases i with _ | _ | i
        · exact cell_in x3 0
        · exact cell_in x3 1
        · omega
      · rcases i with _ | _ | i
        · rfl
        · rfl
        · omega
      · rcases i with _ | _ | i
        · exact Nat.le_refl _
        · exact Nat.le_refl _
        · omega
      · rcases i with _ | _ | i
        · have : k < 1 := hk
          obtain rfl : k = 0 := by omega
          exact cell_in x1 0
        · have : k < 1 := hk
          obtain rfl : k = 0 := by omega
          exact cell_in x2 0
        · omega
    · have hl : i < 2 := hi
      refine ⟨w.heap.size + 1 + 1 + 1, 0, rfl, by omega, ?_⟩
      rcases i with _ | _ | i
      · exact cell_in x4 0
      · exact cell_in x4 1
      · omega
  have HB0 : Hid (Below w.heap.size w W0) := below_after b1 b14
  have hle := (least_any _ _ _ W0 hd (hP.below HB0.out)).mono (fun _ _ h => h.c)
  rw [aw13.1, aw13.2.1, aw13.2.2] at hle
  have HW0 : Hid (W0 = _) := h4
  rw [h3, h2, h1] at HW0
  have h5 := HW0.out
  rw [h5] at hle
  clear h1 h2 h3 h4 h5 s1 s2 s3 s4 b1 b2 b3 b4 b24 b14 x1 x2 x3 x4 hd hP
  go_enter Tryd.func9, Tryd.ntmps9
  go_wp2_with fail
  refine Calls.mono hle ?_
  rintro e w1 ⟨na, nc, fa, fc, rfl, HD, hB1⟩
  rw [← HW0.out] at hB1
  have HB1 : Hid (Below w.heap.size w w1) := below_after HB0.out hB1
  obtain ⟨_, _, fa', fc', e0, _, hfc, _, hfx⟩ := dfa_parts HD.out
  obtain ⟨g, off, rfl, hg, hq⟩ := hfx 0 (by decide)
  obtain rfl : fa = some ⟨g, off, none⟩ := by
    injection e0 with e0
    have := congrArg (fun z : Array Value => z.getD 1 (.bool false)) e0
    simp at this
    exact this.1
  have hq' : w1.cell? ⟨g, off, none⟩ = some (.bool true) := hq
  obtain ⟨W1, hW1⟩ : ∃ W, W = w1.alloc (.cells #[.slice na 1 nc, .slice (some ⟨g, off, none⟩) 1 fc] 25) := ⟨_, rfl⟩
  have hB2 : Below w1.heap.size w1 W1 := by rw [hW1]; exact below_alloc _ _
  have hbx : DBox W1 w1.heap.size (.slice na 1 nc) (.slice (some ⟨g, off, none⟩) 1 fc) := by rw [hW1]; exact heap_new' _ _
  have c0 := hbx.c0
  have c1 := hbx.c1
  have hlt := hbx.lt
  have hg' : g < W1.heap.size := Nat.lt_of_lt_of_le hg hB2.size
  have q0 : W1.cell? ⟨g, off, none⟩ = some (.bool true) := (hB2.cell (p := ⟨g, _, none⟩) hg).trans hq'
  have HB2 : Hid (Below w.heap.size w W1) := below_after HB1.out hB2
  have HW1 : Hid (W1 = _) := hW1
  clear hle hq hq' hB1 hB2 hbx hW1 e0 hfx hfc HD hg
  go_upto_region 2 with fail
  rw [← HW1.out]
  go_wp2
  go_ret
  exact ⟨rfl, HB2.out⟩
theorem les_small (N : List (List Int)) (F : List Bool) : (lesN N F).length ≤ 5000 ∧ (lesF N F).length ≤ 5000 ∧ ∀ x ∈ lesN N F, x.length ≤ 5000 := by
  unfold lesN lesF
  by_cases h : rightD N F = true
  · rw [if_pos h, if_pos h]
    obtain ⟨h1, h2, h3, h4, h5, h6⟩ := rightD_iff.1 (le_right h)
    refine ⟨h2, by omega, fun x hx => ?_⟩
    obtain ⟨i, hi, rfl⟩ := List.mem_iff_getElem.1 hx
    have := (h6 i hi).1
    omega
  · rw [if_neg h, if_neg h]
    exact ⟨by simp, by simp, fun x hx => (by cases hx)⟩
/-- What stands in a variable, as states. -/
theorem dfa_cells {w : World} {na fa : Option Addr} {n m nc fc : Nat} {N : List (List Int)} {F : List Bool} (h : DfaAt w (.agg #[.slice na n nc, .slice fa m fc]) N F) : n = N.length ∧ m = F.length := by
  obtain ⟨na', nc', fa', fc', e, _⟩ := dfa_parts h
  injection e with e
  have e1 := congrArg (fun z : Array Value => z.getD 0 (.bool false)) e
  have e2 := congrArg (fun z : Array Value => z.getD 1 (.bool false)) e
  simp at e1 e2
  exact ⟨e1.2.1, e2.2.1⟩
theorem rowE_wlen13 {M1 M2 : Mach} {x : Ent} {Q : List Ent} {j : Nat} (hx : x.w.length ≤ j) (hQ : ∀ e ∈ Q, e.w.length ≤ j) : ∀ i, ∀ e ∈ rowE M1 M2 x Q i, e.w.length ≤ j + 1
  | 0, e, he => Nat.le_succ_of_le (hQ e he)
  | i + 1, e, he => by
    have he' : e ∈ addE M1 M2 x (rowE M1 M2 x Q i) i := he
    unfold addE at he'
    split at he'
    · exact rowE_wlen13 hx hQ i e he'
    · rcases List.mem_append.1 he' with q | q
      · exact rowE_wlen13 hx hQ i e q
      · rw [List.mem_singleton.1 q]
        simp
        exact hx
theorem qE_wlen13 {M1 M2 : Mach} : ∀ j, ∀ e ∈ qE M1 M2 j, e.w.length ≤ j
  | 0, e, he => by
    have : e = ⟨0, 0, []⟩ := List.mem_singleton.1 he
    rw [this]
    exact Nat.le_refl _
  | j + 1, e, he => by
    refine rowE_wlen13 (j := j) ?_ (qE_wlen13 j) M1.k e he
    rw [List.getD_eq_getElem?_getD]
    cases h : (qE M1 M2 j)[j]? with
    | none => exact Nat.zero_le _
    | some y => exact qE_wlen13 j y (List.mem_of_getElem? h)
theorem apR_len13 {M1 M2 : Mach} : ∀ (q j : Nat) (w : List Nat), apR M1 M2 q j = some w → w.length ≤ j + q
  | 0, j, w, h => by cases h
  | q + 1, j, w, h => by
    unfold apR at h
    split at h
    · split at h
      · injection h with h
        subst h
        rw [List.getD_eq_getElem?_getD]
        cases h : (qE M1 M2 j)[j]? with
        | none => exact Nat.zero_le _
        | some y => exact Nat.le_trans (qE_wlen13 j y (List.mem_of_getElem? h)) (by omega)
      · have := apR_len13 q (j + 1) w h
        omega
    · cases h
/-- How long the word is. -/
theorem apO_len13 (N : List (List Int)) (F : List Bool) (N' : List (List Int)) (F' : List Bool) : (upI ((apO N F N' F').getD [])).length ≤ N.length * N'.length + 1 := by
  unfold upI
  rw [List.length_map]
  cases h : apO N F N' F' with
  | none => exact Nat.zero_le _
  | some w =>
    unfold apO at h
    split at h
    · have := apR_len13 _ _ _ h
      rw [Nat.zero_add] at this
      exact this
    · cases h
end Go.Proofs.YtleafbbcgebmpaaDoor
