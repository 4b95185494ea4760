/-
  follow.Build.
-/
import Derived.Test.YtklhjjgnhigbiaaGreatDoorFlAut
import Derived.Test.YtklhjjgnhigbiaaGreatDoorFlNote
import Derived.Test.YtklhjjgnhigbiaaGreatDoorFlRd
import Derived.Deep.CutRange
namespace Go.Proofs.YtklhjjgnhigbiaaGreatDoor
open Go.RowKit Go.Shelf
set_option linter.unusedVariables false

theorem Tryz.infoMarks : (Tryz.prog.info? 53).map (fun i => (i.zero, i.size, i.bytes)) = some (some (.agg #[.int .i64 0, .slice none 0 0]), 2, 32) := by kernel_rfl
theorem Tryz.infoInts : (Tryz.prog.info? 26).map (fun i => (i.zero, i.size, i.bytes)) = some (some (.slice none 0 0), 1, 24) := by kernel_rfl
theorem make_marks (m : Nat) (hm : m ≤ 300) (W : World) : Sem.run Tryz.prog (Instr.makeSlice 51 (.int .i64 (m : Int)) (.int .i64 (m : Int))) W = .ok (.slice (some ⟨W.heap.size, 0, none⟩) m m) (W.alloc (.cells (madeCells #[.int .i64 0, .slice none 0 0] (m * 2)) 53)) := by
  obtain ⟨i0, hi0, hz0, hz1, hz2⟩ := info_parts Tryz.infoMarks
  have := run_make (P := Tryz.prog) W 51 53 i0 (.agg #[.int .i64 0, .slice none 0 0]) Tryz.underlying51 hi0 hz0 .i64 .i64 (m : Int) (m : Int) (by omega) (by omega) (by rw [hz2]; omega) (by omega)
  rw [this, hz1]
  simp [Value.cells]
/-- The rows of the first j marks are laid. -/
def Laid (lo m nw j : Nat) (G : Nat → Nat) (w : World) : Prop :=
  w.cell? ⟨lo + 2, 0, none⟩ = some (.slice (some ⟨lo + 1, 0, none⟩) m m) ∧
  (∃ cs, w.heap[lo + 1]? = some (.cells cs 53 (0, 0)) ∧ cs.size = m * 2 ∧ ∀ i, i < j → cs[i * 2]? = some (.int .i64 (m : Int)) ∧ cs[i * 2 + 1]? = some (.slice (some ⟨G i, 0, none⟩) nw nw)) ∧
  (∀ i, i < j → lo + 3 ≤ G i ∧ G i < w.heap.size ∧ MrkAt w (G i) (List.replicate nw 0)) ∧ ∀ i k, i < j → k < j → G i = G k → i = k
theorem Laid.to {lo m nw j : Nat} {G : Nat → Nat} {w w' : World} (h : Laid lo m nw j G w) (hq : ∀ k, k < w.heap.size → w'.heap[k]? = w.heap[k]?) (hs : w.heap.size ≤ w'.heap.size) : Laid lo m nw j G w' := by
  obtain ⟨h1, ⟨cs, h2, h3, h4⟩, h5, h6⟩ := h
  refine ⟨(World.cell?_of_block (a := ⟨lo + 2, 0, none⟩) (hq _ (cell_some_lt h1))).trans h1, ⟨cs, (hq _ (lt_of_heap h2)).trans h2, h3, h4⟩, fun i hi => ?_, h6⟩
  obtain ⟨a, b, c⟩ := h5 i hi
  exact ⟨a, by omega, (hq _ b).trans c⟩
theorem Laid.add {lo m nw j g : Nat} {G : Nat → Nat} {w w' : World} (h : Laid lo m nw j G w) (hj : j < m) (hb : Below w.heap.size w w') (hlo : lo + 3 ≤ w.heap.size) (hg : w.heap.size ≤ g) (hm : MrkAt w' g (List.replicate nw 0)) :
    Laid lo m nw (j + 1) (fun i => if i = j then g else G i) ((w'.setCell ⟨lo + 1, j * 2, none⟩ (.int .i64 (m : Int))).setCell ⟨lo + 1, j * 2 + 1, none⟩ (.slice (some ⟨g, 0, none⟩) nw nw)) := by
  obtain ⟨h1, ⟨cs, h2, h3, h4⟩, h5, h6⟩ := h.to (fun k hk => hb.block k hk) hb.size
  have hO : OnlyB (lo + 1) w' ((w'.setCell ⟨lo + 1, j * 2, none⟩ (.int .i64 (m : Int))).setCell ⟨lo + 1, j * 2 + 1, none⟩ (.slice (some ⟨g, 0, none⟩) nw nw)) := ((OnlyB.refl _ _).set _ _).set _ _
  have hne : ∀ i, i < j → G i ≠ g := fun i hi => by have := (h.2.2.1 i hi).2.1; omega
  refine ⟨(World.cell?_of_block (a := ⟨lo + 2, 0, none⟩) (hO.block _ (by show lo + 2 ≠ lo + 1; omega))).trans h1, ⟨_, heap_setN (heap_setN h2 _) _, by simp [h3], fun i hi => ?_⟩, fun i hi => ?_, fun i k hi hk e => ?_⟩
  · dsimp only
    by_cases e : i = j
    · subst e
      rw [if_pos rfl]
      constructor
      · rw [Array.getElem?_setIfInBounds_ne (by omega), Array.getElem?_setIfInBounds_self_of_lt (by omega)]
      · rw [Array.getElem?_setIfInBounds_self_of_lt (by simp; omega)]
    · rw [if_neg e, Array.getElem?_setIfInBounds_ne (by omega), Array.getElem?_setIfInBounds_ne (by omega), Array.getElem?_setIfInBounds_ne (by omega), Array.getElem?_setIfInBounds_ne (by omega)]
      exact h4 i (by omega)
  · dsimp only
    by_cases e : i = j
    · subst e
      rw [if_pos rfl]
      exact ⟨by omega, by rw [hO.size]; exact hm.lt, (hO.block g (by omega)).trans hm⟩
    · rw [if_neg e]
      obtain ⟨a, b, c⟩ := h5 i (by omega)
      exact ⟨a, by rw [hO.size]; exact b, (hO.block _ (by omega)).trans c⟩
  · dsimp only at e
    by_cases e1 : i = j
    · by_cases e2 : k = j
      · omega
      · rw [if_pos e1, if_neg e2] at e
        exact absurd e.symm (hne k (by omega))
    · by_cases e2 : k = j
      · rw [if_neg e1, if_pos e2] at e
        exact absurd e (hne i (by omega))
      · rw [if_neg e1, if_neg e2] at e
        exact h6 i k (by omega) (by omega) e

theorem bldA_zero {n : Nd} {w w' : World} {er : Int} (hE : errF n = er) (h0 : er ≠ 0) (hB : Below w.heap.size w w') : BldA n w (.returned (.tuple #[.agg #[.bool false, .slice none 0 0, .slice none 0 0, .slice none 0 0, .slice none 0 0], .int .i64 er])) w' := by
  refine ⟨_, by rw [hE], ?_, hB⟩
  have e : autF n = autZ := by unfold autF; rw [hE, if_neg h0]
  rw [e]; exact autZ_at _

set_option maxRecDepth 100000 in
set_option maxHeartbeats 32000000 in
theorem build_any (d : Nat) (hd : d ≤ 60000) (n : Nd) (za : Option Addr) (ca : Nat) (w : World) (hT : TabW w) (hdp : Dp d n.kids) (hS : (setsN n).length ≤ 90000) (hz : KdX (fun k => k < w.heap.size) w (.slice za n.kids.length ca) n.kids) :
    Calls Tryz.prog 4 #[.agg #[.int .i64 n.k, .int .i64 n.s, .slice za n.kids.length ca]] w (BldA n w) := by
  obtain ⟨W0, hW0⟩ : ∃ W, W = (w.alloc (.cells #[.int .i64 n.k, .int .i64 n.s, .slice za n.kids.length ca] 24)).alloc (.cells #[.bool false, .slice none 0 0, .slice none 0 0, .slice none 0 0, .slice none 0 0] 29) := ⟨_, rfl⟩
  obtain ⟨h0, h1, hB0, hs0⟩ := alloc2 hW0
  have hz0 : KdX (fun k => k < W0.heap.size) W0 (.slice za n.kids.length ca) n.kids := kdx_below hz hB0
  have hrt := right_any d hd n (.slice za n.kids.length ca) W0 hdp hz0
  have HZ : Hid (KdX (fun k => k < w.heap.size) w (.slice za n.kids.length ca) n.kids) := hz
  have HT : Hid (TabW w) := hT
  have HSL : Hid ((setsN n).length ≤ 90000) := hS
  have HDP : Hid (Dp d n.kids) := hdp
  have HX0 : Hid (Box W0 w.heap.size n.k n.s (.slice za n.kids.length ca)) := h0
  have HA0 : Hid (ABox W0 (w.heap.size + 1) false (.slice none 0 0) (.slice none 0 0) (.slice none 0 0) (.slice none 0 0)) := h1
  have HB0 : Hid (Below w.heap.size w W0) := hB0
  have HS0 : Hid (W0.heap.size = w.heap.size + 2) := hs0
  have HSO : Hid (∀ W, Below W0.heap.size W0 W → Calls Tryz.prog 13 #[.agg #[.int .i64 n.k, .int .i64 n.s, .slice za n.kids.length ca], .slice none 0 0] W (StA W.heap.size n [] W)) := fun W hb => setsOf_any d n za ca W.heap.size [] _ W hdp (Nat.le_refl _) (World.ownsRow_nil _ _ _ _) (by simpa using (by omega : (setsN n).length ≤ 100000)) (kdx_below hz0 hb)
  have HDN : Hid (∀ {lo hi m : Nat} {I : World → List (List Nat × List Nat) → Prop} {fn : Nat} {caps : Array Value} (N : NoteT fn caps lo hi m I) (hm : m ≤ 700) (hr : rightN n = true), KidC fn caps lo hi I m n za ca) := fun N hm hr => read_any N hm d n za ca hdp hr
  unfold ndV at hrt
  unfold KidC at HDN
  obtain ⟨nk, hnk⟩ : ∃ x, x = n.k := ⟨_, rfl⟩
  obtain ⟨ns, hns⟩ : ∃ x, x = n.s := ⟨_, rfl⟩
  obtain ⟨nl, hnl⟩ : ∃ x, x = n.kids.length := ⟨_, rfl⟩
  rw [← hnk, ← hns, ← hnl] at hrt HSO hW0 HX0 HDN ⊢
  rw [← hnl] at HZ
  obtain ⟨rt, hrt'⟩ : ∃ b, b = rightN n := ⟨_, rfl⟩
  rw [← hrt'] at hrt
  have HRT : Hid (rt = rightN n) := hrt'
  have HW0 : Hid (W0 = _) := hW0
  rw [hW0] at hrt
  clear h0 h1 hB0 hs0 hz0 hz hT hS hdp hnk hns hnl hrt' hW0
  cases rt with
  | false =>
    go_enter Tryz.func4, Tryz.ntmps4
    go_wp2_with fail
    refine hrt.mono ?_
    rintro e w1 ⟨rfl, hB1⟩
    rw [← HW0.out] at hB1
    have hA1 := HA0.out.below hB1
    have HA1 : Hid (ABox w1 (w.heap.size + 1) false (.slice none 0 0) (.slice none 0 0) (.slice none 0 0) (.slice none 0 0)) := hA1
    have HB1 : Hid (Below w.heap.size w w1) := HB0.out.trans (hB1.mono (by have := HS0.out; omega))
    have e0 := hA1.c0
    have e1 := hA1.c1
    have e2 := hA1.c2
    have e3 := hA1.c3
    have e4 := hA1.c4
    have f0 := hA1.nf 0
    have f1 := hA1.nf 1
    have f2 := hA1.nf 2
    have f3 := hA1.nf 3
    have f4 := hA1.nf 4
    have hlt := hA1.lt
    clear hrt hB1 hA1
    go_wp2
    refine bodyPost_ret (results_cell_tmp_row rfl _ _ (w.heap.size + 1) 29 #[.bool false, .slice none 0 0, .slice none 0 0, .slice none 0 0, .slice none 0 0] (0, 0) _ rfl ?_ Tryz.underlying29 rfl (by kernel_rfl)) rfl ?_
    · exact ((((HA1.out.s0 _).s1 _).s2 _).s3 _).s4 _
    · exact bldA_zero (errF_bad HRT.out.symm) (by decide) (((((HB1.out.setCell (Nat.le_succ _) _).setCell (Nat.le_succ _) _).setCell (Nat.le_succ _) _).setCell (Nat.le_succ _) _).setCell (Nat.le_succ _) _)
  | true =>
    go_enter Tryz.func4, Tryz.ntmps4
    go_wp2_with fail
    refine hrt.mono ?_
    rintro e w1 ⟨rfl, hB1⟩
    rw [← HW0.out] at hB1
    have HA1 : Hid (ABox w1 (w.heap.size + 1) false (.slice none 0 0) (.slice none 0 0) (.slice none 0 0) (.slice none 0 0)) := HA0.out.below hB1
    have HX1 : Hid (Box w1 w.heap.size nk ns (.slice za nl ca)) := HX0.out.below hB1
    have HB1 : Hid (Below w.heap.size w w1) := HB0.out.trans (hB1.mono (by have := HS0.out; omega))
    have hs1 : w.heap.size + 2 ≤ w1.heap.size := by have := hB1.size; have := HS0.out; omega
    have hso := HSO.out w1 hB1
    have x0 := HX1.out.c0
    have x1 := HX1.out.c1
    have x2 := HX1.out.c2
    clear hrt hB1
    go_wp2_with fail
    refine hso.mono ?_
    rintro e w2 ⟨v2, rfl, ho2, hB2⟩
    rw [List.nil_append] at ho2
    obtain ⟨m, hm⟩ : ∃ m, m = (setsN n).length := ⟨_, rfl⟩
    have HM : Hid (m = (setsN n).length) := hm
    obtain ⟨sa, sc, hv2, hsi⟩ : ∃ sa sc, v2 = .slice sa m sc ∧ IntsAt w2 v2 (setsN n) := by
      have hi := ints_of_row ho2
      obtain ⟨a, c, e, _⟩ := hi.slice
      exact ⟨a, c, by rw [hm]; exact e, hi⟩
    subst hv2
    have HSI : Hid (IntsAt w2 (.slice sa m sc) (setsN n)) := hsi
    have HB2 : Hid (Below w.heap.size w w2) := HB1.out.trans (hB2.mono (by omega))
    have HA2 : Hid (ABox w2 (w.heap.size + 1) false (.slice none 0 0) (.slice none 0 0) (.slice none 0 0) (.slice none 0 0)) := HA1.out.below hB2
    have HX2 : Hid (Box w2 w.heap.size nk ns (.slice za nl ca)) := HX1.out.below hB2
    have hs2 : w.heap.size + 2 ≤ w2.heap.size := by have := hB2.size; omega
    have HSR : Hid (w2.ownsRow w1.heap.size 3 1 (.slice sa m sc) (setsN n).length (cellI (setsN n))) := ho2
    clear hso hB2 ho2 hsi hm x0 x1 x2
    by_cases hfull : 300 < m
    · obtain ⟨W3, hW3⟩ : ∃ W, W = w2.alloc (.cells #[.slice sa m sc] 26) := ⟨_, rfl⟩
      have hB3 : Below w2.heap.size w2 W3 := by rw [hW3]; exact below_alloc _ _
      have hA3 := HA2.out.below hB3
      have HA3 : Hid (ABox W3 (w.heap.size + 1) false (.slice none 0 0) (.slice none 0 0) (.slice none 0 0) (.slice none 0 0)) := hA3
      have HB3 : Hid (Below w.heap.size w W3) := HB2.out.trans (hB3.mono (by omega))
      have e0 := hA3.c0
      have e1 := hA3.c1
      have e2 := hA3.c2
      have e3 := hA3.c3
      have e4 := hA3.c4
      have f0 := hA3.nf 0
      have f1 := hA3.nf 1
      have f2 := hA3.nf 2
      have f3 := hA3.nf 3
      have f4 := hA3.nf 4
      have hlt := hA3.lt
      have hg : decide ((m : Int) > 300) = true := decide_eq_true (by omega)
      have HW3 : Hid (W3 = _) := hW3
      rw [hW3] at e0 e1 e2 e3 e4 f0 f1 f2 f3 f4 hlt
      clear hA3 hB3 hW3
      go_upto_region 5 with fail
      rw [← HW3.out]
      rw [← HW3.out] at e0 e1 e2 e3 e4 f0 f1 f2 f3 f4 hlt
      go_wp2
      refine bodyPost_ret (results_cell_tmp_row rfl _ _ (w.heap.size + 1) 29 #[.bool false, .slice none 0 0, .slice none 0 0, .slice none 0 0, .slice none 0 0] (0, 0) _ rfl ?_ Tryz.underlying29 rfl (by kernel_rfl)) rfl ?_
      · exact ((((HA3.out.s0 _).s1 _).s2 _).s3 _).s4 _
      · exact bldA_zero (errF_full HRT.out.symm (by rw [← HM.out]; exact hfull)) (by decide) (((((HB3.out.setCell (Nat.le_succ _) _).setCell (Nat.le_succ _) _).setCell (Nat.le_succ _) _).setCell (Nat.le_succ _) _).setCell (Nat.le_succ _) _)
    · have hm3 : m ≤ 300 := by omega
      have hg : decide ((m : Int) > 300) = false := decide_eq_false (by omega)
      have hmk := make_marks m hm3
      obtain ⟨nw, hnw⟩ : ∃ nw, nw = m / 64 + 1 := ⟨_, rfl⟩
      have HNW : Hid (nw = m / 64 + 1) := hnw
      have HNM : Hid (∀ W, Calls Tryz.prog 14 #[.int .i64 (m : Int)] W fun e w' => ∃ g, e = .returned (mrkV m g nw) ∧ W.heap.size ≤ g ∧ MrkAt w' g (List.replicate nw 0) ∧ Below W.heap.size W w') := fun W => by rw [hnw]; exact newMarks_any m (by omega) W
      obtain ⟨lo, hlo⟩ : ∃ lo, lo = w2.heap.size := ⟨_, rfl⟩
      have HLO : Hid (lo = w2.heap.size) := hlo
      have hloI : Hid (m ≤ 300) := hm3
      obtain ⟨W3, hW3⟩ : ∃ W, W = ((w2.alloc (.cells #[.slice sa m sc] 26)).alloc (.cells (madeCells #[.int .i64 0, .slice none 0 0] (m * 2)) 53)).alloc (.cells #[.slice (some ⟨lo + 1, 0, none⟩) m m] 51) := ⟨_, rfl⟩
      obtain ⟨k0, k1, k2, hB3, hs3⟩ := alloc3 hW3
      rw [← hlo] at k0 k1 k2 hs3
      have HK0 : Hid (W3.heap[lo]? = some (.cells #[.slice sa m sc] 26 (0, 0))) := k0
      have HL0 : Hid (∃ G, Laid lo m nw 0 G W3) := ⟨fun _ => 0, cell_in k2 0, ⟨_, k1, size_madeCells _ _, fun i hi => (by omega)⟩, fun i hi => (by omega), fun i k hi => (by omega)⟩
      have HB3 : Hid (Below lo w2 W3) := by rw [hlo]; exact hB3
      have HS3 : Hid (W3.heap.size = lo + 3) := hs3
      have HW3 : Hid (W3 = _) := hW3
      have HA3 : Hid (ABox W3 (w.heap.size + 1) false (.slice none 0 0) (.slice none 0 0) (.slice none 0 0) (.slice none 0 0)) := HA2.out.below hB3
      have HX3 : Hid (Box W3 w.heap.size nk ns (.slice za nl ca)) := HX2.out.below hB3
      clear k0 k1 k2 hB3 hs3 hnw hfull hW3 hlo
      go_upto_region 7 with fail
      rw [← HLO.out, ← HW3.out]
      have hlw : w.heap.size + 2 ≤ lo := by rw [HLO.out]; exact hs2
      have HBL : Hid (Below lo w2 W3) := HB3.out
      have b5 : W3.cell? ⟨lo + 1 + 1, 0, none⟩ = some (.slice (some ⟨lo + 1, 0, none⟩) m m) := HL0.out.choose_spec.1
      clear hg hmk
      go_wp2
      clear b5
      go_loopw [26] (fun x26 wr => ∃ (j : Nat) (G : Nat → Nat), j ≤ m ∧ x26 = .int .i64 (j : Int) ∧ Hid (Laid lo m nw j G wr) ∧ Hid (Below lo w2 wr) ∧ Hid (wr.heap[lo]? = some (.cells #[.slice sa m sc] 26 (0, 0))) ∧ lo + 3 ≤ wr.heap.size) (fun x26 _ => m - (intOf x26).toNat)
      case atStart =>
        obtain ⟨G, hG⟩ := HL0.out
        exact ⟨0, G, Nat.zero_le _, rfl, hG, HBL, HK0, by rw [HS3.out]; exact Nat.le_refl _⟩
      case round =>
        obtain ⟨j, G, hj, rfl, HL, HBr, HKr, hsr⟩ := hrel
        have b4 : wr.cell? ⟨lo, 0, none⟩ = some (.slice sa m sc) := cell_in HKr.out 0
        have b5 : wr.cell? ⟨lo + 1 + 1, 0, none⟩ = some (.slice (some ⟨lo + 1, 0, none⟩) m m) := HL.out.1
        by_cases hjl : j < m
        · have hj0 : (0 : Int) ≤ (j : Int) := by omega
          have hj1 : (j : Int) < (m : Int) := by omega
          obtain ⟨cs, hc1, hc2, hc3⟩ := HL.out.2.1
          have HCF : Hid (∀ W, Below wr.heap.size wr W → W.cell? ⟨lo + 1 + 1, 0, none⟩ = some (.slice (some ⟨lo + 1, 0, none⟩) m m) ∧ (∃ y, W.cell? ⟨lo + 1, j * 2, none⟩ = some y) ∧ (∃ y, W.cell? ⟨lo + 1, j * 2 + 1, none⟩ = some y) ∧ W.frozen? ⟨lo + 1, j * 2, none⟩ = false ∧ W.frozen? ⟨lo + 1, j * 2 + 1, none⟩ = false) := fun W hb => by
            have hW := (hb.block _ (lt_of_heap hc1)).trans hc1
            refine ⟨(hb.cell (p := ⟨lo + 1 + 1, 0, none⟩) (by show lo + 1 + 1 < _; omega)).trans b5, ⟨cs[j * 2]'(by omega), ?_⟩, ⟨cs[j * 2 + 1]'(by omega), ?_⟩, by simp [World.frozen?, hW], by simp [World.frozen?, hW]⟩
            · rw [cell_in hW, Array.getElem?_eq_getElem]
            · rw [cell_in hW, Array.getElem?_eq_getElem]
          clear hc1 hc2 hc3
          go_wp2
          go_region_law (go_simp; (with_reducible refine (HNM.out wr.drew).mono ?_); rintro e w4 ⟨g, rfl, hg4, hm4, hB4⟩; have hB4' : Below wr.heap.size wr w4 := ((Below.refl _ _).drew).trans hB4; obtain ⟨s9, ⟨y0, s0⟩, ⟨y1, s1⟩, s2, s3⟩ := HCF.out w4 hB4'; unfold mrkV; try dsimp only)
          all_goals (
            have hg4' : wr.heap.size ≤ g := hg4
            have HL2 : Hid (Laid lo m nw (j + 1) (fun i => if i = j then g else G i) ((w4.setCell ⟨lo + 1, j * 2, none⟩ (.int .i64 (m : Int))).setCell ⟨lo + 1, j * 2 + 1, none⟩ (.slice (some ⟨g, 0, none⟩) nw nw))) := HL.out.add hjl hB4' hsr hg4' hm4
            have HB5 : Hid (Below lo w2 ((w4.setCell ⟨lo + 1, j * 2, none⟩ (.int .i64 (m : Int))).setCell ⟨lo + 1, j * 2 + 1, none⟩ (.slice (some ⟨g, 0, none⟩) nw nw))) := ((HBr.out.trans (hB4'.mono (by omega))).setCell (by show lo ≤ lo + 1; omega) _).setCell (by show lo ≤ lo + 1; omega) _
            have HK5 : Hid (((w4.setCell ⟨lo + 1, j * 2, none⟩ (.int .i64 (m : Int))).setCell ⟨lo + 1, j * 2 + 1, none⟩ (.slice (some ⟨g, 0, none⟩) nw nw)).heap[lo]? = some (.cells #[.slice sa m sc] 26 (0, 0))) := (Below.heap_setCell _ _ _ _ (by show lo ≠ lo + 1; omega)).trans ((Below.heap_setCell _ _ _ _ (by show lo ≠ lo + 1; omega)).trans ((hB4'.block _ (by omega)).trans HKr.out))
            have hs5 : lo + 3 ≤ ((w4.setCell ⟨lo + 1, j * 2, none⟩ (.int .i64 (m : Int))).setCell ⟨lo + 1, j * 2 + 1, none⟩ (.slice (some ⟨g, 0, none⟩) nw nw)).heap.size := by
              have := hB4'.size
              simp [World.setCell]; omega
            have HS5 : Hid _ := hs5
            clear hs5
            go_wp2
            go_roundw
            case rel => exact ⟨j + 1, _, by omega, by go_num, HL2, HB5, HK5, HS5.out⟩
            case measure => simp [intOf]; omega)
        · have hjm : j = m := by omega
          clear hjl hj
          subst hjm
          obtain ⟨hi, hhi⟩ : ∃ hi, hi = wr.heap.size := ⟨_, rfl⟩
          have HHI : Hid (hi = wr.heap.size) := hhi
          have hhl : lo + 3 ≤ hi := by rw [hhi]; exact hsr
          have HGEO : Hid (Geo lo hi j lo (lo + 2) (lo + 1) G) := ⟨by omega, by omega, by omega, fun i hi' => by have := HL.out.2.2.1 i hi'; omega, HL.out.2.2.2⟩
          have HNT : Hid (NoteT 16 #[.pointer (some ⟨lo, 0, none⟩), .pointer (some ⟨lo + 1 + 1, 0, none⟩)] lo hi j (fun w L => NtI hi j nw lo (lo + 2) (lo + 1) sa sc G w (fol L))) := note_T HGEO.out hloI.out HNW.out
          have HI0 : Hid (NtI hi j nw lo (lo + 2) (lo + 1) sa sc G wr (fol [])) := by
            obtain ⟨q1, ⟨cs, q2, q3, q4⟩, q5, q6⟩ := HL.out
            refine ⟨by omega, b4, q1, fun i hi' => ⟨(cell_in q2 _).trans (q4 i hi').1, (cell_in q2 _).trans (q4 i hi').2, _, by simp, fit_zero _, (q5 i hi').2.2, fun y => mb_zero _ _⟩⟩
          have HFL : Hid (FrI lo hi wr wr) := FrI.refl _ _ _
          have HKD : Hid (KdX (fun k => k < lo) wr (.slice za nl ca) n.kids) := HZ.out.to (fun k hk => ⟨((HBr.out.block k (by omega)).trans (HB2.out.block k hk)), by omega⟩)
          have hrd := HDN.out HNT.out (by have := hloI.out; omega) HRT.out.symm wr [] 0 HI0.out (Below.refl _ _) (by have := HM.out; omega) HKD.out
          have HXr : Hid (Box wr w.heap.size nk ns (.slice za nl ca)) := (HBr.out.block _ (by omega)).trans HX2.out
          have HAr : Hid (ABox wr (w.heap.size + 1) false (.slice none 0 0) (.slice none 0 0) (.slice none 0 0) (.slice none 0 0)) := (HBr.out.block _ (by omega)).trans HA2.out
          have x0 := HXr.out.c0
          have x1 := HXr.out.c1
          have x2 := HXr.out.c2
          have hwl : w.heap.size + 1 < wr.heap.size := by omega
          obtain ⟨p, hp⟩ : ∃ p, p = prtN n 0 := ⟨_, rfl⟩
          rw [← hp] at hrd
          have HP : Hid (p = prtN n 0) := hp
          clear b4 b5 hp hhi
          go_wp2_with fail
          refine hrd.mono ?_
          rintro e w5 ⟨fv, lv, rfl, hf5, hl5, hI5, hF5⟩
          rw [List.nil_append] at hI5
          obtain ⟨fa, fn', fc, rfl⟩ := hf5.any
          obtain ⟨la, ln, lc, rfl⟩ := hl5.any
          unfold prtV
          obtain ⟨pu, hpu⟩ : ∃ x, x = p.upTo := ⟨_, rfl⟩
          obtain ⟨pn, hpn⟩ : ∃ x, x = p.null := ⟨_, rfl⟩
          have HPN : Hid (pn = p.null) := hpn
          rw [← hpu, ← hpn]
          obtain ⟨W5, hW5⟩ : ∃ W, W = w5.alloc (.cells #[.bool pn, .slice fa fn' fc, .slice la ln lc, .int .i64 (pu : Int)] 57) := ⟨_, rfl⟩
          have hB5 : Below w5.heap.size w5 W5 := by rw [hW5]; exact below_alloc _ _
          have HPB : Hid (PBox W5 w5.heap.size pn (.slice fa fn' fc) (.slice la ln lc) pu) := by rw [hW5]; exact pbox_new _ _ _ _ _
          have HF5 : Hid (LstAt hi W5 (.slice fa fn' fc) p.first) := hf5.below hB5
          have HL5 : Hid (LstAt hi W5 (.slice la ln lc) p.last) := hl5.below hB5
          have HI5 : Hid (NtI hi j nw lo (lo + 2) (lo + 1) sa sc G W5 (fol p.notes)) := hI5.keep HGEO.out (fun k _ hk => hB5.block k (by have := hI5.1; omega)) hB5.size
          have HB5 : Hid (Below lo w2 W5) := (HBr.out.trans hF5.1).trans (hB5.mono (by have := hF5.size; omega))
          have hs5 : hi ≤ w5.heap.size := by have := hF5.size; have := HHI.out; omega
          have HW5 : Hid (W5 = _) := hW5
          have HA5 : Hid (ABox W5 (w.heap.size + 1) false (.slice none 0 0) (.slice none 0 0) (.slice none 0 0) (.slice none 0 0)) := (HB5.out.block _ (by omega)).trans HA2.out
          have hlen : p.first.length ≤ 100000 ∧ p.last.length ≤ 100000 := by
            have hg := gd_all n HRT.out.symm 0
            rw [← HP.out] at hg
            have a1 := hg.1.first.len hg.1.up
            have a2 := hg.1.last.len hg.1.up
            have a3 := hg.2
            have a4 := HM.out
            have a5 := hloI.out
            constructor <;> omega
          have HLN : Hid (p.first.length ≤ 100000 ∧ p.last.length ≤ 100000) := hlen
          clear hrd hf5 hl5 hI5 hF5 hB5 hW5 hpu hpn x0 x1 x2 hlen
          go_upto_region 13 with fail
          rw [← HW5.out]
          have hlt5 : w5.heap.size < W5.heap.size := HPB.out.lt
          have HC1 : Hid (∀ W, Below W5.heap.size W5 W → Calls Tryz.prog 19 #[.slice fa fn' fc] W fun e w' => ∃ v', e = .returned v' ∧ w'.ownsRow W.heap.size 3 1 v' p.first.length (cellP p.first) ∧ Below W.heap.size W w') := fun W hb => pclone_any _ _ 0 hi W (HF5.out.below hb).plc HLN.out.1
          have HC2 : Hid (∀ W, Below W5.heap.size W5 W → Calls Tryz.prog 19 #[.slice la ln lc] W fun e w' => ∃ v', e = .returned v' ∧ w'.ownsRow W.heap.size 3 1 v' p.last.length (cellP p.last) ∧ Below W.heap.size W w') := fun W hb => pclone_any _ _ 0 hi W (HL5.out.below hb).plc HLN.out.2
          have HCB : Hid (∀ W, Below W5.heap.size W5 W → (W.cell? ⟨w5.heap.size, 0, none⟩ = some (.bool pn) ∧ W.cell? ⟨w5.heap.size, 1, none⟩ = some (.slice fa fn' fc) ∧ W.cell? ⟨w5.heap.size, 2, none⟩ = some (.slice la ln lc) ∧ W.cell? ⟨lo, 0, none⟩ = some (.slice sa j sc))) := fun W hb => ⟨(HPB.out.below hb).c0, (HPB.out.below hb).c1, (HPB.out.below hb).c2, (hb.cell (p := ⟨lo, 0, none⟩) (by show lo < _; omega)).trans HI5.out.2.1⟩
          go_cut [8] from 39 to 48 (fun s wx => Hid (∃ A, s = .pointer (some ⟨A, 0, none⟩) ∧ CutA W5 pn (.slice sa j sc) p.first p.last A wx))
          case first =>
            obtain ⟨t1, t2, t3, t4⟩ := HCB.out W5 (Below.refl _ _)
            go_region_held3 (fun W => (W.cell? ⟨w5.heap.size, 0, none⟩ = some (.bool pn) ∧ W.cell? ⟨w5.heap.size, 1, none⟩ = some (.slice fa fn' fc) ∧ W.cell? ⟨w5.heap.size, 2, none⟩ = some (.slice la ln lc) ∧ W.cell? ⟨lo, 0, none⟩ = some (.slice sa j sc))) (first | (with_reducible exact HCB.out _ (five_below hB7' (Nat.le_refl _) _ _ _ _ _)) | (with_reducible exact HCB.out _ (five_below hB7' hB6'.size _ _ _ _ _)) | (with_reducible exact HCB.out _ (hB7'.alloc hB7'.size _)) | (with_reducible exact HCB.out _ hB7') | (with_reducible exact HCB.out _ (hB6'.alloc hB6'.size _)) | (with_reducible exact HCB.out _ hB6') | (with_reducible exact HCB.out _ ((below_alloc _ _).drew)) | (with_reducible exact HCB.out _ (Below.refl _ _).drew) | go_keep) (first | (go_at_call 19; (with_reducible refine (HC2.out _ (by first | (with_reducible exact hB6') | (with_reducible exact hB6'.alloc hB6'.size _))).mono ?_); rintro e w7 ⟨v7, rfl, ho7, hB7⟩; obtain ⟨ya, yn, yc, rfl⟩ := own_any ho7; have hB67 : Below w6.heap.size w6 w7 := (by first | (with_reducible exact hB7) | (with_reducible exact below_al2 hB7)); have hB7' : Below W5.heap.size W5 w7 := below_after hB6' hB67; (try (have hz7 : ABox w7 w6.heap.size false (.slice none 0 0) (.slice none 0 0) (.slice none 0 0) (.slice none 0 0) := (by with_reducible exact abox_al hB7); have z0 := hz7.c0; have z1 := hz7.c1; have z2 := hz7.c2; have z3 := hz7.c3; have z4 := hz7.c4; have y0 := hz7.nf 0; have y1 := hz7.nf 1; have y2 := hz7.nf 2; have y3 := hz7.nf 3; have y4 := hz7.nf 4)); (try (have hz7 : ABox w7 W5.heap.size false (.slice none 0 0) (.slice none 0 0) (.slice none 0 0) (.slice none 0 0) := hz6.below hB67; have z0 := hz7.c0; have z1 := hz7.c1; have z2 := hz7.c2; have z3 := hz7.c3; have z4 := hz7.c4; have y0 := hz7.nf 0; have y1 := hz7.nf 1; have y2 := hz7.nf 2; have y3 := hz7.nf 3; have y4 := hz7.nf 4))) | (go_at_call 19; (with_reducible refine (HC1.out _ (by first | (with_reducible exact (Below.refl _ _).drew) | (with_reducible exact (below_alloc _ _).drew))).mono ?_); rintro e w6 ⟨v6, rfl, ho6, hB6⟩; obtain ⟨xa, xn, xc, rfl⟩ := own_any ho6; have hB6' : Below W5.heap.size W5 w6 := (by first | (with_reducible exact below_drw hB6) | (with_reducible exact below_alw hB6)); (try (have hz6 : ABox w6 W5.heap.size false (.slice none 0 0) (.slice none 0 0) (.slice none 0 0) (.slice none 0 0) := (by with_reducible exact abox_dr hB6)))))
            · go_wp2_with fail
              go_meet
              exact ⟨_, rfl, cutA_new ho6 ho7 (Nat.le_refl _) hB6'.size hB67 hB7'⟩
            · go_wp2_with fail
              go_meet
              exact ⟨_, rfl, cutA_set ho6 ho7 (Nat.le_refl _) (by have := hB6'.size; simp; omega) hB67 hB7' hB6'.size hz7⟩
            · go_wp2_with fail
              go_meet
              exact ⟨_, rfl, cutA_set ho6 ho7 (by show W5.heap.size ≤ (W5.alloc _).heap.size; simp) hB6'.size hB67 hB7' (Nat.le_refl _) hz7⟩
          case rest =>
            obtain ⟨A, rfl, xa, xn, xc, ya, yn, yc, hA, hAB, hLf, hLl, hBw⟩ := hcut.out
            have HAB : Hid (ABox wc A pn (.slice sa j sc) (.slice xa xn xc) (.slice ya yn yc) (.slice none 0 0)) := hAB
            have HLf : Hid (LstAt W5.heap.size wc (.slice xa xn xc) p.first) := hLf
            have HLl : Hid (LstAt W5.heap.size wc (.slice ya yn yc) p.last) := hLl
            have HBw : Hid (Below W5.heap.size W5 wc) := hBw
            have HI6 : Hid (NtI hi j nw lo (lo + 2) (lo + 1) sa sc G wc (fol p.notes)) := HI5.out.keep HGEO.out (fun k _ hk => hBw.block k (by omega)) hBw.size
            have b5 : wc.cell? ⟨lo + 1 + 1, 0, none⟩ = some (.slice (some ⟨lo + 1, 0, none⟩) j j) := HI6.out.2.2.1
            have HTW : Hid (∀ W, Below W5.heap.size W5 W → TabW W) := fun W hb => by
              have h2 : TabW w2 := HT.out.below HB2.out
              have e : Below w2.heap.size w2 W := by
                have h5 := HB5.out.trans (hb.mono (by omega))
                rw [← HLO.out]; exact h5
              exact h2.below e
            clear hcut hAB hLf hLl hBw
            go_wp2
            clear b5
            go_loopw [51] (fun x51 wr => ∃ (i : Nat) (ra : Option Addr) (rn rc : Nat) (xs : List Value), i ≤ j ∧ x51 = .int .i64 (i : Int) ∧ Hid (ABox wr A pn (.slice sa j sc) (.slice xa xn xc) (.slice ya yn yc) (.slice ra rn rc)) ∧ Hid (LstAt W5.heap.size wr (.slice xa xn xc) p.first) ∧ Hid (LstAt W5.heap.size wr (.slice ya yn yc) p.last) ∧ Hid (Below W5.heap.size W5 wr) ∧ Hid (wr.ownsRow W5.heap.size 26 1 (.slice ra rn rc) i xs) ∧ Hid (xs.length = i ∧ ∀ k, (h1 : k < xs.length) → (h2 : k < (folN n).length) → LstAt W5.heap.size wr xs[k] (folN n)[k])) (fun x51 _ => j - (intOf x51).toNat)
            case atStart => exact ⟨0, none, 0, 0, [], Nat.zero_le _, rfl, HAB, HLf, HLl, HBw, World.ownsRow_nil _ _ _ _, rfl, fun k h => (by cases h)⟩
            case round =>
              obtain ⟨i, ra, rn, rc, xs, hi', rfl, HABr, HLfr, HLlr, HBr2, HOr, HXr2⟩ := hrel
              have HIr : Hid (NtI hi j nw lo (lo + 2) (lo + 1) sa sc G wr (fol p.notes)) := HI5.out.keep HGEO.out (fun k _ hk => HBr2.out.block k (by omega)) HBr2.out.size
              have hsw : W5.heap.size ≤ wr.heap.size := HBr2.out.size
              by_cases hil : i < j
              · obtain ⟨iL, hiL, hzL0, hzL1, hzL2⟩ := info_parts Tryz.infoInts
                obtain ⟨q4, q5, ms, q6, q7, q8, q9⟩ := HIr.out.2.2.2 i hil
                obtain ⟨hfi, hfe⟩ := folN_at HRT.out.symm (i := i) (by rw [← HM.out]; exact hil) (nw := nw) (by rw [HNW.out, ← HM.out]; omega) (ms := ms) (fun y => by rw [q9, HP.out])
                obtain ⟨FI, hFI⟩ : ∃ F, F = (folN n)[i] := ⟨_, rfl⟩
                have HFI : Hid (FI = (folN n)[i]) := hFI
                obtain ⟨WA, hWA⟩ : ∃ W, W = wr.alloc (.cells #[.int .i64 (j : Int), .slice (some ⟨G i, 0, none⟩) nw nw] 53) := ⟨_, rfl⟩
                have hBA : Below wr.heap.size wr WA := by rw [hWA]; exact below_alloc _ _
                have hgi := HGEO.out.g i hil
                have hsA : WA.heap.size = wr.heap.size + 1 := by rw [hWA]; simp
                have HBA : Hid (Below wr.heap.size wr WA) := hBA
                have HSA : Hid (WA.heap.size = wr.heap.size + 1) := hsA
                have HLS : Hid (∀ W, Below WA.heap.size WA W → Calls Tryz.prog 20 #[.agg #[.int .i64 (j : Int), .slice (some ⟨G i, 0, none⟩) nw nw]] W fun e w' => ∃ v', e = .returned v' ∧ w'.ownsRow W.heap.size 3 1 v' FI.length (cellP FI) ∧ Below W.heap.size W w') := fun W hb => by
                  have hb2 := below_after hBA hb
                  have := mlist_any j (G i) nw ms W (HTW.out W (below_after HBr2.out hb2)) ((hb2.block _ (by omega)).trans q8) q7 q6 (by rw [HNW.out]; have := hloI.out; omega)
                  rw [hfe, ← hFI] at this
                  exact this
                have HCF : Hid (∀ W, Below WA.heap.size WA W → W.cell? ⟨A, 4, none⟩ = some (.slice ra rn rc)) := fun W hb => (HABr.out.below (below_after hBA hb)).c4
                have HRO : Hid (∀ W, Below WA.heap.size WA W → W.ownsRow W5.heap.size 26 1 (.slice ra rn rc) i xs) := fun W hb => ownsRow_below HOr.out (below_after hBA hb)
                have HNA : Hid ((Value.slice ra rn rc).ownBlock ≠ some A) := own_ne HOr.out HABr.out (by decide)
                have HAL : Hid (A < wr.heap.size) := HABr.out.lt
                have HA8 : Hid (∀ w6 w8 o, Below WA.heap.size WA w6 → (w6.alloc o).grownBy w8 (Value.slice ra rn rc).ownBlock → ABox w8 A pn (.slice sa j sc) (.slice xa xn xc) (.slice ya yn yc) (.slice ra rn rc)) := fun w6 w8 o hb hg => by
                  have h6 := HABr.out.below (below_after hBA hb)
                  refine (hg.block A (by have := h6.lt; simp; omega) (fun e => HNA.out e.symm)).trans ?_
                  exact (Below.heap_alloc _ _ _ h6.lt).trans h6
                have HFIN : Hid (∀ w6 w8 o gL capL va vn vc, Below WA.heap.size WA w6 → (w6.alloc o).grownBy w8 (Value.slice ra rn rc).ownBlock → w6.ownsRow WA.heap.size 3 1 (.slice va vn vc) FI.length (cellP FI) → w8.ownsRow W5.heap.size 26 1 (.slice (some ⟨gL, 0, none⟩) (i + 1) capL) (i + 1) (xs ++ [Value.slice va vn vc]) → Hid (ABox (w8.setCell ⟨A, 4, none⟩ (.slice (some ⟨gL, 0, none⟩) (i + 1) capL)) A pn (.slice sa j sc) (.slice xa xn xc) (.slice ya yn yc) (.slice (some ⟨gL, 0, none⟩) (i + 1) capL)) ∧ Hid (LstAt W5.heap.size (w8.setCell ⟨A, 4, none⟩ (.slice (some ⟨gL, 0, none⟩) (i + 1) capL)) (.slice xa xn xc) p.first) ∧ Hid (LstAt W5.heap.size (w8.setCell ⟨A, 4, none⟩ (.slice (some ⟨gL, 0, none⟩) (i + 1) capL)) (.slice ya yn yc) p.last) ∧ Hid (Below W5.heap.size W5 (w8.setCell ⟨A, 4, none⟩ (.slice (some ⟨gL, 0, none⟩) (i + 1) capL))) ∧ Hid ((w8.setCell ⟨A, 4, none⟩ (.slice (some ⟨gL, 0, none⟩) (i + 1) capL)).ownsRow W5.heap.size 26 1 (.slice (some ⟨gL, 0, none⟩) (i + 1) capL) (i + 1) (xs ++ [Value.slice va vn vc])) ∧ Hid ((xs ++ [Value.slice va vn vc]).length = i + 1 ∧ ∀ k, (h1 : k < (xs ++ [Value.slice va vn vc]).length) → (h2 : k < (folN n).length) → LstAt W5.heap.size (w8.setCell ⟨A, 4, none⟩ (.slice (some ⟨gL, 0, none⟩) (i + 1) capL)) (xs ++ [Value.slice va vn vc])[k] (folN n)[k])) := fun w6 w8 o gL capL va vn vc hb hg h6 h8 => by
                  have hA8 := HA8.out w6 w8 o hb hg
                  have hO : OnlyB A w8 (w8.setCell ⟨A, 4, none⟩ (.slice (some ⟨gL, 0, none⟩) (i + 1) capL)) := (OnlyB.refl _ _).set _ _
                  have hbw := below_after hBA hb
                  have st6 : ∀ v l, LstAt W5.heap.size w6 v l → LstAt W5.heap.size (w8.setCell ⟨A, 4, none⟩ (.slice (some ⟨gL, 0, none⟩) (i + 1) capL)) v l := fun v l h => ((h.below (below_alloc _ o)).grown hg (fun k e => own_typed ((HRO.out w6 hb).alloc o) e) (by decide)).only hO hA8 (by decide)
                  have st : ∀ v l, LstAt W5.heap.size wr v l → LstAt W5.heap.size (w8.setCell ⟨A, 4, none⟩ (.slice (some ⟨gL, 0, none⟩) (i + 1) capL)) v l := fun v l h => st6 v l (h.below hbw)
                  have hnA : gL ≠ A := fun e => own_ne h8 hA8 (by decide) (by rw [e]; rfl)
                  refine ⟨hA8.s4 _, st _ _ HLfr.out, st _ _ HLlr.out, ?_, own_blk h8 (fun k e => hO.block k (fun q => hnA (by
                    have : gL = k := by injection e
                    omega))), by simp [HXr2.out.1], fun k h1 h2 => ?_⟩
                  · exact (((below_after HBr2.out hbw).alloc (by have := hbw.size; omega) o).grown hg (by have := hbw.size; simp; omega) (fun q e => (HOr.out.lt q e).1)).setCell hA _
                  · by_cases e : k < xs.length
                    · rw [List.getElem_append_left e]
                      exact st _ _ (HXr2.out.2 k e h2)
                    · have hk : k = i := by have := HXr2.out.1; simp at h1; omega
                      subst hk
                      rw [List.getElem_append_right (by omega)]
                      simp only [HXr2.out.1, Nat.sub_self, List.getElem_cons_zero]
                      rw [← HFI.out]
                      exact st6 _ _ (lst_of_row h6 (by have := HSA.out; omega))
                have hi0 : (0 : Int) ≤ (i : Int) := by omega
                have hi1 : (i : Int) < (j : Int) := by omega
                have hj3 := hloI.out
                have hlt1 : lo + 1 < wr.heap.size := by omega
                have t4 := HCF.out WA (Below.refl _ _)
                have b0 : WA.cell? ⟨wr.heap.size, 0, none⟩ = some (.int .i64 (j : Int)) := by rw [hWA]; exact cell_in (heap_new' _ _) 0
                have b1 : WA.cell? ⟨wr.heap.size, 1, none⟩ = some (.slice (some ⟨G i, 0, none⟩) nw nw) := by rw [hWA]; exact cell_in (heap_new' _ _) 1
                have HWA : Hid (WA = _) := hWA
                have HAW : Hid (W5.heap.size ≤ WA.heap.size) := by show _ ≤ _; omega
                clear hfe hFI q6 q7 q8 q9 hBA hWA hsA
                go_upto_region 17 with fail
                rw [← HWA.out]
                go_region_law (first | (go_simp; (with_reducible refine (HLS.out WA.drew (Below.refl _ _).drew).mono ?_); rintro e w6 ⟨v6, rfl, ho6, hB6⟩; obtain ⟨va, vn, vc, rfl⟩ := own_any ho6; have hB6' := below_drw hB6; have s4 := HCF.out w6 hB6'; have hA6 : A < w6.heap.size := (HABr.out.below (below_after HBA.out hB6')).lt; try dsimp only) | (refine step_append_lies _ (by rfl) (.tmp 56) (.tmp 59) 27 (by rfl) W5.heap.size 26 iL (.slice none 0 0) 1 24 Tryz.underlying27 hiL hzL0 hzL1 hzL2 rfl (by decide) (.slice ra rn rc) i xs (by rfl) (by exact (HRO.out w6 hB6').alloc _) ⟨w6.heap.size, 0, none⟩ 1 1 [.slice va vn vc] (by rfl) rfl (by exact World.news_of_block (heap_new' w6 _)) (by simp [Value.oneCell']) (by omega) (by unfold maxLen; omega) (by omega) (by have := hB6'.size; have := HAW.out; simp; omega) _ rfl ?_; intro gL capL w8 hownL hgrowL hatL hltL; have hA8 := HA8.out w6 w8 _ hB6' hgrowL; have s8 := hA8.c4; have f8 := hA8.nf 4))
                all_goals (
                  obtain ⟨R1, R2, R3, R4, R5, R6⟩ := HFIN.out w6 w8 _ gL capL va vn vc hB6' hgrowL ho6 hownL
                  clear hownL hgrowL hatL hltL hA8 ho6 hB6 s8 f8 t4 b0 b1 hA6
                  go_wp2
                  go_roundw
                  case rel => exact ⟨i + 1, _, _, _, _, by omega, by go_num, R1, R2, R3, R4, R5, R6⟩
                  case measure => simp [intOf]; omega)
              · have hij : i = j := by omega
                subst hij
                have HAx : Hid (ABox wr (w.heap.size + 1) false (.slice none 0 0) (.slice none 0 0) (.slice none 0 0) (.slice none 0 0)) := (HBr2.out.block _ (by omega)).trans HA5.out
                have d0 := HABr.out.c0
                have d1 := HABr.out.c1
                have d2 := HABr.out.c2
                have d3 := HABr.out.c3
                have d4 := HABr.out.c4
                have e0 := HAx.out.c0
                have e1 := HAx.out.c1
                have e2 := HAx.out.c2
                have e3 := HAx.out.c3
                have e4 := HAx.out.c4
                have f0 := HAx.out.nf 0
                have f1 := HAx.out.nf 1
                have f2 := HAx.out.nf 2
                have f3 := HAx.out.nf 3
                have f4 := HAx.out.nf 4
                go_wp2
                refine bodyPost_ret (results_cell_tmp_row rfl _ _ (w.heap.size + 1) 29 #[.bool pn, .slice sa i sc, .slice xa xn xc, .slice ya yn yc, .slice ra rn rc] (0, 0) _ rfl ?_ Tryz.underlying29 rfl (by kernel_rfl)) rfl ?_
                · exact ((((HAx.out.s0 _).s1 _).s2 _).s3 _).s4 _
                · have hE : errF n = 0 := errF_ok HRT.out.symm (by have := HM.out; have := hloI.out; omega)
                  have hO := five_only (w.heap.size + 1) wr (.bool pn) (.slice sa i sc) (.slice xa xn xc) (.slice ya yn yc) (.slice ra rn rc)
                  refine ⟨_, by rw [hE]; rfl, ?_, ?_⟩
                  · have e : autF n = autN n := by unfold autF; rw [if_pos hE]
                    rw [e]
                    refine ⟨_, _, _, _, by rw [HPN.out, HP.out]; rfl, ?_, ?_, ?_, ?_⟩
                    · refine ints_of_row (base := w1.heap.size) (own_blk HSR.out (fun k e => ?_))
                      have hk := HSR.out.lt k e
                      have hk2 : k < lo := by rw [HLO.out]; exact hk.2
                      rw [hO.block k (by omega), HBr2.out.block k (by omega), HB5.out.block k hk2]
                    · show PlcAt 0 0 _ _ (prtN n 0).first
                      rw [← HP.out]
                      exact (HLfr.out.only hO HAx.out (by decide)).plc.less (Nat.zero_le _)
                    · show PlcAt 0 0 _ _ (prtN n 0).last
                      rw [← HP.out]
                      exact (HLlr.out.only hO HAx.out (by decide)).plc.less (Nat.zero_le _)
                    · have hfl : (folN n).length = i := by have := HM.out; simp [folN]; omega
                      refine fol_of_row (base := W5.heap.size) (hi := W5.heap.size) (xs := xs) ?_ (by show xs.length = (folN n).length; rw [HXr2.out.1, hfl]) (fun k h1 h2 => (HXr2.out.2 k h1 h2).only hO HAx.out (by decide))
                      rw [HXr2.out.1]
                      exact own_blk HOr.out (fun k e => hO.block k (by have := (HOr.out.lt k e).1; omega))
                  · have h1 : Below w.heap.size w W5 := HB2.out.trans (HB5.out.mono (by omega))
                    have h2 : Below w.heap.size w wr := h1.trans (HBr2.out.mono (by omega))
                    exact ((((h2.setCell (Nat.le_succ _) _).setCell (Nat.le_succ _) _).setCell (Nat.le_succ _) _).setCell (Nat.le_succ _) _).setCell (Nat.le_succ _) _
end Go.Proofs.YtklhjjgnhigbiaaGreatDoor
