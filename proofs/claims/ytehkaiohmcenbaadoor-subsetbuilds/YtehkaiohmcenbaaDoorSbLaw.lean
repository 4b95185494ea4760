/-
  The laws of stage 12: what they share.
-/
import Derived.Test.YtehkaiohmcenbaaDoorSbRRun
import Derived.Test.YtehkaiohmcenbaaDoorFlRBuild
import Derived.Test.YtehkaiohmcenbaaDoorFlWrd
namespace Go.Proofs.YtehkaiohmcenbaaDoor
open Go.RowKit Go.Shelf
set_option linter.unusedVariables false

set_option maxRecDepth 100000 in
set_option maxHeartbeats 4000000 in
theorem few_any12 (n : Nd) (z : Value) (wa : Option Addr) (wl wc : Nat) (w : World) (hz : KdX (fun k => k < w.heap.size) w z n.kids) :
    Calls Tryd.prog 22 #[ndV n z, .slice wa wl wc] w fun e w' => ∃ b, e = .returned (.bool b) ∧ (b = true → Dp 10 n.kids ∧ (setsN n).length ≤ 25 ∧ wl ≤ 12) ∧ Below w.heap.size w w' := by
  obtain ⟨a, ca, rfl, _⟩ := hz.slice
  have hB : Below w.heap.size w (w.alloc (.cells #[.int .i64 n.k, .int .i64 n.s, .slice a n.kids.length ca] 24)) := below_alloc _ _
  have hc := nodes_any 10 n (.slice a n.kids.length ca) 25 (w.alloc (.cells #[.int .i64 n.k, .int .i64 n.s, .slice a n.kids.length ca] 24)) (by omega) (by omega) (by omega) (hz.to (fun k hk => ⟨hB.block k hk, by simp; omega⟩))
  unfold ndV at hc ⊢
  obtain ⟨nk, hnk⟩ : ∃ x, x = n.k := ⟨_, rfl⟩
  obtain ⟨ns, hns⟩ : ∃ x, x = n.s := ⟨_, rfl⟩
  obtain ⟨len, hlen⟩ : ∃ x, x = n.kids.length := ⟨_, rfl⟩
  rw [← hnk, ← hns, ← hlen] at hc ⊢
  rw [← hnk, ← hns, ← hlen] at hB
  have HB : Hid (Below w.heap.size w (w.alloc (.cells #[.int .i64 nk, .int .i64 ns, .slice a len ca] 24))) := hB
  clear hz hnk hns hlen hB
  go_enter Tryd.func22, Tryd.ntmps22
  go_wp2_with fail
  refine Calls.mono hc ?_
  rintro e w1 ⟨r, rfl, hr1, hr2, hr3, hB1⟩
  have HB1 : Hid (Below w.heap.size w w1) := below_after HB.out hB1
  have HR3 : Hid (r < 25 → DpS 10 n r) := hr3
  clear hc hB1 hr3
  by_cases h1 : r < 25
  · have h1' : decide ((r : Int) < 25) = true := decide_eq_true (by omega)
    by_cases h2 : wl ≤ 12
    · have h2' : decide ((wl : Int) ≤ 12) = true := decide_eq_true (by omega)
      go_wp2
      go_ret
      refine ⟨true, by simp, fun _ => ⟨(HR3.out h1).1, ?_, h2⟩, HB1.out⟩
      have := sets_sz 10 n (HR3.out h1).1
      rw [(HR3.out h1).2] at this
      omega
    · have h2' : decide ((wl : Int) ≤ 12) = false := decide_eq_false (by omega)
      go_wp2
      go_ret
      exact ⟨false, by simp, (fun h => by cases h), HB1.out⟩
  · have h1' : decide ((r : Int) < 25) = false := decide_eq_false (by omega)
    go_wp2
    go_ret
    exact ⟨false, by simp, (fun h => by cases h), HB1.out⟩

theorem aw_rt : rightD (intsL [[1, 2], [2, 3], [2, 2], [1, 2]]) [true, false, false, true] = true := by kernel_rfl
theorem aw_dfa : errD (autF awN) false [1, 2] 10 = 0 ∧ dfaD (autF awN) false [1, 2] 10 = ([[1, 2], [2, 3], [2, 2], [1, 2]], [true, false, false, true]) := by
  rw [aw_aut]
  exact ⟨by kernel_rfl, by kernel_rfl⟩

set_option maxRecDepth 100000 in
set_option maxHeartbeats 8000000 in
theorem awake_any12 (w : World) (hT : TabW w) (hP : PowW w) : Calls Tryd.prog 21 #[] w fun e w' => e = .returned (.bool true) ∧ Below w.heap.size w w' := by
  obtain ⟨W0, hW0⟩ : ∃ W, W = (w.alloc (.cells #[.int .i64 1, .int .i64 0, .slice none 0 0, .int .i64 1, .int .i64 1, .slice none 0 0] 24)).alloc (.cells #[.int .i64 0, .int .i64 0, .slice (some ⟨w.heap.size, 0, none⟩) 2 2] 24) := ⟨_, rfl⟩
  obtain ⟨h0, h1, hB0, hs0⟩ := alloc2 hW0
  have hk1 : KdX (fun k => k < W0.heap.size) W0 (.slice (some ⟨w.heap.size, 0, none⟩) 2 2) [⟨1, 0, []⟩, ⟨1, 1, []⟩] :=
    kids_of_block (l := [(⟨1, 0, []⟩, .slice none 0 0), (⟨1, 1, []⟩, .slice none 0 0)]) (t := 24) h0 rfl (Nat.le_refl _) (by omega) (fun x hx => by
      rcases List.mem_cons.1 hx with rfl | hx
      · exact KdX.nil _ _
      · obtain rfl : x = (⟨1, 1, []⟩, .slice none 0 0) := by simpa using hx
        exact KdX.nil _ _)
  have hk2 : KdX (fun k => k < W0.heap.size) W0 (.slice (some ⟨w.heap.size + 1, 0, none⟩) 1 1) awN.kids :=
    kids_of_block (l := [(⟨0, 0, [⟨1, 0, []⟩, ⟨1, 1, []⟩]⟩, .slice (some ⟨w.heap.size, 0, none⟩) 2 2)]) (t := 24) h1 rfl (Nat.le_refl _) (by omega) (fun x hx => by
      obtain rfl : x = (⟨0, 0, [⟨1, 0, []⟩, ⟨1, 1, []⟩]⟩, .slice (some ⟨w.heap.size, 0, none⟩) 2 2) := by simpa using hx
      exact hk1)
  have hb := rbuild_any 2 awN (some ⟨w.heap.size + 1, 0, none⟩) 1 W0 aw_dp hk2
  unfold BldA at hb
  rw [aw_err] at hb
  have HB0 : Hid (Below w.heap.size w W0) := hB0
  have HW0 : Hid (W0 = _) := hW0
  have HT : Hid (TabW w) := hT
  have HP : Hid (PowW w) := hP
  rw [hW0] at hb
  clear h0 h1 hB0 hs0 hk1 hk2 hT hP hW0
  go_enter Tryd.func21, Tryd.ntmps21
  go_wp2_with fail
  refine Calls.mono hb ?_
  rintro e w1 ⟨av, rfl, ha, hB1⟩
  rw [← HW0.out] at hB1
  have HB1 : Hid (Below w.heap.size w w1) := below_after HB0.out hB1
  have HA : Hid (AutAt w1 av (autF awN)) := ha
  obtain ⟨sv, fv, lv, wv, rfl, hs, hf, hl, hw⟩ := ha
  rw [aw_aut] at hs hf hl hw
  obtain ⟨sa, sc, hes, _⟩ := hs.slice
  have hes' : sv = .slice sa 2 sc := hes
  obtain ⟨fa, fc, hef, _⟩ := hf.ints.slice
  have hef' : fv = .slice fa 1 fc := hef
  obtain ⟨la, lc, hel, _⟩ := hl.ints.slice
  have hel' : lv = .slice la 1 lc := hel
  obtain ⟨xa, xc, hew, hxc⟩ := hw.slice
  have hew' : wv = .slice xa 2 xc := hew
  subst hes' hef' hel' hew'
  have enl : (autF awN).null = true := by rw [aw_aut]
  rw [enl] at HA
  rw [enl]
  obtain ⟨W1, hW1⟩ : ∃ W, W = w1.alloc (.cells #[.bool true, .slice sa 2 sc, .slice fa 1 fc, .slice la 1 lc, .slice xa 2 xc] 30) := ⟨_, rfl⟩
  obtain ⟨W2, hW2⟩ : ∃ W, W = W1.alloc (.cells #[.int .u64 1, .int .u64 2] 42) := ⟨_, rfl⟩
  have hB12 : Below W1.heap.size W1 W2 := by rw [hW2]; exact below_alloc _ _
  have hBW : Below w1.heap.size w1 W2 := below_after (by rw [hW1]; exact below_alloc _ _) hB12
  have hsd := sbuild_any (autF awN) (.agg #[.bool true, .slice sa 2 sc, .slice fa 1 fc, .slice la 1 lc, .slice xa 2 xc]) [1, 2] (.slice (some ⟨W1.heap.size, 0, none⟩) 2 2) false 10 W2 (HT.out.below (below_after HB1.out hBW)) (HP.out.below (below_after HB1.out hBW)) (HA.out.below hBW) (okA_of aw_err) ⟨_, 2, rfl, Nat.le_refl _, fun i hi => by
    have hq : W2.heap[W1.heap.size]? = some (.cells #[.int .u64 1, .int .u64 2] 42 (0, 0)) := by rw [hW2]; exact heap_new' _ _
    have h2 : i < 2 := hi
    refine ⟨?_, W1.heap.size, 0, rfl, lt_of_heap hq, ?_⟩
    · rcases i with _ | _ | i
      · show (1 : Nat) < 18446744073709551616; decide
      · show (2 : Nat) < 18446744073709551616; decide
      · omega
    · rcases i with _ | _ | i
      · exact cell_in hq 0
      · exact cell_in hq 1
      · omega⟩ (by decide)
  unfold SbdA at hsd
  rw [aw_dfa.1, aw_dfa.2] at hsd
  have HBW : Hid (Below w.heap.size w W2) := below_after HB1.out hBW
  have hA1 : ABox W1 w1.heap.size true (.slice sa 2 sc) (.slice fa 1 fc) (.slice la 1 lc) (.slice xa 2 xc) := by rw [hW1]; exact heap_new' _ _
  have a0 := hA1.c0
  have a1 := hA1.c1
  have a2 := hA1.c2
  have a3 := hA1.c3
  have a4 := hA1.c4
  have hlt1 := hA1.lt
  have HW1 : Hid (W1 = _) := hW1
  have HW2 : Hid (W2 = _) := hW2
  rw [hW2] at hsd
  clear hb hs hf hl hw hB1 hxc hBW hB12 hW1 hW2 hes hef hel hew hA1 enl
  go_upto_region 2 with fail
  rw [← HW1.out]
  go_wp2_with fail
  refine hsd.mono ?_
  rw [← HW2.out]
  rintro e w2 ⟨dv, rfl, hd, hB2⟩
  have HD : Hid (DfaAt w2 dv _ _) := hd
  obtain ⟨nv, fv, rfl, ⟨na, nc, hne, hnc, _, _⟩, qa, qc, hqe, hqc, _, hfx⟩ := hd
  have hne' : nv = .slice na 4 nc := hne
  have hqe' : fv = .slice qa 4 qc := hqe
  subst hne' hqe'
  obtain ⟨gq, oq, rfl, hgq, q0⟩ := hfx 0 (by decide)
  obtain ⟨gq1, oq1, e1, _, q1⟩ := hfx 1 (by decide)
  obtain ⟨gq3, oq3, e3, _, q3⟩ := hfx 3 (by decide)
  obtain ⟨rfl, rfl⟩ : gq = gq1 ∧ oq = oq1 := by
    injection e1 with e1
    injection e1 with h1 h2 _
    exact ⟨h1, h2⟩
  obtain ⟨rfl, rfl⟩ : gq = gq3 ∧ oq = oq3 := by
    injection e3 with e3
    injection e3 with h1 h2 _
    exact ⟨h1, h2⟩
  have hqc' : 4 ≤ qc := hqc
  obtain ⟨W3, hW3⟩ : ∃ W, W = w2.alloc (.cells #[.slice na 4 nc, .slice (some ⟨gq, oq, none⟩) 4 qc] 46) := ⟨_, rfl⟩
  have hB3 : Below w2.heap.size w2 W3 := by rw [hW3]; exact below_alloc _ _
  have hbx : DBox W3 w2.heap.size (.slice na 4 nc) (.slice (some ⟨gq, oq, none⟩) 4 qc) := by rw [hW3]; exact heap_new' _ _
  have hrt := sright_any _ _ _ W3 (HD.out.below hB3)
  rw [aw_rt] at hrt
  have c0 := hbx.c0
  have c1 := hbx.c1
  have hlt := hbx.lt
  have hgq' : gq < W3.heap.size := Nat.lt_of_lt_of_le hgq hB3.size
  have q0' : W3.cell? ⟨gq, oq, none⟩ = some (.bool true) := (hB3.cell (p := ⟨gq, _, none⟩) hgq).trans q0
  have q1' : W3.cell? ⟨gq, oq + 1, none⟩ = some (.bool false) := (hB3.cell (p := ⟨gq, _, none⟩) hgq).trans q1
  have q3' : W3.cell? ⟨gq, oq + 3, none⟩ = some (.bool true) := (hB3.cell (p := ⟨gq, _, none⟩) hgq).trans q3
  have HB3 : Hid (Below w.heap.size w W3) := below_after (below_after HBW.out hB2) hB3
  have HW3 : Hid (W3 = _) := hW3
  clear hsd hne hqe hfx q0 q1 q3 hqc hB3 hbx hW3 hB2 hgq e1 e3 hnc
  go_upto_region 3 with fail
  rw [← HW3.out]
  go_wp2_with fail
  refine hrt.mono ?_
  rintro e w4 ⟨rfl, hB4⟩
  clear hrt
  go_wp2
  go_ret
  exact ⟨rfl, below_after HB3.out hB4⟩
end Go.Proofs.YtehkaiohmcenbaaDoor
