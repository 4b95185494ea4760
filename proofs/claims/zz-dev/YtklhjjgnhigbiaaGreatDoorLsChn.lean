/-
  least.newChains: of each state the states that lead to it by a class.
-/
import Derived.Test.YtklhjjgnhigbiaaGreatDoorLsRpt
import Derived.Test.YtklhjjgnhigbiaaGreatDoorLsAt
namespace Go.Proofs.YtklhjjgnhigbiaaGreatDoor
open Go.RowKit Go.Shelf
set_option linter.unusedVariables false

/-- The greatest state below i that leads to t. -/
def prv (M : Mach) (c t : Nat) : Nat → Int
  | 0 => -1
  | i + 1 => if M.d i c = t then (i : Int) else prv M c t i
theorem prv_lt (M : Mach) (c t : Nat) : ∀ i, -1 ≤ prv M c t i ∧ prv M c t i < (i : Int)
  | 0 => by simp [prv]
  | i + 1 => by
    obtain ⟨h1, h2⟩ := prv_lt M c t i
    unfold prv
    split
    · omega
    · omega
/-- What a state is. -/
theorem prv_spec (M : Mach) (c t : Nat) : ∀ i, (prv M c t i = -1 ∧ ∀ s, s < i → M.d s c ≠ t) ∨ ∃ s, s < i ∧ prv M c t i = (s : Int) ∧ M.d s c = t ∧ ∀ s', s < s' → s' < i → M.d s' c ≠ t
  | 0 => .inl ⟨rfl, fun s h => absurd h (by omega)⟩
  | i + 1 => by
    unfold prv
    by_cases e : M.d i c = t
    · rw [if_pos e]
      exact .inr ⟨i, by omega, rfl, e, fun s' h1 h2 => absurd h1 (by omega)⟩
    · rw [if_neg e]
      rcases prv_spec M c t i with ⟨h1, h2⟩ | ⟨s, h1, h2, h3, h4⟩
      · refine .inl ⟨h1, fun s hs => ?_⟩
        by_cases q : s = i
        · rw [q]; exact e
        · exact h2 s (by omega)
      · refine .inr ⟨s, by omega, h2, h3, fun s' h5 h6 => ?_⟩
        by_cases q : s' = i
        · rw [q]; exact e
        · exact h4 s' h5 (by omega)
theorem Tryz.infoChains : (Tryz.prog.info? 116).map (fun i => (i.zero, i.size, i.bytes)) = some (some (.agg #[.slice none 0 0, .slice none 0 0]), 2, 48) := by kernel_rfl
/-- A chains' own variable. -/
def CBox (w : World) (b gf gn n : Nat) : Prop := w.heap[b]? = some (.cells #[.slice (some ⟨gf, 0, none⟩) n n, .slice (some ⟨gn, 0, none⟩) n n] 116 (0, 0))

theorem h_drew13 (w : World) : w.drew.heap = w.heap := rfl
theorem h_alloc13 (w : World) (o : Obj) : (w.alloc o).heap = w.heap.push o := rfl
theorem new_cell13 {w : World} {gx : Nat} {v : Value} (h : w.heap[gx]? = some (.cells #[v] 3 (0, 0))) : w.cell? ⟨gx, 0, none⟩ = some v := cell_in h 0
/-- What the region that makes the chains leaves. -/
structure ChR (W0 : World) (n : Nat) (b gf gn : Nat) (w : World) : Prop where
  box : CBox w b gf gn n
  fst : RowZ w W0.heap.size gf n (fun _ => -1)
  nxt : RowZ w W0.heap.size gn n (fun _ => 0)
  bl : Below W0.heap.size W0 w
  lb : W0.heap.size ≤ b
  ne : gf ≠ gn

theorem own_mono13 {w : World} {base base' : Nat} {e : TypeId} {size : Nat} {v : Value} {n : Nat} {xs : List Value} (h : w.ownsRow base e size v n xs) (hb : base' ≤ base) : w.ownsRow base' e size v n xs :=
  ⟨h.1, h.2.imp id fun ⟨g, cap, cur, h1, h2, h3⟩ => ⟨g, cap, cur, h1, Nat.le_trans hb h2, h3⟩⟩
theorem ChR.fin {W0 w : World} {n b gf gn : Nat} (h1 : RowZ w W0.heap.size gf n (fun _ => -1)) (h2 : RowZ w W0.heap.size gn n (fun _ => 0)) (h3 : w.heap[b]? = some (.cells #[.slice none 0 0, .slice none 0 0] 116 (0, 0)) ∧ W0.heap.size ≤ b) (h4 : Below W0.heap.size W0 w) (h5 : gf ≠ gn) : ChR W0 n b gf gn ((w.setCell ⟨b, 0, none⟩ (.slice (some ⟨gf, 0, none⟩) n n)).setCell ⟨b, 1, none⟩ (.slice (some ⟨gn, 0, none⟩) n n)) := by
  have hO : OnlyB b w ((w.setCell ⟨b, 0, none⟩ (.slice (some ⟨gf, 0, none⟩) n n)).setCell ⟨b, 1, none⟩ (.slice (some ⟨gn, 0, none⟩) n n)) := ((OnlyB.refl _ _).set _ _).set _ _
  have hne : ∀ g L, RowZ w W0.heap.size g n L → g ≠ b := fun g L h e => by
    obtain ⟨cs, hc⟩ := h.typed
    rw [e] at hc
    exact absurd (typ_ne hc h3.1) (by decide)
  refine ⟨?_, h1.blk (hO.block _ (hne _ _ h1)), h2.blk (hO.block _ (hne _ _ h2)), (h4.setCell (p := ⟨b, 0, none⟩) h3.2 _).setCell (p := ⟨b, 1, none⟩) h3.2 _, h3.2, h5⟩
  have := heap_setN (i := 1) (heap_setN (i := 0) h3.1 (.slice (some ⟨gf, 0, none⟩) n n)) (.slice (some ⟨gn, 0, none⟩) n n)
  unfold CBox
  rw [this]
  simp

set_option maxRecDepth 100000 in
set_option maxHeartbeats 16000000 in
theorem newChains_any (N : List (List Int)) (F : List Bool) (dv : Value) (c : Nat) (w : World) (hd : DfaAt w dv N F) (hr : rightD N F = true) (hc : c < (N.getD 0 []).length) :
    Calls Tryz.prog 68 #[dv, .int .i64 (c : Int)] w fun e w' => ∃ gf gn, gf ≠ gn ∧ e = .returned (.agg #[.slice (some ⟨gf, 0, none⟩) N.length N.length, .slice (some ⟨gn, 0, none⟩) N.length N.length]) ∧ RowZ w' w.heap.size gf N.length (fun t => prv (mch N F) c t N.length) ∧ RowZ w' w.heap.size gn N.length (fun s => prv (mch N F) c ((mch N F).d s c) s) ∧ Below w.heap.size w w' := by
  obtain ⟨iI, hiI, hzI0, hzI1, hzI2⟩ := info_parts Tryz.infoInt
  obtain ⟨na, nc, fa, fc, rfl, hnc, hfc, hx, hfx⟩ := dfa_parts hd
  have hri := rightD_iff.1 hr
  have HAT : Hid (∀ W, Below w.heap.size w W → AtD W na fa N.length (N.getD 0 []).length (mch N F)) := fun W hb => at_of (hd.below hb) hr
  obtain ⟨n, hn⟩ : ∃ x, x = N.length := ⟨_, rfl⟩
  obtain ⟨m, hm⟩ : ∃ x, x = F.length := ⟨_, rfl⟩
  obtain ⟨C, hC⟩ : ∃ x, x = (N.getD 0 []).length := ⟨_, rfl⟩
  obtain ⟨M, hM⟩ : ∃ x, x = mch N F := ⟨_, rfl⟩
  have hn1 : 1 ≤ n := by omega
  have hn5 : n ≤ 5000 := by omega
  have HN : Hid (M.Ok ∧ M.n = n ∧ M.k = C) := ⟨by rw [hM]; exact mch_ok hr, by rw [hM, hn]; rfl, by rw [hM, hC]; rfl⟩
  rw [← hn, ← hC, ← hM] at HAT
  rw [← hC] at hc
  rw [← hn, ← hm, ← hM] at *
  obtain ⟨W0, hW0⟩ : ∃ W, W = (w.alloc (.cells #[.slice na n nc, .slice fa m fc] 35)).alloc (.cells #[.slice none 0 0, .slice none 0 0] 116) := ⟨_, rfl⟩
  obtain ⟨h0, h1, hB0, hs0⟩ := alloc2 hW0
  have HW0 : Hid (W0 = _) := hW0
  have HD : Hid (DBox W0 w.heap.size (.slice na n nc) (.slice fa m fc) ∧ W0.heap[w.heap.size + 1]? = some (.cells #[.slice none 0 0, .slice none 0 0] 116) ∧ Below w.heap.size w W0 ∧ W0.heap.size = w.heap.size + 2) := ⟨h0, h1, hB0, hs0⟩
  have hmk : ∀ W : World, (Instr.makeSlice 26 (.int .i64 (n : Int)) (.int .i64 (n : Int))).run Tryz.prog W = .ok (.slice (some ⟨W.heap.size, 0, none⟩) n n) (W.alloc (.cells (madeCells #[.int .i64 0] n) 3)) := fun W => run_make13 W 26 3 iI (.int .i64 0) Tryz.underlying26 hiI hzI0 hzI1 rfl n (by omega) (by omega)
  have HRP : Hid (∀ W gx, W.cell? ⟨gx, 0, none⟩ = some (.int .i64 (-1)) → gx < W.heap.size → Calls Tryz.prog 83 #[.slice (some ⟨gx, 0, none⟩) 1 1, .int .i64 (n : Int)] W fun e w' => ∃ g, e = .returned (.slice (some ⟨g, 0, none⟩) n n) ∧ RowZ w' W.heap.size g n (fun _ => -1) ∧ Below W.heap.size W w') := fun W gx h1 h2 => repeat_any n gx hn1 (by omega) W h1 h2
  have HBX : Hid (∀ W, Below W0.heap.size W0 W → W.cell? ⟨w.heap.size, 0, none⟩ = some (.slice na n nc) ∧ w.heap.size < W.heap.size) := fun W hb => by
    have := HD.out.1.below hb
    exact ⟨this.c0, this.lt⟩
  have a0 := HD.out.1.c0
  have al := HD.out.1.lt
  have hnw := World.new_ne W0 ⟨w.heap.size, 0, none⟩ a0
  clear hd hr hri hx hfx hn hm hC hM h0 h1 hB0 hs0 hW0 hnc hfc
  go_enter Tryz.func68, Tryz.ntmps68
  go_upto_region 1 with fail
  rw [← HW0.out]
  let S : World → Prop := fun W => W.cell? ⟨w.heap.size, 0, none⟩ = some (.slice na n nc)
  have HS : Hid (∀ W, Below W0.heap.size W0 W → W.cell? ⟨w.heap.size, 0, none⟩ = some (.slice na n nc)) := fun W hb => (HBX.out W hb).1
  go_cut [5] from 5 to 18 (fun s5 wx => ∃ b gf gn, s5 = .pointer (some ⟨b, 0, none⟩) ∧ Hid (ChR W0 n b gf gn wx))
  case first =>
    --@@region
    refine wp_region_noPanic ?_
    refine wp_region_held_drew (S := S) (by kernel_rfl) (HS.out W0 (Below.refl _ _)) (fun hHeld => ?_)
    refine wpAnyH_take (i := 1) (v := .pointer (some ⟨w.heap.size, 0, none⟩)) rfl (by kernel_rfl) (by kernel_rfl) (by kernel_rfl) (fun _ _ _ h => h) (Or.inl ⟨by rfl, fun W9 hSw => by replace hSw : W9.cell? ⟨w.heap.size, 0, none⟩ = some (.slice na n nc) := hSw; go_simp⟩) hHeld ?_
    simp only [List.getElem_toArray, List.getElem_cons_succ, List.getElem_cons_zero, Act.put, List.setIfInBounds_toArray, List.set_cons_zero, List.set_cons_succ]
    refine wpAnyH_take (i := 2) (v := .slice na n nc) rfl (by kernel_rfl) (by kernel_rfl) (by kernel_rfl) (fun _ _ _ h => h) (Or.inl ⟨by rfl, fun W9 hSw => by replace hSw : W9.cell? ⟨w.heap.size, 0, none⟩ = some (.slice na n nc) := hSw; go_simp⟩) hHeld ?_
    simp only [List.getElem_toArray, List.getElem_cons_succ, List.getElem_cons_zero, Act.put, List.setIfInBounds_toArray, List.set_cons_zero, List.set_cons_succ]
    refine wpAnyH_take (i := 3) (v := .int .i64 (n : Int)) rfl (by kernel_rfl) (by kernel_rfl) (by kernel_rfl) (fun _ _ _ h => h) (Or.inl ⟨by rfl, fun W9 hSw => by replace hSw : W9.cell? ⟨w.heap.size, 0, none⟩ = some (.slice na n nc) := hSw; go_simp⟩) hHeld ?_
    simp only [List.getElem_toArray, List.getElem_cons_succ, List.getElem_cons_zero, Act.put, List.setIfInBounds_toArray, List.set_cons_zero, List.set_cons_succ]
    refine wpAnyH_take (i := 5) (v := .pointer (some ⟨w.heap.size, 0, none⟩)) rfl (by kernel_rfl) (by kernel_rfl) (by kernel_rfl) (fun _ _ _ h => h) (Or.inl ⟨by rfl, fun W9 hSw => by replace hSw : W9.cell? ⟨w.heap.size, 0, none⟩ = some (.slice na n nc) := hSw; go_simp⟩) hHeld ?_
    simp only [List.getElem_toArray, List.getElem_cons_succ, List.getElem_cons_zero, Act.put, List.setIfInBounds_toArray, List.set_cons_zero, List.set_cons_succ]
    refine wpAnyH_take (i := 6) (v := .slice na n nc) rfl (by kernel_rfl) (by kernel_rfl) (by kernel_rfl) (fun _ _ _ h => h) (Or.inl ⟨by rfl, fun W9 hSw => by replace hSw : W9.cell? ⟨w.heap.size, 0, none⟩ = some (.slice na n nc) := hSw; go_simp⟩) hHeld ?_
    simp only [List.getElem_toArray, List.getElem_cons_succ, List.getElem_cons_zero, Act.put, List.setIfInBounds_toArray, List.set_cons_zero, List.set_cons_succ]
    refine wpAnyH_take (i := 7) (v := .int .i64 (n : Int)) rfl (by kernel_rfl) (by kernel_rfl) (by kernel_rfl) (fun _ _ _ h => h) (Or.inl ⟨by rfl, fun W9 hSw => by replace hSw : W9.cell? ⟨w.heap.size, 0, none⟩ = some (.slice na n nc) := hSw; go_simp⟩) hHeld ?_
    simp only [List.getElem_toArray, List.getElem_cons_succ, List.getElem_cons_zero, Act.put, List.setIfInBounds_toArray, List.set_cons_zero, List.set_cons_succ]
    obtain ⟨WD, hWD⟩ : ∃ W, W = W0.drew := ⟨_, rfl⟩
    have hbD : Below W0.heap.size W0 WD := by rw [hWD]; exact (Below.refl _ _).drew
    rw [← hWD] at hHeld ⊢
    clear hWD
    refine wpAnyH_ready (rs := [0, 8, 10]) (by kernel_rfl) (by simp) ?_
    refine AllReadyH.cons rfl (fun K hK => ?_) ?_
    · go_simp
      obtain ⟨V0, hE0⟩ : ∃ W, W = WD.alloc (.cells #[.int .i64 (-1)] 3) := ⟨_, rfl⟩
      rw [← hE0]
      have hw0 : Below WD.heap.size WD V0 := by rw [hE0]; exact below_alloc _ _
      have hb0 : Below W0.heap.size W0 V0 := below_after hbD hw0
      refine hK.out _ _ (HS.out _ hb0) (fun hH0 => ?_)
      clear hK K
      have HL0 : Hid (V0.cell? ⟨WD.heap.size, 0, none⟩ = some (.int .i64 (-1)) ∧ WD.heap.size < V0.heap.size) := by rw [hE0]; exact ⟨cell_in (heap_new' _ _) 0, by simp⟩
      clear hE0
      refine wpAnyH_ready (rs := [4, 8, 10]) (by kernel_rfl) (by simp) ?_
      refine AllReadyH.cons rfl (fun K hK => ?_) ?_
      · go_simp
        refine (HRP.out _ _ HL0.out.1 HL0.out.2).mono ?_
        rintro e V1 ⟨gf1, rfl, hr1, hq1⟩
        have hw1 : Below V0.heap.size V0 V1 := hq1
        have hb1 : Below W0.heap.size W0 V1 := below_after hb0 hw1
        refine hK.out _ _ (HS.out _ hb1) (fun hH1 => ?_)
        clear hK K
        have HG1 : Hid (RowZ V1 W0.heap.size gf1 n (fun _ => -1)) := own_mono13 hr1 hb0.size
        refine wpAnyH_ready (rs := [8, 10]) (by kernel_rfl) (by simp) ?_
        refine AllReadyH.cons rfl (fun K hK => ?_) ?_
        · go_simp
          obtain ⟨V2, hE2⟩ : ∃ W, W = V1.alloc (.cells (madeCells #[.int .i64 0] n) 3) := ⟨_, rfl⟩
          rw [← hE2]
          have hw2 : Below V1.heap.size V1 V2 := by rw [hE2]; exact below_alloc _ _
          have hb2 : Below W0.heap.size W0 V2 := below_after hb1 hw2
          refine hK.out _ _ (HS.out _ hb2) (fun hH2 => ?_)
          clear hK K
          have HG2 : Hid (RowZ V2 W0.heap.size gf1 n (fun _ => -1)) := HG1.out.below hw2
          have HK2 : Hid (RowZ V2 W0.heap.size V1.heap.size n (fun _ => 0)) := by rw [hE2]; exact rowZ_made V1 hb1.size (by unfold maxLen; omega)
          have hne2 : gf1 ≠ V1.heap.size := fun e => by
            have h2 := HG1.out.lt.1
            omega
          clear hE2
          refine wpAnyH_take (i := 9) (v := .agg #[.slice (some ⟨gf1, 0, none⟩) n n, .slice (some ⟨V1.heap.size, 0, none⟩) n n]) rfl (by kernel_rfl) (by kernel_rfl) (by kernel_rfl) (fun _ _ _ h => h) (Or.inl ⟨by rfl, fun W9 hSw => by replace hSw : W9.cell? ⟨w.heap.size, 0, none⟩ = some (.slice na n nc) := hSw; go_simp⟩) hH2 ?_
          simp only [List.getElem_toArray, List.getElem_cons_succ, List.getElem_cons_zero, Act.put, List.setIfInBounds_toArray, List.set_cons_zero, List.set_cons_succ]
          refine wpAnyH_ready (rs := [10]) (by kernel_rfl) (by simp) ?_
          refine AllReadyH.cons rfl (fun K hK => ?_) AllReadyH.nil
          go_simp
          obtain ⟨V3, hE3⟩ : ∃ W, W = V2.alloc (.cells #[.slice none 0 0, .slice none 0 0] 116) := ⟨_, rfl⟩
          rw [← hE3]
          have hw3 : Below V2.heap.size V2 V3 := by rw [hE3]; exact below_alloc _ _
          have hb3 : Below W0.heap.size W0 V3 := below_after hb2 hw3
          refine hK.out _ _ (HS.out _ hb3) (fun hH3 => ?_)
          clear hK K
          have HG3 : Hid (RowZ V3 W0.heap.size gf1 n (fun _ => -1)) := HG2.out.below hw3
          have HK3 : Hid (RowZ V3 W0.heap.size V1.heap.size n (fun _ => 0)) := HK2.out.below hw3
          have HC3 : Hid (V3.heap[V2.heap.size]? = some (.cells #[.slice none 0 0, .slice none 0 0] 116 (0, 0)) ∧ W0.heap.size ≤ V2.heap.size) := by rw [hE3]; exact ⟨heap_new' _ _, hb2.size⟩
          clear hE3
          refine wpAnyH_ready (rs := [11]) (by kernel_rfl) (by simp) ?_
          refine AllReadyH.cons rfl (fun K hK => ?_) AllReadyH.nil
          have z0 := cell_in HC3.out.1 0
          have z1 := cell_in HC3.out.1 1
          have zl := lt_of_heap HC3.out.1
          have zf : V3.frozen? ⟨V2.heap.size, 0, none⟩ = false := by simp [World.frozen?, HC3.out.1]
          have zg : V3.frozen? ⟨V2.heap.size, 1, none⟩ = false := by simp [World.frozen?, HC3.out.1]
          simp at z0 z1
          go_simp
          refine hK.out _ _ (HS.out _ (ChR.fin HG3.out HK3.out HC3.out hb3 hne2).bl) (fun hHx => ?_)
          clear hK K
          refine wpAnyH_done (by kernel_rfl) ?_ _
          refine NoPanic.normal ?_
          go_wp2
          go_meet
          exact ⟨V2.heap.size, gf1, V1.heap.size, rfl, ChR.fin HG3.out HK3.out HC3.out hb3 hne2⟩
        refine AllReadyH.cons rfl (fun K hK => ?_) AllReadyH.nil
        go_simp
        obtain ⟨V4, hE4⟩ : ∃ W, W = V1.alloc (.cells #[.slice none 0 0, .slice none 0 0] 116) := ⟨_, rfl⟩
        rw [← hE4]
        have hw4 : Below V1.heap.size V1 V4 := by rw [hE4]; exact below_alloc _ _
        have hb4 : Below W0.heap.size W0 V4 := below_after hb1 hw4
        refine hK.out _ _ (HS.out _ hb4) (fun hH4 => ?_)
        clear hK K
        have HG4 : Hid (RowZ V4 W0.heap.size gf1 n (fun _ => -1)) := HG1.out.below hw4
        have HC4 : Hid (V4.heap[V1.heap.size]? = some (.cells #[.slice none 0 0, .slice none 0 0] 116 (0, 0)) ∧ W0.heap.size ≤ V1.heap.size) := by rw [hE4]; exact ⟨heap_new' _ _, hb1.size⟩
        clear hE4
        refine wpAnyH_ready (rs := [8]) (by kernel_rfl) (by simp) ?_
        refine AllReadyH.cons rfl (fun K hK => ?_) AllReadyH.nil
        go_simp
        obtain ⟨V5, hE5⟩ : ∃ W, W = V4.alloc (.cells (madeCells #[.int .i64 0] n) 3) := ⟨_, rfl⟩
        rw [← hE5]
        have hw5 : Below V4.heap.size V4 V5 := by rw [hE5]; exact below_alloc _ _
        have hb5 : Below W0.heap.size W0 V5 := below_after hb4 hw5
        refine hK.out _ _ (HS.out _ hb5) (fun hH5 => ?_)
        clear hK K
        have HG5 : Hid (RowZ V5 W0.heap.size gf1 n (fun _ => -1)) := HG4.out.below hw5
        have HC5 : Hid (V5.heap[V1.heap.size]? = some (.cells #[.slice none 0 0, .slice none 0 0] 116 (0, 0)) ∧ W0.heap.size ≤ V1.heap.size) := ⟨(hw5.block _ (lt_of_heap HC4.out.1)).trans HC4.out.1, HC4.out.2⟩
        have HK5 : Hid (RowZ V5 W0.heap.size V4.heap.size n (fun _ => 0)) := by rw [hE5]; exact rowZ_made V4 hb4.size (by unfold maxLen; omega)
        have hne5 : gf1 ≠ V4.heap.size := fun e => by
          have h2 := HG4.out.lt.1
          omega
        clear hE5
        refine wpAnyH_take (i := 9) (v := .agg #[.slice (some ⟨gf1, 0, none⟩) n n, .slice (some ⟨V4.heap.size, 0, none⟩) n n]) rfl (by kernel_rfl) (by kernel_rfl) (by kernel_rfl) (fun _ _ _ h => h) (Or.inl ⟨by rfl, fun W9 hSw => by replace hSw : W9.cell? ⟨w.heap.size, 0, none⟩ = some (.slice na n nc) := hSw; go_simp⟩) hH5 ?_
        simp only [List.getElem_toArray, List.getElem_cons_succ, List.getElem_cons_zero, Act.put, List.setIfInBounds_toArray, List.set_cons_zero, List.set_cons_succ]
        refine wpAnyH_ready (rs := [11]) (by kernel_rfl) (by simp) ?_
        refine AllReadyH.cons rfl (fun K hK => ?_) AllReadyH.nil
        have z0 := cell_in HC5.out.1 0
        have z1 := cell_in HC5.out.1 1
        have zl := lt_of_heap HC5.out.1
        have zf : V5.frozen? ⟨V1.heap.size, 0, none⟩ = false := by simp [World.frozen?, HC5.out.1]
        have zg : V5.frozen? ⟨V1.heap.size, 1, none⟩ = false := by simp [World.frozen?, HC5.out.1]
        simp at z0 z1
        go_simp
        refine hK.out _ _ (HS.out _ (ChR.fin HG5.out HK5.out HC5.out hb5 hne5).bl) (fun hHx => ?_)
        clear hK K
        refine wpAnyH_done (by kernel_rfl) ?_ _
        refine NoPanic.normal ?_
        go_wp2
        go_meet
        exact ⟨V1.heap.size, gf1, V4.heap.size, rfl, ChR.fin HG5.out HK5.out HC5.out hb5 hne5⟩
      refine AllReadyH.cons rfl (fun K hK => ?_) ?_
      · go_simp
        obtain ⟨V6, hE6⟩ : ∃ W, W = V0.alloc (.cells (madeCells #[.int .i64 0] n) 3) := ⟨_, rfl⟩
        rw [← hE6]
        have hw6 : Below V0.heap.size V0 V6 := by rw [hE6]; exact below_alloc _ _
        have hb6 : Below W0.heap.size W0 V6 := below_after hb0 hw6
        refine hK.out _ _ (HS.out _ hb6) (fun hH6 => ?_)
        clear hK K
        have HL6 : Hid (V6.cell? ⟨WD.heap.size, 0, none⟩ = some (.int .i64 (-1)) ∧ WD.heap.size < V6.heap.size) := ⟨(hw6.cell (p := ⟨WD.heap.size, 0, none⟩) HL0.out.2).trans HL0.out.1, Nat.lt_of_lt_of_le HL0.out.2 hw6.size⟩
        have HK6 : Hid (RowZ V6 W0.heap.size V0.heap.size n (fun _ => 0)) := by rw [hE6]; exact rowZ_made V0 hb0.size (by unfold maxLen; omega)
        clear hE6
        refine wpAnyH_ready (rs := [4, 10]) (by kernel_rfl) (by simp) ?_
        refine AllReadyH.cons rfl (fun K hK => ?_) ?_
        · go_simp
          refine (HRP.out _ _ HL6.out.1 HL6.out.2).mono ?_
          rintro e V7 ⟨gf7, rfl, hr7, hq7⟩
          have hw7 : Below V6.heap.size V6 V7 := hq7
          have hb7 : Below W0.heap.size W0 V7 := below_after hb6 hw7
          refine hK.out _ _ (HS.out _ hb7) (fun hH7 => ?_)
          clear hK K
          have HK7 : Hid (RowZ V7 W0.heap.size V0.heap.size n (fun _ => 0)) := HK6.out.below hw7
          have HG7 : Hid (RowZ V7 W0.heap.size gf7 n (fun _ => -1)) := own_mono13 hr7 hb6.size
          have hne7 : gf7 ≠ V0.heap.size := fun e => by
            have h1 := hr7.lt.2
            have h2 := HK6.out.lt.1
            omega
          refine wpAnyH_take (i := 9) (v := .agg #[.slice (some ⟨gf7, 0, none⟩) n n, .slice (some ⟨V0.heap.size, 0, none⟩) n n]) rfl (by kernel_rfl) (by kernel_rfl) (by kernel_rfl) (fun _ _ _ h => h) (Or.inl ⟨by rfl, fun W9 hSw => by replace hSw : W9.cell? ⟨w.heap.size, 0, none⟩ = some (.slice na n nc) := hSw; go_simp⟩) hH7 ?_
          simp only [List.getElem_toArray, List.getElem_cons_succ, List.getElem_cons_zero, Act.put, List.setIfInBounds_toArray, List.set_cons_zero, List.set_cons_succ]
          refine wpAnyH_ready (rs := [10]) (by kernel_rfl) (by simp) ?_
          refine AllReadyH.cons rfl (fun K hK => ?_) AllReadyH.nil
          go_simp
          obtain ⟨V8, hE8⟩ : ∃ W, W = V7.alloc (.cells #[.slice none 0 0, .slice none 0 0] 116) := ⟨_, rfl⟩
          rw [← hE8]
          have hw8 : Below V7.heap.size V7 V8 := by rw [hE8]; exact below_alloc _ _
          have hb8 : Below W0.heap.size W0 V8 := below_after hb7 hw8
          refine hK.out _ _ (HS.out _ hb8) (fun hH8 => ?_)
          clear hK K
          have HG8 : Hid (RowZ V8 W0.heap.size gf7 n (fun _ => -1)) := HG7.out.below hw8
          have HK8 : Hid (RowZ V8 W0.heap.size V0.heap.size n (fun _ => 0)) := HK7.out.below hw8
          have HC8 : Hid (V8.heap[V7.heap.size]? = some (.cells #[.slice none 0 0, .slice none 0 0] 116 (0, 0)) ∧ W0.heap.size ≤ V7.heap.size) := by rw [hE8]; exact ⟨heap_new' _ _, hb7.size⟩
          clear hE8
          refine wpAnyH_ready (rs := [11]) (by kernel_rfl) (by simp) ?_
          refine AllReadyH.cons rfl (fun K hK => ?_) AllReadyH.nil
          have z0 := cell_in HC8.out.1 0
          have z1 := cell_in HC8.out.1 1
          have zl := lt_of_heap HC8.out.1
          have zf : V8.frozen? ⟨V7.heap.size, 0, none⟩ = false := by simp [World.frozen?, HC8.out.1]
          have zg : V8.frozen? ⟨V7.heap.size, 1, none⟩ = false := by simp [World.frozen?, HC8.out.1]
          simp at z0 z1
          go_simp
          refine hK.out _ _ (HS.out _ (ChR.fin HG8.out HK8.out HC8.out hb8 hne7).bl) (fun hHx => ?_)
          clear hK K
          refine wpAnyH_done (by kernel_rfl) ?_ _
          refine NoPanic.normal ?_
          go_wp2
          go_meet
          exact ⟨V7.heap.size, gf7, V0.heap.size, rfl, ChR.fin HG8.out HK8.out HC8.out hb8 hne7⟩
        refine AllReadyH.cons rfl (fun K hK => ?_) AllReadyH.nil
        go_simp
        obtain ⟨V9, hE9⟩ : ∃ W, W = V6.alloc (.cells #[.slice none 0 0, .slice none 0 0] 116) := ⟨_, rfl⟩
        rw [← hE9]
        have hw9 : Below V6.heap.size V6 V9 := by rw [hE9]; exact below_alloc _ _
        have hb9 : Below W0.heap.size W0 V9 := below_after hb6 hw9
        refine hK.out _ _ (HS.out _ hb9) (fun hH9 => ?_)
        clear hK K
        have HL9 : Hid (V9.cell? ⟨WD.heap.size, 0, none⟩ = some (.int .i64 (-1)) ∧ WD.heap.size < V9.heap.size) := ⟨(hw9.cell (p := ⟨WD.heap.size, 0, none⟩) HL6.out.2).trans HL6.out.1, Nat.lt_of_lt_of_le HL6.out.2 hw9.size⟩
        have HK9 : Hid (RowZ V9 W0.heap.size V0.heap.size n (fun _ => 0)) := HK6.out.below hw9
        have HC9 : Hid (V9.heap[V6.heap.size]? = some (.cells #[.slice none 0 0, .slice none 0 0] 116 (0, 0)) ∧ W0.heap.size ≤ V6.heap.size) := by rw [hE9]; exact ⟨heap_new' _ _, hb6.size⟩
        clear hE9
        refine wpAnyH_ready (rs := [4]) (by kernel_rfl) (by simp) ?_
        refine AllReadyH.cons rfl (fun K hK => ?_) AllReadyH.nil
        go_simp
        refine (HRP.out _ _ HL9.out.1 HL9.out.2).mono ?_
        rintro e V10 ⟨gf10, rfl, hr10, hq10⟩
        have hw10 : Below V9.heap.size V9 V10 := hq10
        have hb10 : Below W0.heap.size W0 V10 := below_after hb9 hw10
        refine hK.out _ _ (HS.out _ hb10) (fun hH10 => ?_)
        clear hK K
        have HK10 : Hid (RowZ V10 W0.heap.size V0.heap.size n (fun _ => 0)) := HK9.out.below hw10
        have HC10 : Hid (V10.heap[V6.heap.size]? = some (.cells #[.slice none 0 0, .slice none 0 0] 116 (0, 0)) ∧ W0.heap.size ≤ V6.heap.size) := ⟨(hw10.block _ (lt_of_heap HC9.out.1)).trans HC9.out.1, HC9.out.2⟩
        have HG10 : Hid (RowZ V10 W0.heap.size gf10 n (fun _ => -1)) := own_mono13 hr10 hb9.size
        have hne10 : gf10 ≠ V0.heap.size := fun e => by
          have h1 := hr10.lt.2
          have h2 := HK9.out.lt.1
          omega
        refine wpAnyH_take (i := 9) (v := .agg #[.slice (some ⟨gf10, 0, none⟩) n n, .slice (some ⟨V0.heap.size, 0, none⟩) n n]) rfl (by kernel_rfl) (by kernel_rfl) (by kernel_rfl) (fun _ _ _ h => h) (Or.inl ⟨by rfl, fun W9 hSw => by replace hSw : W9.cell? ⟨w.heap.size, 0, none⟩ = some (.slice na n nc) := hSw; go_simp⟩) hH10 ?_
        simp only [List.getElem_toArray, List.getElem_cons_succ, List.getElem_cons_zero, Act.put, List.setIfInBounds_toArray, List.set_cons_zero, List.set_cons_succ]
        refine wpAnyH_ready (rs := [11]) (by kernel_rfl) (by simp) ?_
        refine AllReadyH.cons rfl (fun K hK => ?_) AllReadyH.nil
        have z0 := cell_in HC10.out.1 0
        have z1 := cell_in HC10.out.1 1
        have zl := lt_of_heap HC10.out.1
        have zf : V10.frozen? ⟨V6.heap.size, 0, none⟩ = false := by simp [World.frozen?, HC10.out.1]
        have zg : V10.frozen? ⟨V6.heap.size, 1, none⟩ = false := by simp [World.frozen?, HC10.out.1]
        simp at z0 z1
        go_simp
        refine hK.out _ _ (HS.out _ (ChR.fin HG10.out HK10.out HC10.out hb10 hne10).bl) (fun hHx => ?_)
        clear hK K
        refine wpAnyH_done (by kernel_rfl) ?_ _
        refine NoPanic.normal ?_
        go_wp2
        go_meet
        exact ⟨V6.heap.size, gf10, V0.heap.size, rfl, ChR.fin HG10.out HK10.out HC10.out hb10 hne10⟩
      refine AllReadyH.cons rfl (fun K hK => ?_) AllReadyH.nil
      go_simp
      obtain ⟨V11, hE11⟩ : ∃ W, W = V0.alloc (.cells #[.slice none 0 0, .slice none 0 0] 116) := ⟨_, rfl⟩
      rw [← hE11]
      have hw11 : Below V0.heap.size V0 V11 := by rw [hE11]; exact below_alloc _ _
      have hb11 : Below W0.heap.size W0 V11 := below_after hb0 hw11
      refine hK.out _ _ (HS.out _ hb11) (fun hH11 => ?_)
      clear hK K
      have HL11 : Hid (V11.cell? ⟨WD.heap.size, 0, none⟩ = some (.int .i64 (-1)) ∧ WD.heap.size < V11.heap.size) := ⟨(hw11.cell (p := ⟨WD.heap.size, 0, none⟩) HL0.out.2).trans HL0.out.1, Nat.lt_of_lt_of_le HL0.out.2 hw11.size⟩
      have HC11 : Hid (V11.heap[V0.heap.size]? = some (.cells #[.slice none 0 0, .slice none 0 0] 116 (0, 0)) ∧ W0.heap.size ≤ V0.heap.size) := by rw [hE11]; exact ⟨heap_new' _ _, hb0.size⟩
      clear hE11
      refine wpAnyH_ready (rs := [4, 8]) (by kernel_rfl) (by simp) ?_
      refine AllReadyH.cons rfl (fun K hK => ?_) ?_
      · go_simp
        refine (HRP.out _ _ HL11.out.1 HL11.out.2).mono ?_
        rintro e V12 ⟨gf12, rfl, hr12, hq12⟩
        have hw12 : Below V11.heap.size V11 V12 := hq12
        have hb12 : Below W0.heap.size W0 V12 := below_after hb11 hw12
        refine hK.out _ _ (HS.out _ hb12) (fun hH12 => ?_)
        clear hK K
        have HC12 : Hid (V12.heap[V0.heap.size]? = some (.cells #[.slice none 0 0, .slice none 0 0] 116 (0, 0)) ∧ W0.heap.size ≤ V0.heap.size) := ⟨(hw12.block _ (lt_of_heap HC11.out.1)).trans HC11.out.1, HC11.out.2⟩
        have HG12 : Hid (RowZ V12 W0.heap.size gf12 n (fun _ => -1)) := own_mono13 hr12 hb11.size
        refine wpAnyH_ready (rs := [8]) (by kernel_rfl) (by simp) ?_
        refine AllReadyH.cons rfl (fun K hK => ?_) AllReadyH.nil
        go_simp
        obtain ⟨V13, hE13⟩ : ∃ W, W = V12.alloc (.cells (madeCells #[.int .i64 0] n) 3) := ⟨_, rfl⟩
        rw [← hE13]
        have hw13 : Below V12.heap.size V12 V13 := by rw [hE13]; exact below_alloc _ _
        have hb13 : Below W0.heap.size W0 V13 := below_after hb12 hw13
        refine hK.out _ _ (HS.out _ hb13) (fun hH13 => ?_)
        clear hK K
        have HG13 : Hid (RowZ V13 W0.heap.size gf12 n (fun _ => -1)) := HG12.out.below hw13
        have HC13 : Hid (V13.heap[V0.heap.size]? = some (.cells #[.slice none 0 0, .slice none 0 0] 116 (0, 0)) ∧ W0.heap.size ≤ V0.heap.size) := ⟨(hw13.block _ (lt_of_heap HC12.out.1)).trans HC12.out.1, HC12.out.2⟩
        have HK13 : Hid (RowZ V13 W0.heap.size V12.heap.size n (fun _ => 0)) := by rw [hE13]; exact rowZ_made V12 hb12.size (by unfold maxLen; omega)
        have hne13 : gf12 ≠ V12.heap.size := fun e => by
          have h2 := HG12.out.lt.1
          omega
        clear hE13
        refine wpAnyH_take (i := 9) (v := .agg #[.slice (some ⟨gf12, 0, none⟩) n n, .slice (some ⟨V12.heap.size, 0, none⟩) n n]) rfl (by kernel_rfl) (by kernel_rfl) (by kernel_rfl) (fun _ _ _ h => h) (Or.inl ⟨by rfl, fun W9 hSw => by replace hSw : W9.cell? ⟨w.heap.size, 0, none⟩ = some (.slice na n nc) := hSw; go_simp⟩) hH13 ?_
        simp only [List.getElem_toArray, List.getElem_cons_succ, List.getElem_cons_zero, Act.put, List.setIfInBounds_toArray, List.set_cons_zero, List.set_cons_succ]
        refine wpAnyH_ready (rs := [11]) (by kernel_rfl) (by simp) ?_
        refine AllReadyH.cons rfl (fun K hK => ?_) AllReadyH.nil
        have z0 := cell_in HC13.out.1 0
        have z1 := cell_in HC13.out.1 1
        have zl := lt_of_heap HC13.out.1
        have zf : V13.frozen? ⟨V0.heap.size, 0, none⟩ = false := by simp [World.frozen?, HC13.out.1]
        have zg : V13.frozen? ⟨V0.heap.size, 1, none⟩ = false := by simp [World.frozen?, HC13.out.1]
        simp at z0 z1
        go_simp
        refine hK.out _ _ (HS.out _ (ChR.fin HG13.out HK13.out HC13.out hb13 hne13).bl) (fun hHx => ?_)
        clear hK K
        refine wpAnyH_done (by kernel_rfl) ?_ _
        refine NoPanic.normal ?_
        go_wp2
        go_meet
        exact ⟨V0.heap.size, gf12, V12.heap.size, rfl, ChR.fin HG13.out HK13.out HC13.out hb13 hne13⟩
      refine AllReadyH.cons rfl (fun K hK => ?_) AllReadyH.nil
      go_simp
      obtain ⟨V14, hE14⟩ : ∃ W, W = V11.alloc (.cells (madeCells #[.int .i64 0] n) 3) := ⟨_, rfl⟩
      rw [← hE14]
      have hw14 : Below V11.heap.size V11 V14 := by rw [hE14]; exact below_alloc _ _
      have hb14 : Below W0.heap.size W0 V14 := below_after hb11 hw14
      refine hK.out _ _ (HS.out _ hb14) (fun hH14 => ?_)
      clear hK K
      have HL14 : Hid (V14.cell? ⟨WD.heap.size, 0, none⟩ = some (.int .i64 (-1)) ∧ WD.heap.size < V14.heap.size) := ⟨(hw14.cell (p := ⟨WD.heap.size, 0, none⟩) HL11.out.2).trans HL11.out.1, Nat.lt_of_lt_of_le HL11.out.2 hw14.size⟩
      have HC14 : Hid (V14.heap[V0.heap.size]? = some (.cells #[.slice none 0 0, .slice none 0 0] 116 (0, 0)) ∧ W0.heap.size ≤ V0.heap.size) := ⟨(hw14.block _ (lt_of_heap HC11.out.1)).trans HC11.out.1, HC11.out.2⟩
      have HK14 : Hid (RowZ V14 W0.heap.size V11.heap.size n (fun _ => 0)) := by rw [hE14]; exact rowZ_made V11 hb11.size (by unfold maxLen; omega)
      clear hE14
      refine wpAnyH_ready (rs := [4]) (by kernel_rfl) (by simp) ?_
      refine AllReadyH.cons rfl (fun K hK => ?_) AllReadyH.nil
      go_simp
      refine (HRP.out _ _ HL14.out.1 HL14.out.2).mono ?_
      rintro e V15 ⟨gf15, rfl, hr15, hq15⟩
      have hw15 : Below V14.heap.size V14 V15 := hq15
      have hb15 : Below W0.heap.size W0 V15 := below_after hb14 hw15
      refine hK.out _ _ (HS.out _ hb15) (fun hH15 => ?_)
      clear hK K
      have HK15 : Hid (RowZ V15 W0.heap.size V11.heap.size n (fun _ => 0)) := HK14.out.below hw15
      have HC15 : Hid (V15.heap[V0.heap.size]? = some (.cells #[.slice none 0 0, .slice none 0 0] 116 (0, 0)) ∧ W0.heap.size ≤ V0.heap.size) := ⟨(hw15.block _ (lt_of_heap HC14.out.1)).trans HC14.out.1, HC14.out.2⟩
      have HG15 : Hid (RowZ V15 W0.heap.size gf15 n (fun _ => -1)) := own_mono13 hr15 hb14.size
      have hne15 : gf15 ≠ V11.heap.size := fun e => by
        have h1 := hr15.lt.2
        have h2 := HK14.out.lt.1
        omega
      refine wpAnyH_take (i := 9) (v := .agg #[.slice (some ⟨gf15, 0, none⟩) n n, .slice (some ⟨V11.heap.size, 0, none⟩) n n]) rfl (by kernel_rfl) (by kernel_rfl) (by kernel_rfl) (fun _ _ _ h => h) (Or.inl ⟨by rfl, fun W9 hSw => by replace hSw : W9.cell? ⟨w.heap.size, 0, none⟩ = some (.slice na n nc) := hSw; go_simp⟩) hH15 ?_
      simp only [List.getElem_toArray, List.getElem_cons_succ, List.getElem_cons_zero, Act.put, List.setIfInBounds_toArray, List.set_cons_zero, List.set_cons_succ]
      refine wpAnyH_ready (rs := [11]) (by kernel_rfl) (by simp) ?_
      refine AllReadyH.cons rfl (fun K hK => ?_) AllReadyH.nil
      have z0 := cell_in HC15.out.1 0
      have z1 := cell_in HC15.out.1 1
      have zl := lt_of_heap HC15.out.1
      have zf : V15.frozen? ⟨V0.heap.size, 0, none⟩ = false := by simp [World.frozen?, HC15.out.1]
      have zg : V15.frozen? ⟨V0.heap.size, 1, none⟩ = false := by simp [World.frozen?, HC15.out.1]
      simp at z0 z1
      go_simp
      refine hK.out _ _ (HS.out _ (ChR.fin HG15.out HK15.out HC15.out hb15 hne15).bl) (fun hHx => ?_)
      clear hK K
      refine wpAnyH_done (by kernel_rfl) ?_ _
      refine NoPanic.normal ?_
      go_wp2
      go_meet
      exact ⟨V0.heap.size, gf15, V11.heap.size, rfl, ChR.fin HG15.out HK15.out HC15.out hb15 hne15⟩
    refine AllReadyH.cons rfl (fun K hK => ?_) ?_
    · go_simp
      obtain ⟨V16, hE16⟩ : ∃ W, W = WD.alloc (.cells (madeCells #[.int .i64 0] n) 3) := ⟨_, rfl⟩
      rw [← hE16]
      have hw16 : Below WD.heap.size WD V16 := by rw [hE16]; exact below_alloc _ _
      have hb16 : Below W0.heap.size W0 V16 := below_after hbD hw16
      refine hK.out _ _ (HS.out _ hb16) (fun hH16 => ?_)
      clear hK K
      have HK16 : Hid (RowZ V16 W0.heap.size WD.heap.size n (fun _ => 0)) := by rw [hE16]; exact rowZ_made WD hbD.size (by unfold maxLen; omega)
      clear hE16
      refine wpAnyH_ready (rs := [0, 10]) (by kernel_rfl) (by simp) ?_
      refine AllReadyH.cons rfl (fun K hK => ?_) ?_
      · go_simp
        obtain ⟨V17, hE17⟩ : ∃ W, W = V16.alloc (.cells #[.int .i64 (-1)] 3) := ⟨_, rfl⟩
        rw [← hE17]
        have hw17 : Below V16.heap.size V16 V17 := by rw [hE17]; exact below_alloc _ _
        have hb17 : Below W0.heap.size W0 V17 := below_after hb16 hw17
        refine hK.out _ _ (HS.out _ hb17) (fun hH17 => ?_)
        clear hK K
        have HK17 : Hid (RowZ V17 W0.heap.size WD.heap.size n (fun _ => 0)) := HK16.out.below hw17
        have HL17 : Hid (V17.cell? ⟨V16.heap.size, 0, none⟩ = some (.int .i64 (-1)) ∧ V16.heap.size < V17.heap.size) := by rw [hE17]; exact ⟨cell_in (heap_new' _ _) 0, by simp⟩
        clear hE17
        refine wpAnyH_ready (rs := [4, 10]) (by kernel_rfl) (by simp) ?_
        refine AllReadyH.cons rfl (fun K hK => ?_) ?_
        · go_simp
          refine (HRP.out _ _ HL17.out.1 HL17.out.2).mono ?_
          rintro e V18 ⟨gf18, rfl, hr18, hq18⟩
          have hw18 : Below V17.heap.size V17 V18 := hq18
          have hb18 : Below W0.heap.size W0 V18 := below_after hb17 hw18
          refine hK.out _ _ (HS.out _ hb18) (fun hH18 => ?_)
          clear hK K
          have HK18 : Hid (RowZ V18 W0.heap.size WD.heap.size n (fun _ => 0)) := HK17.out.below hw18
          have HG18 : Hid (RowZ V18 W0.heap.size gf18 n (fun _ => -1)) := own_mono13 hr18 hb17.size
          have hne18 : gf18 ≠ WD.heap.size := fun e => by
            have h1 := hr18.lt.2
            have h2 := HK17.out.lt.1
            omega
          refine wpAnyH_take (i := 9) (v := .agg #[.slice (some ⟨gf18, 0, none⟩) n n, .slice (some ⟨WD.heap.size, 0, none⟩) n n]) rfl (by kernel_rfl) (by kernel_rfl) (by kernel_rfl) (fun _ _ _ h => h) (Or.inl ⟨by rfl, fun W9 hSw => by replace hSw : W9.cell? ⟨w.heap.size, 0, none⟩ = some (.slice na n nc) := hSw; go_simp⟩) hH18 ?_
          simp only [List.getElem_toArray, List.getElem_cons_succ, List.getElem_cons_zero, Act.put, List.setIfInBounds_toArray, List.set_cons_zero, List.set_cons_succ]
          refine wpAnyH_ready (rs := [10]) (by kernel_rfl) (by simp) ?_
          refine AllReadyH.cons rfl (fun K hK => ?_) AllReadyH.nil
          go_simp
          obtain ⟨V19, hE19⟩ : ∃ W, W = V18.alloc (.cells #[.slice none 0 0, .slice none 0 0] 116) := ⟨_, rfl⟩
          rw [← hE19]
          have hw19 : Below V18.heap.size V18 V19 := by rw [hE19]; exact below_alloc _ _
          have hb19 : Below W0.heap.size W0 V19 := below_after hb18 hw19
          refine hK.out _ _ (HS.out _ hb19) (fun hH19 => ?_)
          clear hK K
          have HG19 : Hid (RowZ V19 W0.heap.size gf18 n (fun _ => -1)) := HG18.out.below hw19
          have HK19 : Hid (RowZ V19 W0.heap.size WD.heap.size n (fun _ => 0)) := HK18.out.below hw19
          have HC19 : Hid (V19.heap[V18.heap.size]? = some (.cells #[.slice none 0 0, .slice none 0 0] 116 (0, 0)) ∧ W0.heap.size ≤ V18.heap.size) := by rw [hE19]; exact ⟨heap_new' _ _, hb18.size⟩
          clear hE19
          refine wpAnyH_ready (rs := [11]) (by kernel_rfl) (by simp) ?_
          refine AllReadyH.cons rfl (fun K hK => ?_) AllReadyH.nil
          have z0 := cell_in HC19.out.1 0
          have z1 := cell_in HC19.out.1 1
          have zl := lt_of_heap HC19.out.1
          have zf : V19.frozen? ⟨V18.heap.size, 0, none⟩ = false := by simp [World.frozen?, HC19.out.1]
          have zg : V19.frozen? ⟨V18.heap.size, 1, none⟩ = false := by simp [World.frozen?, HC19.out.1]
          simp at z0 z1
          go_simp
          refine hK.out _ _ (HS.out _ (ChR.fin HG19.out HK19.out HC19.out hb19 hne18).bl) (fun hHx => ?_)
          clear hK K
          refine wpAnyH_done (by kernel_rfl) ?_ _
          refine NoPanic.normal ?_
          go_wp2
          go_meet
          exact ⟨V18.heap.size, gf18, WD.heap.size, rfl, ChR.fin HG19.out HK19.out HC19.out hb19 hne18⟩
        refine AllReadyH.cons rfl (fun K hK => ?_) AllReadyH.nil
        go_simp
        obtain ⟨V20, hE20⟩ : ∃ W, W = V17.alloc (.cells #[.slice none 0 0, .slice none 0 0] 116) := ⟨_, rfl⟩
        rw [← hE20]
        have hw20 : Below V17.heap.size V17 V20 := by rw [hE20]; exact below_alloc _ _
        have hb20 : Below W0.heap.size W0 V20 := below_after hb17 hw20
        refine hK.out _ _ (HS.out _ hb20) (fun hH20 => ?_)
        clear hK K
        have HL20 : Hid (V20.cell? ⟨V16.heap.size, 0, none⟩ = some (.int .i64 (-1)) ∧ V16.heap.size < V20.heap.size) := ⟨(hw20.cell (p := ⟨V16.heap.size, 0, none⟩) HL17.out.2).trans HL17.out.1, Nat.lt_of_lt_of_le HL17.out.2 hw20.size⟩
        have HK20 : Hid (RowZ V20 W0.heap.size WD.heap.size n (fun _ => 0)) := HK17.out.below hw20
        have HC20 : Hid (V20.heap[V17.heap.size]? = some (.cells #[.slice none 0 0, .slice none 0 0] 116 (0, 0)) ∧ W0.heap.size ≤ V17.heap.size) := by rw [hE20]; exact ⟨heap_new' _ _, hb17.size⟩
        clear hE20
        refine wpAnyH_ready (rs := [4]) (by kernel_rfl) (by simp) ?_
        refine AllReadyH.cons rfl (fun K hK => ?_) AllReadyH.nil
        go_simp
        refine (HRP.out _ _ HL20.out.1 HL20.out.2).mono ?_
        rintro e V21 ⟨gf21, rfl, hr21, hq21⟩
        have hw21 : Below V20.heap.size V20 V21 := hq21
        have hb21 : Below W0.heap.size W0 V21 := below_after hb20 hw21
        refine hK.out _ _ (HS.out _ hb21) (fun hH21 => ?_)
        clear hK K
        have HK21 : Hid (RowZ V21 W0.heap.size WD.heap.size n (fun _ => 0)) := HK20.out.below hw21
        have HC21 : Hid (V21.heap[V17.heap.size]? = some (.cells #[.slice none 0 0, .slice none 0 0] 116 (0, 0)) ∧ W0.heap.size ≤ V17.heap.size) := ⟨(hw21.block _ (lt_of_heap HC20.out.1)).trans HC20.out.1, HC20.out.2⟩
        have HG21 : Hid (RowZ V21 W0.heap.size gf21 n (fun _ => -1)) := own_mono13 hr21 hb20.size
        have hne21 : gf21 ≠ WD.heap.size := fun e => by
          have h1 := hr21.lt.2
          have h2 := HK20.out.lt.1
          omega
        refine wpAnyH_take (i := 9) (v := .agg #[.slice (some ⟨gf21, 0, none⟩) n n, .slice (some ⟨WD.heap.size, 0, none⟩) n n]) rfl (by kernel_rfl) (by kernel_rfl) (by kernel_rfl) (fun _ _ _ h => h) (Or.inl ⟨by rfl, fun W9 hSw => by replace hSw : W9.cell? ⟨w.heap.size, 0, none⟩ = some (.slice na n nc) := hSw; go_simp⟩) hH21 ?_
        simp only [List.getElem_toArray, List.getElem_cons_succ, List.getElem_cons_zero, Act.put, List.setIfInBounds_toArray, List.set_cons_zero, List.set_cons_succ]
        refine wpAnyH_ready (rs := [11]) (by kernel_rfl) (by simp) ?_
        refine AllReadyH.cons rfl (fun K hK => ?_) AllReadyH.nil
        have z0 := cell_in HC21.out.1 0
        have z1 := cell_in HC21.out.1 1
        have zl := lt_of_heap HC21.out.1
        have zf : V21.frozen? ⟨V17.heap.size, 0, none⟩ = false := by simp [World.frozen?, HC21.out.1]
        have zg : V21.frozen? ⟨V17.heap.size, 1, none⟩ = false := by simp [World.frozen?, HC21.out.1]
        simp at z0 z1
        go_simp
        refine hK.out _ _ (HS.out _ (ChR.fin HG21.out HK21.out HC21.out hb21 hne21).bl) (fun hHx => ?_)
        clear hK K
        refine wpAnyH_done (by kernel_rfl) ?_ _
        refine NoPanic.normal ?_
        go_wp2
        go_meet
        exact ⟨V17.heap.size, gf21, WD.heap.size, rfl, ChR.fin HG21.out HK21.out HC21.out hb21 hne21⟩
      refine AllReadyH.cons rfl (fun K hK => ?_) AllReadyH.nil
      go_simp
      obtain ⟨V22, hE22⟩ : ∃ W, W = V16.alloc (.cells #[.slice none 0 0, .slice none 0 0] 116) := ⟨_, rfl⟩
      rw [← hE22]
      have hw22 : Below V16.heap.size V16 V22 := by rw [hE22]; exact below_alloc _ _
      have hb22 : Below W0.heap.size W0 V22 := below_after hb16 hw22
      refine hK.out _ _ (HS.out _ hb22) (fun hH22 => ?_)
      clear hK K
      have HK22 : Hid (RowZ V22 W0.heap.size WD.heap.size n (fun _ => 0)) := HK16.out.below hw22
      have HC22 : Hid (V22.heap[V16.heap.size]? = some (.cells #[.slice none 0 0, .slice none 0 0] 116 (0, 0)) ∧ W0.heap.size ≤ V16.heap.size) := by rw [hE22]; exact ⟨heap_new' _ _, hb16.size⟩
      clear hE22
      refine wpAnyH_ready (rs := [0]) (by kernel_rfl) (by simp) ?_
      refine AllReadyH.cons rfl (fun K hK => ?_) AllReadyH.nil
      go_simp
      obtain ⟨V23, hE23⟩ : ∃ W, W = V22.alloc (.cells #[.int .i64 (-1)] 3) := ⟨_, rfl⟩
      rw [← hE23]
      have hw23 : Below V22.heap.size V22 V23 := by rw [hE23]; exact below_alloc _ _
      have hb23 : Below W0.heap.size W0 V23 := below_after hb22 hw23
      refine hK.out _ _ (HS.out _ hb23) (fun hH23 => ?_)
      clear hK K
      have HK23 : Hid (RowZ V23 W0.heap.size WD.heap.size n (fun _ => 0)) := HK22.out.below hw23
      have HC23 : Hid (V23.heap[V16.heap.size]? = some (.cells #[.slice none 0 0, .slice none 0 0] 116 (0, 0)) ∧ W0.heap.size ≤ V16.heap.size) := ⟨(hw23.block _ (lt_of_heap HC22.out.1)).trans HC22.out.1, HC22.out.2⟩
      have HL23 : Hid (V23.cell? ⟨V22.heap.size, 0, none⟩ = some (.int .i64 (-1)) ∧ V22.heap.size < V23.heap.size) := by rw [hE23]; exact ⟨cell_in (heap_new' _ _) 0, by simp⟩
      clear hE23
      refine wpAnyH_ready (rs := [4]) (by kernel_rfl) (by simp) ?_
      refine AllReadyH.cons rfl (fun K hK => ?_) AllReadyH.nil
      go_simp
      refine (HRP.out _ _ HL23.out.1 HL23.out.2).mono ?_
      rintro e V24 ⟨gf24, rfl, hr24, hq24⟩
      have hw24 : Below V23.heap.size V23 V24 := hq24
      have hb24 : Below W0.heap.size W0 V24 := below_after hb23 hw24
      refine hK.out _ _ (HS.out _ hb24) (fun hH24 => ?_)
      clear hK K
      have HK24 : Hid (RowZ V24 W0.heap.size WD.heap.size n (fun _ => 0)) := HK23.out.below hw24
      have HC24 : Hid (V24.heap[V16.heap.size]? = some (.cells #[.slice none 0 0, .slice none 0 0] 116 (0, 0)) ∧ W0.heap.size ≤ V16.heap.size) := ⟨(hw24.block _ (lt_of_heap HC23.out.1)).trans HC23.out.1, HC23.out.2⟩
      have HG24 : Hid (RowZ V24 W0.heap.size gf24 n (fun _ => -1)) := own_mono13 hr24 hb23.size
      have hne24 : gf24 ≠ WD.heap.size := fun e => by
        have h1 := hr24.lt.2
        have h2 := HK23.out.lt.1
        omega
      refine wpAnyH_take (i := 9) (v := .agg #[.slice (some ⟨gf24, 0, none⟩) n n, .slice (some ⟨WD.heap.size, 0, none⟩) n n]) rfl (by kernel_rfl) (by kernel_rfl) (by kernel_rfl) (fun _ _ _ h => h) (Or.inl ⟨by rfl, fun W9 hSw => by replace hSw : W9.cell? ⟨w.heap.size, 0, none⟩ = some (.slice na n nc) := hSw; go_simp⟩) hH24 ?_
      simp only [List.getElem_toArray, List.getElem_cons_succ, List.getElem_cons_zero, Act.put, List.setIfInBounds_toArray, List.set_cons_zero, List.set_cons_succ]
      refine wpAnyH_ready (rs := [11]) (by kernel_rfl) (by simp) ?_
      refine AllReadyH.cons rfl (fun K hK => ?_) AllReadyH.nil
      have z0 := cell_in HC24.out.1 0
      have z1 := cell_in HC24.out.1 1
      have zl := lt_of_heap HC24.out.1
      have zf : V24.frozen? ⟨V16.heap.size, 0, none⟩ = false := by simp [World.frozen?, HC24.out.1]
      have zg : V24.frozen? ⟨V16.heap.size, 1, none⟩ = false := by simp [World.frozen?, HC24.out.1]
      simp at z0 z1
      go_simp
      refine hK.out _ _ (HS.out _ (ChR.fin HG24.out HK24.out HC24.out hb24 hne24).bl) (fun hHx => ?_)
      clear hK K
      refine wpAnyH_done (by kernel_rfl) ?_ _
      refine NoPanic.normal ?_
      go_wp2
      go_meet
      exact ⟨V16.heap.size, gf24, WD.heap.size, rfl, ChR.fin HG24.out HK24.out HC24.out hb24 hne24⟩
    refine AllReadyH.cons rfl (fun K hK => ?_) AllReadyH.nil
    go_simp
    obtain ⟨V25, hE25⟩ : ∃ W, W = WD.alloc (.cells #[.slice none 0 0, .slice none 0 0] 116) := ⟨_, rfl⟩
    rw [← hE25]
    have hw25 : Below WD.heap.size WD V25 := by rw [hE25]; exact below_alloc _ _
    have hb25 : Below W0.heap.size W0 V25 := below_after hbD hw25
    refine hK.out _ _ (HS.out _ hb25) (fun hH25 => ?_)
    clear hK K
    have HC25 : Hid (V25.heap[WD.heap.size]? = some (.cells #[.slice none 0 0, .slice none 0 0] 116 (0, 0)) ∧ W0.heap.size ≤ WD.heap.size) := by rw [hE25]; exact ⟨heap_new' _ _, hbD.size⟩
    clear hE25
    refine wpAnyH_ready (rs := [0, 8]) (by kernel_rfl) (by simp) ?_
    refine AllReadyH.cons rfl (fun K hK => ?_) ?_
    · go_simp
      obtain ⟨V26, hE26⟩ : ∃ W, W = V25.alloc (.cells #[.int .i64 (-1)] 3) := ⟨_, rfl⟩
      rw [← hE26]
      have hw26 : Below V25.heap.size V25 V26 := by rw [hE26]; exact below_alloc _ _
      have hb26 : Below W0.heap.size W0 V26 := below_after hb25 hw26
      refine hK.out _ _ (HS.out _ hb26) (fun hH26 => ?_)
      clear hK K
      have HC26 : Hid (V26.heap[WD.heap.size]? = some (.cells #[.slice none 0 0, .slice none 0 0] 116 (0, 0)) ∧ W0.heap.size ≤ WD.heap.size) := ⟨(hw26.block _ (lt_of_heap HC25.out.1)).trans HC25.out.1, HC25.out.2⟩
      have HL26 : Hid (V26.cell? ⟨V25.heap.size, 0, none⟩ = some (.int .i64 (-1)) ∧ V25.heap.size < V26.heap.size) := by rw [hE26]; exact ⟨cell_in (heap_new' _ _) 0, by simp⟩
      clear hE26
      refine wpAnyH_ready (rs := [4, 8]) (by kernel_rfl) (by simp) ?_
      refine AllReadyH.cons rfl (fun K hK => ?_) ?_
      · go_simp
        refine (HRP.out _ _ HL26.out.1 HL26.out.2).mono ?_
        rintro e V27 ⟨gf27, rfl, hr27, hq27⟩
        have hw27 : Below V26.heap.size V26 V27 := hq27
        have hb27 : Below W0.heap.size W0 V27 := below_after hb26 hw27
        refine hK.out _ _ (HS.out _ hb27) (fun hH27 => ?_)
        clear hK K
        have HC27 : Hid (V27.heap[WD.heap.size]? = some (.cells #[.slice none 0 0, .slice none 0 0] 116 (0, 0)) ∧ W0.heap.size ≤ WD.heap.size) := ⟨(hw27.block _ (lt_of_heap HC26.out.1)).trans HC26.out.1, HC26.out.2⟩
        have HG27 : Hid (RowZ V27 W0.heap.size gf27 n (fun _ => -1)) := own_mono13 hr27 hb26.size
        refine wpAnyH_ready (rs := [8]) (by kernel_rfl) (by simp) ?_
        refine AllReadyH.cons rfl (fun K hK => ?_) AllReadyH.nil
        go_simp
        obtain ⟨V28, hE28⟩ : ∃ W, W = V27.alloc (.cells (madeCells #[.int .i64 0] n) 3) := ⟨_, rfl⟩
        rw [← hE28]
        have hw28 : Below V27.heap.size V27 V28 := by rw [hE28]; exact below_alloc _ _
        have hb28 : Below W0.heap.size W0 V28 := below_after hb27 hw28
        refine hK.out _ _ (HS.out _ hb28) (fun hH28 => ?_)
        clear hK K
        have HG28 : Hid (RowZ V28 W0.heap.size gf27 n (fun _ => -1)) := HG27.out.below hw28
        have HC28 : Hid (V28.heap[WD.heap.size]? = some (.cells #[.slice none 0 0, .slice none 0 0] 116 (0, 0)) ∧ W0.heap.size ≤ WD.heap.size) := ⟨(hw28.block _ (lt_of_heap HC27.out.1)).trans HC27.out.1, HC27.out.2⟩
        have HK28 : Hid (RowZ V28 W0.heap.size V27.heap.size n (fun _ => 0)) := by rw [hE28]; exact rowZ_made V27 hb27.size (by unfold maxLen; omega)
        have hne28 : gf27 ≠ V27.heap.size := fun e => by
          have h2 := HG27.out.lt.1
          omega
        clear hE28
        refine wpAnyH_take (i := 9) (v := .agg #[.slice (some ⟨gf27, 0, none⟩) n n, .slice (some ⟨V27.heap.size, 0, none⟩) n n]) rfl (by kernel_rfl) (by kernel_rfl) (by kernel_rfl) (fun _ _ _ h => h) (Or.inl ⟨by rfl, fun W9 hSw => by replace hSw : W9.cell? ⟨w.heap.size, 0, none⟩ = some (.slice na n nc) := hSw; go_simp⟩) hH28 ?_
        simp only [List.getElem_toArray, List.getElem_cons_succ, List.getElem_cons_zero, Act.put, List.setIfInBounds_toArray, List.set_cons_zero, List.set_cons_succ]
        refine wpAnyH_ready (rs := [11]) (by kernel_rfl) (by simp) ?_
        refine AllReadyH.cons rfl (fun K hK => ?_) AllReadyH.nil
        have z0 := cell_in HC28.out.1 0
        have z1 := cell_in HC28.out.1 1
        have zl := lt_of_heap HC28.out.1
        have zf : V28.frozen? ⟨WD.heap.size, 0, none⟩ = false := by simp [World.frozen?, HC28.out.1]
        have zg : V28.frozen? ⟨WD.heap.size, 1, none⟩ = false := by simp [World.frozen?, HC28.out.1]
        simp at z0 z1
        go_simp
        refine hK.out _ _ (HS.out _ (ChR.fin HG28.out HK28.out HC28.out hb28 hne28).bl) (fun hHx => ?_)
        clear hK K
        refine wpAnyH_done (by kernel_rfl) ?_ _
        refine NoPanic.normal ?_
        go_wp2
        go_meet
        exact ⟨WD.heap.size, gf27, V27.heap.size, rfl, ChR.fin HG28.out HK28.out HC28.out hb28 hne28⟩
      refine AllReadyH.cons rfl (fun K hK => ?_) AllReadyH.nil
      go_simp
      obtain ⟨V29, hE29⟩ : ∃ W, W = V26.alloc (.cells (madeCells #[.int .i64 0] n) 3) := ⟨_, rfl⟩
      rw [← hE29]
      have hw29 : Below V26.heap.size V26 V29 := by rw [hE29]; exact below_alloc _ _
      have hb29 : Below W0.heap.size W0 V29 := below_after hb26 hw29
      refine hK.out _ _ (HS.out _ hb29) (fun hH29 => ?_)
      clear hK K
      have HL29 : Hid (V29.cell? ⟨V25.heap.size, 0, none⟩ = some (.int .i64 (-1)) ∧ V25.heap.size < V29.heap.size) := ⟨(hw29.cell (p := ⟨V25.heap.size, 0, none⟩) HL26.out.2).trans HL26.out.1, Nat.lt_of_lt_of_le HL26.out.2 hw29.size⟩
      have HC29 : Hid (V29.heap[WD.heap.size]? = some (.cells #[.slice none 0 0, .slice none 0 0] 116 (0, 0)) ∧ W0.heap.size ≤ WD.heap.size) := ⟨(hw29.block _ (lt_of_heap HC26.out.1)).trans HC26.out.1, HC26.out.2⟩
      have HK29 : Hid (RowZ V29 W0.heap.size V26.heap.size n (fun _ => 0)) := by rw [hE29]; exact rowZ_made V26 hb26.size (by unfold maxLen; omega)
      clear hE29
      refine wpAnyH_ready (rs := [4]) (by kernel_rfl) (by simp) ?_
      refine AllReadyH.cons rfl (fun K hK => ?_) AllReadyH.nil
      go_simp
      refine (HRP.out _ _ HL29.out.1 HL29.out.2).mono ?_
      rintro e V30 ⟨gf30, rfl, hr30, hq30⟩
      have hw30 : Below V29.heap.size V29 V30 := hq30
      have hb30 : Below W0.heap.size W0 V30 := below_after hb29 hw30
      refine hK.out _ _ (HS.out _ hb30) (fun hH30 => ?_)
      clear hK K
      have HK30 : Hid (RowZ V30 W0.heap.size V26.heap.size n (fun _ => 0)) := HK29.out.below hw30
      have HC30 : Hid (V30.heap[WD.heap.size]? = some (.cells #[.slice none 0 0, .slice none 0 0] 116 (0, 0)) ∧ W0.heap.size ≤ WD.heap.size) := ⟨(hw30.block _ (lt_of_heap HC29.out.1)).trans HC29.out.1, HC29.out.2⟩
      have HG30 : Hid (RowZ V30 W0.heap.size gf30 n (fun _ => -1)) := own_mono13 hr30 hb29.size
      have hne30 : gf30 ≠ V26.heap.size := fun e => by
        have h1 := hr30.lt.2
        have h2 := HK29.out.lt.1
        omega
      refine wpAnyH_take (i := 9) (v := .agg #[.slice (some ⟨gf30, 0, none⟩) n n, .slice (some ⟨V26.heap.size, 0, none⟩) n n]) rfl (by kernel_rfl) (by kernel_rfl) (by kernel_rfl) (fun _ _ _ h => h) (Or.inl ⟨by rfl, fun W9 hSw => by replace hSw : W9.cell? ⟨w.heap.size, 0, none⟩ = some (.slice na n nc) := hSw; go_simp⟩) hH30 ?_
      simp only [List.getElem_toArray, List.getElem_cons_succ, List.getElem_cons_zero, Act.put, List.setIfInBounds_toArray, List.set_cons_zero, List.set_cons_succ]
      refine wpAnyH_ready (rs := [11]) (by kernel_rfl) (by simp) ?_
      refine AllReadyH.cons rfl (fun K hK => ?_) AllReadyH.nil
      have z0 := cell_in HC30.out.1 0
      have z1 := cell_in HC30.out.1 1
      have zl := lt_of_heap HC30.out.1
      have zf : V30.frozen? ⟨WD.heap.size, 0, none⟩ = false := by simp [World.frozen?, HC30.out.1]
      have zg : V30.frozen? ⟨WD.heap.size, 1, none⟩ = false := by simp [World.frozen?, HC30.out.1]
      simp at z0 z1
      go_simp
      refine hK.out _ _ (HS.out _ (ChR.fin HG30.out HK30.out HC30.out hb30 hne30).bl) (fun hHx => ?_)
      clear hK K
      refine wpAnyH_done (by kernel_rfl) ?_ _
      refine NoPanic.normal ?_
      go_wp2
      go_meet
      exact ⟨WD.heap.size, gf30, V26.heap.size, rfl, ChR.fin HG30.out HK30.out HC30.out hb30 hne30⟩
    refine AllReadyH.cons rfl (fun K hK => ?_) AllReadyH.nil
    go_simp
    obtain ⟨V31, hE31⟩ : ∃ W, W = V25.alloc (.cells (madeCells #[.int .i64 0] n) 3) := ⟨_, rfl⟩
    rw [← hE31]
    have hw31 : Below V25.heap.size V25 V31 := by rw [hE31]; exact below_alloc _ _
    have hb31 : Below W0.heap.size W0 V31 := below_after hb25 hw31
    refine hK.out _ _ (HS.out _ hb31) (fun hH31 => ?_)
    clear hK K
    have HC31 : Hid (V31.heap[WD.heap.size]? = some (.cells #[.slice none 0 0, .slice none 0 0] 116 (0, 0)) ∧ W0.heap.size ≤ WD.heap.size) := ⟨(hw31.block _ (lt_of_heap HC25.out.1)).trans HC25.out.1, HC25.out.2⟩
    have HK31 : Hid (RowZ V31 W0.heap.size V25.heap.size n (fun _ => 0)) := by rw [hE31]; exact rowZ_made V25 hb25.size (by unfold maxLen; omega)
    clear hE31
    refine wpAnyH_ready (rs := [0]) (by kernel_rfl) (by simp) ?_
    refine AllReadyH.cons rfl (fun K hK => ?_) AllReadyH.nil
    go_simp
    obtain ⟨V32, hE32⟩ : ∃ W, W = V31.alloc (.cells #[.int .i64 (-1)] 3) := ⟨_, rfl⟩
    rw [← hE32]
    have hw32 : Below V31.heap.size V31 V32 := by rw [hE32]; exact below_alloc _ _
    have hb32 : Below W0.heap.size W0 V32 := below_after hb31 hw32
    refine hK.out _ _ (HS.out _ hb32) (fun hH32 => ?_)
    clear hK K
    have HK32 : Hid (RowZ V32 W0.heap.size V25.heap.size n (fun _ => 0)) := HK31.out.below hw32
    have HC32 : Hid (V32.heap[WD.heap.size]? = some (.cells #[.slice none 0 0, .slice none 0 0] 116 (0, 0)) ∧ W0.heap.size ≤ WD.heap.size) := ⟨(hw32.block _ (lt_of_heap HC31.out.1)).trans HC31.out.1, HC31.out.2⟩
    have HL32 : Hid (V32.cell? ⟨V31.heap.size, 0, none⟩ = some (.int .i64 (-1)) ∧ V31.heap.size < V32.heap.size) := by rw [hE32]; exact ⟨cell_in (heap_new' _ _) 0, by simp⟩
    clear hE32
    refine wpAnyH_ready (rs := [4]) (by kernel_rfl) (by simp) ?_
    refine AllReadyH.cons rfl (fun K hK => ?_) AllReadyH.nil
    go_simp
    refine (HRP.out _ _ HL32.out.1 HL32.out.2).mono ?_
    rintro e V33 ⟨gf33, rfl, hr33, hq33⟩
    have hw33 : Below V32.heap.size V32 V33 := hq33
    have hb33 : Below W0.heap.size W0 V33 := below_after hb32 hw33
    refine hK.out _ _ (HS.out _ hb33) (fun hH33 => ?_)
    clear hK K
    have HK33 : Hid (RowZ V33 W0.heap.size V25.heap.size n (fun _ => 0)) := HK32.out.below hw33
    have HC33 : Hid (V33.heap[WD.heap.size]? = some (.cells #[.slice none 0 0, .slice none 0 0] 116 (0, 0)) ∧ W0.heap.size ≤ WD.heap.size) := ⟨(hw33.block _ (lt_of_heap HC32.out.1)).trans HC32.out.1, HC32.out.2⟩
    have HG33 : Hid (RowZ V33 W0.heap.size gf33 n (fun _ => -1)) := own_mono13 hr33 hb32.size
    have hne33 : gf33 ≠ V25.heap.size := fun e => by
      have h1 := hr33.lt.2
      have h2 := HK32.out.lt.1
      omega
    refine wpAnyH_take (i := 9) (v := .agg #[.slice (some ⟨gf33, 0, none⟩) n n, .slice (some ⟨V25.heap.size, 0, none⟩) n n]) rfl (by kernel_rfl) (by kernel_rfl) (by kernel_rfl) (fun _ _ _ h => h) (Or.inl ⟨by rfl, fun W9 hSw => by replace hSw : W9.cell? ⟨w.heap.size, 0, none⟩ = some (.slice na n nc) := hSw; go_simp⟩) hH33 ?_
    simp only [List.getElem_toArray, List.getElem_cons_succ, List.getElem_cons_zero, Act.put, List.setIfInBounds_toArray, List.set_cons_zero, List.set_cons_succ]
    refine wpAnyH_ready (rs := [11]) (by kernel_rfl) (by simp) ?_
    refine AllReadyH.cons rfl (fun K hK => ?_) AllReadyH.nil
    have z0 := cell_in HC33.out.1 0
    have z1 := cell_in HC33.out.1 1
    have zl := lt_of_heap HC33.out.1
    have zf : V33.frozen? ⟨WD.heap.size, 0, none⟩ = false := by simp [World.frozen?, HC33.out.1]
    have zg : V33.frozen? ⟨WD.heap.size, 1, none⟩ = false := by simp [World.frozen?, HC33.out.1]
    simp at z0 z1
    go_simp
    refine hK.out _ _ (HS.out _ (ChR.fin HG33.out HK33.out HC33.out hb33 hne33).bl) (fun hHx => ?_)
    clear hK K
    refine wpAnyH_done (by kernel_rfl) ?_ _
    refine NoPanic.normal ?_
    go_wp2
    go_meet
    exact ⟨WD.heap.size, gf33, V25.heap.size, rfl, ChR.fin HG33.out HK33.out HC33.out hb33 hne33⟩
  case rest =>
  obtain ⟨b, gf, gn, rfl, HR⟩ := hcut
  obtain ⟨w1, hw1⟩ : ∃ W, W = wc := ⟨_, rfl⟩
  rw [← hw1] at HR ⊢
  clear hw1 a0 al hnw hmk
  obtain ⟨a0, al⟩ := HBX.out w1 HR.out.bl
  have HOT : Hid (∀ W, Below w1.heap.size w1 W → w.heap.size < W.heap.size ∧ W.cell? ⟨w.heap.size, 0, none⟩ = some (.slice na n nc) ∧ Below w.heap.size w W) := fun W hb => by
    have h1 := HBX.out W (below_after HR.out.bl hb)
    exact ⟨h1.2, h1.1, below_after HD.out.2.2.1 (below_after HR.out.bl hb)⟩
  -- the rounds write gf and gn alone
  go_wp2
  go_loopw [22] (fun x22 wr => ∃ i : Nat, i ≤ n ∧ x22 = .int .i64 (i : Int) ∧ Hid (RowZ wr W0.heap.size gf n (fun t => prv M c t i)) ∧ Hid (RowZ wr W0.heap.size gn n (fun s => if s < i then prv M c (M.d s c) s else 0)) ∧ Hid (CBox wr b gf gn n ∧ Below W0.heap.size W0 wr)) (fun x22 _ => n - (intOf x22).toNat)
  case atStart => exact ⟨0, Nat.zero_le _, rfl, HR.out.fst, HR.out.nxt.same (fun x _ => by simp), ⟨HR.out.box, HR.out.bl⟩⟩
  case round =>
    obtain ⟨i, hi, rfl, HF, HX, HB⟩ := hrel
    by_cases hil : i < n
    · have hbw : Below w.heap.size w wr := below_after HD.out.2.2.1 HB.out.2
      obtain ⟨ga, oa, yc, g2, o2, e1, l1, z1, l2, hrow⟩ := at_row (HAT.out wr hbw) hil (by omega)
      obtain ⟨r0, r1⟩ := hrow c hc
      subst e1
      obtain ⟨T, hT⟩ : ∃ y, y = M.d i c := ⟨_, rfl⟩
      have HT : Hid (T = M.d i c) := hT
      rw [← hT] at r0 r1
      have c0 := cell_in HB.out.1 0
      have c1 := cell_in HB.out.1 1
      have cl := lt_of_heap HB.out.1
      simp at c0 c1
      have f0 := HF.out.at r1
      have fl := HF.out.lt.1
      have ff := HF.out.nf T
      have HF2 : Hid (RowZ (wr.setCell ⟨gf, T, none⟩ (.int .i64 (i : Int))) W0.heap.size gf n (fun t => prv M c t (i + 1))) := (HF.out.set r1 (i : Int)).same (fun t ht => by
        have e : prv M c t (i + 1) = if M.d i c = t then (i : Int) else prv M c t i := rfl
        rw [e, ← HT.out]
        unfold upZ
        by_cases q : t = T
        · rw [if_pos q, if_pos q.symm]
        · rw [if_neg q, if_neg (Ne.symm q)])
      have HX1 : Hid (RowZ (wr.setCell ⟨gf, T, none⟩ (.int .i64 (i : Int))) W0.heap.size gn n (fun s => if s < i then prv M c (M.d s c) s else 0)) := HX.out.blk (((OnlyB.refl gf wr).set _ _).block _ (Ne.symm HR.out.ne))
      have x0 := HX1.out.at hil
      have xl := HX1.out.lt.1
      have xf := HX1.out.nf i
      rw [if_neg (Nat.lt_irrefl _)] at x0
      obtain ⟨pv, hpv⟩ : ∃ y, y = prv M c T i := ⟨_, rfl⟩
      have HPV : Hid (pv = prv M c T i) := hpv
      rw [← hpv] at f0
      have hO : OnlyB gn (wr.setCell ⟨gf, T, none⟩ (.int .i64 (i : Int))) ((wr.setCell ⟨gf, T, none⟩ (.int .i64 (i : Int))).setCell ⟨gn, i, none⟩ (.int .i64 pv)) := (OnlyB.refl _ _).set _ _
      have HF3 : Hid (RowZ (((wr.setCell ⟨gf, T, none⟩ (.int .i64 (i : Int))).setCell ⟨gn, i, none⟩ (.int .i64 pv))).drew W0.heap.size gf n (fun t => prv M c t (i + 1))) := (HF2.out.blk (hO.block _ HR.out.ne)).below (Below.refl _ _).drew
      have HX3 : Hid (RowZ (((wr.setCell ⟨gf, T, none⟩ (.int .i64 (i : Int))).setCell ⟨gn, i, none⟩ (.int .i64 pv))).drew W0.heap.size gn n (fun s => if s < i + 1 then prv M c (M.d s c) s else 0)) := ((HX1.out.set hil pv).same (fun s hs => by
        show upZ _ i _ s = _
        unfold upZ
        by_cases q : s = i
        · rw [if_pos q, if_pos (by omega), HPV.out, HT.out, q]
        · rw [if_neg q]
          show (if s < i then prv M c (M.d s c) s else 0) = _
          by_cases q2 : s < i
          · rw [if_pos q2, if_pos (by omega)]
          · rw [if_neg q2, if_neg (by omega)])).below (Below.refl _ _).drew
      have hgb : ∀ g L, RowZ wr W0.heap.size g n L → g ≠ b := fun g L h e => by
        obtain ⟨cs, hcs⟩ := h.typed
        rw [e] at hcs
        exact absurd (typ_ne hcs HB.out.1) (by decide)
      have HB3 : Hid (CBox (((wr.setCell ⟨gf, T, none⟩ (.int .i64 (i : Int))).setCell ⟨gn, i, none⟩ (.int .i64 pv))).drew b gf gn n ∧ Below W0.heap.size W0 (((wr.setCell ⟨gf, T, none⟩ (.int .i64 (i : Int))).setCell ⟨gn, i, none⟩ (.int .i64 pv))).drew) := ⟨(hO.block _ (Ne.symm (hgb _ _ HX.out))).trans ((((OnlyB.refl gf wr).set _ _).block _ (Ne.symm (hgb _ _ HF.out))).trans HB.out.1), ((HB.out.2.setCell (p := ⟨gf, T, none⟩) HF.out.lt.2 _).setCell (p := ⟨gn, i, none⟩) HX.out.lt.2 _).drew⟩
      have hbx2 := (((OnlyB.refl gf wr).set T (.int .i64 (i : Int))).block _ (Ne.symm (hgb _ _ HF.out))).trans HB.out.1
      have d0 := cell_in hbx2 0
      have d1 := cell_in hbx2 1
      have dl := lt_of_heap hbx2
      simp at d0 d1
      have hi0 : (0 : Int) ≤ (i : Int) := by omega
      have hi1 : (i : Int) < (n : Int) := by omega
      have hT0 : (0 : Int) ≤ (T : Int) := by omega
      have hT1 : (T : Int) < (n : Int) := by omega
      have hc0 : (0 : Int) ≤ (c : Int) := by omega
      have hc1 : (c : Int) < (C : Int) := by omega
      clear hT hpv hO hgb hrow hbw HF2 hbx2
      go_upto_region 6 with fail
      go_region
      all_goals (
        go_wp2
        go_roundw
        case rel => exact ⟨i + 1, by omega, by go_num, HF3, HX3, HB3⟩
        case measure => simp [intOf]; omega)
    · obtain rfl : i = n := by omega
      have c0 := cell_in HB.out.1 0
      have c1 := cell_in HB.out.1 1
      have cl := lt_of_heap HB.out.1
      simp at c0 c1
      have HRS : Hid (wr.heap[w.heap.size + 1]? = some (.cells #[.slice none 0 0, .slice none 0 0] 116 (0, 0))) := (HB.out.2.block _ (by have := HD.out.2.2.2; omega)).trans HD.out.2.1
      have r0 := cell_in HRS.out 0
      have r1 := cell_in HRS.out 1
      have rl := lt_of_heap HRS.out
      have rf : wr.frozen? ⟨w.heap.size + 1, 0, none⟩ = false := by simp [World.frozen?, HRS.out]
      have rg : wr.frozen? ⟨w.heap.size + 1, 1, none⟩ = false := by simp [World.frozen?, HRS.out]
      simp at r0 r1
      go_wp2
      refine bodyPost_ret (results_cell_row rfl _ _ (w.heap.size + 1) 116 #[.slice (some ⟨gf, 0, none⟩) i i, .slice (some ⟨gn, 0, none⟩) i i] (0, 0) _ rfl ?_ Tryz.underlying116 rfl (by kernel_rfl)) rfl ?_
      · have := heap_setN (i := 1) (heap_setN (i := 0) HRS.out (.slice (some ⟨gf, 0, none⟩) i i)) (.slice (some ⟨gn, 0, none⟩) i i)
        simpa using this
      · have hO : OnlyB (w.heap.size + 1) wr ((wr.setCell ⟨w.heap.size + 1, 0, none⟩ (.slice (some ⟨gf, 0, none⟩) i i)).setCell ⟨w.heap.size + 1, 1, none⟩ (.slice (some ⟨gn, 0, none⟩) i i)) := ((OnlyB.refl _ _).set _ _).set _ _
        have h2 := HD.out.2.2.2
        have k1 := HF.out.lt.2
        have k2 := HX.out.lt.2
        refine ⟨gf, gn, HR.out.ne, rfl, ?_, ?_, ?_⟩
        · exact own_mono13 (HF.out.blk (hO.block _ (by omega))) (by omega)
        · exact own_mono13 ((HX.out.same (fun s hs => by rw [if_pos hs])).blk (hO.block _ (by omega))) (by omega)
        · exact ((below_after HD.out.2.2.1 HB.out.2).setCell (p := ⟨w.heap.size + 1, 0, none⟩) (Nat.le_succ _) _).setCell (p := ⟨w.heap.size + 1, 1, none⟩) (Nat.le_succ _) _
end Go.Proofs.YtklhjjgnhigbiaaGreatDoor
