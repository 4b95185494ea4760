/-
  scansionlaw10.MatchSigns.
-/
import Derived.Test.YtlllmoelhholfaaMtLaw
import Derived.Deep.CutRange
namespace Go.Proofs.Ytlllmoelhholfaa
open Go.RowKit Go.Shelf
set_option linter.unusedVariables false

theorem index_at0 (x0 x1 x2 x3 x4 x5 x6 x7 x8 : Value) (W : World) : (Instr.index 32 (.agg #[x0, x1, x2, x3, x4, x5, x6, x7, x8]) (.int .i64 0)).run Try.prog W = .ok (.agg #[x0, x1, x2]) W := by kernel_rfl
theorem index_at1 (x0 x1 x2 x3 x4 x5 x6 x7 x8 : Value) (W : World) : (Instr.index 32 (.agg #[x0, x1, x2, x3, x4, x5, x6, x7, x8]) (.int .i64 1)).run Try.prog W = .ok (.agg #[x3, x4, x5]) W := by kernel_rfl
theorem index_at2 (x0 x1 x2 x3 x4 x5 x6 x7 x8 : Value) (W : World) : (Instr.index 32 (.agg #[x0, x1, x2, x3, x4, x5, x6, x7, x8]) (.int .i64 2)).run Try.prog W = .ok (.agg #[x6, x7, x8]) W := by kernel_rfl
set_option maxRecDepth 100000 in
set_option maxHeartbeats 64000000 in
theorem matchSigns_any (a : Nd) (za : Value) (wa : Option Addr) (wk : Nat) (ws : List Nat) (w : World) (ha : KdX (fun k => k < w.heap.size) w za a.kids) (hw : WrdAt w.heap.size w (.slice wa ws.length wk) ws) :
    Calls Try.prog 6 #[ndV a za, .slice wa ws.length wk] w fun e w' => e = .returned (.bool true) ∧ Below w.heap.size w w' := by
  obtain ⟨xa, ca, rfl, _⟩ := ha.slice
  obtain ⟨W0, hW0⟩ : ∃ W, W = w.alloc (.cells #[.int .i64 a.k, .int .i64 a.s, .slice xa a.kids.length ca] 24) := ⟨_, rfl⟩
  have hB0 : Below w.heap.size w W0 := by rw [hW0]; exact below_alloc _ _
  have hbA : Box W0 w.heap.size a.k a.s (.slice xa a.kids.length ca) := by rw [hW0]; exact box_new _ _ _ _
  have HA : Hid (KdX (fun k => k < w.heap.size) w (.slice xa a.kids.length ca) a.kids) := ha
  have HW : Hid (WrdAt w.heap.size w (.slice wa ws.length wk) ws) := hw
  have HFA : Hid (∀ W, Below w.heap.size w W → Calls Try.prog 10 #[ndV a (.slice xa a.kids.length ca), .slice wa ws.length wk] W fun e w' => ∃ b, e = .returned (.bool b) ∧ (b = true → Dp 12 a.kids ∧ ws.length ≤ 30) ∧ Below W.heap.size W w') := fun W h => few_any a _ wa ws.length wk W (kdx_below ha h)
  unfold ndV at HFA ⊢
  obtain ⟨ak, hak⟩ : ∃ x, x = a.k := ⟨_, rfl⟩
  obtain ⟨as1, has1⟩ : ∃ x, x = a.s := ⟨_, rfl⟩
  obtain ⟨al, hal⟩ : ∃ x, x = a.kids.length := ⟨_, rfl⟩
  obtain ⟨wl, hwl⟩ : ∃ x, x = ws.length := ⟨_, rfl⟩
  have HNA : Hid (ak = a.k ∧ as1 = a.s ∧ al = a.kids.length) := ⟨hak, has1, hal⟩
  have HWL : Hid (wl = ws.length) := hwl
  rw [← hak, ← has1, ← hal] at HFA hbA hW0 ⊢
  rw [← hal] at HA
  rw [← hwl] at HFA HW ⊢
  have HB0 : Hid (Below w.heap.size w W0) := hB0
  have HBA : Hid (Box W0 w.heap.size ak as1 (.slice xa al ca)) := hbA
  have haw := awake_any W0
  rw [hW0] at haw
  clear hak has1 hal hwl ha hw hB0 hbA
  go_enter Try.func6, Try.ntmps6
  go_wp2_with fail
  refine haw.mono ?_
  rintro e w1 ⟨rfl, hB1⟩
  rw [← hW0] at hB1
  have HB1 : Hid (Below W0.heap.size W0 w1) := hB1
  obtain ⟨a0, a1, a2⟩ : _ ∧ _ ∧ _ := ⟨(HBA.out.below hB1).c0, (HBA.out.below hB1).c1, (HBA.out.below hB1).c2⟩
  have hf1 := HFA.out w1 (below_after HB0.out hB1)
  clear haw hB1 hW0
  go_wp2_with fail
  refine hf1.mono ?_
  rintro e w3 ⟨ok1, rfl, ho1, hB3⟩
  have HB3 : Hid (Below W0.heap.size W0 w3) := below_after HB1.out hB3
  have HO1 : Hid (ok1 = true → Dp 12 a.kids ∧ ws.length ≤ 30) := fun h => (by have := ho1 h; rwa [HWL.out] at this)
  have HBW3 : Hid (Below w.heap.size w w3) := below_after HB0.out HB3.out
  clear hf1 hB3 a0 a1 a2 ho1
  cases ok1 with
  | false =>
    go_wp2
    go_ret
    exact ⟨rfl, HBW3.out⟩
  | true =>
  have HDA : Hid (Dp 12 a.kids) := (HO1.out rfl).1
  have hw30 : wl ≤ 30 := by have := (HO1.out rfl).2; have := HWL.out; omega
  obtain ⟨a0, a1, a2⟩ : _ ∧ _ ∧ _ := ⟨(HBA.out.below HB3.out).c0, (HBA.out.below HB3.out).c1, (HBA.out.below HB3.out).c2⟩
  have hlt1 : w.heap.size < w3.heap.size := (HBA.out.below HB3.out).lt
  clear HO1
  obtain ⟨V, hV⟩ : ∃ W, W = (((w3.alloc (.cells #[.int .i64 ak, .int .i64 as1, .slice xa al ca] 24)).alloc (.cells #[.int .i64 3, .int .i64 0, .slice (some ⟨w3.heap.size, 0, none⟩) 1 1] 24)).alloc (.cells #[.int .i64 ak, .int .i64 as1, .slice xa al ca] 24)).alloc (.cells #[.int .i64 4, .int .i64 0, .slice (some ⟨w3.heap.size + 1 + 1, 0, none⟩) 1 1] 24) := ⟨_, rfl⟩
  obtain ⟨p1, p2, p3, p4, hBV, hsV⟩ := alloc4 hV
  have HBXV : Hid (Box V w.heap.size ak as1 (.slice xa al ca)) := (HBA.out.below HB3.out).below hBV
  have g0 := HBXV.out.c0
  have g1 := HBXV.out.c1
  have g2 := HBXV.out.c2
  rw [hV] at g0 g1 g2
  obtain ⟨W4, hW4⟩ : ∃ W, W = (V.alloc (.cells #[.int .i64 ak, .int .i64 as1, .slice xa al ca] 24)).alloc (.cells #[.int .i64 5, .int .i64 0, .slice (some ⟨w3.heap.size + 1 + 1 + 1 + 1, 0, none⟩) 1 1] 24) := ⟨_, rfl⟩
  obtain ⟨p5, p6, hB4', hs4⟩ := alloc2 hW4
  have hB4 : Below w3.heap.size w3 W4 := hBV.trans (hB4'.mono (by omega))
  have HBW4 : Hid (Below w.heap.size w W4) := below_after HBW3.out hB4
  rw [hV] at hW4
  rw [hsV] at p5 p6
  have HBN : Hid (Box W4 w.heap.size ak as1 (.slice xa al ca)) := HBXV.out.below hB4'
  have HBS : Hid (Box W4 (w3.heap.size + 1) 3 0 (.slice (some ⟨w3.heap.size, 0, none⟩) 1 1)) := (hB4'.block _ (by omega)).trans p2
  have HBP : Hid (Box W4 (w3.heap.size + 1 + 1 + 1) 4 0 (.slice (some ⟨w3.heap.size + 1 + 1, 0, none⟩) 1 1)) := (hB4'.block _ (by omega)).trans p4
  have HBO : Hid (Box W4 (w3.heap.size + 1 + 1 + 1 + 1 + 1) 5 0 (.slice (some ⟨w3.heap.size + 1 + 1 + 1 + 1, 0, none⟩) 1 1)) := p6
  have HGS : Hid (W4.heap[w3.heap.size]? = some (.cells #[.int .i64 ak, .int .i64 as1, .slice xa al ca] 24)) := (hB4'.block _ (by omega)).trans p1
  have HGP : Hid (W4.heap[w3.heap.size + 1 + 1]? = some (.cells #[.int .i64 ak, .int .i64 as1, .slice xa al ca] 24)) := (hB4'.block _ (by omega)).trans p3
  have HGO : Hid (W4.heap[w3.heap.size + 1 + 1 + 1 + 1]? = some (.cells #[.int .i64 ak, .int .i64 as1, .slice xa al ca] 24)) := p5
  -- Whole of an expression with one part, that is a
  have HONE : Hid (∀ (W : World) (k : Int) (g : Nat), Below w.heap.size w W → W.heap[g]? = some (.cells #[.int .i64 ak, .int .i64 as1, .slice xa al ca] 24) → Calls Try.prog 13 #[.agg #[.int .i64 k, .int .i64 0, .slice (some ⟨g, 0, none⟩) 1 1], .slice wa wl wk] W fun e w' => e = .returned (.bool (wholeB ws ⟨k, 0, [a]⟩)) ∧ Below W.heap.size W w') := fun W k g hb hg => by
    have := whl_built (w := W) (d := 12) (k := k) (s := 0) (g := g) (l := [(a, .slice xa al ca)]) (c := 1) (wa := wa) (wc := wk) (ws := ws) (by omega) (by have := HWL.out; omega) (by rw [hg, HNA.out.1, HNA.out.2.1]; rfl) (by simp) (by simp) (by simp; exact kdx_below HA.out hb) (by simp; exact HDA.out) (by rw [← HWL.out]; exact wrd_below HW.out hb) (Below.refl _ _)
    unfold WhlC at this
    rw [← HWL.out] at this
    exact this
  clear hV p1 p2 p3 p4 p5 p6 hBV hsV hB4 hB4' hs4
  obtain ⟨vs, hvs⟩ : ∃ x, x = wholeB ws ⟨3, 0, [a]⟩ := ⟨_, rfl⟩
  have HVS : Hid (vs = wholeB ws ⟨3, 0, [a]⟩) := hvs
  have HTWO : Hid (∀ (W : World) (k : Int) (g h : Nat), Below w.heap.size w W → (k = 3 ∨ k = 4 ∨ k = 5) → W.heap[g]? = some (.cells #[.int .i64 ak, .int .i64 as1, .slice xa al ca] 24) → W.heap[h]? = some (.cells #[.int .i64 k, .int .i64 0, .slice (some ⟨g, 0, none⟩) 1 1] 24) → Calls Try.prog 13 #[.agg #[.int .i64 3, .int .i64 0, .slice (some ⟨h, 0, none⟩) 1 1], .slice wa wl wk] W fun e w' => e = .returned (.bool vs) ∧ Below W.heap.size W w') := fun W k g h hb hk hg hh => by
    have hka := kdx_below HA.out hb
    have hst : KdX (fun k => k < W.heap.size) W (.slice (some ⟨g, 0, none⟩) 1 1) [a] := kdx_built (l := [(a, .slice xa al ca)]) (c := 1) (by rw [hg, HNA.out.1, HNA.out.2.1]; rfl) (by simp) (by simp; exact hka)
    have := whl_built (w := W) (d := 13) (k := 3) (s := 0) (g := h) (l := [(⟨k, 0, [a]⟩, .slice (some ⟨g, 0, none⟩) 1 1)]) (c := 1) (wa := wa) (wc := wk) (ws := ws) (by omega) (by have := HWL.out; omega) (by rw [hh]; rfl) (by simp) (by simp) (by simp; exact hst) (by simp; exact dp_built (by simp) (by simp; exact HDA.out)) (by rw [← HWL.out]; exact wrd_below HW.out hb) (Below.refl _ _)
    unfold WhlC at this
    rw [← HWL.out] at this
    have e : wholeB ws ⟨3, 0, [⟨k, 0, [a]⟩]⟩ = vs := by
      rw [HVS.out, Bool.eq_iff_iff, wholeB_iff, wholeB_iff]
      exact signs_star ws a k hk
    rw [← e]
    exact this
  have s0 := HBS.out.c0
  have s1 := HBS.out.c1
  have s2 := HBS.out.c2
  have h4 := HONE.out W4 3 w3.heap.size HBW4.out HGS.out
  rw [← hvs] at h4
  rw [hW4] at h4 s0 s1 s2
  clear hvs
  go_wp2_with fail
  refine h4.mono ?_
  rintro e w5 ⟨rfl, hB5⟩
  rw [← hW4] at hB5
  clear hW4
  have HB5 : Hid (Below W4.heap.size W4 w5) := hB5
  have HBW5 : Hid (Below w.heap.size w w5) := below_after HBW4.out hB5
  clear h4 hB5 s0 s1 s2 g0 g1 g2 a0 a1 a2
  obtain ⟨vp, hvp⟩ : ∃ x, x = wholeB ws ⟨4, 0, [a]⟩ := ⟨_, rfl⟩
  have HP5 : Hid (∀ W, Below w5.heap.size w5 W → Calls Try.prog 13 #[.agg #[.int .i64 4, .int .i64 0, .slice (some ⟨w3.heap.size + 1 + 1, 0, none⟩) 1 1], .slice wa wl wk] W fun e w' => e = .returned (.bool vp) ∧ Below W.heap.size W w') := fun W h => by
    have hb := below_after HB5.out h
    have := HONE.out W 4 _ (below_after HBW4.out hb) ((hb.block _ (lt_of_heap HGP.out)).trans HGP.out)
    rw [← hvp] at this
    exact this
  have HC5 : Hid (∀ (W : World) (g : Nat), Below w5.heap.size w5 W → W.heap[g]? = some (.cells #[.int .i64 ak, .int .i64 as1, .slice xa al ca, .int .i64 3, .int .i64 0, .slice (some ⟨w3.heap.size, 0, none⟩) 1 1] 24) → Calls Try.prog 13 #[.agg #[.int .i64 0, .int .i64 0, .slice (some ⟨g, 0, none⟩) 2 2], .slice wa wl wk] W fun e w' => e = .returned (.bool vp) ∧ Below W.heap.size W w') := fun W g h hg => by
    have hb := below_after HB5.out h
    have hbw := below_after HBW4.out hb
    have hk := kdx_below HA.out hbw
    have hst : KdX (fun k => k < W.heap.size) W (.slice (some ⟨w3.heap.size, 0, none⟩) 1 1) [a] := kdx_built (l := [(a, .slice xa al ca)]) (c := 1) (by rw [hb.block _ (lt_of_heap HGS.out), HGS.out, HNA.out.1, HNA.out.2.1]; rfl) (by simp) (by simp; exact hk)
    have := whl_built (w := W) (d := 13) (k := 0) (s := 0) (g := g) (l := [(a, .slice xa al ca), (⟨3, 0, [a]⟩, .slice (some ⟨w3.heap.size, 0, none⟩) 1 1)]) (c := 2) (wa := wa) (wc := wk) (ws := ws) (by omega) (by have := HWL.out; omega) (by rw [hg, HNA.out.1, HNA.out.2.1]; rfl) (by simp) (by simp) (by simp; exact ⟨hk, hst⟩) (by simp; exact ⟨HDA.out.more 1, dp_built (by simp) (by simp; exact HDA.out)⟩) (by rw [← HWL.out]; exact wrd_below HW.out hbw) (Below.refl _ _)
    unfold WhlC at this
    rw [← HWL.out] at this
    have e : wholeB ws ⟨0, 0, [a, ⟨3, 0, [a]⟩]⟩ = vp := by
      rw [hvp, Bool.eq_iff_iff, wholeB_iff, wholeB_iff]
      exact (signs_plus ws a).symm
    rw [← e]
    exact this
  have HKP : Hid (∀ W, Below w5.heap.size w5 W → W.cell? ⟨w3.heap.size + 1 + 1 + 1, 0, none⟩ = some (.int .i64 4) ∧ W.cell? ⟨w3.heap.size + 1 + 1 + 1, 1, none⟩ = some (.int .i64 0) ∧ W.cell? ⟨w3.heap.size + 1 + 1 + 1, 2, none⟩ = some (.slice (some ⟨w3.heap.size + 1 + 1, 0, none⟩) 1 1) ∧ W.cell? ⟨w.heap.size, 0, none⟩ = some (.int .i64 ak) ∧ W.cell? ⟨w.heap.size, 1, none⟩ = some (.int .i64 as1) ∧ W.cell? ⟨w.heap.size, 2, none⟩ = some (.slice xa al ca) ∧ W.cell? ⟨w3.heap.size + 1, 0, none⟩ = some (.int .i64 3) ∧ W.cell? ⟨w3.heap.size + 1, 1, none⟩ = some (.int .i64 0) ∧ W.cell? ⟨w3.heap.size + 1, 2, none⟩ = some (.slice (some ⟨w3.heap.size, 0, none⟩) 1 1)) := fun W h => by
    have hb := below_after HB5.out h
    exact ⟨(HBP.out.below hb).c0, (HBP.out.below hb).c1, (HBP.out.below hb).c2, (HBN.out.below hb).c0, (HBN.out.below hb).c1, (HBN.out.below hb).c2, (HBS.out.below hb).c0, (HBS.out.below hb).c1, (HBS.out.below hb).c2⟩
  obtain ⟨x0, x1, x2, y0, y1, y2, z0, z1, z2⟩ := HKP.out w5 (Below.refl _ _)
  clear hvp
  go_upto_region 9 with fail
  go_cut [46] from 37 to 46 (fun s wx => s = .bool false ∧ Hid (Below w5.heap.size w5 wx))
  case first =>
    go_region_held3 (fun W => W.cell? ⟨w3.heap.size + 1 + 1 + 1, 0, none⟩ = some (.int .i64 4) ∧ W.cell? ⟨w3.heap.size + 1 + 1 + 1, 1, none⟩ = some (.int .i64 0) ∧ W.cell? ⟨w3.heap.size + 1 + 1 + 1, 2, none⟩ = some (.slice (some ⟨w3.heap.size + 1 + 1, 0, none⟩) 1 1) ∧ W.cell? ⟨w.heap.size, 0, none⟩ = some (.int .i64 ak) ∧ W.cell? ⟨w.heap.size, 1, none⟩ = some (.int .i64 as1) ∧ W.cell? ⟨w.heap.size, 2, none⟩ = some (.slice xa al ca) ∧ W.cell? ⟨w3.heap.size + 1, 0, none⟩ = some (.int .i64 3) ∧ W.cell? ⟨w3.heap.size + 1, 1, none⟩ = some (.int .i64 0) ∧ W.cell? ⟨w3.heap.size + 1, 2, none⟩ = some (.slice (some ⟨w3.heap.size, 0, none⟩) 1 1)) (first | exact HKP.out _ hk7 | exact HKP.out _ (below_after hk6 (below_alloc _ _)) | exact HKP.out _ hk6 | exact HKP.out _ ((below_alloc _ _).drew) | go_keep) ((first | (go_at_call 13; with_reducible show Calls _ _ _ (World.alloc w6 _) _; refine (HC5.out _ _ (below_after hk6 (below_alloc _ _)) (heap_new' _ _)).mono ?_; rintro e w7 ⟨rfl, hq2⟩; have hk7 := below_after (below_after hk6 (below_alloc _ _)) hq2) | (go_at_call 13; refine (HC5.out _ _ hk6 ((hq1.block _ (by simp)).trans (heap_new' _ _))).mono ?_; rintro e w7 ⟨rfl, hq2⟩; have hk7 := below_after hk6 hq2) | (go_at_call 13; with_reducible show Calls _ _ _ (World.drew (World.alloc _ _)) _; refine (HP5.out _ ((below_alloc _ _).drew)).mono ?_; rintro e w6 ⟨rfl, hq1⟩; have hk6 := below_after ((below_alloc _ _).drew) hq1) | (go_at_call 13; refine (HP5.out _ (below_drewN' (Below.refl _ _) 1)).mono ?_; rintro e w6 ⟨rfl, hq1⟩; have hk6 := below_drew1 hq1) ))
    all_goals (go_wp2_with fail; go_meet; exact ⟨by simp, hk7⟩)
  case rest =>
    obtain ⟨rfl, HK7⟩ := hcut
    have HB7 : Hid (Below W4.heap.size W4 wc) := below_after HB5.out HK7.out
    have HBW7 : Hid (Below w.heap.size w wc) := below_after HBW4.out HB7.out
    clear x0 x1 x2 y0 y1 y2 z0 z1 z2
    obtain ⟨x0, x1, x2⟩ : _ ∧ _ ∧ _ := ⟨(HBN.out.below HB7.out).c0, (HBN.out.below HB7.out).c1, (HBN.out.below HB7.out).c2⟩
    obtain ⟨ra, hra⟩ : ∃ x, x = rightN a := ⟨_, rfl⟩
    obtain ⟨va, hva⟩ : ∃ x, x = wholeB ws a := ⟨_, rfl⟩
    have HRA : Hid (ra = rightN a ∧ va = wholeB ws a) := ⟨hra, hva⟩
    have h8 := right_any 12 (by omega) a _ wc HDA.out (kdx_below HA.out HBW7.out)
    unfold ndV at h8
    rw [← HNA.out.1, ← HNA.out.2.1, ← hra] at h8
    clear hra hva
    go_wp2_with fail
    refine Calls.mono h8 ?_
    rintro e w8 ⟨rfl, hB8⟩
    have HB8 : Hid (Below W4.heap.size W4 w8) := below_after HB7.out hB8
    have HBW8 : Hid (Below w.heap.size w w8) := below_after HBW4.out HB8.out
    clear h8 hB8 x0 x1 x2
    obtain ⟨x0, x1, x2⟩ : _ ∧ _ ∧ _ := ⟨(HBO.out.below HB8.out).c0, (HBO.out.below HB8.out).c1, (HBO.out.below HB8.out).c2⟩
    have h9 := HONE.out w8 5 _ HBW8.out ((HB8.out.block _ (lt_of_heap HGO.out)).trans HGO.out)
    have HEO : Hid (wholeB ws ⟨5, 0, [a]⟩ = (ra && (decide (wl = 0) || va))) := by
      show _ = _
      rw [Bool.eq_iff_iff, wholeB_iff, signs_opt]
      rw [HRA.out.1, HRA.out.2]
      simp only [Bool.and_eq_true, Bool.or_eq_true, decide_eq_true_eq, wholeB_iff, HWL.out]
    rw [HEO.out] at h9
    go_upto_region 12 with fail
    go_cut [63] from 49 to 63 (fun s wx => s = .bool false ∧ Hid (Below W4.heap.size W4 wx))
    case first =>
      go_wp2_with fail
      refine h9.mono ?_
      rintro e w9 ⟨rfl, hB9⟩
      have HB9 : Hid (Below W4.heap.size W4 w9) := below_after HB8.out hB9
      have HBW9 : Hid (Below w.heap.size w w9) := below_after HBW4.out HB9.out
      clear h9 hB9 x0 x1 x2
      cases ra with
      | false =>
        go_wp2
        go_meet
        exact ⟨by simp, HB9⟩
      | true =>
        by_cases hw0 : wl = 0
        · obtain rfl : wl = 0 := hw0
          go_wp2
          go_meet
          exact ⟨by simp, HB9⟩
        · have hw0' : ((wl : Int) == 0) = false := by simp; omega
          have hw0'' : decide (wl = 0) = false := by simpa using hw0
          obtain ⟨x0, x1, x2⟩ : _ ∧ _ ∧ _ := ⟨(HBN.out.below HB9.out).c0, (HBN.out.below HB9.out).c1, (HBN.out.below HB9.out).c2⟩
          have h10 := whl_of (d := 12) (n := a) (wa := wa) (wc := wk) (ws := ws) (w := w) (by omega) (by have := HWL.out; omega) HDA.out HA.out (by rw [← HWL.out]; exact HW.out) HBW9.out
          unfold WhlC ndV at h10
          rw [← HWL.out, ← HNA.out.1, ← HNA.out.2.1, ← HRA.out.2] at h10
          go_wp2_with fail
          refine h10.mono ?_
          rintro e w11 ⟨rfl, hB11⟩
          have HBX : Hid (Below W4.heap.size W4 w11) := below_after HB9.out hB11
          clear h10 hB11 x0 x1 x2
          go_wp2
          go_meet
          exact ⟨by simp, HBX⟩
    case rest =>
      obtain ⟨rfl, HBX⟩ := hcut
      have HBL : Hid (Below W4.heap.size W4 wc) := by exact HBX.out
      go_wp2
      go_loopw [12] (fun x12 wr => ∃ (k : Nat), k ≤ 3 ∧ x12 = .int .i64 (k : Int) ∧ Hid (Below W4.heap.size W4 wr)) (fun x12 _ => 3 - (intOf x12).toNat)
      case atStart => exact ⟨0, by omega, rfl, HBL⟩
      case round =>
        obtain ⟨k, hk, rfl, HBr⟩ := hrel
        have HBWr : Hid (Below w.heap.size w wr) := below_after HBW4.out HBr.out
        by_cases hk3 : k < 3
        · obtain ⟨s0, s1, s2⟩ : _ ∧ _ ∧ _ := ⟨(HBS.out.below HBr.out).c0, (HBS.out.below HBr.out).c1, (HBS.out.below HBr.out).c2⟩
          obtain ⟨p0, p1, p2⟩ : _ ∧ _ ∧ _ := ⟨(HBP.out.below HBr.out).c0, (HBP.out.below HBr.out).c1, (HBP.out.below HBr.out).c2⟩
          obtain ⟨o0, o1, o2⟩ : _ ∧ _ ∧ _ := ⟨(HBO.out.below HBr.out).c0, (HBO.out.below HBr.out).c1, (HBO.out.below HBr.out).c2⟩
          have HGr : Hid (∀ g, g < W4.heap.size → wr.heap[g]? = W4.heap[g]?) := fun g hg => HBr.out.block g hg
          have hk012 : k = 0 ∨ k = 1 ∨ k = 2 := by omega
          rcases hk012 with rfl | rfl | rfl
          · obtain ⟨V, hV⟩ : ∃ W, W = (wr.alloc (.cells #[.int .i64 3, .int .i64 0, .slice (some ⟨w3.heap.size, 0, none⟩) 1 1] 24)).alloc (.cells #[.int .i64 3, .int .i64 0, .slice (some ⟨w3.heap.size, 0, none⟩) 1 1] 24) := ⟨_, rfl⟩
            obtain ⟨_, r2, hBV, hsV⟩ := alloc2 hV
            have hc := HTWO.out V 3 _ _ (below_after HBWr.out hBV) (by omega) ((hBV.block _ (by have := lt_of_heap HGS.out; have := HBr.out.size; omega)).trans ((HGr.out _ (lt_of_heap HGS.out)).trans HGS.out)) r2
            rw [hV] at hc
            have hix := index_at0
            go_wp2_with fail
            refine hc.mono ?_
            rintro e w10 ⟨rfl, hB10⟩
            rw [← hV] at hB10
            have HB10 : Hid (Below W4.heap.size W4 w10) := below_after (below_after HBr.out hBV) hB10
            clear hix hc hB10 hV r2 hBV hsV s0 s1 s2 p0 p1 p2 o0 o1 o2
            go_wp2
            go_roundw
            case rel => exact ⟨1, by omega, by go_num, HB10⟩
            case measure => simp [intOf]
          · obtain ⟨V, hV⟩ : ∃ W, W = (wr.alloc (.cells #[.int .i64 4, .int .i64 0, .slice (some ⟨w3.heap.size + 1 + 1, 0, none⟩) 1 1] 24)).alloc (.cells #[.int .i64 4, .int .i64 0, .slice (some ⟨w3.heap.size + 1 + 1, 0, none⟩) 1 1] 24) := ⟨_, rfl⟩
            obtain ⟨_, r2, hBV, hsV⟩ := alloc2 hV
            have hc := HTWO.out V 4 _ _ (below_after HBWr.out hBV) (by omega) ((hBV.block _ (by have := lt_of_heap HGP.out; have := HBr.out.size; omega)).trans ((HGr.out _ (lt_of_heap HGP.out)).trans HGP.out)) r2
            rw [hV] at hc
            have hix := index_at1
            go_wp2_with fail
            refine hc.mono ?_
            rintro e w10 ⟨rfl, hB10⟩
            rw [← hV] at hB10
            have HB10 : Hid (Below W4.heap.size W4 w10) := below_after (below_after HBr.out hBV) hB10
            clear hix hc hB10 hV r2 hBV hsV s0 s1 s2 p0 p1 p2 o0 o1 o2
            go_wp2
            go_roundw
            case rel => exact ⟨2, by omega, by go_num, HB10⟩
            case measure => simp [intOf]
          · obtain ⟨V, hV⟩ : ∃ W, W = (wr.alloc (.cells #[.int .i64 5, .int .i64 0, .slice (some ⟨w3.heap.size + 1 + 1 + 1 + 1, 0, none⟩) 1 1] 24)).alloc (.cells #[.int .i64 5, .int .i64 0, .slice (some ⟨w3.heap.size + 1 + 1 + 1 + 1, 0, none⟩) 1 1] 24) := ⟨_, rfl⟩
            obtain ⟨_, r2, hBV, hsV⟩ := alloc2 hV
            have hc := HTWO.out V 5 _ _ (below_after HBWr.out hBV) (by omega) ((hBV.block _ (by have := lt_of_heap HGO.out; have := HBr.out.size; omega)).trans ((HGr.out _ (lt_of_heap HGO.out)).trans HGO.out)) r2
            rw [hV] at hc
            have hix := index_at2
            go_wp2_with fail
            refine hc.mono ?_
            rintro e w10 ⟨rfl, hB10⟩
            rw [← hV] at hB10
            have HB10 : Hid (Below W4.heap.size W4 w10) := below_after (below_after HBr.out hBV) hB10
            clear hix hc hB10 hV r2 hBV hsV s0 s1 s2 p0 p1 p2 o0 o1 o2
            go_wp2
            go_roundw
            case rel => exact ⟨3, by omega, by go_num, HB10⟩
            case measure => simp [intOf]
        · obtain rfl : k = 3 := by omega
          go_wp2
          go_ret
          exact ⟨rfl, HBWr.out⟩
end Go.Proofs.Ytlllmoelhholfaa
