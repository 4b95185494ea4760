/-
  least.joined, walked.
-/
import Derived.Test.YtklhjjgnhigbiaaGreatDoorGP
import Derived.Deep.RegionLaw
import Derived.Deep.CutRange
import Derived.Deep.AppendLies
namespace Go.Proofs.YtklhjjgnhigbiaaGreatDoor
open Go.RowKit Go.Shelf
set_option linter.unusedVariables false

set_option maxRecDepth 100000 in
set_option maxHeartbeats 16000000 in
theorem joined_any (N : List (List Int)) (F : List Bool) (dv : Value) (gp bq : Nat) (p : Nat → Nat) (w : World) (hd : DfaAt w dv N F) (hr : rightD N F = true) (hq : RowN w bq gp N.length p) (hpa : ∀ i k, i < N.length → k < N.length → (p i = p k ↔ alk (mch N F) i k)) (hp : ∀ i, i < N.length → p i < N.length) :
    Calls Tryz.prog 30 #[dv, .slice (some ⟨gp, 0, none⟩) N.length N.length] w fun e w' => ∃ v, e = .returned v ∧ (∀ W, (∀ k, w.heap.size ≤ k → W.heap[k]? = w'.heap[k]?) → DfaAt W v (leN N F) (leF N F)) ∧ Below w.heap.size w w' := by
  obtain ⟨iI, hiI, hzI0, hzI1, hzI2⟩ := info_parts Tryz.infoInt
  obtain ⟨iL, hiL, hzL0, hzL1, hzL2⟩ := info_parts Tryz.infoLs12
  obtain ⟨iB, hiB, hzB0, hzB1, hzB2⟩ := info_parts Tryz.infoBool12
  have HGP : Hid (gp < w.heap.size) := hq.lt.1
  have hri := rightD_iff.1 hr
  obtain ⟨na, nc, fa, fc, rfl, hnc, hfc, hx, hfx⟩ := dfa_parts hd
  have HAT : Hid (∀ W, Below w.heap.size w W → AtD W na fa N.length (N.getD 0 []).length (mch N F)) := fun W hb => at_of (hd.below hb) hr
  have hMO : (mch N F).Ok := mch_ok hr
  have hMn : (mch N F).n = N.length := rfl
  have hMk : (mch N F).k = (N.getD 0 []).length := rfl
  have HLE : Hid (leN N F = intsL (lsN (mch N F)) ∧ leF N F = lsF (mch N F)) := ⟨rfl, rfl⟩
  obtain ⟨n, hn⟩ : ∃ x, x = N.length := ⟨_, rfl⟩
  obtain ⟨m, hm⟩ : ∃ x, x = F.length := ⟨_, rfl⟩
  obtain ⟨C, hC⟩ : ∃ x, x = (N.getD 0 []).length := ⟨_, rfl⟩
  obtain ⟨M, hM⟩ : ∃ x, x = mch N F := ⟨_, rfl⟩
  have hn1 : 1 ≤ n := by omega
  have hn5 : n ≤ 5000 := by omega
  have hm5 : m = n := by omega
  rw [← hn, ← hC, ← hM] at HAT
  rw [← hM] at HLE hMO
  rw [← hM, ← hn] at hMn
  rw [← hM, ← hC] at hMk
  rw [← hn] at hq hpa hp
  rw [← hM] at hpa
  rw [← hn, ← hm, hm5]
  have HC1 : Hid (1 ≤ C ∧ C ≤ 200) := ⟨by omega, by omega⟩
  have HM : Hid (M.Ok ∧ M.n = n ∧ M.k = C) := ⟨hMO, hMn, hMk⟩
  have HPA : Hid ((∀ i k, i < n → k < n → (p i = p k ↔ alk M i k)) ∧ ∀ i, i < n → p i < n) := ⟨hpa, hp⟩
  obtain ⟨W4, h4⟩ : ∃ W, W = (((w.alloc (.cells #[.slice na n nc, .slice fa n fc] 35)).alloc (.cells #[.slice (some ⟨gp, 0, none⟩) n n] 26)).alloc (.cells #[.slice none 0 0, .slice none 0 0] 35)).alloc (.cells #[.slice none 0 0] 26) := ⟨_, rfl⟩
  obtain ⟨W6, h6⟩ : ∃ W, W = (W4.alloc (.cells (madeCells #[.int .i64 0] n) 3)).alloc (.cells #[.slice (some ⟨W4.heap.size, 0, none⟩) n n] 26) := ⟨_, rfl⟩
  obtain ⟨⟨k1, k2, k3⟩, k4, k5, k6, k7⟩ := jn_made hq hn5 h4 h6
  have H4 : Hid (W4 = _) := h4
  have H6 : Hid (W6 = _) := h6
  have HS : Hid (W4.heap.size = w.heap.size + 4) := k7
  have HJ : Hid (JnI W6 0 (w.heap.size + 5) (w.heap.size + 1) (w.heap.size + 3) (w.heap.size + 4) gp n (fun _ => 0) p (.slice none 0 0) []) := k4
  have HB6 : Hid (Below w.heap.size w W6 ∧ W6.heap.size = w.heap.size + 6) := ⟨k5, k6⟩
  have HD6 : Hid (DBox W6 w.heap.size (.slice na n nc) (.slice fa n fc) ∧ W6.heap[w.heap.size + 2]? = some (.cells #[.slice none 0 0, .slice none 0 0] 35 (0, 0))) := ⟨k2, k3⟩
  have a0 := k1.c0
  have al := k1.lt
  have hmkC : Hid (∀ W : World, (Instr.makeSlice 26 (.int .i64 (C : Int)) (.int .i64 (C : Int))).run Tryz.prog W = .ok (.slice (some ⟨W.heap.size, 0, none⟩) C C) (W.alloc (.cells (madeCells #[.int .i64 0] C) 3))) := fun W => run_make13 W 26 3 iI (.int .i64 0) Tryz.underlying26 hiI hzI0 hzI1 rfl C (by omega) (by omega)
  have hmk : ∀ W : World, (Instr.makeSlice 26 (.int .i64 (n : Int)) (.int .i64 (n : Int))).run Tryz.prog W = .ok (.slice (some ⟨W.heap.size, 0, none⟩) n n) (W.alloc (.cells (madeCells #[.int .i64 0] n) 3)) := fun W => run_make13 W 26 3 iI (.int .i64 0) Tryz.underlying26 hiI hzI0 hzI1 rfl n (by omega) (by omega)
  clear hm5 hd hr hri hx hfx hn hm hC hM hMO hMn hMk hq hpa hp h4 h6 k1 k2 k3 k4 k5 k6 k7 hnc hfc
  go_enter Tryz.func30, Tryz.ntmps30
  go_upto_region 2 with fail
  rw [← H4.out]
  go_upto_region 4 with fail
  rw [← H6.out]
  obtain ⟨gu, hgu⟩ : ∃ x, x = W4.heap.size := ⟨_, rfl⟩
  obtain ⟨bn, hbn⟩ : ∃ x, x = gu + 1 := ⟨_, rfl⟩
  obtain ⟨bm, hbm⟩ : ∃ x, x = w.heap.size + 1 + 1 + 1 := ⟨_, rfl⟩
  obtain ⟨D, hD⟩ : ∃ x, x = w.heap.size + 1 + 1 := ⟨_, rfl⟩
  obtain ⟨bp, hbp⟩ : ∃ x, x = w.heap.size + 1 := ⟨_, rfl⟩
  obtain ⟨bd0, hbd0⟩ : ∃ x, x = w.heap.size := ⟨_, rfl⟩
  rw [← hgu, ← hbn, ← hbm, ← hD, ← hbp, ← hbd0]
  have HW : Hid (gu = bd0 + 4 ∧ bn = bd0 + 5 ∧ bm = bd0 + 3 ∧ D = bd0 + 2 ∧ bp = bd0 + 1 ∧ bd0 = w.heap.size ∧ W6.heap.size = bd0 + 6) := by
    have h1 := HS.out
    have h2 := HB6.out.2
    exact ⟨by omega, by omega, by omega, by omega, by omega, hbd0, by omega⟩
  have HJ6 : Hid (JnI W6 0 bn bp bm gu gp n (fun _ => 0) p (.slice none 0 0) []) := by
    obtain ⟨e1, e2, e3, e4, e5, e6, e7⟩ := HW.out
    have := HJ.out
    rw [← e6, ← e1, ← e2, ← e3, ← e5] at this
    exact this
  have HMT : Hid (∀ W L l mv s, JnI W 0 bn bp bm gu gp n L p mv l → LkI M n p L l → s < n → Calls Tryz.prog 49 #[.int .i64 (s : Int), .pointer (some ⟨bn, 0, none⟩), .pointer (some ⟨bp, 0, none⟩), .pointer (some ⟨bm, 0, none⟩)] W fun e w' => ∃ L' mv' l', e = .returned (.int .i64 (((l.map (rep M)).idxOf (rep M s) : Nat) : Int)) ∧ LkI M n p L' l' ∧ l'.map (rep M) = meetG (l.map (rep M)) (rep M s) ∧ (l' = l ∨ l' = l ++ [s]) ∧ JnI w' 0 bn bp bm gu gp n L' p mv' l' ∧ JnF bm gu mv W mv' w') := fun W L l mv s h1 h2 h3 => jmeet2 0 bn bp bm gu gp n s M L p mv l W HM.out.1 HM.out.2.1 HPA.out.1 h1 h2 h3 HPA.out.2 hn5
  have hm0 := HMT.out W6 _ _ _ 0 HJ6.out (LkI.start M n p) (by omega)
  clear hgu hbn hbm hD hbp hbd0 HJ H4 H6 hmk a0 al
  go_upto_region 5 with (go_at_call 49; refine hm0.mono ?_; rintro e w7 ⟨L7, mv7, l7, rfl, hk7, hl7, _, hj7, hf7⟩)
  obtain ⟨b2, hb2⟩ : ∃ x, x = W6.heap.size := ⟨_, rfl⟩
  obtain ⟨bd, hbd⟩ : ∃ x, x = w7.heap.size := ⟨_, rfl⟩
  obtain ⟨W8, h8⟩ : ∃ W, W = w7.alloc (.cells #[.slice none 0 0, .slice none 0 0] 35) := ⟨_, rfl⟩
  have H8 : Hid (W8 = _) := h8
  have hb8 : Below w7.heap.size w7 W8 := by rw [h8]; exact below_alloc _ _
  have hk : ∀ k, k < W6.heap.size → k ≠ bm → k ≠ gu → W8.heap[k]? = W6.heap[k]? := fun k a b c => (hb8.block k (Nat.lt_of_lt_of_le a hf7.size)).trans (hf7.block k a b c (by simp [Value.ownBlock]))
  have HLOW : Hid (Low13 w bm gu b2 bd0 D bn bp gp bd) := by
    obtain ⟨e1, e2, e3, e4, e5, e6, e7⟩ := HW.out
    have := hf7.size
    have := HGP.out
    exact ⟨e6, by omega, by omega, by omega, by omega⟩
  have HST : Hid (St13 w bd0 D (.slice na n nc) (.slice fa n fc) W8) := by
    obtain ⟨e1, e2, e3, e4, e5, e6, e7⟩ := HW.out
    have h1 := HD6.out
    rw [← e6] at h1
    refine ⟨(hk bd0 (by omega) (by omega) (by omega)).trans h1.1, (hk D (by omega) (by omega) (by omega)).trans (by rw [e4]; exact h1.2), ?_⟩
    refine HB6.out.1.trans ⟨hb8.os.trans hf7.os, hb8.tape.trans hf7.tape, hb8.output.trans hf7.output, Nat.le_trans hf7.size hb8.size, fun k hk2 => hk k (by omega) (by omega) (by omega)⟩
  have HJ8 : Hid (JnI W8 0 bn bp bm gu gp n L7 p mv7 l7) := hj7.below hb8
  have HO8 : Hid (JoI W8 b2 bd (.slice none 0 0) (.slice none 0 0) [] [] [] mv7) := ⟨HLOW.out.ld, by rw [h8, hbd]; exact heap_new' _ _, ⟨World.ownsRow_nil _ _ _ _, fun i a => absurd a (by simp), fun i j a => absurd a (by simp)⟩, World.ownsRow_nil _ _ _ _, by simp⟩
  have HMV : Hid (∀ k, mv7.ownBlock = some k → b2 ≤ k) := fun k e => by
    rcases hf7.fresh k e with q | q
    · simp [Value.ownBlock] at q
    · rw [hb2]; exact q
  have HLK : Hid (LkI M n p L7 l7) := hk7
  have HS7 : Hid (l7.map (rep M) = (gbf (nxr M) M.k (rep M 0) 0).S) := by
    show _ = _
    rw [hl7]
    simp [meetG, gbf]
  clear h8 hb8 hk hk7 hl7 hj7 hf7 hm0 HJ6 HD6
  go_upto_region 6 with fail
  rw [← H8.out, ← hbd]
  clear hbd H8 hb2
  go_wp2
  go_loopw [9] (fun x9 wr => ∃ (j : Nat) (L : Nat → Nat) (mv : Value) (l : List Nat) (nv fv : Value) (ns : List Value), x9 = .int .i64 (j : Int) ∧ j ≤ n ∧ Hid (Vg (nxr M) M.k (rep M 0) j ∧ l.map (rep M) = (gbf (nxr M) M.k (rep M 0) j).S) ∧ Hid (LkI M n p L l) ∧ Hid (JnI wr 0 bn bp bm gu gp n L p mv l) ∧ Hid (JoI wr b2 bd nv fv ns (gbf (nxr M) M.k (rep M 0) j).N ((l.take j).map M.f) mv) ∧ Hid (∀ k, mv.ownBlock = some k → b2 ≤ k) ∧ Hid (St13 w bd0 D (.slice na n nc) (.slice fa n fc) wr)) (fun x9 _ => n - (intOf x9).toNat)
  case atStart => exact ⟨0, L7, mv7, l7, _, _, [], rfl, Nat.zero_le _, ⟨Vg.zero, HS7.out⟩, HLK.out, HJ8.out, HO8.out, HMV.out, HST.out⟩
  case round =>
    obtain ⟨j, L, mv, l, nv, fv, ns, rfl, hjn, HV, HLK, HJ, HO, HMV, HST⟩ := hrel
    obtain ⟨va, vn, vc, rfl⟩ := own_any HJ.out.met
    have hvn : vn = l.length := own_len13 HJ.out.met
    have HVN : Hid (vn = l.length) := hvn
    have m0 := cell_in HJ.out.mb 0
    have ml := lt_of_heap HJ.out.mb
    simp at m0
    have hvn2 : vn ≤ n := by
      have := HLK.out.few HM.out.1 HM.out.2.1
      omega
    clear hvn
    by_cases hjl : j < vn
    · have hst := HST.out
      have d0 := hst.box.c0
      have dl := hst.box.lt
      obtain ⟨g0, o0, y0, q0, r0, hna, i1, i2, i3, _⟩ := at_row (HAT.out wr hst.old) (show 0 < n by omega) HC1.out.1
      have hjL : j < l.length := by have := HVN.out; omega
      obtain ⟨GL, hGL⟩ := own_addr13 HJ.out.met (by omega)
      subst hGL
      obtain ⟨a, ha⟩ : ∃ a, a = l[j] := ⟨_, rfl⟩
      have han : a < n := by rw [ha]; exact HLK.out.1 _ (List.getElem_mem hjL)
      subst hna
      simp at i2
      have hmk := hmkC.out wr
      have hc1 := HC1.out.1
      have hn0 : (0 : Int) < (n : Int) := by omega
      obtain ⟨w9, h9⟩ : ∃ W, W = wr.alloc (.cells (madeCells #[.int .i64 0] C) 3) := ⟨_, rfl⟩
      obtain ⟨gr, hgr⟩ : ∃ x, x = wr.heap.size := ⟨_, rfl⟩
      have hb9 : Below wr.heap.size wr w9 := by rw [h9]; exact below_alloc _ _
      have HR9 : Hid (RowN w9 b2 gr C (fun _ => 0)) := by
        have := rowZ_made (n := C) wr (base := b2) (by have := HO.out.lbd; have := lt_of_heap HO.out.dbx; omega) (by have := HC1.out.2; unfold maxLen; omega)
        rw [← h9, ← hgr] at this
        exact this
      have HGR : Hid ((Value.slice (some ⟨GL, 0, none⟩) vn vc).ownBlock ≠ some gr ∧ ∀ u ∈ ns, u.ownBlock ≠ some gr) := ⟨fun e => by
        have := (HJ.out.met.lt gr e).2
        omega, fun u hu e => by
        have := (HO.out.rows u hu gr e).2.2
        omega⟩
      have HJ9 : Hid (JnI w9 0 bn bp bm gu gp n L p (.slice (some ⟨GL, 0, none⟩) vn vc) l) := HJ.out.below hb9
      have HO9 : Hid (JoI w9 b2 bd nv fv ns (gbf (nxr M) M.k (rep M 0) j).N ((l.take j).map M.f) (.slice (some ⟨GL, 0, none⟩) vn vc)) := HO.out.below hb9
      have HST9 : Hid (St13 w bd0 D (.slice (some ⟨g0, o0, none⟩) n nc) (.slice fa n fc) w9) := ⟨HST.out.box.below hb9, (hb9.block _ (lt_of_heap HST.out.res)).trans HST.out.res, below_after HST.out.old hb9⟩
      have hl0 := (HJ9.out.met).cells (g := GL) rfl j (.int .i64 (a : Int)) (by simp [cellP, hjL, ha])
      rw [add_lit', Nat.zero_add] at hl0
      rw [← h9, ← hgr] at hmk
      clear h9 hb9 hgr
      go_upto_region 10 with fail
      clear d0 dl i1 i2 i3 m0 ml hmk
      have hst := HST9.out
      have d0 := hst.box.c0
      have dl := hst.box.lt
      have m0 := cell_in HJ9.out.mb 0
      have ml := lt_of_heap HJ9.out.mb
      simp at m0
      have ll := (HJ9.out.met.lt GL rfl).2
      obtain ⟨g1, o1, y1, g2, o2, hna, i1, i2, i3, hrow⟩ := at_row (HAT.out w (Below.refl _ _)) han HC1.out.1
      have hwb := hst.old
      replace i2 := (hwb.cell (p := ⟨g1, _, none⟩) i1).trans i2
      replace i1 := Nat.lt_of_lt_of_le i1 hwb.size
      injection hna with hna
      injection hna with e1 e2 _
      subst e1 e2
      have HROW : Hid (∀ W, Below w.heap.size w W → ∀ c, c < C → W.cell? ⟨g2, o2 + c, none⟩ = some (.int .i64 ((M.d a c : Nat) : Int)) ∧ g2 < W.heap.size ∧ M.d a c < n) := fun W hb c hc => ⟨(hb.cell (p := ⟨g2, _, none⟩) i3).trans (hrow c hc).1, Nat.lt_of_lt_of_le i3 hb.size, (hrow c hc).2⟩
      have HA : Hid (a = l[j] ∧ a < n) := ⟨ha, han⟩
      have ha0 : (0 : Int) ≤ (a : Int) := by omega
      have ha1 : (a : Int) < (n : Int) := by omega
      have hj0 : (0 : Int) ≤ (j : Int) := by omega
      have hj1 : (j : Int) < (vn : Int) := by omega
      replace i3 := Nat.lt_of_lt_of_le i3 hwb.size
      clear hst hrow ha hwb
      go_cut [39, 40, 41] from 32 to 41 (fun s39 s40 s41 wx => s39 = .slice (some ⟨g2, o2, none⟩) C y1 ∧ s40 = .int .i64 (C : Int) ∧ s41 = .int .i64 0 ∧ wx = w9.drew)
      case first =>
        go_region
        all_goals (
          go_wp2
          go_meet
          exact ⟨rfl, rfl, rfl, rfl⟩)
      case rest =>
        obtain ⟨rfl, rfl, rfl, rfl⟩ := hcut
        clear d0 dl i1 i2 i3 m0 ml hl0 ll
        have hbd9 : Below w9.heap.size w9 w9.drew := (Below.refl _ _).drew
        obtain ⟨Sj, hSj⟩ : ∃ x, x = l.map (rep M) := ⟨_, rfl⟩
        have HSJ : Hid (Sj = l.map (rep M)) := hSj
        have HR10 : Hid (RowN w9.drew b2 gr C (fun _ => 0)) := HR9.out.below hbd9
        have HJ10 : Hid (JnI w9.drew 0 bn bp bm gu gp n L p (.slice (some ⟨GL, 0, none⟩) vn vc) l) := HJ9.out.below hbd9
        have HO10 : Hid (JoI w9.drew b2 bd nv fv ns (gbf (nxr M) M.k (rep M 0) j).N ((l.take j).map M.f) (.slice (some ⟨GL, 0, none⟩) vn vc)) := HO9.out.below hbd9
        have HST10 : Hid (St13 w bd0 D (.slice (some ⟨g0, o0, none⟩) n nc) (.slice fa n fc) w9.drew) := ⟨HST9.out.box, HST9.out.res, below_after HST9.out.old hbd9⟩
        clear hSj hbd9
        go_wp2
        go_loopw [41] (fun x41 wr => ∃ (c : Nat) (L2 : Nat → Nat) (mv2 : Value) (l2 : List Nat), c ≤ C ∧ x41 = .int .i64 (c : Int) ∧ Hid (l2.map (rep M) = (rowG (nxr M) a Sj c).2 ∧ ∃ T, l2 = l ++ T) ∧ Hid (LkI M n p L2 l2) ∧ Hid (JnI wr 0 bn bp bm gu gp n L2 p mv2 l2) ∧ Hid (JoI wr b2 bd nv fv ns (gbf (nxr M) M.k (rep M 0) j).N ((l.take j).map M.f) mv2) ∧ Hid (RowN wr b2 gr C (fun x => (rowG (nxr M) a Sj c).1.getD x 0) ∧ mv2.ownBlock ≠ some gr ∧ ∀ k, mv2.ownBlock = some k → b2 ≤ k) ∧ Hid (St13 w bd0 D (.slice (some ⟨g0, o0, none⟩) n nc) (.slice fa n fc) wr)) (fun x41 _ => C - (intOf x41).toNat)
        case atStart => exact ⟨0, L, _, l, Nat.zero_le _, rfl, ⟨HSJ.out.symm, [], by simp⟩, HLK.out, HJ10.out, HO10.out, ⟨by simpa [rowG] using HR10.out, HGR.out.1, HMV.out⟩, HST10.out⟩
        case round =>
          obtain ⟨c, L2, mv2, l2, hcC, rfl, HL2, HLK2, HJ2, HO2, HR2, HST2⟩ := hrel
          by_cases hcl : c < C
          · obtain ⟨r1, r2, r3⟩ := HROW.out wr HST2.out.old c hcl
            obtain ⟨t, ht⟩ : ∃ t, t = M.d a c := ⟨_, rfl⟩
            rw [← ht] at r1 r3
            have hm0 := HMT.out wr L2 l2 mv2 t HJ2.out HLK2.out r3
            obtain ⟨ix, hix⟩ : ∃ x, x = (l2.map (rep M)).idxOf (rep M t) := ⟨_, rfl⟩
            have HFN : Hid (∀ V L3 mv3 l3, LkI M n p L3 l3 → l3.map (rep M) = meetG (l2.map (rep M)) (rep M t) → (l3 = l2 ∨ l3 = l2 ++ [t]) → JnI V 0 bn bp bm gu gp n L3 p mv3 l3 → JnF bm gu mv2 wr mv3 V → (V.cell? ⟨gr, c, none⟩ = some (.int .i64 (((rowG (nxr M) a Sj c).1.getD c 0 : Nat) : Int)) ∧ V.frozen? ⟨gr, c, none⟩ = false ∧ gr < V.heap.size) ∧ Hid ((l3.map (rep M) = (rowG (nxr M) a Sj (c + 1)).2 ∧ ∃ T, l3 = l ++ T) ∧ LkI M n p L3 l3 ∧ JnI (V.setCell ⟨gr, c, none⟩ (.int .i64 (ix : Int))) 0 bn bp bm gu gp n L3 p mv3 l3 ∧ JoI (V.setCell ⟨gr, c, none⟩ (.int .i64 (ix : Int))) b2 bd nv fv ns (gbf (nxr M) M.k (rep M 0) j).N ((l.take j).map M.f) mv3 ∧ (RowN (V.setCell ⟨gr, c, none⟩ (.int .i64 (ix : Int))) b2 gr C (fun x => (rowG (nxr M) a Sj (c + 1)).1.getD x 0) ∧ mv3.ownBlock ≠ some gr ∧ ∀ k, mv3.ownBlock = some k → b2 ≤ k) ∧ St13 w bd0 D (.slice (some ⟨g0, o0, none⟩) n nc) (.slice fa n fc) (V.setCell ⟨gr, c, none⟩ (.int .i64 (ix : Int))))) := fun V L3 mv3 l3 q1 q2 q3 q4 q5 => by
              have := jo_class HLOW.out HJ2.out HO2.out HR2.out.1 HR2.out.2.1 HR2.out.2.2 HST2.out HGR.out.2 hcl ht HL2.out.1 HL2.out.2 q1 q2 q3 q4 q5
              rw [← hix] at this
              exact this
            rw [← hix] at hm0
            have hc0 : (0 : Int) ≤ (c : Int) := by omega
            have hc1 : (c : Int) < (C : Int) := by omega
            have hC2 := HC1.out.2
            clear ht hix
            go_upto_region 14 with (go_at_call 49; refine hm0.mono ?_; rintro e w10 ⟨L3, mv3, l3, rfl, hk3, hm3, hl3, hj3, hf3⟩; obtain ⟨⟨z0, z1, z2⟩, HZ⟩ := HFN.out w10 L3 mv3 l3 hk3 hm3 hl3 hj3 hf3; clear hk3 hm3 hl3 hj3 hf3)
            go_wp2
            go_roundw
            case rel => exact ⟨c + 1, _, _, _, by omega, by go_num, HZ.out⟩
            case measure => simp [intOf]; omega
          · obtain rfl : C = c := by omega
            obtain ⟨RN, hRN⟩ : ∃ x, x = (rowG (nxr M) a Sj C).1 := ⟨_, rfl⟩
            have HRL : Hid (RN.length = C) := by show _ = _; rw [hRN]; exact rowG_len a Sj C
            have HGB : Hid ((gbf (nxr M) M.k (rep M 0) (j + 1)).S = l2.map (rep M) ∧ (gbf (nxr M) M.k (rep M 0) (j + 1)).N = (gbf (nxr M) M.k (rep M 0) j).N ++ [RN]) := by
              have e1 : (gbf (nxr M) M.k (rep M 0) j).S = Sj := by rw [← HV.out.2, ← HSJ.out]
              have e2 : Sj.getD j 0 = rep M a := by rw [HSJ.out, HA.out.1]; simp [hjL]
              have e3 : rowG (nxr M) (rep M a) Sj M.k = rowG (nxr M) a Sj C := by
                rw [HM.out.2.2]
                exact rowG_congr Sj C (fun c hc => nxr_rep HM.out.1 (by rw [HM.out.2.1]; exact HA.out.2) (by rw [HM.out.2.2]; exact hc))
              show (rowG (nxr M) ((gbf (nxr M) M.k (rep M 0) j).S.getD j 0) (gbf (nxr M) M.k (rep M 0) j).S M.k).2 = _ ∧ _ ++ [(rowG (nxr M) ((gbf (nxr M) M.k (rep M 0) j).S.getD j 0) (gbf (nxr M) M.k (rep M 0) j).S M.k).1] = _
              rw [e1, e2, e3, hRN]
              exact ⟨HL2.out.1.symm, rfl⟩
            have HR3 : Hid (RowN wr b2 gr C (fun x => RN.getD x 0)) := by rw [hRN]; exact HR2.out.1
            clear hRN
            have HV1 : Hid (Vg (nxr M) M.k (rep M 0) (j + 1)) := HV.out.1.succ (by rw [← HV.out.2, List.length_map]; exact hjL)
            have HJN : Hid (j + 1 ≤ n) := by
              have := (vg_le HM.out.1 HV1.out).1
              rw [HM.out.2.1] at this
              exact this
            obtain ⟨na2, nn2, nc2, rfl⟩ := own_any HO2.out.mat.arr
            obtain ⟨fva, fvn, fvc, rfl⟩ := own_any HO2.out.fin
            have hnl : (gbf (nxr M) M.k (rep M 0) j).N.length = j := gbf_N j
            obtain rfl : nn2 = j := by rw [← hnl]; exact own_len13 HO2.out.mat.arr
            have hfl : ((l.take nn2).map M.f).length = nn2 := by rw [List.length_map, List.length_take]; omega
            obtain rfl : fvn = nn2 := by rw [← hfl]; exact own_len13 HO2.out.fin
            have HNL : Hid ((gbf (nxr M) M.k (rep M 0) fvn).N.length = fvn ∧ ((l.take fvn).map M.f).length = fvn) := ⟨hnl, hfl⟩
            have HNR : Hid ((wr.alloc (.cells #[.slice (some ⟨gr, 0, none⟩) C C] 26)).ownsRow b2 26 1 (.slice na2 fvn nc2) fvn ns) := by
              have := ownsRow_below HO2.out.mat.arr (below_alloc wr (.cells #[.slice (some ⟨gr, 0, none⟩) C C] 26))
              rw [hnl] at this
              exact this
            have HFN : Hid (∀ w3 g3 cap, w3.ownsRow b2 26 1 (.slice (some ⟨g3, 0, none⟩) (fvn + 1) cap) (fvn + 1) (ns ++ [.slice (some ⟨gr, 0, none⟩) C C]) → (wr.alloc (.cells #[.slice (some ⟨gr, 0, none⟩) C C] 26)).grownBy w3 (Value.slice na2 fvn nc2).ownBlock → (w3.cell? ⟨bd, 0, none⟩ = some (.slice na2 fvn nc2) ∧ w3.frozen? ⟨bd, 0, none⟩ = false ∧ bd < w3.heap.size) ∧ Hid (JnI (w3.setCell ⟨bd, 0, none⟩ (.slice (some ⟨g3, 0, none⟩) (fvn + 1) cap)) 0 bn bp bm gu gp n L2 p mv2 l2 ∧ JoI (w3.setCell ⟨bd, 0, none⟩ (.slice (some ⟨g3, 0, none⟩) (fvn + 1) cap)) b2 bd (.slice (some ⟨g3, 0, none⟩) (fvn + 1) cap) (.slice fva fvn fvc) (ns ++ [.slice (some ⟨gr, 0, none⟩) C C]) (gbf (nxr M) M.k (rep M 0) (fvn + 1)).N ((l.take fvn).map M.f) mv2 ∧ St13 w bd0 D (.slice (some ⟨g0, o0, none⟩) n nc) (.slice fa n fc) (w3.setCell ⟨bd, 0, none⟩ (.slice (some ⟨g3, 0, none⟩) (fvn + 1) cap)))) := fun w3 g3 cap ho hg => by
              have := jo_row HLOW.out HJ2.out HO2.out HR3.out HRL.out HR2.out.2.1 HR2.out.2.2 HST2.out HGR.out.2 hg (g := g3) (c := cap) (by rw [HNL.out.1]; exact ho)
              rw [HNL.out.1, ← HGB.out.2] at this
              exact ⟨this.1, this.2⟩
            have d0 := cell_in HO2.out.dbx 0
            have dl := lt_of_heap HO2.out.dbx
            simp at d0
            have hbs : b2 ≤ wr.heap.size := by have := HO2.out.lbd; omega
            clear hnl hfl
            go_upto_region 15 with fail
            go_cut [] from 53 to 58 (fun wx => Hid (∃ nv' ns', JnI wx 0 bn bp bm gu gp n L2 p mv2 l2 ∧ JoI wx b2 bd nv' (.slice fva fvn fvc) ns' (gbf (nxr M) M.k (rep M 0) (fvn + 1)).N ((l.take fvn).map M.f) mv2 ∧ St13 w bd0 D (.slice (some ⟨g0, o0, none⟩) n nc) (.slice fa n fc) wx))
            case first =>
              go_wp2_with (at_builtin; go_must (refine wpList_append_lies _ rfl _ _ 27 rfl b2 26 iL (.slice none 0 0) 1 24 Tryz.underlying27 hiL hzL0 hzL1 hzL2 rfl (by decide) _ _ _ rfl HNR.out ⟨wr.heap.size, 0, none⟩ 1 1 [.slice (some ⟨gr, 0, none⟩) C C] rfl rfl (World.news_of_block (by exact heap_new' _ _)) (by simp [Value.oneCell']) (by omega) (by unfold maxLen; omega) (by omega) (by simp; omega) (wr.heap.size + 1) (by simp) ?_); intro g3 cap w3 ho3 hg3 hat3 _; obtain ⟨⟨z0, z1, z3⟩, z2⟩ := HFN.out w3 g3 cap ho3 hg3; have HZ : Hid _ := z2.out; clear ho3 hg3 hat3 z2)
              go_wp2
              go_meet
              exact ⟨_, _, HZ.out⟩
            case rest =>
            obtain ⟨nv3, ns3, HC⟩ := hcut.out
            obtain ⟨w12, hw12⟩ : ∃ W, W = wc := ⟨_, rfl⟩
            rw [← hw12] at HC ⊢
            obtain ⟨HJ4, HO4, HST4⟩ := HC
            have HJ4 : Hid (JnI w12 0 bn bp bm gu gp n L2 p mv2 l2) := HJ4
            have HO4 : Hid (JoI w12 b2 bd nv3 (.slice fva fvn fvc) ns3 (gbf (nxr M) M.k (rep M 0) (fvn + 1)).N ((l.take fvn).map M.f) mv2) := HO4
            have HST4 : Hid (St13 w bd0 D (.slice (some ⟨g0, o0, none⟩) n nc) (.slice fa n fc) w12) := HST4
            clear hcut hw12 d0 dl hbs HNR HFN HR3
            obtain ⟨va2, vn2, vc2, rfl⟩ := own_any HJ4.out.met
            have hv2 : vn2 = l2.length := own_len13 HJ4.out.met
            have hj2 : l2[fvn]? = some a := by
              obtain ⟨T, hT⟩ := HL2.out.2
              rw [hT, List.getElem?_append_left hjL, List.getElem?_eq_getElem hjL, ← HA.out.1]
            have hjv : fvn < vn2 := by
              have := (List.getElem?_eq_some_iff.1 hj2).1
              omega
            obtain ⟨GL2, hGL2⟩ := own_addr13 HJ4.out.met (by omega)
            subst hGL2
            have h0 := HJ4.out.met.cells (g := GL2) rfl fvn (.int .i64 (a : Int)) (by simp [cellP, hj2])
            rw [add_lit', Nat.zero_add] at h0
            have h1 := (HJ4.out.met.lt GL2 rfl).2
            have m0 := cell_in HJ4.out.mb 0
            have ml := lt_of_heap HJ4.out.mb
            simp at m0
            have c1 := cell_in HO4.out.dbx 1
            have cl := lt_of_heap HO4.out.dbx
            simp at c1
            have d1 := HST4.out.box.c1
            have dl := HST4.out.box.lt
            obtain ⟨gf, of, hfe, f1, f0⟩ := (HAT.out w12 HST4.out.old).2 a HA.out.2
            subst hfe
            obtain ⟨xx, hxx⟩ : ∃ b, b = M.f a := ⟨_, rfl⟩
            rw [← hxx] at f0
            have HFN2 : Hid (∀ w6 w8 o v', Below w12.heap.size w12 w6 → (w6.alloc o).grownBy w8 (Value.slice fva fvn fvc).ownBlock → w8.ownsRow b2 4 1 v' (fvn + 1) (cellBo ((l.take fvn).map M.f) ++ [.bool xx]) → (w8.cell? ⟨bd, 1, none⟩ = some (.slice fva fvn fvc) ∧ w8.frozen? ⟨bd, 1, none⟩ = false ∧ bd < w8.heap.size) ∧ Hid (JnI (w8.setCell ⟨bd, 1, none⟩ v') 0 bn bp bm gu gp n L2 p (.slice (some ⟨GL2, 0, none⟩) vn2 vc2) l2 ∧ JoI (w8.setCell ⟨bd, 1, none⟩ v') b2 bd nv3 v' ns3 (gbf (nxr M) M.k (rep M 0) (fvn + 1)).N ((l2.take (fvn + 1)).map M.f) (.slice (some ⟨GL2, 0, none⟩) vn2 vc2) ∧ St13 w bd0 D (.slice (some ⟨g0, o0, none⟩) n nc) (.slice (some ⟨gf, of, none⟩) n fc) (w8.setCell ⟨bd, 1, none⟩ v'))) := fun w6 w8 o v' hb hg ho => by
              have e : (l2.take (fvn + 1)).map M.f = (l.take fvn).map M.f ++ [xx] := by
                obtain ⟨T, hT⟩ := HL2.out.2
                have e2 : l2.take fvn = l.take fvn := by rw [hT, List.take_append_of_le_length (by omega)]
                rw [List.take_add_one, hj2, e2, List.map_append, hxx]
                rfl
              have h7 := jo_mark (v' := v') (x := xx) HLOW.out (HJ4.out.below hb) (HO4.out.below hb) (HST4.out.keep HLOW.out (Kp13.of_below hb (by have := HO4.out.lbd; have := lt_of_heap HO4.out.dbx; omega))) hg (by rw [HNL.out.2]; exact ho)
              rw [← e] at h7
              exact ⟨h7.1, h7.2⟩
            have HRW2 : Hid (∀ w6 o, Below w12.heap.size w12 w6 → (w6.alloc o).ownsRow b2 4 1 (.slice fva fvn fvc) fvn (cellBo ((l.take fvn).map M.f)) ∧ b2 ≤ w6.heap.size) := fun w6 o hb => by
              have h6 := HO4.out.below hb
              have := (h6.below (below_alloc w6 o)).fin
              rw [HNL.out.2] at this
              exact ⟨this, by have := h6.lbd; have := lt_of_heap h6.dbx; omega⟩
            have hj0 : (0 : Int) ≤ (fvn : Int) := by omega
            have hj1 : (fvn : Int) < (vn2 : Int) := by omega
            have ha0 : (0 : Int) ≤ (a : Int) := by omega
            have ha1 : (a : Int) < (n : Int) := by have := HA.out.2; omega
            have HRB : Hid (Below w12.heap.size w12 w12.drew) := (Below.refl _ _).drew
            have HMV2 : Hid (∀ k, (Value.slice (some ⟨GL2, 0, none⟩) vn2 vc2).ownBlock = some k → b2 ≤ k) := HR2.out.2.2
            have hjn2 := HJN.out
            clear hxx hv2 hj2
            go_wp2
            go_region_law (refine step_append_lies _ (by rfl) (.tmp 60) (.tmp 69) 33 (by rfl) b2 4 iB (.bool false) 1 1 Tryz.underlying33 hiB hzB0 hzB1 hzB2 rfl (by decide) (.slice fva fvn fvc) fvn (cellBo ((l.take fvn).map M.f)) (by rfl) (by exact (HRW2.out _ _ HRB.out).1) ⟨w12.drew.heap.size, 0, none⟩ 1 1 [.bool xx] (by rfl) rfl (by exact World.news_of_block (heap_new' w12.drew _)) (by simp [Value.oneCell']) (by omega) (by unfold maxLen; omega) (by omega) (by have := (HRW2.out w12.drew (.cells #[.bool xx] 4) HRB.out).2; simp at this ⊢; omega) (w12.drew.heap.size + 1) (by simp) ?_; intro gL capL w8 hownL hgrowL hatL hltL; obtain ⟨⟨t0, t1, t2⟩, HZ⟩ := HFN2.out _ _ _ _ HRB.out hgrowL hownL)
            all_goals (
              go_wp2
              go_roundw
              case rel => exact ⟨fvn + 1, L2, _, l2, _, _, _, by go_num, hjn2, ⟨HV1.out, HGB.out.1.symm⟩, HLK2.out, HZ.out.1, HZ.out.2.1, HMV2.out, HZ.out.2.2⟩
              case measure => simp [intOf]; omega)
    · have HEN : Hid (leN N F = intsL (gbf (nxr M) M.k (rep M 0) j).N ∧ leF N F = (l.take j).map M.f) := by
        have hv := HV.out
        have hlen : (gbf (nxr M) M.k (rep M 0) j).S.length = l.length := by rw [← hv.2, List.length_map]
        have hfin : Gfin (nxr M) M.k (rep M 0) j := ⟨hv.1, by rw [hlen, ← HVN.out]; exact hjl⟩
        have ej : lsm M = j := (ls_fin HM.out.1).1.one hfin
        have h2 := hfin.len
        refine ⟨?_, ?_⟩
        · rw [HLE.out.1]
          unfold lsN lsG
          rw [ej]
        · rw [HLE.out.2]
          unfold lsF lsG
          rw [ej, ← hv.2, List.take_of_length_le (by omega), List.map_map]
          refine List.map_congr_left (fun x hx => ?_)
          exact f_rep HM.out.1 (by rw [HM.out.2.1]; exact HLK.out.1 x hx)
      have c0 := cell_in HO.out.dbx 0
      have c1 := cell_in HO.out.dbx 1
      have cl := lt_of_heap HO.out.dbx
      simp at c0 c1
      have d0 := cell_in HST.out.res 0
      have d1 := cell_in HST.out.res 1
      have dl := lt_of_heap HST.out.res
      have df : wr.frozen? ⟨D, 0, none⟩ = false := by simp [World.frozen?, HST.out.res]
      have dg : wr.frozen? ⟨D, 1, none⟩ = false := by simp [World.frozen?, HST.out.res]
      simp at d0 d1
      obtain ⟨na2, nn2, nc2, rfl⟩ := own_any HO.out.mat.arr
      obtain ⟨fa2, fn2, fc2, rfl⟩ := own_any HO.out.fin
      go_wp2
      refine bodyPost_ret (results_cell_row rfl _ _ D 35 #[.slice na2 nn2 nc2, .slice fa2 fn2 fc2] (0, 0) _ rfl ?_ Tryz.underlying35 rfl (by kernel_rfl)) rfl ?_
      · have := heap_setN (i := 1) (heap_setN (i := 0) HST.out.res (.slice na2 nn2 nc2)) (.slice fa2 fn2 fc2)
        simpa using this
      · obtain ⟨e1, e2, e3, e4, e5, e6, e7⟩ := HW.out
        have hlo := HLOW.out
        have hd : ∀ W, (∀ k, w.heap.size ≤ k → W.heap[k]? = ((wr.setCell ⟨D, 0, none⟩ (.slice na2 nn2 nc2)).setCell ⟨D, 1, none⟩ (.slice fa2 fn2 fc2)).heap[k]?) → DfaAt W (.agg #[.slice na2 nn2 nc2, .slice fa2 fn2 fc2]) (leN N F) (leF N F) := fun W hW => by
          have hOn : OnlyB D wr ((wr.setCell ⟨D, 0, none⟩ (.slice na2 nn2 nc2)).setCell ⟨D, 1, none⟩ (.slice fa2 fn2 fc2)) := ((OnlyB.refl _ _).set _ _).set _ _
          have h1 := hlo.l0
          have h2 := hlo.lb
          have h3 := hlo.lD
          have := HO.out.dfa2 (V := W) (fun k hk => (hW k (by omega)).trans (hOn.block k (by omega)))
          rw [← HEN.out.1, ← HEN.out.2] at this
          exact this
        exact ⟨_, rfl, hd, (HST.out.old.setCell (p := ⟨D, 0, none⟩) (by show w.heap.size ≤ D; omega) _).setCell (p := ⟨D, 1, none⟩) (by show w.heap.size ≤ D; omega) _⟩
end Go.Proofs.YtklhjjgnhigbiaaGreatDoor
