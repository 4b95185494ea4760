/-
  least.firstApart: pairs that links do not link already.
-/
import Derived.Test.YtleafbbcgebmpaaDoorLsQueue
import Derived.Test.YtleafbbcgebmpaaDoorLsAt
namespace Go.Proofs.YtleafbbcgebmpaaDoor
open Go.RowKit Go.Shelf
set_option linter.unusedVariables false

theorem Tryd.infoLinks13 : (Tryd.prog.info? 3).map (fun i => (i.zero, i.size, i.bytes)) = some (some (.int .i64 0), 1, 8) := by kernel_rfl
/-- So many pairs are left at most. -/
def FsR (M1 M2 : Mach) (W3 : World) (lo gl gm NN NQ : Nat) (m : Nat) (p : Value × World) : Prop := ∃ j n g off cap, m + j = NQ + 1 ∧ p.1 = .slice (some ⟨g, off, none⟩) n cap ∧ Vs (skU M1.n) M1 M2 j ∧ Eqs (skU M1.n) M1 M2 j ∧ j + n = (qS (skU M1.n) M1 M2 j).length ∧ FsI W3 lo gl gm NN p.2 (clsQ M1.n (qS (skU M1.n) M1 M2 j)) (qS (skU M1.n) M1 M2 j) (cellE ((qS (skU M1.n) M1 M2 j).drop j)) n g off cap
/-- A pair's own block. -/
def PBox (w : World) (b a c : Nat) : Prop := w.heap[b]? = some (.cells #[.int .i64 (a : Int), .int .i64 (c : Int)] 67 (0, 0))

theorem FsI.toBelow {w W3 wr : World} {lo gl gm NN : Nat} {cl : Nat → Nat} {Q : List Ent} {xs : List Value} {n g off cap : Nat} (h : FsI W3 lo gl gm NN wr cl Q xs n g off cap) (hb : Below w.heap.size w W3) (h1 : w.heap.size ≤ gl) (h2 : w.heap.size ≤ gm) : Below w.heap.size w wr :=
  ⟨h.os.trans hb.os, h.tape.trans hb.tape, h.output.trans hb.output, Nat.le_trans hb.size h.size, fun k hk => (h.old k (Nat.lt_of_lt_of_le hk hb.size) (by omega) (by omega)).trans (hb.block k hk)⟩
theorem rowS_more {sk : Skp} {M1 M2 : Mach} (x : Ent) (Q : List Ent) (i : Nat) : ∀ m, ∃ T, rowS sk M1 M2 x Q (i + m) = rowS sk M1 M2 x Q i ++ T
  | 0 => ⟨[], by simp⟩
  | m + 1 => by
    obtain ⟨T, h⟩ := rowS_more (sk := sk) (M1 := M1) (M2 := M2) x Q i m
    obtain ⟨T2, h2⟩ := addS_pre (sk := sk) (M1 := M1) (M2 := M2) x (rowS sk M1 M2 x Q (i + m)) (i + m)
    exact ⟨T ++ T2, by show addS sk M1 M2 x (rowS sk M1 M2 x Q (i + m)) (i + m) = _; rw [h2, h, List.append_assoc]⟩
theorem rowS_wlen {sk : Skp} {M1 M2 : Mach} {x : Ent} {Q : List Ent} {j : Nat} (hx : x.w.length ≤ j) (hQ : ∀ e ∈ Q, e.w.length ≤ j) : ∀ i, ∀ e ∈ rowS sk M1 M2 x Q i, e.w.length ≤ j + 1
  | 0, e, he => Nat.le_succ_of_le (hQ e he)
  | i + 1, e, he => by
    have he' : e ∈ addS sk M1 M2 x (rowS sk M1 M2 x Q i) i := he
    unfold addS at he'
    split at he'
    · exact rowS_wlen hx hQ i e he'
    · rcases List.mem_append.1 he' with q | q
      · exact rowS_wlen hx hQ i e q
      · rw [List.mem_singleton.1 q]
        simp
        exact hx
theorem qS_wlen {sk : Skp} {M1 M2 : Mach} : ∀ j, ∀ e ∈ qS sk M1 M2 j, e.w.length ≤ j
  | 0, e, he => by
    have : e = ⟨0, 0, []⟩ := List.mem_singleton.1 he
    rw [this]
    exact Nat.le_refl _
  | j + 1, e, he => by
    refine rowS_wlen (j := j) ?_ (qS_wlen j) M1.k e he
    rw [List.getD_eq_getElem?_getD]
    cases h : (qS sk M1 M2 j)[j]? with
    | none => exact Nat.zero_le _
    | some y => exact qS_wlen j y (List.mem_of_getElem? h)
theorem Tryd.buildSt (a b c : Int) (w : World) : (Instr.build 74 #[(0, .agg #[.int .i64 a, .int .i64 b]), (1, .int .i64 c)]).run Tryd.prog w = .ok (.agg #[.int .i64 a, .int .i64 b, .int .i64 c]) w := run_build w 74 _ _ (by kernel_rfl)

set_option maxRecDepth 100000 in
set_option maxHeartbeats 32000000 in
theorem firstApart_any (N : List (List Int)) (F : List Bool) (dv : Value) (N' : List (List Int)) (F' : List Bool) (dv' : Value) (w : World) (hd : DfaAt w dv N F) (hd' : DfaAt w dv' N' F') (hr : rightD N F = true) (hr' : rightD N' F' = true) (hk : (N.getD 0 []).length = (N'.getD 0 []).length) (hbig : N.length * N'.length ≤ 100000) :
    Calls Tryd.prog 25 #[dv, dv'] w fun e w' => ∃ v, e = .returned (.tuple #[v, .bool (apD (mch N F) (mch N' F')).isSome]) ∧ IntsAt w' v (upI ((apD (mch N F) (mch N' F')).getD [])) ∧ Below w.heap.size w w' := by
  obtain ⟨na, nc, fa, fc, rfl, hnc, hfc, hx, hfx⟩ := dfa_parts hd
  obtain ⟨na', nc', fa', fc', rfl, hnc', hfc', hx', hfx'⟩ := dfa_parts hd'
  obtain ⟨W0, hW0⟩ : ∃ W, W = (w.alloc (.cells #[.slice na N.length nc, .slice fa F.length fc] 25)).alloc (.cells #[.slice na' N'.length nc', .slice fa' F'.length fc'] 25) := ⟨_, rfl⟩
  obtain ⟨h0, h1, hB0, hs0⟩ := alloc2 hW0
  have HAT : Hid (∀ W, Below w.heap.size w W → AtD W na fa N.length (N.getD 0 []).length (mch N F)) := fun W hb => at_of (hd.below hb) hr
  have HAT' : Hid (∀ W, Below w.heap.size w W → AtD W na' fa' N'.length (N'.getD 0 []).length (mch N' F')) := fun W hb => at_of (hd'.below hb) hr'
  obtain ⟨n, hn⟩ : ∃ x, x = N.length := ⟨_, rfl⟩
  obtain ⟨n', hn'⟩ : ∃ x, x = N'.length := ⟨_, rfl⟩
  obtain ⟨m, hm⟩ : ∃ x, x = F.length := ⟨_, rfl⟩
  obtain ⟨m', hm'⟩ : ∃ x, x = F'.length := ⟨_, rfl⟩
  obtain ⟨C, hC⟩ : ∃ x, x = (N.getD 0 []).length := ⟨_, rfl⟩
  have hr1 := rightD_iff.1 hr
  have hr2 := rightD_iff.1 hr'
  have HN : Hid (n = N.length ∧ n' = N'.length ∧ m = n ∧ m' = n' ∧ 1 ≤ n ∧ 1 ≤ n' ∧ 1 ≤ C ∧ C ≤ 200 ∧ n ≤ 5000 ∧ n' ≤ 5000) := by refine ⟨hn, hn', by omega, by omega, by omega, by omega, by omega, by omega, by omega, by omega⟩
  have HMO : Hid ((mch N F).Ok ∧ (mch N' F').Ok ∧ (mch N F).k = (mch N' F').k ∧ (mch N F).n = n ∧ (mch N' F').n = n' ∧ (mch N F).k = C) := ⟨mch_ok hr, mch_ok hr', hk, hn.symm, hn'.symm, hC.symm⟩
  rw [← hn] at h0 HAT
  rw [← hn'] at h1 HAT'
  rw [← hm] at h0
  rw [← hm'] at h1
  rw [← hC] at HAT
  rw [← hk, ← hC] at HAT'
  rw [← hn, ← hn', ← hm, ← hm'] at hW0 ⊢
  obtain ⟨M1, hM1⟩ : ∃ M, M = mch N F := ⟨_, rfl⟩
  obtain ⟨M2, hM2⟩ : ∃ M, M = mch N' F' := ⟨_, rfl⟩
  rw [← hM1] at HAT HMO ⊢
  rw [← hM2] at HAT' HMO ⊢
  obtain ⟨NQ, hNQ⟩ : ∃ x, x = n * n' := ⟨_, rfl⟩
  have hNQ5 : NQ ≤ 100000 := by rw [hNQ, hn, hn']; exact hbig
  have HLEN : Hid (∀ j, Vs (skU M1.n) M1 M2 j → (qS (skU M1.n) M1 M2 j).length ≤ NQ) := fun j hv => by
    have := hv.bound (skU_ok M1 M2) HMO.out.1 HMO.out.2.1 HMO.out.2.2.1
    rw [hNQ]
    have e1 := HMO.out.2.2.2.1
    have e2 := HMO.out.2.2.2.2.1
    rwa [e2, show M1.n * n' = n * n' by rw [e1]] at this
  have HA0 : Hid (DBox W0 w.heap.size (.slice na n nc) (.slice fa m fc)) := h0
  have HA1 : Hid (DBox W0 (w.heap.size + 1) (.slice na' n' nc') (.slice fa' m' fc')) := h1
  have HB0 : Hid (Below w.heap.size w W0 ∧ W0.heap.size = w.heap.size + 2) := ⟨hB0, hs0⟩
  have HW0 : Hid (W0 = _) := hW0
  have a0 := HA0.out.c0
  have al := HA0.out.lt
  have b0 := HA1.out.c0
  have bl := HA1.out.lt
  have hn5 : n ≤ 5000 := HN.out.2.2.2.2.2.2.2.2.1
  have hn5' : n' ≤ 5000 := HN.out.2.2.2.2.2.2.2.2.2
  have hn1 : 1 ≤ n := HN.out.2.2.2.2.1
  have hn1' : 1 ≤ n' := HN.out.2.2.2.2.2.1
  obtain ⟨gm, hgm⟩ : ∃ x, x = (W0.alloc (.cells #[.int .i64 0, .int .i64 0] 67)).heap.size := ⟨_, rfl⟩
  have hmap := World.ownsMap_made (W0.alloc (.cells #[.int .i64 0, .int .i64 0] 67)) Tryd.prog 67 stR
  have hbx : (W0.alloc (.cells #[.int .i64 0, .int .i64 0] 67)).heap[W0.heap.size]? = some (.cells #[.int .i64 0, .int .i64 0] 67) := heap_new' _ _
  obtain ⟨W1, hW1⟩ : ∃ W, W = (W0.alloc (.cells #[.int .i64 0, .int .i64 0] 67)).alloc (.map #[] 0) := ⟨_, rfl⟩
  have hbA : Below W0.heap.size W0 W1 := by rw [hW1]; exact (below_alloc _ _).trans ((below_alloc _ _).mono (by simp))
  have hbB : Below (W0.alloc (.cells #[.int .i64 0, .int .i64 0] 67)).heap.size (W0.alloc (.cells #[.int .i64 0, .int .i64 0] 67)) W1 := by rw [hW1]; exact below_alloc _ _
  have hs1 : W1.heap.size = W0.heap.size + 2 := by rw [hW1]; simp
  have HW1E : Hid (W1 = _) := hW1
  have hmk := run_makeMap (P := Tryd.prog) 68 (W0.alloc (.cells #[.int .i64 0, .int .i64 0] 67))
  rw [← hgm] at hmk
  rw [← hgm, ← hW1] at hmap
  obtain ⟨bb, hbb⟩ : ∃ x, x = W0.heap.size := ⟨_, rfl⟩
  have HW1 : Hid (Below W0.heap.size W0 W1 ∧ W1.heap.size = W0.heap.size + 2 ∧ W1.ownsMap Tryd.prog 67 stR gm 0 (.map []) ∧ PBox W1 bb 0 0 ∧ bb = W0.heap.size ∧ gm = W0.heap.size + 1) := ⟨hbA, hs1, hmap, by rw [hbb]; exact (hbB.block _ (by simp)).trans hbx, hbb, by rw [hgm]; simp⟩
  have hnl := newLinks_any (n + n') W1 (by omega)
  rw [Int.natCast_add] at hnl
  clear hd hd' hx hfx hx' hfx' h0 h1 hB0 hs0 hW0 hn hn' hm hm' hC hbig hnc hfc hnc' hfc' hr hr' hr1 hr2 hk hM1 hM2 hNQ hmap hbx hbA hbB hs1 hgm
  go_enter Tryd.func25, Tryd.ntmps25
  go_upto_region 1 with fail
  rw [← HW0.out]
  go_upto_region 3 with fail
  rw [← HW1E.out, ← hbb]
  have a0 : W1.cell? ⟨w.heap.size, 0, none⟩ = some (.slice na n nc) := (HA0.out.below (HW1.out.1)).c0
  have b0 : W1.cell? ⟨w.heap.size + 1, 0, none⟩ = some (.slice na' n' nc') := (HA1.out.below (HW1.out.1)).c0
  have al : w.heap.size < W1.heap.size := (HA0.out.below (HW1.out.1)).lt
  have bl : w.heap.size + 1 < W1.heap.size := (HA1.out.below (HW1.out.1)).lt
  clear hbb hW1 hmk
  go_wp2_with fail
  refine hnl.mono ?_
  rintro e w2 ⟨gl, rfl, hrow, hb2⟩
  have HR2 : Hid (RowN w2 W1.heap.size gl (n + n') id ∧ Below W1.heap.size W1 w2) := ⟨hrow, hb2⟩
  have hlk : Calls Tryd.prog 36 #[.slice (some ⟨gl, 0, none⟩) (n + n') (n + n'), .int .i64 0, .int .i64 (n : Int)] w2 _ := link_any13 W1.heap.size gl (n + n') id id (fun _ => 0) 0 0 n w2 hrow (uf_init _) (by omega) (by omega) (by omega)
  have pb := (hb2.block _ (lt_of_heap HW1.out.2.2.2.1)).trans HW1.out.2.2.2.1
  have p0 := cell_in pb 0
  have p1 := cell_in pb 1
  have pl := lt_of_heap pb
  simp at p0 p1
  have a0 : w2.cell? ⟨w.heap.size, 0, none⟩ = some (.slice na n nc) := ((HA0.out.below (HW1.out.1)).below hb2).c0
  have al : w.heap.size < w2.heap.size := ((HA0.out.below (HW1.out.1)).below hb2).lt
  clear hnl hrow hb2 b0 bl
  go_upto_region 5 with fail
  refine hlk.mono ?_
  rintro e w3 ⟨rfl, L3, h3, B3, hr3, hu3, ho3⟩
  have HW3 : Hid (RowN w3 W1.heap.size gl (n + n') L3 ∧ Uf (n + n') L3 (lnk id 0 n) h3 B3 ∧ OnlyB gl w2 w3) := ⟨hr3, hu3, ho3⟩
  have hgl1 := (HR2.out.1.lt).2
  have hgl2 := (HR2.out.1.lt).1
  have hgb : bb < gl ∧ gm < gl ∧ w.heap.size + 1 < gl := by
    have h1 := HW1.out.2.1
    have h2 := HW1.out.2.2.2.2.1
    have h3 := HW1.out.2.2.2.2.2
    have h4 := HB0.out.2
    omega
  have HGL : Hid (bb < gl ∧ gm < gl ∧ w.heap.size + 1 < gl ∧ gl < w3.heap.size ∧ w.heap.size ≤ gm ∧ w.heap.size ≤ bb) := ⟨hgb.1, hgb.2.1, hgb.2.2, by rw [ho3.size]; exact hgl2, by have h1 := HW1.out.2.2.2.2.2; have h2 := HB0.out.2; omega, by have h1 := HW1.out.2.2.2.2.1; have h2 := HB0.out.2; omega⟩
  have HK3 : Hid (∀ k, k < W1.heap.size → w3.heap[k]? = W1.heap[k]?) := fun k hk => (ho3.block k (by omega)).trans (HR2.out.2.block k hk)
  have HB3 : Hid (Below w.heap.size w w3) := by
    have h1 := HW1.out.2.1
    have h2 := HB0.out.2
    refine ⟨ho3.os.trans (HR2.out.2.os.trans (HW1.out.1.os.trans HB0.out.1.os)), ho3.tape.trans (HR2.out.2.tape.trans (HW1.out.1.tape.trans HB0.out.1.tape)), ho3.output.trans (HR2.out.2.output.trans (HW1.out.1.output.trans HB0.out.1.output)), by rw [ho3.size]; have := HR2.out.2.size; omega, fun k hk => (HK3.out k (by omega)).trans ((HW1.out.1.block k (by omega)).trans (HB0.out.1.block k hk))⟩
  have HBX : Hid (∀ k, k < W1.heap.size → k ≠ gm → ∀ (W : World) cl Q xs n1 g off cap, FsI w3 W1.heap.size gl gm (n + n') W cl Q xs n1 g off cap → W.heap[k]? = W1.heap[k]?) := fun k hk hne W cl Q xs n1 g off cap h => by
    have h7 := HGL.out.2.2.2.1
    exact (h.old k (by omega) (by omega) hne).trans (HK3.out k hk)
  have HBB : Hid (∀ (W : World) cl Q xs n1 g off cap, FsI w3 W1.heap.size gl gm (n + n') W cl Q xs n1 g off cap → PBox W bb 0 0 ∧ DBox W w.heap.size (.slice na n nc) (.slice fa m fc) ∧ DBox W (w.heap.size + 1) (.slice na' n' nc') (.slice fa' m' fc') ∧ Below w.heap.size w W) := fun W cl Q xs n1 g off cap h => by
    have h1 := HW1.out.2.1
    have h2 := HB0.out.2
    have h5 := HW1.out.2.2.2.2.1
    have h6 := HW1.out.2.2.2.2.2
    have k1 := HA0.out.below HW1.out.1
    have k2 := HA1.out.below HW1.out.1
    exact ⟨(HBX.out bb (by omega) (by omega) W cl Q xs n1 g off cap h).trans HW1.out.2.2.2.1, (HBX.out _ (by omega) (by omega) W cl Q xs n1 g off cap h).trans k1, (HBX.out _ (by omega) (by omega) W cl Q xs n1 g off cap h).trans k2, h.toBelow HB3.out (by omega) (by omega)⟩
  obtain ⟨W4, hW4⟩ : ∃ W, W = w3.alloc (.cells #[.int .i64 0, .int .i64 0] 67) := ⟨_, rfl⟩
  have HW4 : Hid (W4 = _) := hW4
  have HI4 : Hid (FsI w3 W1.heap.size gl gm (n + n') W4 (clsQ M1.n (qS (skU M1.n) M1 M2 0)) (qS (skU M1.n) M1 M2 0) (cellE ((qS (skU M1.n) M1 M2 0).drop 0)) 1 w3.heap.size 0 1) := by
    have hb4 : Below w3.heap.size w3 W4 := by rw [hW4]; exact below_alloc _ _
    have hm3 := HW1.out.2.2.1.kept (w' := w3) (row := some gl) ⟨ho3.os.trans HR2.out.2.os, ho3.tape.trans HR2.out.2.tape, ho3.output.trans HR2.out.2.output, by rw [ho3.size]; exact HR2.out.2.size, fun k hk _ => HK3.out k hk⟩ (fun e => by injection e; omega)
    have hm4 := hm3.kept (w' := W4) (row := none) ⟨hb4.os, hb4.tape, hb4.output, hb4.size, fun k hk _ => hb4.block k hk⟩ (by simp)
    refine ⟨hb4.os, hb4.tape, hb4.output, hb4.size, fun k hk _ _ => hb4.block k hk, HGL.out.2.2.2.1, by have := HGL.out; omega, ⟨L3, h3, B3, hr3.below hb4, ?_⟩, ⟨0, .map [], Nat.zero_le _, hm4, fun e he u c hw => ?_⟩, ⟨Nat.le_refl _, rfl, Nat.le_refl _, _, by rw [hW4]; exact heap_new' _ _, by simp, fun j u hj => ?_⟩⟩
    · have e : clsQ M1.n (qS (skU M1.n) M1 M2 0) = lnk id 0 n := by
        show lnk id 0 (M1.n + 0) = _
        rw [HMO.out.2.2.2.1]
        rfl
      rw [e]
      exact hu3
    · have : e = ⟨0, 0, []⟩ := List.mem_singleton.1 he
      rw [this] at hw
      simp at hw
    · rw [Nat.zero_add]
      have hj' : ([Value.int .i64 0, Value.int .i64 0] : List Value)[j]? = some u := hj
      simpa using hj'
  obtain ⟨mu, hmu⟩ := ghost_mu (FsR M1 M2 w3 W1.heap.size gl gm (n + n') NQ)
  have HMU : Hid (∀ a j, FsR M1 M2 w3 W1.heap.size gl gm (n + n') NQ j a → mu a ≤ j ∧ FsR M1 M2 w3 W1.heap.size gl gm (n + n') NQ (mu a) a) := hmu
  have HST : Hid (FsR M1 M2 w3 W1.heap.size gl gm (n + n') NQ (NQ + 1) (.slice (some ⟨w3.heap.size, 0, none⟩) 1 1, W4)) := ⟨0, 1, _, 0, 1, rfl, rfl, fun i h => absurd h (by omega), fun i h => absurd h (by omega), rfl, HI4.out⟩
  have q0 := cell_in (HBB.out _ _ _ _ _ _ _ _ HI4.out).1
  have pb3 := (HK3.out bb (by have := HW1.out; omega)).trans HW1.out.2.2.2.1
  have p0 := cell_in pb3 0
  have p1 := cell_in pb3 1
  have pl := lt_of_heap pb3
  simp at p0 p1
  clear hlk hr3 hu3 ho3 hgl1 hgl2 hgb hmu a0 al pb q0 pb3 hW4
  go_wp2
  rw [← HW4.out]
  go_loopw [9] (fun x9 wr => ∃ m : Nat, Hid (FsR M1 M2 w3 W1.heap.size gl gm (n + n') NQ m (x9, wr))) (fun x9 wr => mu (x9, wr))
  case atStart => exact ⟨_, HST⟩
  case round =>
    obtain ⟨m0, hR⟩ := hrel
    have h2 := (HMU.out _ _ hR.out).2
    obtain ⟨mm, hmm⟩ : ∃ x, x = mu (u9, wr) := ⟨_, rfl⟩
    have HMM : Hid (mm = mu (u9, wr)) := hmm
    rw [← hmm] at h2
    clear hR hmm
    obtain ⟨j, k, g, off, cap, hmj, hx9, hv, he, hjn, hI⟩ := h2
    replace hx9 : u9 = .slice (some ⟨g, off, none⟩) k cap := hx9
    subst hx9
    have HV : Hid (Vs (skU M1.n) M1 M2 j ∧ Eqs (skU M1.n) M1 M2 j ∧ mm + j = NQ + 1 ∧ j + k = (qS (skU M1.n) M1 M2 j).length) := ⟨hv, he, hmj, hjn⟩
    have HI : Hid (FsI w3 W1.heap.size gl gm (n + n') wr (clsQ M1.n (qS (skU M1.n) M1 M2 j)) (qS (skU M1.n) M1 M2 j) (cellE ((qS (skU M1.n) M1 M2 j).drop j)) k g off cap) := hI
    have hlen := HLEN.out j hv
    clear hv he hmj hI
    cases k with
    | zero =>
      have HF : Hid (apD M1 M2 = none) := qs_none (skU_ok M1 M2) HMO.out.1 HMO.out.2.1 HMO.out.2.2.1 HV.out.1 HV.out.2.1 (by omega)
      have HBW := (HBB.out _ _ _ _ _ _ _ _ HI.out).2.2.2
      have HBF : Hid (Below w.heap.size w wr) := HBW
      clear HBW
      go_wp2
      go_ret2
      exact ⟨_, by rw [HF.out]; rfl, by rw [HF.out]; exact IntsAt.nil _, HBF.out⟩
    | succ k =>
    have hjQ : j < (qS (skU M1.n) M1 M2 j).length := by omega
    have hat := qS_at (sk := skU M1.n) (M1 := M1) (M2 := M2) (Nat.le_refl j) hjQ
    obtain ⟨x, hx⟩ : ∃ x, x = (qS (skU M1.n) M1 M2 j).getD j ⟨0, 0, []⟩ := ⟨_, rfl⟩
    rw [← hx] at hat
    have hok := qS_ok (skU_ok M1 M2) HMO.out.1 HMO.out.2.1 HMO.out.2.2.1 j HV.out.1
    have hgx := hok.1 x (List.mem_of_getElem? hat)
    have HX : Hid (x = (qS (skU M1.n) M1 M2 j).getD j ⟨0, 0, []⟩ ∧ x ∈ qS (skU M1.n) M1 M2 j ∧ x.a < n ∧ x.b < n' ∧ (qS (skU M1.n) M1 M2 j)[j]? = some x) := ⟨hx, List.mem_of_getElem? hat, by rw [← HMO.out.2.2.2.1]; exact hgx.2.2.2.1, by rw [← HMO.out.2.2.2.2.1]; exact hgx.2.2.2.2, hat⟩
    have HDR : Hid ((qS (skU M1.n) M1 M2 j).drop j = x :: (qS (skU M1.n) M1 M2 j).drop (j + 1)) := by
      show _ = _
      rw [List.drop_eq_getElem_cons hjQ]
      congr 1
      have := List.getElem?_eq_getElem hjQ
      rw [hat] at this
      injection this with this
      exact this.symm
    have z0 := HI.out.q.cell (j := 0) (u := .int .i64 (x.a : Int)) (by rw [HDR.out]; rfl)
    have z1 := HI.out.q.cell (j := 1) (u := .int .i64 (x.b : Int)) (by rw [HDR.out]; rfl)
    have zl := HI.out.q.lt
    rw [Nat.add_zero] at z0
    obtain ⟨xa, hxa⟩ : ∃ y, y = x.a := ⟨_, rfl⟩
    obtain ⟨xb, hxb⟩ : ∃ y, y = x.b := ⟨_, rfl⟩
    have HXX : Hid (xa = x.a ∧ xb = x.b) := ⟨hxa, hxb⟩
    rw [← hxa] at z0
    rw [← hxb] at z1
    have hxn : xa < n := by rw [hxa]; exact HX.out.2.2.1
    have hxn' : xb < n' := by rw [hxb]; exact HX.out.2.2.2.1
    obtain ⟨W5, hW5⟩ : ∃ W, W = wr.alloc (.cells #[.int .i64 (xa : Int), .int .i64 (xb : Int)] 67) := ⟨_, rfl⟩
    have hB5 : Below wr.heap.size wr W5 := by rw [hW5]; exact below_alloc _ _
    have hp5 : PBox W5 wr.heap.size xa xb := by rw [hW5]; exact heap_new' _ _
    have HI5 : Hid (FsI w3 W1.heap.size gl gm (n + n') W5 (clsQ M1.n (qS (skU M1.n) M1 M2 j)) (qS (skU M1.n) M1 M2 j) (cellE ((qS (skU M1.n) M1 M2 j).drop j)) (k + 1) g off cap) := HI.out.below hB5
    obtain ⟨ab, hab⟩ : ∃ y, y = wr.heap.size := ⟨_, rfl⟩
    have HAB : Hid (g < ab ∧ w3.heap.size ≤ ab) := by
      have h1 := HI.out.q.lt
      have h2 := HI.out.size
      exact ⟨by omega, by omega⟩
    rw [← hab] at hp5
    have HP5 : Hid (PBox W5 ab xa xb) := hp5
    have HW5 : Hid (W5 = _) := hW5
    obtain ⟨k5, k6, k7, k8⟩ := HBB.out _ _ _ _ _ _ _ _ HI5.out
    obtain ⟨gf, of, hfe, hgf, f0⟩ := (HAT.out W5 k8).2 xa hxn
    obtain ⟨gf', of', hfe', hgf', f0'⟩ := (HAT'.out W5 k8).2 xb hxn'
    subst hfe hfe'
    have y0 := k6.c1
    have yl := k6.lt
    have y2 := k7.c1
    have yl' := k7.lt
    have v0 := cell_in hp5 0
    have v1 := cell_in hp5 1
    have vl := lt_of_heap hp5
    simp at v0 v1
    obtain ⟨u, hu⟩ : ∃ u, u = M1.f xa := ⟨_, rfl⟩
    obtain ⟨u', hu'⟩ : ∃ u, u = M2.f xb := ⟨_, rfl⟩
    have HU : Hid (u = M1.f x.a ∧ u' = M2.f x.b) := ⟨by rw [hu, hxa], by rw [hu', hxb]⟩
    rw [← hu] at f0
    rw [← hu'] at f0'
    have hmm1 : m = n := HN.out.2.2.1
    have hmm2 : m' = n' := HN.out.2.2.2.1
    have hxan : (xa : Int) < (m : Int) := by omega
    have hxbn : (xb : Int) < (m' : Int) := by omega
    have hxa0 : (0 : Int) ≤ (xa : Int) := by omega
    have hxb0 : (0 : Int) ≤ (xb : Int) := by omega
    have hk0 : (0 : Int) < ((k + 1 : Nat) : Int) := by omega
    obtain ⟨ue, hue⟩ : ∃ b, b = (u == u') := ⟨_, rfl⟩
    have hue' : (u == u') = ue := hue.symm
    obtain ⟨un, hun⟩ : ∃ b, b = !ue := ⟨_, rfl⟩
    have HUN : Hid (un = !ue) := hun
    have HUE : Hid (un = !(u == u')) := by rw [hun, hue]; exact rfl
    clear hx hat hok hgx hxa hxb hW5 hB5 hp5 k5 k6 k7 k8 hu hu' hue hun hjQ hmm1 hmm2
    go_upto_region 9 with fail
    rw [← HW5.out, ← hab]
    clear hab
    go_cut [56] from 44 to 57 (fun s wx => s = .bool un ∧ Hid (Below W5.heap.size W5 wx))
    case first =>
      go_region
      all_goals (
        go_wp2
        go_meet
        exact ⟨by rw [HUN.out], by first | exact (Below.refl _ _).drew | exact below_drewN' (Below.refl _ _) _⟩)
    case rest =>
    obtain ⟨rfl, HBc⟩ := hcut
    obtain ⟨w6, hw6⟩ : ∃ W, W = wc := ⟨_, rfl⟩
    rw [← hw6] at HBc ⊢
    have HI6 : Hid (FsI w3 W1.heap.size gl gm (n + n') w6 (clsQ M1.n (qS (skU M1.n) M1 M2 j)) (qS (skU M1.n) M1 M2 j) (cellE ((qS (skU M1.n) M1 M2 j).drop j)) (k + 1) g off cap) := HI5.out.below HBc.out
    have HP6 : Hid (PBox w6 ab xa xb) := (HBc.out.block _ (lt_of_heap HP5.out)).trans HP5.out
    clear hw6 y0 yl y2 yl' v0 v1 vl f0 f0' z0 z1 zl hgf hgf' hue' HUN
    have v0 := cell_in HP6.out 0
    have v1 := cell_in HP6.out 1
    have vl := lt_of_heap HP6.out
    simp at v0 v1
    cases un with
    | true =>
      have HNE : Hid (M1.f x.a ≠ M2.f x.b) := by
        have h := HUE.out
        show _ ≠ _
        rw [← HU.out.1, ← HU.out.2]
        intro q
        rw [q] at h
        simp at h
      have HFD : Hid (apD M1 M2 = some x.w) := qs_found (skU_ok M1 M2) HMO.out.1 HMO.out.2.1 HMO.out.2.2.1 HV.out.1 HV.out.2.1 HX.out.2.2.2.2 HNE.out
      have hbtw : Calls Tryd.prog 37 #[.agg #[.int .i64 0, .int .i64 0], .agg #[.int .i64 (xa : Int), .int .i64 (xb : Int)], .map (some gm)] w6 fun e w' => ∃ v, e = .returned v ∧ IntsAt w' v (upI x.w) ∧ Below w6.heap.size w6 w' := by
        have hok := qS_ok (skU_ok M1 M2) HMO.out.1 HMO.out.2.1 HMO.out.2.2.1 j HV.out.1
        obtain ⟨m1, D1, _, hm1, hK1⟩ := HI6.out.mp
        have hnn := HN.out
        rw [HXX.out.1, HXX.out.2]
        refine between_any (qS (skU M1.n) M1 M2 j) x gm m1 D1 w6 HX.out.2.1 hm1 hK1 (fun e he => ⟨fun h => ?_, fun h => ?_⟩) (fun y hy => ?_) ?_
        · obtain ⟨g1, g2, g3, _⟩ := hok.1 e he
          rw [h] at g2 g3
          exact ⟨g2.symm, g3.symm⟩
        · obtain ⟨i, hi, rfl⟩ := List.mem_iff_getElem.1 he
          have hz := qS_zero (sk := skU M1.n) (M1 := M1) (M2 := M2) j
          have h0 : 0 < (qS (skU M1.n) M1 M2 j).length := (List.getElem?_eq_some_iff.1 hz).1
          by_cases q : i = 0
          · subst q
            rw [List.getElem?_eq_getElem h0] at hz
            injection hz with hz
            rw [hz]
          · have := List.pairwise_iff_getElem.1 hok.2.1 0 i h0 hi (by omega)
            rw [List.getElem?_eq_getElem h0] at hz
            injection hz with hz
            rw [hz] at this
            exact absurd ⟨h.1.symm, h.2.symm⟩ this
        · obtain ⟨g1, g2, g3, g4, g5⟩ := hok.1 y hy
          have e1 := HMO.out.2.2.2.1
          have e2 := HMO.out.2.2.2.2.1
          have e3 := HMO.out.2.2.2.2.2
          refine ⟨by omega, by omega, fun c hc => ?_⟩
          have := g1 c hc
          omega
        · have := qS_wlen (sk := skU M1.n) (M1 := M1) (M2 := M2) j x HX.out.2.1
          have h2 := HV.out.2.2.2
          omega
      have q0 := cell_in (HBB.out _ _ _ _ _ _ _ _ HI6.out).1 0
      have q1 := cell_in (HBB.out _ _ _ _ _ _ _ _ HI6.out).1 1
      have ql := lt_of_heap (HBB.out _ _ _ _ _ _ _ _ HI6.out).1
      simp at q0 q1
      have HB6 : Hid (Below w.heap.size w w6) := (HBB.out _ _ _ _ _ _ _ _ HI6.out).2.2.2
      go_wp2_with fail
      refine hbtw.mono ?_
      rintro e w7 ⟨v, rfl, hv7, hb7⟩
      have HV7 : Hid (IntsAt w7 v (upI x.w) ∧ Below w.heap.size w w7) := ⟨hv7, below_after HB6.out hb7⟩
      clear hbtw hv7 hb7
      go_wp2
      go_ret2
      exact ⟨_, by rw [HFD.out]; rfl, by rw [HFD.out]; exact HV7.out.1, HV7.out.2⟩
    | false =>
    have HEQ : Hid (M1.f x.a = M2.f x.b) := by
      have h := HUE.out
      show _ = _
      rw [← HU.out.1, ← HU.out.2]
      cases hq : (u == u') with
      | true => simpa using hq
      | false => rw [hq] at h; cases h
    clear HUE HU
    have HC : Hid (1 ≤ C ∧ C ≤ 200) := ⟨HN.out.2.2.2.2.2.2.1, HN.out.2.2.2.2.2.2.2.1⟩
    obtain ⟨k5, k6, k7, k8⟩ := HBB.out _ _ _ _ _ _ _ _ HI6.out
    obtain ⟨ga, oa, yc, g2, o2, e1, l1, z1, l2, hrow1⟩ := at_row (HAT.out w6 k8) hxn HC.out.1
    have HRW : Hid (∀ W, Below w.heap.size w W → ∀ c, c < C → W.cell? ⟨g2, o2 + c, none⟩ = some (.int .i64 ((M1.d xa c : Nat) : Int)) ∧ g2 < W.heap.size ∧ M1.d xa c < n) := fun W hb c hc => by
      obtain ⟨ga', oa', yc', g2', o2', e1', l1', z1', l2', hrow1'⟩ := at_row (HAT.out w (Below.refl _ _)) hxn HC.out.1
      have hz := (k8.cell (p := ⟨ga', oa' + xa, none⟩) l1').trans z1'
      rw [e1] at e1'
      injection e1' with e1'
      injection e1' with a1 a2 _
      subst a1 a2
      rw [z1] at hz
      injection hz with hz
      injection hz with hz _ _
      injection hz with hz
      injection hz with a1 a2 _
      subst a1 a2
      obtain ⟨b1, b2⟩ := hrow1' c hc
      exact ⟨(hb.cell (p := ⟨g2, o2 + c, none⟩) l2').trans b1, Nat.lt_of_lt_of_le l2' hb.size, b2⟩
    have y0 := k6.c0
    have yl := k6.lt
    subst e1
    clear k5 k6 k7 k8 hrow1
    go_wp2
    clear y0 yl z1 l1 l2 v0 v1 vl
    go_loopw [9, 68] (fun x9 x68 wr => ∃ (c nq g off cap : Nat) (U : List Ent), c ≤ C ∧ x68 = .int .i64 (c : Int) ∧ x9 = .slice (some ⟨g, off, none⟩) nq cap ∧ Hid (U = rowS (skU M1.n) M1 M2 x (qS (skU M1.n) M1 M2 j) c ∧ j + nq = U.length) ∧ Hid (FsI w3 W1.heap.size gl gm (n + n') wr (clsQ M1.n U) U (cellE (U.drop j)) nq g off cap) ∧ Hid (PBox wr ab xa xb ∧ g ≠ ab)) (fun _ x68 _ => C - (intOf x68).toNat)
    case atStart => exact ⟨0, k + 1, g, off, cap, _, Nat.zero_le _, rfl, rfl, ⟨rfl, HV.out.2.2.2⟩, HI6, ⟨HP6.out, by have := HAB.out.1; omega⟩⟩
    case round =>
      obtain ⟨c, nq, g, off, cap, U, hc, rfl, rfl, HUU, HI, HP⟩ := hrel
      obtain ⟨k5, k6, k7, k8⟩ := HBB.out _ _ _ _ _ _ _ _ HI.out
      have HBW : Hid (Below w.heap.size w wr) := k8
      have hC2 := HC.out.2
      have HRO : Hid (GoodE M1 M2 U ∧ ∃ T, U = qS (skU M1.n) M1 M2 j ++ T) := by
        have hok := qS_ok (skU_ok M1 M2) HMO.out.1 HMO.out.2.1 HMO.out.2.2.1 j HV.out.1
        have := rowS_ok (skU_ok M1 M2) HMO.out.1 HMO.out.2.1 HMO.out.2.2.1 HX.out.2.1 hok.1 hok.2.1 hok.2.2.1 (hok.2.2.2.1 x HX.out.2.2.2.2) c (by rw [HMO.out.2.2.2.2.2]; exact hc)
        rw [← HUU.out.1] at this
        obtain ⟨T, hT⟩ := rowS_pre (sk := skU M1.n) (M1 := M1) (M2 := M2) x (qS (skU M1.n) M1 M2 j) c
        exact ⟨this.1, T, by rw [HUU.out.1]; exact hT⟩
      have HUL : Hid (U.length ≤ NQ) := by
        have h1 := HLEN.out (j + 1) (HV.out.1.succ (by have := HV.out.2.2.2; omega))
        obtain ⟨q, hq⟩ : ∃ q, C = c + q := ⟨C - c, by omega⟩
        have hqq : qS (skU M1.n) M1 M2 (j + 1) = rowS (skU M1.n) M1 M2 x (qS (skU M1.n) M1 M2 j) (c + q) := by
          show rowS _ M1 M2 ((qS _ M1 M2 j).getD j ⟨0, 0, []⟩) (qS _ M1 M2 j) M1.k = _
          rw [← HX.out.1, HMO.out.2.2.2.2.2, hq]
        obtain ⟨T, hT⟩ := rowS_more (sk := skU M1.n) (M1 := M1) (M2 := M2) x (qS (skU M1.n) M1 M2 j) c q
        rw [hqq, hT, ← HUU.out.1, List.length_append] at h1
        show _ ≤ _
        omega
      by_cases hcl : c < C
      case pos =>
        obtain ⟨r0, r1, r2⟩ := HRW.out wr k8 c hcl
        obtain ⟨gb, ob, yc', g3, o3, e1', l1', z1', l2', hrow1'⟩ := at_row (HAT'.out wr k8) hxn' HC.out.1
        obtain ⟨s0, s2⟩ := hrow1' c hcl
        subst e1'
        have y2 := k7.c0
        have yl' := k7.lt
        have v0 := cell_in HP.out.1 0
        have v1 := cell_in HP.out.1 1
        have vl := lt_of_heap HP.out.1
        simp at v0 v1
        obtain ⟨D1, hD1⟩ : ∃ y, y = M1.d xa c := ⟨_, rfl⟩
        obtain ⟨D2, hD2⟩ : ∃ y, y = M2.d xb c := ⟨_, rfl⟩
        have HDD : Hid (D1 = M1.d x.a c ∧ D2 = M2.d x.b c) := ⟨by rw [hD1, HXX.out.1], by rw [hD2, HXX.out.2]⟩
        rw [← hD1] at r0 r2
        rw [← hD2] at s0 s2
        have hc0 : (0 : Int) ≤ (c : Int) := by omega
        have hc1 : (c : Int) < (C : Int) := by omega
        obtain ⟨W6, hW6⟩ : ∃ W, W = wr.alloc (.cells #[.int .i64 (D1 : Int), .int .i64 (D2 : Int)] 67) := ⟨_, rfl⟩
        have HW6 : Hid (W6 = _) := hW6
        have hB6 : Below wr.heap.size wr W6 := by rw [hW6]; exact below_alloc _ _
        have hp6 : PBox W6 wr.heap.size D1 D2 := by rw [hW6]; exact heap_new' _ _
        obtain ⟨nb, hnb⟩ : ∃ y, y = wr.heap.size := ⟨_, rfl⟩
        rw [← hnb] at hp6
        have HP6 : Hid (PBox W6 nb D1 D2 ∧ nb = wr.heap.size) := ⟨hp6, hnb⟩
        have HI7 : Hid (FsI w3 W1.heap.size gl gm (n + n') W6 (clsQ M1.n U) U (cellE (U.drop j)) nq g off cap) := HI.out.below hB6
        obtain ⟨m5, m6, m7, m8⟩ := HBB.out _ _ _ _ _ _ _ _ HI7.out
        have x0 := m6.c0
        have xl := m6.lt
        have n0 := cell_in hp6 0
        have n1 := cell_in hp6 1
        have nl := lt_of_heap hp6
        simp at n0 n1
        obtain ⟨L7, h7, B7, hr7, hu7⟩ := HI7.out.ln
        have hlk := link_any13 W1.heap.size gl (n + n') L7 (clsQ M1.n U) h7 B7 D1 (n + D2) W6 hr7 hu7 (by omega) (by omega) (by omega)
        rw [Int.natCast_add] at hlk
        have HPA : Hid (PBox W6 ab xa xb) := (hB6.block _ (lt_of_heap HP.out.1)).trans HP.out.1
        obtain ⟨b, hb⟩ : ∃ b, b = decide (clsQ M1.n U D1 = clsQ M1.n U (n + D2)) := ⟨_, rfl⟩
        have HSK : Hid (b = skU M1.n U D1 D2 ∧ (b = true → clsQ M1.n U D1 = clsQ M1.n U (n + D2))) := ⟨by rw [hb]; unfold skU; rw [HMO.out.2.2.2.1], fun e => by rw [e] at hb; exact of_decide_eq_true hb.symm⟩
        rw [← hb] at hlk
        clear k5 k6 k7 k8 hrow1' hD1 hD2 hW6 hB6 hp6 m5 m6 m7 m8 hr7 hu7 hb
        go_upto_region 15 with fail
        rw [← HW6.out, ← hnb]
        clear hnb r0 r1 z1' l1' l2' s0 y2 yl' v0 v1 vl
        go_wp2_with fail
        refine hlk.mono ?_
        rintro e w7 ⟨rfl, L8, h8, B8, hr8, hu8, ho8⟩
        have HI8 : Hid (FsI w3 W1.heap.size gl gm (n + n') w7 (lnk (clsQ M1.n U) D1 (n + D2)) U (cellE (U.drop j)) nq g off cap) := HI7.out.link ho8 hr8 hu8
        have HP8 : Hid (PBox w7 ab xa xb ∧ PBox w7 nb D1 D2) := by
          have h1 := HI7.out.lgl
          have h2 := HAB.out.2
          have h3 := HP6.out.2
          have h4 := HI.out.size
          exact ⟨(ho8.block _ (by omega)).trans HPA.out, (ho8.block _ (by omega)).trans HP6.out.1⟩
        clear hlk hr8 hu8 ho8 x0 xl n0 n1 nl
        cases b with
        | true =>
          have HN8 : Hid ((U = rowS (skU M1.n) M1 M2 x (qS (skU M1.n) M1 M2 j) (c + 1) ∧ j + nq = U.length)) := by
            refine ⟨?_, HUU.out.2⟩
            show U = addS (skU M1.n) M1 M2 x (rowS (skU M1.n) M1 M2 x (qS (skU M1.n) M1 M2 j) c) c
            unfold addS
            rw [← HUU.out.1, ← HDD.out.1, ← HDD.out.2, if_pos HSK.out.1.symm]
          have HI9 : Hid (FsI w3 W1.heap.size gl gm (n + n') w7 (clsQ M1.n U) U (cellE (U.drop j)) nq g off cap) := by
            have := HI8.out
            rw [lnk_same (HSK.out.2 rfl)] at this
            exact this
          go_wp2
          go_roundw
          case rel => exact ⟨c + 1, nq, g, off, cap, U, by omega, by go_num, rfl, HN8, HI9, ⟨HP8.out.1, HP.out.2⟩⟩
          case measure => simp [intOf]; omega
        | false =>
          obtain ⟨e9, he9⟩ : ∃ e : Ent, e = ⟨D1, D2, x.w ++ [c]⟩ := ⟨_, rfl⟩
          have HE9 : Hid (e9 = ⟨D1, D2, x.w ++ [c]⟩) := he9
          have HN8 : Hid (U ++ [e9] = rowS (skU M1.n) M1 M2 x (qS (skU M1.n) M1 M2 j) (c + 1) ∧ j + (nq + 1) = (U ++ [e9]).length) := by
            refine ⟨?_, by have := HUU.out.2; simp; omega⟩
            show _ = addS (skU M1.n) M1 M2 x (rowS (skU M1.n) M1 M2 x (qS (skU M1.n) M1 M2 j) c) c
            unfold addS
            rw [← HUU.out.1, ← HDD.out.1, ← HDD.out.2, if_neg (fun q => by rw [← HSK.out.1] at q; cases q), ← he9]
          obtain ⟨m8, D8, hm8, ho8, hK8⟩ := HI8.out.mp
          have HO8 : Hid (w7.ownsMap Tryd.prog 67 stR gm m8 D8 ∧ m8 ≤ U.length) := ⟨ho8, hm8⟩
          have hm9 : m8 < maxLen := by have := HUL.out; unfold maxLen; omega
          have HKP : Hid (Maps.IsMap D8 → KnP (D8.put (klP D1 D2) (stD xa xb c)) (U ++ [e9])) := fun hD => by
            obtain ⟨T, hT⟩ := HRO.out.2
            have e1 := HMO.out.2.2.2.1
            have e2 := HMO.out.2.2.2.2.1
            have hbU : ∀ y ∈ U, y.a ≤ 1000000 ∧ y.b ≤ 1000000 := fun y hy => by
              obtain ⟨_, _, _, g4, g5⟩ := HRO.out.1 y hy
              omega
            have hxU : x ∈ U := by rw [hT]; exact List.mem_append_left _ HX.out.2.1
            have := KnP.put (e := e9) (c := c) hD hK8 hxU (by rw [he9]) (fun y hy q => ?_) hbU (by rw [he9]; exact ⟨by show D1 ≤ _; omega, by show D2 ≤ _; omega⟩)
            · rw [he9] at this
              rw [HXX.out.1, HXX.out.2, he9]
              exact this
            · have h1 := (skU_ok M1 M2).met U HRO.out.1 y hy
              rw [q.1, q.2, he9] at h1
              have h2 := HSK.out.1
              rw [h1] at h2
              cases h2
          have v0 := cell_in HP8.out.1 0
          have v1 := cell_in HP8.out.1 1
          have vl := lt_of_heap HP8.out.1
          have n0 := cell_in HP8.out.2 0
          have n1 := cell_in HP8.out.2 1
          have nl := lt_of_heap HP8.out.2
          simp at v0 v1 n0 n1
          have hbs := Tryd.buildSt (xa : Int) (xb : Int) (c : Int) w7
          have hkey := Tryd.keyOfPair (a := D1) (b := D2) (by omega) (by omega)
          clear ho8 hm8 hK8 he9
          go_upto_region 17 with (at_mapUpdate; refine wpList_mapUpdate_own _ rfl _ _ _ 68 rfl 67 74 Tryd.keyPair Tryd.undPMap _ gm m8 D8 rfl HO8.out.1 hm9 _ _ (klP D1 D2) rfl rfl hkey (stD xa xb c) [] (stR_mk xa xb c) ?_; intro w9 hm9' hg9)
          have HI9 : Hid (FsI w3 W1.heap.size gl gm (n + n') w9 (clsQ M1.n (U ++ [e9])) (U ++ [e9]) (cellE (U.drop j)) nq g off cap) := by
            have h1 := HI8.out.upd hg9 (m := m8 + 1) (by have := HO8.out.2; simp; omega) hm9' (HKP.out HO8.out.1.isMap)
            have e1 : clsQ M1.n (U ++ [e9]) = lnk (clsQ M1.n U) D1 (n + D2) := by
              rw [clsQ_snoc, HE9.out]
              show lnk (clsQ M1.n U) D1 (M1.n + D2) = _
              rw [HMO.out.2.2.2.1]
            rw [e1]
            exact h1
          have HP9 : Hid (PBox w9 ab xa xb ∧ PBox w9 nb D1 D2) := ⟨(hg9.block _ (lt_of_heap HP8.out.1) (fun e => HI8.out.gne HP8.out.1 (by injection e))).trans HP8.out.1, (hg9.block _ (lt_of_heap HP8.out.2) (fun e => HI8.out.gne HP8.out.2 (by injection e))).trans HP8.out.2⟩
          obtain ⟨WX, hWX⟩ : ∃ W, W = w9.alloc (.cells #[.int .i64 (D1 : Int), .int .i64 (D2 : Int)] 67) := ⟨_, rfl⟩
          have hBX : Below w9.heap.size w9 WX := by rw [hWX]; exact below_alloc _ _
          have HIX := HI9.out.below hBX
          have HXB : Hid (FsI w3 W1.heap.size gl gm (n + n') WX (clsQ M1.n (U ++ [e9])) (U ++ [e9]) (cellE (U.drop j)) nq g off cap ∧ PBox WX ab xa xb ∧ ab < WX.heap.size) := ⟨HIX, (hBX.block _ (lt_of_heap HP9.out.1)).trans HP9.out.1, Nat.lt_of_lt_of_le (lt_of_heap HP9.out.1) hBX.size⟩
          have hqX := HIX.q
          have hszX := HIX.size
          have HWX : Hid (WX = _) := hWX
          have HFN : Hid (∀ g' off' cap' w10, QRow w10 w3.heap.size g' off' (nq + 1) cap' (cellE (U.drop j) ++ [.int .i64 (D1 : Int), .int .i64 (D2 : Int)]) → WX.grownBy w10 (some g) → (g' = g ∨ WX.heap.size ≤ g') → FsI w3 W1.heap.size gl gm (n + n') w10 (clsQ M1.n (U ++ [e9])) (U ++ [e9]) (cellE ((U ++ [e9]).drop j)) (nq + 1) g' off' cap' ∧ PBox w10 ab xa xb ∧ g' ≠ ab) := fun g' off' cap' w10 hq hg hat => by
            have e1 : cellE ((U ++ [e9]).drop j) = cellE (U.drop j) ++ [.int .i64 (D1 : Int), .int .i64 (D2 : Int)] := by
              rw [List.drop_append_of_le_length (by have := HUU.out.2; omega), cellE_snoc, HE9.out]
            refine ⟨by rw [e1]; exact HXB.out.1.app hg hq, (hg.block _ (lt_of_heap HXB.out.2.1) (fun e => HP.out.2 (by injection e with e; exact e.symm))).trans HXB.out.2.1, fun e => ?_⟩
            rcases hat with h | h
            · exact HP.out.2 (by rw [← h, e])
            · have := HXB.out.2.2
              omega
          have n0 := cell_in HP9.out.2 0
          have n1 := cell_in HP9.out.2 1
          have nl := lt_of_heap HP9.out.2
          simp at n0 n1
          have hnq : nq + 1 ≤ 1000000 := by have h1 := HUL.out; have h2 := HUU.out.2; omega
          clear hm9' hg9 hBX HIX hkey hbs v0 v1 vl hm9
          go_wp2_with (at_builtin; go_must (refine wpList_append_q (w := _) rfl _ _ rfl rfl (by rw [← HWX.out]; exact hqX) ⟨w9.heap.size, 0, none⟩ 1 (.int .i64 (D1 : Int)) (.int .i64 (D2 : Int)) rfl (World.news_of_block (by exact heap_new' _ _)) ⟨rfl, rfl⟩ hnq (by rw [← HWX.out]; exact hszX) ?_); intro g' off' cap' w10 hq10 hg10 hat10)
          rw [← HWX.out] at hg10 hat10
          obtain ⟨f1, f2, f3⟩ := HFN.out g' off' cap' w10 hq10 hg10 hat10
          have HI10 : Hid _ := f1
          have HP10 : Hid (PBox w10 ab xa xb ∧ g' ≠ ab) := ⟨f2, f3⟩
          clear f1 f2 f3 hq10 hg10 hat10 hqX hszX hWX n0 n1 nl
          go_wp2
          go_roundw
          case rel => exact ⟨c + 1, nq + 1, g', off', cap', U ++ [e9], by omega, by go_num, rfl, HN8, HI10, HP10⟩
          case measure => simp [intOf]; omega
      case neg =>
      obtain rfl : c = C := by omega
      have HQ1 : Hid (U = qS (skU M1.n) M1 M2 (j + 1)) := by
        show _ = rowS _ M1 M2 ((qS _ M1 M2 j).getD j ⟨0, 0, []⟩) (qS _ M1 M2 j) M1.k
        rw [← HX.out.1, HMO.out.2.2.2.2.2]
        exact HUU.out.1
      have hnq : 1 ≤ nq := by
        obtain ⟨T, hT⟩ := HRO.out.2
        have h1 := HUU.out.2
        have h2 := HV.out.2.2.2
        rw [hT, List.length_append] at h1
        omega
      obtain ⟨q, rfl⟩ : ∃ q, nq = q + 1 := ⟨nq - 1, by omega⟩
      have HNX : Hid (∀ off' cap', QRow wr w3.heap.size g off' q cap' ((cellE (U.drop j)).drop 2) → FsR M1 M2 w3 W1.heap.size gl gm (n + n') NQ (mm - 1) (.slice (some ⟨g, off', none⟩) q cap', wr) ∧ mu (.slice (some ⟨g, off', none⟩) q cap', wr) < mm) := fun off' cap' hq => by
        have h1 := HI.out.cut hq
        have h2 := HUU.out.2
        have hv := HV.out
        have hle := HLEN.out j hv.1
        rw [cellE_drop, List.drop_drop] at h1
        have hR : FsR M1 M2 w3 W1.heap.size gl gm (n + n') NQ (mm - 1) (.slice (some ⟨g, off', none⟩) q cap', wr) := by
          refine ⟨j + 1, q, g, off', cap', by omega, rfl, hv.1.succ (by omega), fun i hi => ?_, ?_, ?_⟩
          · by_cases e : i = j
            · subst e
              rw [← HX.out.1]
              exact HEQ.out
            · exact hv.2.1 i (by omega)
          · rw [← HQ1.out]; omega
          · rw [← HQ1.out]; exact h1
        refine ⟨hR, ?_⟩
        have := (HMU.out _ _ hR).1
        omega
      have hnx := HI.out.q.next
      have HNXT : Hid _ := hnx
      have hcap1 := HI.out.q.le
      have hq0 : (1 : Int) ≤ ((q + 1 : Nat) : Int) := by omega
      clear k5 k6 k7 k8 hnx
      by_cases hcp : cap = 1
      · obtain ⟨g1, g2⟩ := HNX.out off (cap - 1) (HNXT.out.1 hcp)
        have HG : Hid (FsR M1 M2 w3 W1.heap.size gl gm (n + n') NQ (mm - 1) (.slice (some ⟨g, off, none⟩) q (cap - 1), wr) ∧ mu (.slice (some ⟨g, off, none⟩) q (cap - 1), wr) < mm) := ⟨g1, g2⟩
        subst hcp
        have hq1 : q = 0 := by omega
        subst hq1
        clear g1 g2
        go_wp2
        exact ⟨⟨_, HG.out.1⟩, by rw [← HMM.out]; exact HG.out.2⟩
      · obtain ⟨g1, g2⟩ := HNX.out (off + 2) (cap - 1) (HNXT.out.2 hcp)
        have HG : Hid (FsR M1 M2 w3 W1.heap.size gl gm (n + n') NQ (mm - 1) (.slice (some ⟨g, off + 2, none⟩) q (cap - 1), wr) ∧ mu (.slice (some ⟨g, off + 2, none⟩) q (cap - 1), wr) < mm) := ⟨g1, g2⟩
        clear g1 g2
        go_wp2
        exact ⟨⟨_, HG.out.1⟩, by rw [← HMM.out]; exact HG.out.2⟩
end Go.Proofs.YtleafbbcgebmpaaDoor
