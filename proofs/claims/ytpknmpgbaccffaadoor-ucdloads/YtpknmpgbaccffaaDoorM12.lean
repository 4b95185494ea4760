/-
  The law UcdLoads: true, for all numbers.
-/
import Derived.Test.YtpknmpgbaccffaaDoorM11
namespace Go.Proofs.YtpknmpgbaccffaaDoor
open Go.RowKit
set_option linter.unusedVariables false

theorem cast_dN {l : List Int} (hb : ByL l) (k : Nat) : castN (dN l) k = dL l k := by
  unfold castN dN dL
  exact likeN_int (part_byL hb k)
theorem rdfine {l : List Int} (hb : ByL l) {k : Nat} (h : okAt k l = true) : RFine (dF l k) (dN l k) where
  pos := (dfine hb h).pos
  le := (dfine hb h).le
  len := by
    have := (dfine hb h).len
    rw [← cast_dN hb] at this
    unfold castN at this
    rwa [List.length_map] at this
  lt := fun x hx => by
    have := (dfine hb h).lt ((x : Nat) : Int) (by rw [← cast_dN hb]; exact List.mem_map.2 ⟨x, hx, rfl⟩)
    omega
  isB := (dfine hb h).isB

set_option maxRecDepth 100000 in
set_option maxHeartbeats 16000000 in
theorem ucdLoads_any (ats : List Int) (av : Value) (c : Int) (rs : List Int) (rv : Value) (w : World) (ha : IntsAt w.heap.size w av ats) (hr : IntsAt w.heap.size w rv rs) (hs : Scripts w) (h0 : 0 < w.heap.size) :
    Calls Tryd.prog 5 #[av, .int .i64 c, rv] w fun e w' => e = .returned (.bool true) ∧ Below w.heap.size w w' := by
  have HS : Hid (Scripts w) := hs
  have HH0 : Hid (0 < w.heap.size) := h0
  obtain ⟨aa, capa, rfl, _, hca⟩ := ha
  obtain ⟨ar, capr, rfl, _, hcr⟩ := hr
  have HCA : Hid (∀ i, (h : i < ats.length) → ∃ g off, aa = some ⟨g, off, none⟩ ∧ g < w.heap.size ∧ w.cell? ⟨g, off + i, none⟩ = some (.int .i64 ats[i])) := hca
  have HCR : Hid (∀ i, (h : i < rs.length) → ∃ g off, ar = some ⟨g, off, none⟩ ∧ g < w.heap.size ∧ w.cell? ⟨g, off + i, none⟩ = some (.int .i64 rs[i])) := hcr
  clear hs h0 hca hcr
  go_enter Tryd.func5, Tryd.ntmps5
  go_wp2_with fail
  refine (awake_u w HS.out HH0.out).mono ?_
  rintro e w1 ⟨rfl, hB1⟩
  have HB1 : Hid (Below w.heap.size w w1) := hB1
  clear hB1
  by_cases h20 : 20 < ats.length
  · have h20' : (20 : Int) < (ats.length : Int) := by omega
    go_wp2
    go_ret
    exact ⟨rfl, HB1.out⟩
  have h20' : decide ((20 : Int) < (ats.length : Int)) = false := by simp; omega
  have h21 : decide (20 < ats.length) = false := by simp; omega
  by_cases hc0 : c < 0
  · clear h20
    go_wp2
    go_ret
    exact ⟨rfl, HB1.out⟩
  obtain ⟨cn, rfl⟩ : ∃ cn : Nat, c = (cn : Int) := ⟨c.toNat, by omega⟩
  have hc1 : decide ((cn : Int) < 0) = false := by simp
  have hc2 : ¬ ((cn : Int) < 0) := by omega
  obtain ⟨sv, HSB⟩ : ∃ sv, Hid (SavedBytes sv) := saved_bytesU
  have HA20 : Hid (ats.length ≤ 20) := by show _ ≤ _; omega
  clear h20 hc0
  go_wp2_with fail
  refine (rnew_any w1).mono ?_
  rintro e w2 ⟨gr, rfl, hd2, hB2⟩
  have hs2 := hB2.size
  obtain ⟨HR2, HB2⟩ : Hid (RDataTo w1.heap.size w2 gr 4 (fun i => firstB (tabR i)) tabN) ∧ Hid (Below w.heap.size w w2) := ⟨hd2, HB1.out.trans (hB2.mono HB1.out.size)⟩
  clear hd2 hB2
  go_wp2_with fail
  refine (rship_save HSB.out w1.heap.size w2 gr hs2 HR2.out).mono ?_
  rintro e w3 ⟨v3, rfl, ho3, hB3⟩
  obtain ⟨L, hL⟩ : ∃ L, L = sv.length := ⟨_, rfl⟩
  have HLL : Hid (L = sv.length ∧ 1 ≤ L ∧ L ≤ 280000) := by
    refine ⟨hL, ?_, by rw [hL]; exact HSB.out.len⟩
    have h1 := data_all HSB.out.byL HSB.out.ok
    rw [hL, ← h1]
    unfold dataTo
    simp [le4_length]
    omega
  rw [← hL] at ho3
  obtain ⟨gb, cb, rfl⟩ : ∃ gb cb, v3 = .slice (some ⟨gb, 0, none⟩) L cb := by
    rcases ho3.2 with ⟨_, hz⟩ | ⟨g', cap', cur, e, _⟩
    · have := HLL.out; omega
    · exact ⟨g', cap', e⟩
  obtain ⟨HO3, HB3⟩ : Hid (w3.ownsRow w2.heap.size 5 1 (.slice (some ⟨gb, 0, none⟩) L cb) L (i8 sv)) ∧ Hid (Below w2.heap.size w2 w3) := ⟨ho3, hB3⟩
  have HSVB : Hid (ByL sv) := HSB.out.byL
  clear ho3 hB3 hL hs2
  go_wp2_with fail
  go_loopw [9] (fun x wr => ∃ (k : Nat) (l2 : List Int), k ≤ ats.length ∧ x = .int .i64 k ∧ l2.length = L ∧ ByL l2 ∧ wr.ownsRow w2.heap.size 5 1 (.slice (some ⟨gb, 0, none⟩) L cb) L (i8 l2) ∧ Below w2.heap.size w2 wr) (fun x _ => ats.length - (intOf x).toNat)
  case atStart => exact ⟨0, sv, Nat.zero_le _, rfl, HLL.out.1.symm, HSVB.out, HO3.out, HB3.out⟩
  case round =>
    obtain ⟨k, l2, hk, rfl, hl2, hby2, ho, hB⟩ := hrel
    have hsi := hB.size
    obtain ⟨HL2, HBY2, HO, HB⟩ : Hid (l2.length = L) ∧ Hid (ByL l2) ∧ Hid (wr.ownsRow w2.heap.size 5 1 (.slice (some ⟨gb, 0, none⟩) L cb) L (i8 l2)) ∧ Hid (Below w2.heap.size w2 wr) := ⟨hl2, hby2, ho, hB⟩
    clear hl2 hby2 ho hB HO3 HB3
    by_cases hlt : k < ats.length
    · have hlt' : (k : Int) < (ats.length : Int) := by omega
      obtain ⟨gi, off, rfl, hg, c0⟩ := HCA.out k hlt
      obtain ⟨x, hx⟩ : ∃ x, x = ats[k] := ⟨_, rfl⟩
      rw [← hx] at c0
      have d0 : wr.cell? ⟨gi, off + k, none⟩ = some (.int .i64 x) := by
        have h1 := HB2.out.size
        exact (HB.out.cell (p := ⟨gi, _, none⟩) (show gi < _ by omega)).trans ((HB2.out.cell (p := ⟨gi, _, none⟩) hg).trans c0)
      obtain ⟨j, hj, hjb⟩ := and_small x 65535 (by omega)
      have hjb' : bits BinOp.and IntKind.i64 x 65535 = (j : Int) := hjb
      obtain ⟨m, hm⟩ : ∃ m, m = j % L := ⟨_, rfl⟩
      have hmL : m < L := by rw [hm]; exact Nat.mod_lt _ (by have := HLL.out; omega)
      have hmt : (j : Int).tmod (L : Int) = (m : Int) := by rw [Int.tmod_eq_emod_of_nonneg (by omega), hm]; omega
      have hwm : IntKind.i64.wrap (m : Int) = (m : Int) := IntWalk.i64_in _ (by have := HLL.out; omega)
      have hml : (m : Int) < (L : Int) := by omega
      have hL0 : ¬ ((L : Int) = 0) := by have := HLL.out; omega
      have hL1 : ((L : Int) == 0) = false := by simp; have := HLL.out; omega
      have hL2 : ¬ (L = 0) := by have := HLL.out; omega
      have HO' : Hid (wr.ownsRow w2.heap.size 5 1 (.slice (some ⟨gb, 0, none⟩) l2.length cb) l2.length (i8 l2)) := by show World.ownsRow _ _ _ _ _ _ _; rw [HL2.out]; exact HO.out
      have hml2 : m < l2.length := by rw [HL2.out]; exact hmL
      have hcf := own_setByte HO'.out hml2 0
      obtain ⟨y, hy⟩ : ∃ y, y = l2[m] := ⟨_, rfl⟩
      have hfz : wr.frozen? ⟨gb, m, none⟩ = false := hcf.2.1
      have hcm : wr.cell? ⟨gb, m, none⟩ = some (.int .u8 y) := by rw [hy]; exact hcf.2.2.1
      have HGB : Hid (w2.heap.size ≤ gb) := hcf.2.2.2
      have HWJ : Hid (wrap64 ((k : Int) + 1) = ((k + 1 : Nat) : Int)) := wrap_next (by have := HA20.out; omega)
      clear c0 hx hjb hm hcf hy
      obtain ⟨pp, hpp, hpb⟩ := and_small (x / 65536) 127 (by omega)
      have hpb' : bits BinOp.and IntKind.i64 (x / 65536) 127 = (pp : Int) := hpb
      have hw13 : IntKind.i64.wrap (1 + (pp : Int)) = 1 + (pp : Int) := IntWalk.i64_in _ (by omega)
      have hw14 : IntKind.u8.wrap (1 + (pp : Int)) = 1 + (pp : Int) := by rw [u8_wrap]; omega
      obtain ⟨z, hz, hzb⟩ := xor_byte y (1 + (pp : Int))
      have hzb' : bits BinOp.xor IntKind.u8 y (1 + (pp : Int)) = (z : Int) := hzb
      have HSET : Hid ((wr.setCell ⟨gb, m, none⟩ (.int .u8 (z : Int))).ownsRow w2.heap.size 5 1 (.slice (some ⟨gb, 0, none⟩) L cb) L (i8 (l2.set m (z : Int)))) := by
        have h1 := (own_setByte HO'.out hml2 (z : Int)).1
        rw [List.length_set, HL2.out] at h1
        exact h1
      have HBY3 : Hid (ByL (l2.set m (z : Int))) := fun v hv => by
        rcases List.mem_or_eq_of_mem_set hv with q | q
        · exact HBY2.out v q
        · omega
      have HL3 : Hid ((l2.set m (z : Int)).length = L) := by show _ = _; rw [List.length_set]; exact HL2.out
      have HBS : Hid (Below w2.heap.size w2 (wr.setCell ⟨gb, m, none⟩ (.int .u8 (z : Int)))) := HB.out.setCell (show w2.heap.size ≤ gb from HGB.out) _
      have HSETD : Hid ((wr.drew.setCell ⟨gb, m, none⟩ (.int .u8 (z : Int))).ownsRow w2.heap.size 5 1 (.slice (some ⟨gb, 0, none⟩) L cb) L (i8 (l2.set m (z : Int)))) := HSET.out
      have HBSD : Hid (Below w2.heap.size w2 (wr.drew.setCell ⟨gb, m, none⟩ (.int .u8 (z : Int)))) := HB.out.drew.setCell (show w2.heap.size ≤ gb from HGB.out) _
      have HC0 : Hid (∀ w', Below wr.heap.size wr w' → w'.cell? ⟨gi, off + k, none⟩ = some (.int .i64 x)) := fun w' hw' => (hw'.cell (p := ⟨gi, _, none⟩) (by show gi < _; have h1 := HB2.out.size; omega)).trans d0
      have hgbl : gb < wr.heap.size := (HO.out.lt gb rfl).2
      have HC1 : Hid (∀ w', Below wr.heap.size wr w' → w'.cell? ⟨gb, m, none⟩ = some (.int .u8 y)) := fun w' hw' => (hw'.cell (p := ⟨gb, _, none⟩) hgbl).trans hcm
      clear hpb hzb HO'
      go_wp2_with fail
      refine wp_region_bad (fun w' => Below wr.heap.size wr w') [17] (by kernel_rfl) ((Below.refl _ _).drew) (fun hS => ?_)
      refine wpAnyB_pure (i := 0) (v := .slice (some ⟨gb, 0, none⟩) L cb) rfl (by kernel_rfl) (fun _ _ _ h => h) (Or.inl ⟨by rfl, fun w _ => by go_simp⟩) hS ?_
      simp only [List.getElem_toArray, List.getElem_cons_zero, Act.put, List.setIfInBounds_toArray, List.set_cons_zero, List.set_cons_succ]
      refine wpAnyB_pure (i := 1) (v := .int .i64 (j : Int)) rfl (by kernel_rfl) (fun _ _ _ h => h) (Or.inl ⟨by rfl, fun w _ => by go_simp⟩) hS ?_
      simp only [List.getElem_toArray, List.getElem_cons_succ, List.getElem_cons_zero, Act.put, List.setIfInBounds_toArray, List.set_cons_zero, List.set_cons_succ]
      refine wpAnyB_pure (i := 2) (v := .slice (some ⟨gb, 0, none⟩) L cb) rfl (by kernel_rfl) (fun _ _ _ h => h) (Or.inl ⟨by rfl, fun w _ => by go_simp⟩) hS ?_
      simp only [List.getElem_toArray, List.getElem_cons_succ, List.getElem_cons_zero, Act.put, List.setIfInBounds_toArray, List.set_cons_zero, List.set_cons_succ]
      refine wpAnyB_pure (i := 3) (v := .int .i64 (L : Int)) rfl (by kernel_rfl) (fun _ _ _ h => h) (Or.inl ⟨by rfl, fun w _ => by go_simp⟩) hS ?_
      simp only [List.getElem_toArray, List.getElem_cons_succ, List.getElem_cons_zero, Act.put, List.setIfInBounds_toArray, List.set_cons_zero, List.set_cons_succ]
      refine wpAnyB_pure (i := 4) (v := .int .i64 (m : Int)) rfl (by kernel_rfl) (fun _ _ _ h => h) (Or.inl ⟨by rfl, fun w _ => by go_simp⟩) hS ?_
      simp only [List.getElem_toArray, List.getElem_cons_succ, List.getElem_cons_zero, Act.put, List.setIfInBounds_toArray, List.set_cons_zero, List.set_cons_succ]
      refine wpAnyB_pure (i := 5) (v := .pointer (some ⟨gb, m, none⟩)) rfl (by kernel_rfl) (fun _ _ _ h => h) (Or.inl ⟨by rfl, fun w _ => by go_simp⟩) hS ?_
      simp only [List.getElem_toArray, List.getElem_cons_succ, List.getElem_cons_zero, Act.put, List.setIfInBounds_toArray, List.set_cons_zero, List.set_cons_succ]
      refine wpAnyB_take [6, 15, 17] (i := 6) (v := .int .u8 y) rfl (by kernel_rfl) (fun _ _ _ h => h) (Or.inl ⟨by rfl, fun w hSw => by have := HC1.out w hSw; go_simp⟩) hS ?_
      simp only [List.getElem_toArray, List.getElem_cons_succ, List.getElem_cons_zero, Act.put, List.setIfInBounds_toArray, List.set_cons_zero, List.set_cons_succ]
      refine wpAnyB_pure (i := 7) (v := .slice (some ⟨gi, off, none⟩) ats.length capa) rfl (by kernel_rfl) (fun _ _ _ h => h) (Or.inl ⟨by rfl, fun w _ => by go_simp⟩) hS ?_
      simp only [List.getElem_toArray, List.getElem_cons_succ, List.getElem_cons_zero, Act.put, List.setIfInBounds_toArray, List.set_cons_zero, List.set_cons_succ]
      refine wpAnyB_pure (i := 8) (v := .int .i64 (k : Int)) rfl (by kernel_rfl) (fun _ _ _ h => h) (Or.inl ⟨by rfl, fun w _ => by go_simp⟩) hS ?_
      simp only [List.getElem_toArray, List.getElem_cons_succ, List.getElem_cons_zero, Act.put, List.setIfInBounds_toArray, List.set_cons_zero, List.set_cons_succ]
      refine wpAnyB_pure (i := 9) (v := .pointer (some ⟨gi, off + k, none⟩)) rfl (by kernel_rfl) (fun _ _ _ h => h) (Or.inl ⟨by rfl, fun w _ => by go_simp⟩) hS ?_
      simp only [List.getElem_toArray, List.getElem_cons_succ, List.getElem_cons_zero, Act.put, List.setIfInBounds_toArray, List.set_cons_zero, List.set_cons_succ]
      refine wpAnyB_take [10, 11, 12, 13, 14, 15, 17] (i := 10) (v := .int .i64 x) rfl (by kernel_rfl) (fun _ _ _ h => h) (Or.inl ⟨by rfl, fun w hSw => by have := HC0.out w hSw; go_simp⟩) hS ?_
      simp only [List.getElem_toArray, List.getElem_cons_succ, List.getElem_cons_zero, Act.put, List.setIfInBounds_toArray, List.set_cons_zero, List.set_cons_succ]
      refine wpAnyB_pure (i := 11) (v := .int .i64 (x / 65536)) rfl (by kernel_rfl) (fun _ _ _ h => h) (Or.inl ⟨by rfl, fun w _ => by go_simp⟩) hS ?_
      simp only [List.getElem_toArray, List.getElem_cons_succ, List.getElem_cons_zero, Act.put, List.setIfInBounds_toArray, List.set_cons_zero, List.set_cons_succ]
      refine wpAnyB_pure (i := 12) (v := .int .i64 (pp : Int)) rfl (by kernel_rfl) (fun _ _ _ h => h) (Or.inl ⟨by rfl, fun w _ => by go_simp⟩) hS ?_
      simp only [List.getElem_toArray, List.getElem_cons_succ, List.getElem_cons_zero, Act.put, List.setIfInBounds_toArray, List.set_cons_zero, List.set_cons_succ]
      refine wpAnyB_pure (i := 13) (v := .int .i64 (1 + (pp : Int))) rfl (by kernel_rfl) (fun _ _ _ h => h) (Or.inl ⟨by rfl, fun w _ => by go_simp⟩) hS ?_
      simp only [List.getElem_toArray, List.getElem_cons_succ, List.getElem_cons_zero, Act.put, List.setIfInBounds_toArray, List.set_cons_zero, List.set_cons_succ]
      refine wpAnyB_pure (i := 14) (v := .int .u8 (1 + (pp : Int))) rfl (by kernel_rfl) (fun _ _ _ h => h) (Or.inl ⟨by rfl, fun w _ => by go_simp⟩) hS ?_
      simp only [List.getElem_toArray, List.getElem_cons_succ, List.getElem_cons_zero, Act.put, List.setIfInBounds_toArray, List.set_cons_zero, List.set_cons_succ]
      refine wpAnyB_pure (i := 15) (v := .int .u8 (z : Int)) rfl (by kernel_rfl) (fun _ _ _ h => h) (Or.inl ⟨by rfl, fun w _ => by go_simp⟩) hS ?_
      simp only [List.getElem_toArray, List.getElem_cons_succ, List.getElem_cons_zero, Act.put, List.setIfInBounds_toArray, List.set_cons_zero, List.set_cons_succ]
      refine wpAnyB_pure (i := 16) (v := .pointer (some ⟨gb, m, none⟩)) rfl (by kernel_rfl) (fun _ _ _ h => h) (Or.inl ⟨by rfl, fun w _ => by go_simp⟩) hS ?_
      simp only [List.getElem_toArray, List.getElem_cons_succ, List.getElem_cons_zero, Act.put, List.setIfInBounds_toArray, List.set_cons_zero, List.set_cons_succ]
      refine wpAnyB_last (i := 17) rfl (by kernel_rfl) (fun K hK => ?_)
      rw [if_pos (by rfl)]
      have hcm2 : wr.drew.cell? ⟨gb, m, none⟩ = some (.int .u8 y) := hcm
      have hfz2 : wr.drew.frozen? ⟨gb, m, none⟩ = false := hfz
      go_wp2
      refine hK.out _ _ ?_
      refine wpAnyB_done (by kernel_rfl) ?_ _
      refine NoPanic.normal ?_
      clear hK K hcm2 hfz2 hS
      go_wp2
      go_roundw
      case rel => exact ⟨k + 1, _, Nat.succ_le_of_lt hlt, congrArg (Value.int .i64) HWJ.out, HL3.out, HBY3.out, HSETD.out, HBSD.out⟩
      case measure => exact meas_wrap HWJ.out hlt
    · have hlt' : decide ((k : Int) < (ats.length : Int)) = false := by simp; omega
      have hlt2 : decide (k < ats.length) = false := by simp; omega
      have HBW : Hid (Below w.heap.size w wr) := HB2.out.trans (HB.out.mono HB2.out.size)
      have HYL : Hid (BytesAt wr.heap.size wr (.slice (some ⟨gb, 0, none⟩) L cb) l2) := by
        have := bytes_of_row (w := wr) (base := w2.heap.size) (v := .slice (some ⟨gb, 0, none⟩) L cb) (l := l2) (by rw [HL2.out]; exact HO.out)
        exact this
      have HCB : Hid (L ≤ cb) := by
        rcases HO.out.2 with ⟨e, _⟩ | ⟨g', cap', cur, e, _, _, hle, _⟩
        · cases e
        · obtain ⟨_, rfl⟩ : gb = g' ∧ cb = cap' := by simpa using e
          exact hle
      clear hlt HO HB
      by_cases hcl : cn < L
      · have hcl' : (cn : Int) < (L : Int) := by omega
        obtain ⟨n3, hn3⟩ : ∃ n3, n3 = L - cn := ⟨_, rfl⟩
        have hwl : IntKind.i64.wrap ((L : Int) - (cn : Int)) = (n3 : Int) := (IntWalk.i64_in _ (by have := HLL.out; omega)).trans (by omega)
        have hq1 : (n3 : Int) ≤ (cb : Int) := by have := HCB.out; omega
        have hq2 : (n3 : Int) ≤ (L : Int) := by omega
        obtain ⟨l3, hl3⟩ : ∃ l3, l3 = l2.take n3 := ⟨_, rfl⟩
        have HYB : Hid (BytesAt wr.heap.size wr (.slice (some ⟨gb, 0, none⟩) n3 cb) l3) := by
          have h1 : BytesAt wr.heap.size wr (.slice (some ⟨gb, 0, none⟩) l2.length cb) l2 := by rw [HL2.out]; exact HYL.out
          have h2 := h1.part (i := 0) (m := n3) (by rw [HL2.out]; omega)
          rw [hl3]
          have h3 : BytesAt wr.heap.size wr (.slice (some ⟨gb, 0, none⟩) n3 cb) (l2.take n3) := by simpa using h2
          exact h3
        have HBY3 : Hid (ByL l3) := by rw [hl3]; exact HBY2.out.take _
        have HLN3 : Hid (l3.length ≤ 1000000) := by show _ ≤ _; rw [hl3, List.length_take]; have := HLL.out; have := HL2.out; omega
        clear hn3 hl3 HYL
        go_wp2_with fail
        refine (dload_any l3 _ wr HYB.out HBY3.out HLN3.out).mono ?_
        rintro e wk ⟨px, rfl, hnx, htx, hBk⟩
        have hsk := hBk.size
        obtain ⟨HBK, HYK⟩ : Hid (Below w.heap.size w wk) ∧ Hid (BytesAt wk.heap.size wk (.slice (some ⟨gb, 0, none⟩) n3 cb) l3) := ⟨HBW.out.trans (hBk.mono HBW.out.size), (HYB.out.below hBk).mono hsk⟩
        clear hBk
        go_wp2_with fail
        refine (rdload_any l3 _ wk HYK.out HBY3.out HLN3.out).mono ?_
        rintro e wm ⟨py, rfl, hny, hty, hBm⟩
        have hsm := hBm.size
        obtain ⟨HBM, HYM⟩ : Hid (Below w.heap.size w wm) ∧ Hid (BytesAt wm.heap.size wm (.slice (some ⟨gb, 0, none⟩) n3 cb) l3) := ⟨HBK.out.trans (hBm.mono HBK.out.size), (HYK.out.below hBm).mono hsm⟩
        by_cases hb : okD l3 = true
        · have e0 : errD l3 = 0 := by unfold errD; rw [if_pos hb]
          obtain ⟨gx, rfl, hX⟩ := htx e0
          obtain ⟨gy, rfl, hY⟩ := hty e0
          rw [e0]
          have HRB : Hid (dataTo (dL l3) (dF l3) 4 = l3) := data_all HBY3.out hb
          obtain ⟨HX, HFX, HYD, HFY⟩ : Hid (DataAt wm gx (dL l3) (dF l3)) ∧ Hid (∀ i, i < 4 → Fine (dL l3 i) (dF l3 i)) ∧ Hid (RDataTo wk.heap.size wm gy 4 (dF l3) (dN l3)) ∧ Hid (∀ i, i < 4 → RFine (dF l3 i) (dN l3 i)) := ⟨hX.below hBm, fun i hi => dfine HBY3.out ((okD_at hb).1 i hi), hY, fun i hi => rdfine HBY3.out ((okD_at hb).1 i hi)⟩
          have HCD : Hid (∀ k, castN (dN l3) k = dL l3 k) := cast_dN HBY3.out
          clear hnx htx hny hty e0 hb hX hY hBm
          go_wp2_with fail
          go_loopw [15] (fun x wi => ∃ i : Nat, i ≤ rs.length ∧ i ≤ 100 ∧ x = .int .i64 i ∧ Below wm.heap.size wm wi) (fun x _ => 100 - (intOf x).toNat)
          case atStart => exact ⟨0, Nat.zero_le _, Nat.zero_le _, rfl, Below.refl _ _⟩
          case round =>
            obtain ⟨i, hi, hi2, rfl, hBi⟩ := hrel
            have hsi2 := hBi.size
            obtain ⟨HBI, HXI, HYI, HBW2⟩ : Hid (Below wm.heap.size wm wr) ∧ Hid (DataAt wr gx (dL l3) (dF l3)) ∧ Hid (RDataTo wk.heap.size wr gy 4 (dF l3) (dN l3)) ∧ Hid (Below w.heap.size w wr) := ⟨hBi, HX.out.below hBi, HYD.out.below hBi, HBM.out.trans (hBi.mono HBM.out.size)⟩
            have HYI2 : Hid (BytesAt wr.heap.size wr (.slice (some ⟨gb, 0, none⟩) n3 cb) l3) := (HYM.out.below hBi).mono hsi2
            clear hBi
            by_cases hgo : i < rs.length ∧ i < 100
            · have hg1 : (i : Int) < (rs.length : Int) := by omega
              have hg2 : (i : Int) < 100 := by omega
              obtain ⟨gi, off, rfl, hg, c0⟩ := HCR.out i hgo.1
              obtain ⟨x, hx⟩ : ∃ x, x = rs[i]'hgo.1 := ⟨_, rfl⟩
              rw [← hx] at c0
              have HC0 : Hid (∀ w', Below wr.heap.size wr w' → w'.cell? ⟨gi, off + i, none⟩ = some (.int .i64 x)) := fun w' hw' => by
                have h1 := HBW2.out.size
                exact (hw'.cell (p := ⟨gi, _, none⟩) (show gi < _ by omega)).trans ((HBW2.out.cell (p := ⟨gi, _, none⟩) hg).trans c0)
              clear c0 hx hgo
              obtain ⟨uc, huc⟩ : ∃ uc, uc = clusterT (dL l3 0) (dF l3 0) x := ⟨_, rfl⟩
              have HQ0 : Hid (∀ w', Below wr.heap.size wr w' → Calls Tryd.prog 12 #[.pointer (some ⟨gx, 0, none⟩), .int .i64 x] w' fun e w'' => e = .returned (.int .i64 uc) ∧ Below w'.heap.size w' w'') := fun w' hw' => by
                rw [huc]; exact dcluster_any (dL l3) (dF l3) gx x w' (HXI.out.below hw') HFX.out
              have HZ0 : Hid (∀ w', Below wr.heap.size wr w' → Calls Tryd.prog 21 #[.pointer (some ⟨gy, 0, none⟩), .int .i64 x] w' fun e w'' => e = .returned (.int .i64 uc) ∧ Below w'.heap.size w' w'') := fun w' hw' => by
                rw [huc, ← HCD.out]; exact rdcluster_any wk.heap.size (dF l3) (dN l3) gy x w' (HYI.out.below hw') HFY.out
              clear huc
              obtain ⟨uw, huw⟩ : ∃ uw, uw = ofT (dL l3 1) (dF l3 1) x := ⟨_, rfl⟩
              have HQ1 : Hid (∀ w', Below wr.heap.size wr w' → Calls Tryd.prog 13 #[.pointer (some ⟨gx, 0, none⟩), .int .i64 x] w' fun e w'' => e = .returned (.int .i64 uw) ∧ Below w'.heap.size w' w'') := fun w' hw' => by
                rw [huw]; exact dword_any (dL l3) (dF l3) gx x w' (HXI.out.below hw') HFX.out
              have HZ1 : Hid (∀ w', Below wr.heap.size wr w' → Calls Tryd.prog 22 #[.pointer (some ⟨gy, 0, none⟩), .int .i64 x] w' fun e w'' => e = .returned (.int .i64 uw) ∧ Below w'.heap.size w' w'') := fun w' hw' => by
                rw [huw, ← HCD.out]; exact rdword_any wk.heap.size (dF l3) (dN l3) gy x w' (HYI.out.below hw') HFY.out
              clear huw
              obtain ⟨us, hus⟩ : ∃ us, us = ofT (dL l3 2) (dF l3 2) x := ⟨_, rfl⟩
              have HQ2 : Hid (∀ w', Below wr.heap.size wr w' → Calls Tryd.prog 14 #[.pointer (some ⟨gx, 0, none⟩), .int .i64 x] w' fun e w'' => e = .returned (.int .i64 us) ∧ Below w'.heap.size w' w'') := fun w' hw' => by
                rw [hus]; exact dscript_any (dL l3) (dF l3) gx x w' (HXI.out.below hw') HFX.out
              have HZ2 : Hid (∀ w', Below wr.heap.size wr w' → Calls Tryd.prog 23 #[.pointer (some ⟨gy, 0, none⟩), .int .i64 x] w' fun e w'' => e = .returned (.int .i64 us) ∧ Below w'.heap.size w' w'') := fun w' hw' => by
                rw [hus, ← HCD.out]; exact rdscript_any wk.heap.size (dF l3) (dN l3) gy x w' (HYI.out.below hw') HFY.out
              clear hus
              obtain ⟨up, hup⟩ : ∃ up, up = (ofT (dL l3 3) (dF l3 3) x != 0) := ⟨_, rfl⟩
              have HQ3 : Hid (∀ w', Below wr.heap.size wr w' → Calls Tryd.prog 15 #[.pointer (some ⟨gx, 0, none⟩), .int .i64 x] w' fun e w'' => e = .returned (.bool up) ∧ Below w'.heap.size w' w'') := fun w' hw' => by
                rw [hup]; exact dpicto_any (dL l3) (dF l3) gx x w' (HXI.out.below hw') HFX.out
              have HZ3 : Hid (∀ w', Below wr.heap.size wr w' → Calls Tryd.prog 24 #[.pointer (some ⟨gy, 0, none⟩), .int .i64 x] w' fun e w'' => e = .returned (.bool up) ∧ Below w'.heap.size w' w'') := fun w' hw' => by
                rw [hup, ← HCD.out]; exact rdpicto_any wk.heap.size (dF l3) (dN l3) gy x w' (HYI.out.below hw') HFY.out
              clear hup
              go_wp2_with fail
              refine wp_region_bad (fun w' => Below wr.heap.size wr w') [] (by kernel_rfl) ((Below.refl _ _).drew) (fun hS0 => ?_)
              refine wpAnyB_pure (i := 0) (v := .pointer (some ⟨gx, 0, none⟩)) rfl (by kernel_rfl) (fun _ _ _ h => h) (Or.inl ⟨by rfl, fun w _ => by go_simp⟩) hS0 ?_
              simp only [List.getElem_toArray, List.getElem_cons_zero, Act.put, List.setIfInBounds_toArray, List.set_cons_zero, List.set_cons_succ]
              refine wpAnyB_pure (i := 1) (v := .slice (some ⟨gi, off, none⟩) rs.length capr) rfl (by kernel_rfl) (fun _ _ _ h => h) (Or.inl ⟨by rfl, fun w _ => by go_simp⟩) hS0 ?_
              simp only [List.getElem_toArray, List.getElem_cons_succ, List.getElem_cons_zero, Act.put, List.setIfInBounds_toArray, List.set_cons_zero, List.set_cons_succ]
              refine wpAnyB_pure (i := 2) (v := .int .i64 (i : Int)) rfl (by kernel_rfl) (fun _ _ _ h => h) (Or.inl ⟨by rfl, fun w _ => by go_simp⟩) hS0 ?_
              simp only [List.getElem_toArray, List.getElem_cons_succ, List.getElem_cons_zero, Act.put, List.setIfInBounds_toArray, List.set_cons_zero, List.set_cons_succ]
              refine wpAnyB_pure (i := 3) (v := .pointer (some ⟨gi, off + i, none⟩)) rfl (by kernel_rfl) (fun _ _ _ h => h) (Or.inl ⟨by rfl, fun w _ => by go_simp⟩) hS0 ?_
              simp only [List.getElem_toArray, List.getElem_cons_succ, List.getElem_cons_zero, Act.put, List.setIfInBounds_toArray, List.set_cons_zero, List.set_cons_succ]
              refine wpAnyB_take [] (i := 4) (v := .int .i64 x) rfl (by kernel_rfl) (fun _ _ _ h => h) (Or.inl ⟨by rfl, fun w hSw => by have := HC0.out w hSw; go_simp⟩) hS0 ?_
              simp only [List.getElem_toArray, List.getElem_cons_succ, List.getElem_cons_zero, Act.put, List.setIfInBounds_toArray, List.set_cons_zero, List.set_cons_succ]
              refine wpAnyB_pure (i := 6) (v := .pointer (some ⟨gy, 0, none⟩)) rfl (by kernel_rfl) (fun _ _ _ h => h) (Or.inl ⟨by rfl, fun w _ => by go_simp⟩) hS0 ?_
              simp only [List.getElem_toArray, List.getElem_cons_succ, List.getElem_cons_zero, Act.put, List.setIfInBounds_toArray, List.set_cons_zero, List.set_cons_succ]
              refine wpAnyB_pure (i := 7) (v := .slice (some ⟨gi, off, none⟩) rs.length capr) rfl (by kernel_rfl) (fun _ _ _ h => h) (Or.inl ⟨by rfl, fun w _ => by go_simp⟩) hS0 ?_
              simp only [List.getElem_toArray, List.getElem_cons_succ, List.getElem_cons_zero, Act.put, List.setIfInBounds_toArray, List.set_cons_zero, List.set_cons_succ]
              refine wpAnyB_pure (i := 8) (v := .int .i64 (i : Int)) rfl (by kernel_rfl) (fun _ _ _ h => h) (Or.inl ⟨by rfl, fun w _ => by go_simp⟩) hS0 ?_
              simp only [List.getElem_toArray, List.getElem_cons_succ, List.getElem_cons_zero, Act.put, List.setIfInBounds_toArray, List.set_cons_zero, List.set_cons_succ]
              refine wpAnyB_pure (i := 9) (v := .pointer (some ⟨gi, off + i, none⟩)) rfl (by kernel_rfl) (fun _ _ _ h => h) (Or.inl ⟨by rfl, fun w _ => by go_simp⟩) hS0 ?_
              simp only [List.getElem_toArray, List.getElem_cons_succ, List.getElem_cons_zero, Act.put, List.setIfInBounds_toArray, List.set_cons_zero, List.set_cons_succ]
              refine wpAnyB_take [] (i := 10) (v := .int .i64 x) rfl (by kernel_rfl) (fun _ _ _ h => h) (Or.inl ⟨by rfl, fun w hSw => by have := HC0.out w hSw; go_simp⟩) hS0 ?_
              simp only [List.getElem_toArray, List.getElem_cons_succ, List.getElem_cons_zero, Act.put, List.setIfInBounds_toArray, List.set_cons_zero, List.set_cons_succ]
              refine wpAnyB_one (i := 5) rfl (by kernel_rfl) (fun K hK => ?_)
              go_simp
              refine (HQ0.out _ hS0).mono ?_
              rintro e wz1 ⟨rfl, hBz1⟩
              have hS1 : Below wr.heap.size wr wz1 := hS0.trans (hBz1.mono hS0.size)
              refine hK.out _ _ hS1 ?_
              clear hK K hBz1
              refine wpAnyB_one (i := 11) rfl (by kernel_rfl) (fun K hK => ?_)
              go_simp
              refine (HZ0.out _ hS1).mono ?_
              rintro e wz2 ⟨rfl, hBz2⟩
              have hS2 : Below wr.heap.size wr wz2 := hS1.trans (hBz2.mono hS1.size)
              refine hK.out _ _ hS2 ?_
              clear hK K hBz2
              refine wpAnyB_pure (i := 12) (v := .bool false) rfl (by kernel_rfl) (fun _ _ _ h => h) (Or.inl ⟨by rfl, fun w _ => by go_simp⟩) hS2 ?_
              simp only [List.getElem_toArray, List.getElem_cons_succ, List.getElem_cons_zero, Act.put, List.setIfInBounds_toArray, List.set_cons_zero, List.set_cons_succ]
              refine wpAnyB_pure (i := 13) (v := .bool false) rfl (by kernel_rfl) (fun _ _ _ h => h) (Or.inl ⟨by rfl, fun w _ => by go_simp⟩) hS2 ?_
              simp only [List.getElem_toArray, List.getElem_cons_succ, List.getElem_cons_zero, Act.put, List.setIfInBounds_toArray, List.set_cons_zero, List.set_cons_succ]
              refine wpAnyB_pure (i := 14) (v := .pointer (some ⟨gx, 0, none⟩)) rfl (by kernel_rfl) (fun _ _ _ h => h) (Or.inl ⟨by rfl, fun w _ => by go_simp⟩) hS2 ?_
              simp only [List.getElem_toArray, List.getElem_cons_succ, List.getElem_cons_zero, Act.put, List.setIfInBounds_toArray, List.set_cons_zero, List.set_cons_succ]
              refine wpAnyB_pure (i := 15) (v := .slice (some ⟨gi, off, none⟩) rs.length capr) rfl (by kernel_rfl) (fun _ _ _ h => h) (Or.inl ⟨by rfl, fun w _ => by go_simp⟩) hS2 ?_
              simp only [List.getElem_toArray, List.getElem_cons_succ, List.getElem_cons_zero, Act.put, List.setIfInBounds_toArray, List.set_cons_zero, List.set_cons_succ]
              refine wpAnyB_pure (i := 16) (v := .int .i64 (i : Int)) rfl (by kernel_rfl) (fun _ _ _ h => h) (Or.inl ⟨by rfl, fun w _ => by go_simp⟩) hS2 ?_
              simp only [List.getElem_toArray, List.getElem_cons_succ, List.getElem_cons_zero, Act.put, List.setIfInBounds_toArray, List.set_cons_zero, List.set_cons_succ]
              refine wpAnyB_pure (i := 17) (v := .pointer (some ⟨gi, off + i, none⟩)) rfl (by kernel_rfl) (fun _ _ _ h => h) (Or.inl ⟨by rfl, fun w _ => by go_simp⟩) hS2 ?_
              simp only [List.getElem_toArray, List.getElem_cons_succ, List.getElem_cons_zero, Act.put, List.setIfInBounds_toArray, List.set_cons_zero, List.set_cons_succ]
              refine wpAnyB_take [] (i := 18) (v := .int .i64 x) rfl (by kernel_rfl) (fun _ _ _ h => h) (Or.inl ⟨by rfl, fun w hSw => by have := HC0.out w hSw; go_simp⟩) hS2 ?_
              simp only [List.getElem_toArray, List.getElem_cons_succ, List.getElem_cons_zero, Act.put, List.setIfInBounds_toArray, List.set_cons_zero, List.set_cons_succ]
              refine wpAnyB_pure (i := 20) (v := .pointer (some ⟨gy, 0, none⟩)) rfl (by kernel_rfl) (fun _ _ _ h => h) (Or.inl ⟨by rfl, fun w _ => by go_simp⟩) hS2 ?_
              simp only [List.getElem_toArray, List.getElem_cons_succ, List.getElem_cons_zero, Act.put, List.setIfInBounds_toArray, List.set_cons_zero, List.set_cons_succ]
              refine wpAnyB_pure (i := 21) (v := .slice (some ⟨gi, off, none⟩) rs.length capr) rfl (by kernel_rfl) (fun _ _ _ h => h) (Or.inl ⟨by rfl, fun w _ => by go_simp⟩) hS2 ?_
              simp only [List.getElem_toArray, List.getElem_cons_succ, List.getElem_cons_zero, Act.put, List.setIfInBounds_toArray, List.set_cons_zero, List.set_cons_succ]
              refine wpAnyB_pure (i := 22) (v := .int .i64 (i : Int)) rfl (by kernel_rfl) (fun _ _ _ h => h) (Or.inl ⟨by rfl, fun w _ => by go_simp⟩) hS2 ?_
              simp only [List.getElem_toArray, List.getElem_cons_succ, List.getElem_cons_zero, Act.put, List.setIfInBounds_toArray, List.set_cons_zero, List.set_cons_succ]
              refine wpAnyB_pure (i := 23) (v := .pointer (some ⟨gi, off + i, none⟩)) rfl (by kernel_rfl) (fun _ _ _ h => h) (Or.inl ⟨by rfl, fun w _ => by go_simp⟩) hS2 ?_
              simp only [List.getElem_toArray, List.getElem_cons_succ, List.getElem_cons_zero, Act.put, List.setIfInBounds_toArray, List.set_cons_zero, List.set_cons_succ]
              refine wpAnyB_take [] (i := 24) (v := .int .i64 x) rfl (by kernel_rfl) (fun _ _ _ h => h) (Or.inl ⟨by rfl, fun w hSw => by have := HC0.out w hSw; go_simp⟩) hS2 ?_
              simp only [List.getElem_toArray, List.getElem_cons_succ, List.getElem_cons_zero, Act.put, List.setIfInBounds_toArray, List.set_cons_zero, List.set_cons_succ]
              refine wpAnyB_one (i := 19) rfl (by kernel_rfl) (fun K hK => ?_)
              go_simp
              refine (HQ1.out _ hS2).mono ?_
              rintro e wz3 ⟨rfl, hBz3⟩
              have hS3 : Below wr.heap.size wr wz3 := hS2.trans (hBz3.mono hS2.size)
              refine hK.out _ _ hS3 ?_
              clear hK K hBz3
              refine wpAnyB_one (i := 25) rfl (by kernel_rfl) (fun K hK => ?_)
              go_simp
              refine (HZ1.out _ hS3).mono ?_
              rintro e wz4 ⟨rfl, hBz4⟩
              have hS4 : Below wr.heap.size wr wz4 := hS3.trans (hBz4.mono hS3.size)
              refine hK.out _ _ hS4 ?_
              clear hK K hBz4
              refine wpAnyB_pure (i := 26) (v := .bool false) rfl (by kernel_rfl) (fun _ _ _ h => h) (Or.inl ⟨by rfl, fun w _ => by go_simp⟩) hS4 ?_
              simp only [List.getElem_toArray, List.getElem_cons_succ, List.getElem_cons_zero, Act.put, List.setIfInBounds_toArray, List.set_cons_zero, List.set_cons_succ]
              refine wpAnyB_pure (i := 27) (v := .bool false) rfl (by kernel_rfl) (fun _ _ _ h => h) (Or.inl ⟨by rfl, fun w _ => by go_simp⟩) hS4 ?_
              simp only [List.getElem_toArray, List.getElem_cons_succ, List.getElem_cons_zero, Act.put, List.setIfInBounds_toArray, List.set_cons_zero, List.set_cons_succ]
              refine wpAnyB_pure (i := 28) (v := .bool false) rfl (by kernel_rfl) (fun _ _ _ h => h) (Or.inl ⟨by rfl, fun w _ => by go_simp⟩) hS4 ?_
              simp only [List.getElem_toArray, List.getElem_cons_succ, List.getElem_cons_zero, Act.put, List.setIfInBounds_toArray, List.set_cons_zero, List.set_cons_succ]
              refine wpAnyB_pure (i := 29) (v := .pointer (some ⟨gx, 0, none⟩)) rfl (by kernel_rfl) (fun _ _ _ h => h) (Or.inl ⟨by rfl, fun w _ => by go_simp⟩) hS4 ?_
              simp only [List.getElem_toArray, List.getElem_cons_succ, List.getElem_cons_zero, Act.put, List.setIfInBounds_toArray, List.set_cons_zero, List.set_cons_succ]
              refine wpAnyB_pure (i := 30) (v := .slice (some ⟨gi, off, none⟩) rs.length capr) rfl (by kernel_rfl) (fun _ _ _ h => h) (Or.inl ⟨by rfl, fun w _ => by go_simp⟩) hS4 ?_
              simp only [List.getElem_toArray, List.getElem_cons_succ, List.getElem_cons_zero, Act.put, List.setIfInBounds_toArray, List.set_cons_zero, List.set_cons_succ]
              refine wpAnyB_pure (i := 31) (v := .int .i64 (i : Int)) rfl (by kernel_rfl) (fun _ _ _ h => h) (Or.inl ⟨by rfl, fun w _ => by go_simp⟩) hS4 ?_
              simp only [List.getElem_toArray, List.getElem_cons_succ, List.getElem_cons_zero, Act.put, List.setIfInBounds_toArray, List.set_cons_zero, List.set_cons_succ]
              refine wpAnyB_pure (i := 32) (v := .pointer (some ⟨gi, off + i, none⟩)) rfl (by kernel_rfl) (fun _ _ _ h => h) (Or.inl ⟨by rfl, fun w _ => by go_simp⟩) hS4 ?_
              simp only [List.getElem_toArray, List.getElem_cons_succ, List.getElem_cons_zero, Act.put, List.setIfInBounds_toArray, List.set_cons_zero, List.set_cons_succ]
              refine wpAnyB_take [] (i := 33) (v := .int .i64 x) rfl (by kernel_rfl) (fun _ _ _ h => h) (Or.inl ⟨by rfl, fun w hSw => by have := HC0.out w hSw; go_simp⟩) hS4 ?_
              simp only [List.getElem_toArray, List.getElem_cons_succ, List.getElem_cons_zero, Act.put, List.setIfInBounds_toArray, List.set_cons_zero, List.set_cons_succ]
              refine wpAnyB_pure (i := 35) (v := .pointer (some ⟨gy, 0, none⟩)) rfl (by kernel_rfl) (fun _ _ _ h => h) (Or.inl ⟨by rfl, fun w _ => by go_simp⟩) hS4 ?_
              simp only [List.getElem_toArray, List.getElem_cons_succ, List.getElem_cons_zero, Act.put, List.setIfInBounds_toArray, List.set_cons_zero, List.set_cons_succ]
              refine wpAnyB_pure (i := 36) (v := .slice (some ⟨gi, off, none⟩) rs.length capr) rfl (by kernel_rfl) (fun _ _ _ h => h) (Or.inl ⟨by rfl, fun w _ => by go_simp⟩) hS4 ?_
              simp only [List.getElem_toArray, List.getElem_cons_succ, List.getElem_cons_zero, Act.put, List.setIfInBounds_toArray, List.set_cons_zero, List.set_cons_succ]
              refine wpAnyB_pure (i := 37) (v := .int .i64 (i : Int)) rfl (by kernel_rfl) (fun _ _ _ h => h) (Or.inl ⟨by rfl, fun w _ => by go_simp⟩) hS4 ?_
              simp only [List.getElem_toArray, List.getElem_cons_succ, List.getElem_cons_zero, Act.put, List.setIfInBounds_toArray, List.set_cons_zero, List.set_cons_succ]
              refine wpAnyB_pure (i := 38) (v := .pointer (some ⟨gi, off + i, none⟩)) rfl (by kernel_rfl) (fun _ _ _ h => h) (Or.inl ⟨by rfl, fun w _ => by go_simp⟩) hS4 ?_
              simp only [List.getElem_toArray, List.getElem_cons_succ, List.getElem_cons_zero, Act.put, List.setIfInBounds_toArray, List.set_cons_zero, List.set_cons_succ]
              refine wpAnyB_take [] (i := 39) (v := .int .i64 x) rfl (by kernel_rfl) (fun _ _ _ h => h) (Or.inl ⟨by rfl, fun w hSw => by have := HC0.out w hSw; go_simp⟩) hS4 ?_
              simp only [List.getElem_toArray, List.getElem_cons_succ, List.getElem_cons_zero, Act.put, List.setIfInBounds_toArray, List.set_cons_zero, List.set_cons_succ]
              refine wpAnyB_one (i := 34) rfl (by kernel_rfl) (fun K hK => ?_)
              go_simp
              refine (HQ2.out _ hS4).mono ?_
              rintro e wz5 ⟨rfl, hBz5⟩
              have hS5 : Below wr.heap.size wr wz5 := hS4.trans (hBz5.mono hS4.size)
              refine hK.out _ _ hS5 ?_
              clear hK K hBz5
              refine wpAnyB_one (i := 40) rfl (by kernel_rfl) (fun K hK => ?_)
              go_simp
              refine (HZ2.out _ hS5).mono ?_
              rintro e wz6 ⟨rfl, hBz6⟩
              have hS6 : Below wr.heap.size wr wz6 := hS5.trans (hBz6.mono hS5.size)
              refine hK.out _ _ hS6 ?_
              clear hK K hBz6
              refine wpAnyB_pure (i := 41) (v := .bool false) rfl (by kernel_rfl) (fun _ _ _ h => h) (Or.inl ⟨by rfl, fun w _ => by go_simp⟩) hS6 ?_
              simp only [List.getElem_toArray, List.getElem_cons_succ, List.getElem_cons_zero, Act.put, List.setIfInBounds_toArray, List.set_cons_zero, List.set_cons_succ]
              refine wpAnyB_pure (i := 42) (v := .bool false) rfl (by kernel_rfl) (fun _ _ _ h => h) (Or.inl ⟨by rfl, fun w _ => by go_simp⟩) hS6 ?_
              simp only [List.getElem_toArray, List.getElem_cons_succ, List.getElem_cons_zero, Act.put, List.setIfInBounds_toArray, List.set_cons_zero, List.set_cons_succ]
              refine wpAnyB_pure (i := 43) (v := .bool false) rfl (by kernel_rfl) (fun _ _ _ h => h) (Or.inl ⟨by rfl, fun w _ => by go_simp⟩) hS6 ?_
              simp only [List.getElem_toArray, List.getElem_cons_succ, List.getElem_cons_zero, Act.put, List.setIfInBounds_toArray, List.set_cons_zero, List.set_cons_succ]
              refine wpAnyB_pure (i := 44) (v := .pointer (some ⟨gx, 0, none⟩)) rfl (by kernel_rfl) (fun _ _ _ h => h) (Or.inl ⟨by rfl, fun w _ => by go_simp⟩) hS6 ?_
              simp only [List.getElem_toArray, List.getElem_cons_succ, List.getElem_cons_zero, Act.put, List.setIfInBounds_toArray, List.set_cons_zero, List.set_cons_succ]
              refine wpAnyB_pure (i := 45) (v := .slice (some ⟨gi, off, none⟩) rs.length capr) rfl (by kernel_rfl) (fun _ _ _ h => h) (Or.inl ⟨by rfl, fun w _ => by go_simp⟩) hS6 ?_
              simp only [List.getElem_toArray, List.getElem_cons_succ, List.getElem_cons_zero, Act.put, List.setIfInBounds_toArray, List.set_cons_zero, List.set_cons_succ]
              refine wpAnyB_pure (i := 46) (v := .int .i64 (i : Int)) rfl (by kernel_rfl) (fun _ _ _ h => h) (Or.inl ⟨by rfl, fun w _ => by go_simp⟩) hS6 ?_
              simp only [List.getElem_toArray, List.getElem_cons_succ, List.getElem_cons_zero, Act.put, List.setIfInBounds_toArray, List.set_cons_zero, List.set_cons_succ]
              refine wpAnyB_pure (i := 47) (v := .pointer (some ⟨gi, off + i, none⟩)) rfl (by kernel_rfl) (fun _ _ _ h => h) (Or.inl ⟨by rfl, fun w _ => by go_simp⟩) hS6 ?_
              simp only [List.getElem_toArray, List.getElem_cons_succ, List.getElem_cons_zero, Act.put, List.setIfInBounds_toArray, List.set_cons_zero, List.set_cons_succ]
              refine wpAnyB_take [] (i := 48) (v := .int .i64 x) rfl (by kernel_rfl) (fun _ _ _ h => h) (Or.inl ⟨by rfl, fun w hSw => by have := HC0.out w hSw; go_simp⟩) hS6 ?_
              simp only [List.getElem_toArray, List.getElem_cons_succ, List.getElem_cons_zero, Act.put, List.setIfInBounds_toArray, List.set_cons_zero, List.set_cons_succ]
              refine wpAnyB_pure (i := 50) (v := .pointer (some ⟨gy, 0, none⟩)) rfl (by kernel_rfl) (fun _ _ _ h => h) (Or.inl ⟨by rfl, fun w _ => by go_simp⟩) hS6 ?_
              simp only [List.getElem_toArray, List.getElem_cons_succ, List.getElem_cons_zero, Act.put, List.setIfInBounds_toArray, List.set_cons_zero, List.set_cons_succ]
              refine wpAnyB_pure (i := 51) (v := .slice (some ⟨gi, off, none⟩) rs.length capr) rfl (by kernel_rfl) (fun _ _ _ h => h) (Or.inl ⟨by rfl, fun w _ => by go_simp⟩) hS6 ?_
              simp only [List.getElem_toArray, List.getElem_cons_succ, List.getElem_cons_zero, Act.put, List.setIfInBounds_toArray, List.set_cons_zero, List.set_cons_succ]
              refine wpAnyB_pure (i := 52) (v := .int .i64 (i : Int)) rfl (by kernel_rfl) (fun _ _ _ h => h) (Or.inl ⟨by rfl, fun w _ => by go_simp⟩) hS6 ?_
              simp only [List.getElem_toArray, List.getElem_cons_succ, List.getElem_cons_zero, Act.put, List.setIfInBounds_toArray, List.set_cons_zero, List.set_cons_succ]
              refine wpAnyB_pure (i := 53) (v := .pointer (some ⟨gi, off + i, none⟩)) rfl (by kernel_rfl) (fun _ _ _ h => h) (Or.inl ⟨by rfl, fun w _ => by go_simp⟩) hS6 ?_
              simp only [List.getElem_toArray, List.getElem_cons_succ, List.getElem_cons_zero, Act.put, List.setIfInBounds_toArray, List.set_cons_zero, List.set_cons_succ]
              refine wpAnyB_take [] (i := 54) (v := .int .i64 x) rfl (by kernel_rfl) (fun _ _ _ h => h) (Or.inl ⟨by rfl, fun w hSw => by have := HC0.out w hSw; go_simp⟩) hS6 ?_
              simp only [List.getElem_toArray, List.getElem_cons_succ, List.getElem_cons_zero, Act.put, List.setIfInBounds_toArray, List.set_cons_zero, List.set_cons_succ]
              refine wpAnyB_one (i := 49) rfl (by kernel_rfl) (fun K hK => ?_)
              go_simp
              refine (HQ3.out _ hS6).mono ?_
              rintro e wz7 ⟨rfl, hBz7⟩
              have hS7 : Below wr.heap.size wr wz7 := hS6.trans (hBz7.mono hS6.size)
              refine hK.out _ _ hS7 ?_
              clear hK K hBz7
              refine wpAnyB_one (i := 55) rfl (by kernel_rfl) (fun K hK => ?_)
              go_simp
              refine (HZ3.out _ hS7).mono ?_
              rintro e wz8 ⟨rfl, hBz8⟩
              have hS8 : Below wr.heap.size wr wz8 := hS7.trans (hBz8.mono hS7.size)
              refine hK.out _ _ hS8 ?_
              clear hK K hBz8
              refine wpAnyB_pure (i := 56) (v := .bool false) rfl (by kernel_rfl) (fun _ _ _ h => h) (Or.inl ⟨by rfl, fun w _ => by go_simp⟩) hS8 ?_
              simp only [List.getElem_toArray, List.getElem_cons_succ, List.getElem_cons_zero, Act.put, List.setIfInBounds_toArray, List.set_cons_zero, List.set_cons_succ]
              refine wpAnyB_pure (i := 57) (v := .bool false) rfl (by kernel_rfl) (fun _ _ _ h => h) (Or.inl ⟨by rfl, fun w _ => by go_simp⟩) hS8 ?_
              simp only [List.getElem_toArray, List.getElem_cons_succ, List.getElem_cons_zero, Act.put, List.setIfInBounds_toArray, List.set_cons_zero, List.set_cons_succ]
              refine wpAnyB_done (by kernel_rfl) ?_ _
              refine NoPanic.normal ?_
              have HF8 : Hid (Below wm.heap.size wm wz8) := HBI.out.trans (hS8.mono hsi2)
              clear hS0 hS1 hS2 hS3 hS4 hS5 hS6 hS7 hS8
              go_wp2
              go_roundw
              case rel => exact ⟨i + 1, by omega, by omega, by go_num, HF8.out⟩
              case measure => simp [intOf]; omega
            · have hex : ¬ ((i : Int) < (rs.length : Int)) ∨ ((i : Int) < (rs.length : Int)) ∧ ¬ ((i : Int) < 100) := by omega
              clear hgo
              rcases hex with n1 | ⟨n1, n2⟩
              · go_wp2_with fail
                refine wp_region_bad (fun w' => Below wr.heap.size wr w') [] (by kernel_rfl) ((Below.refl _ _).drew) (fun hS => ?_)
                refine wpAnyB_pure (i := 0) (v := .pointer (some ⟨gx, 0, none⟩)) rfl (by kernel_rfl) (fun _ _ _ h => h) (Or.inl ⟨by rfl, fun w _ => by go_simp⟩) hS ?_
                simp only [List.getElem_toArray, List.getElem_cons_zero, Act.put, List.setIfInBounds_toArray, List.set_cons_zero, List.set_cons_succ]
                refine wpAnyB_pure (i := 1) (v := .bool false) rfl (by kernel_rfl) (fun _ _ _ h => h) (Or.inl ⟨by rfl, fun w _ => by go_simp⟩) hS ?_
                simp only [List.getElem_toArray, List.getElem_cons_succ, List.getElem_cons_zero, Act.put, List.setIfInBounds_toArray, List.set_cons_zero, List.set_cons_succ]
                refine wpAnyB_pure (i := 2) (v := .bool false) rfl (by kernel_rfl) (fun _ _ _ h => h) (Or.inl ⟨by rfl, fun w _ => by go_simp⟩) hS ?_
                simp only [List.getElem_toArray, List.getElem_cons_succ, List.getElem_cons_zero, Act.put, List.setIfInBounds_toArray, List.set_cons_zero, List.set_cons_succ]
                refine wpAnyB_pure (i := 3) (v := .pointer (some ⟨gx, 0, none⟩)) rfl (by kernel_rfl) (fun _ _ _ h => h) (Or.inl ⟨by rfl, fun w _ => by go_simp⟩) hS ?_
                simp only [List.getElem_toArray, List.getElem_cons_succ, List.getElem_cons_zero, Act.put, List.setIfInBounds_toArray, List.set_cons_zero, List.set_cons_succ]
                refine wpAnyB_pure (i := 6) (v := .slice (some ⟨gb, 0, none⟩) n3 cb) rfl (by kernel_rfl) (fun _ _ _ h => h) (Or.inl ⟨by rfl, fun w _ => by go_simp⟩) hS ?_
                simp only [List.getElem_toArray, List.getElem_cons_succ, List.getElem_cons_zero, Act.put, List.setIfInBounds_toArray, List.set_cons_zero, List.set_cons_succ]
                refine wpAnyB_take [] (i := 7) (v := .string (strOfNums l3)) rfl (by kernel_rfl) (fun _ _ _ h => h) (yields_convert (by rfl) rfl rfl (fun w' hw' => (HYI2.out.below hw').conv)) hS ?_
                simp only [List.getElem_toArray, List.getElem_cons_succ, List.getElem_cons_zero, Act.put, List.setIfInBounds_toArray, List.set_cons_zero, List.set_cons_succ]
                refine wpAnyB_one (i := 4) rfl (by kernel_rfl) (fun K hK => ?_)
                go_simp
                refine (dsave_any (dL l3) (dF l3) gx wr.drew (HXI.out.below hS) HFX.out).mono ?_
                rintro e w7 ⟨v7, rfl, ho7, hB7⟩
                have HY7 : Hid (BytesAt w7.heap.size w7 v7 l3) := by
                  have := bytes_of_row ho7
                  rw [HRB.out] at this
                  exact this
                have HB7 : Hid (Below wr.heap.size wr w7) := hS.trans hB7
                refine hK.out _ _ HB7.out ?_
                refine wpAnyB_mono (S' := fun w' => Below w7.heap.size w7 w') (fun w' h => HB7.out.trans (h.mono HB7.out.size)) ?_
                clear hK K ho7 hB7 hS
                have hS7 : Below w7.heap.size w7 w7 := Below.refl _ _
                refine wpAnyB_take [] (i := 5) (v := .string (strOfNums l3)) rfl (by kernel_rfl) (fun _ _ _ h => h) (yields_convert (by rfl) rfl rfl (fun w' hw' => (HY7.out.below hw').conv)) hS7 ?_
                simp only [List.getElem_toArray, List.getElem_cons_succ, List.getElem_cons_zero, Act.put, List.setIfInBounds_toArray, List.set_cons_zero, List.set_cons_succ]
                refine wpAnyB_pure (i := 8) (v := .bool true) rfl (by kernel_rfl) (fun _ _ _ h => h) (Or.inl ⟨by rfl, fun w _ => by go_simp⟩) hS7 ?_
                simp only [List.getElem_toArray, List.getElem_cons_succ, List.getElem_cons_zero, Act.put, List.setIfInBounds_toArray, List.set_cons_zero, List.set_cons_succ]
                refine wpAnyB_pure (i := 9) (v := .bool true) rfl (by kernel_rfl) (fun _ _ _ h => h) (Or.inl ⟨by rfl, fun w _ => by go_simp⟩) hS7 ?_
                simp only [List.getElem_toArray, List.getElem_cons_succ, List.getElem_cons_zero, Act.put, List.setIfInBounds_toArray, List.set_cons_zero, List.set_cons_succ]
                refine wpAnyB_pure (i := 10) (v := .bool true) rfl (by kernel_rfl) (fun _ _ _ h => h) (Or.inl ⟨by rfl, fun w _ => by go_simp⟩) hS7 ?_
                simp only [List.getElem_toArray, List.getElem_cons_succ, List.getElem_cons_zero, Act.put, List.setIfInBounds_toArray, List.set_cons_zero, List.set_cons_succ]
                refine wpAnyB_done (by kernel_rfl) ?_ _
                refine NoPanic.normal ?_
                clear hS7
                go_wp2
                go_ret
                exact ⟨rfl, HBW2.out.trans (HB7.out.mono HBW2.out.size)⟩
              · go_wp2_with fail
                refine wp_region_bad (fun w' => Below wr.heap.size wr w') [] (by kernel_rfl) ((Below.refl _ _).drew) (fun hS => ?_)
                refine wpAnyB_pure (i := 0) (v := .pointer (some ⟨gx, 0, none⟩)) rfl (by kernel_rfl) (fun _ _ _ h => h) (Or.inl ⟨by rfl, fun w _ => by go_simp⟩) hS ?_
                simp only [List.getElem_toArray, List.getElem_cons_zero, Act.put, List.setIfInBounds_toArray, List.set_cons_zero, List.set_cons_succ]
                refine wpAnyB_pure (i := 1) (v := .bool false) rfl (by kernel_rfl) (fun _ _ _ h => h) (Or.inl ⟨by rfl, fun w _ => by go_simp⟩) hS ?_
                simp only [List.getElem_toArray, List.getElem_cons_succ, List.getElem_cons_zero, Act.put, List.setIfInBounds_toArray, List.set_cons_zero, List.set_cons_succ]
                refine wpAnyB_pure (i := 2) (v := .bool false) rfl (by kernel_rfl) (fun _ _ _ h => h) (Or.inl ⟨by rfl, fun w _ => by go_simp⟩) hS ?_
                simp only [List.getElem_toArray, List.getElem_cons_succ, List.getElem_cons_zero, Act.put, List.setIfInBounds_toArray, List.set_cons_zero, List.set_cons_succ]
                refine wpAnyB_pure (i := 3) (v := .pointer (some ⟨gx, 0, none⟩)) rfl (by kernel_rfl) (fun _ _ _ h => h) (Or.inl ⟨by rfl, fun w _ => by go_simp⟩) hS ?_
                simp only [List.getElem_toArray, List.getElem_cons_succ, List.getElem_cons_zero, Act.put, List.setIfInBounds_toArray, List.set_cons_zero, List.set_cons_succ]
                refine wpAnyB_pure (i := 6) (v := .slice (some ⟨gb, 0, none⟩) n3 cb) rfl (by kernel_rfl) (fun _ _ _ h => h) (Or.inl ⟨by rfl, fun w _ => by go_simp⟩) hS ?_
                simp only [List.getElem_toArray, List.getElem_cons_succ, List.getElem_cons_zero, Act.put, List.setIfInBounds_toArray, List.set_cons_zero, List.set_cons_succ]
                refine wpAnyB_take [] (i := 7) (v := .string (strOfNums l3)) rfl (by kernel_rfl) (fun _ _ _ h => h) (yields_convert (by rfl) rfl rfl (fun w' hw' => (HYI2.out.below hw').conv)) hS ?_
                simp only [List.getElem_toArray, List.getElem_cons_succ, List.getElem_cons_zero, Act.put, List.setIfInBounds_toArray, List.set_cons_zero, List.set_cons_succ]
                refine wpAnyB_one (i := 4) rfl (by kernel_rfl) (fun K hK => ?_)
                go_simp
                refine (dsave_any (dL l3) (dF l3) gx wr.drew (HXI.out.below hS) HFX.out).mono ?_
                rintro e w7 ⟨v7, rfl, ho7, hB7⟩
                have HY7 : Hid (BytesAt w7.heap.size w7 v7 l3) := by
                  have := bytes_of_row ho7
                  rw [HRB.out] at this
                  exact this
                have HB7 : Hid (Below wr.heap.size wr w7) := hS.trans hB7
                refine hK.out _ _ HB7.out ?_
                refine wpAnyB_mono (S' := fun w' => Below w7.heap.size w7 w') (fun w' h => HB7.out.trans (h.mono HB7.out.size)) ?_
                clear hK K ho7 hB7 hS
                have hS7 : Below w7.heap.size w7 w7 := Below.refl _ _
                refine wpAnyB_take [] (i := 5) (v := .string (strOfNums l3)) rfl (by kernel_rfl) (fun _ _ _ h => h) (yields_convert (by rfl) rfl rfl (fun w' hw' => (HY7.out.below hw').conv)) hS7 ?_
                simp only [List.getElem_toArray, List.getElem_cons_succ, List.getElem_cons_zero, Act.put, List.setIfInBounds_toArray, List.set_cons_zero, List.set_cons_succ]
                refine wpAnyB_pure (i := 8) (v := .bool true) rfl (by kernel_rfl) (fun _ _ _ h => h) (Or.inl ⟨by rfl, fun w _ => by go_simp⟩) hS7 ?_
                simp only [List.getElem_toArray, List.getElem_cons_succ, List.getElem_cons_zero, Act.put, List.setIfInBounds_toArray, List.set_cons_zero, List.set_cons_succ]
                refine wpAnyB_pure (i := 9) (v := .bool true) rfl (by kernel_rfl) (fun _ _ _ h => h) (Or.inl ⟨by rfl, fun w _ => by go_simp⟩) hS7 ?_
                simp only [List.getElem_toArray, List.getElem_cons_succ, List.getElem_cons_zero, Act.put, List.setIfInBounds_toArray, List.set_cons_zero, List.set_cons_succ]
                refine wpAnyB_pure (i := 10) (v := .bool true) rfl (by kernel_rfl) (fun _ _ _ h => h) (Or.inl ⟨by rfl, fun w _ => by go_simp⟩) hS7 ?_
                simp only [List.getElem_toArray, List.getElem_cons_succ, List.getElem_cons_zero, Act.put, List.setIfInBounds_toArray, List.set_cons_zero, List.set_cons_succ]
                refine wpAnyB_done (by kernel_rfl) ?_ _
                refine NoPanic.normal ?_
                clear hS7
                go_wp2
                go_ret
                exact ⟨rfl, HBW2.out.trans (HB7.out.mono HBW2.out.size)⟩
        · have e0 : errD l3 = 2 := by unfold errD; rw [if_neg hb]
          obtain rfl := hnx (by rw [e0]; omega)
          obtain rfl := hny (by rw [e0]; omega)
          rw [e0]
          clear hnx htx hny hty e0 hb hBm
          go_wp2_with fail
          go_loopw [15] (fun x wi => x = .int .i64 0 ∧ wi = wm) (fun x _ => 0)
          case atStart => exact ⟨rfl, rfl⟩
          case round =>
            obtain ⟨rfl, rfl⟩ := hrel
            by_cases n1 : 0 < rs.length
            · have n1' : (0 : Int) < (rs.length : Int) := by omega
              go_wp2_with fail
              refine wp_region_bad (fun w' => Below wr.heap.size wr w') [] (by kernel_rfl) ((Below.refl _ _).drew) (fun hS => ?_)
              refine wpAnyB_pure (i := 0) (v := .pointer none) rfl (by kernel_rfl) (fun _ _ _ h => h) (Or.inl ⟨by rfl, fun w _ => by go_simp⟩) hS ?_
              simp only [List.getElem_toArray, List.getElem_cons_zero, Act.put, List.setIfInBounds_toArray, List.set_cons_zero, List.set_cons_succ]
              refine wpAnyB_pure (i := 1) (v := .bool true) rfl (by kernel_rfl) (fun _ _ _ h => h) (Or.inl ⟨by rfl, fun w _ => by go_simp⟩) hS ?_
              simp only [List.getElem_toArray, List.getElem_cons_succ, List.getElem_cons_zero, Act.put, List.setIfInBounds_toArray, List.set_cons_zero, List.set_cons_succ]
              refine wpAnyB_pure (i := 2) (v := .bool true) rfl (by kernel_rfl) (fun _ _ _ h => h) (Or.inl ⟨by rfl, fun w _ => by go_simp⟩) hS ?_
              simp only [List.getElem_toArray, List.getElem_cons_succ, List.getElem_cons_zero, Act.put, List.setIfInBounds_toArray, List.set_cons_zero, List.set_cons_succ]
              refine wpAnyB_pure (i := 3) (v := undef) rfl (by kernel_rfl) (fun _ _ _ h => h) (Or.inr ⟨by rfl, rfl⟩) hS ?_
              simp only [List.getElem_toArray, List.getElem_cons_succ, List.getElem_cons_zero, Act.put, List.setIfInBounds_toArray, List.set_cons_zero, List.set_cons_succ]
              refine wpAnyB_pure (i := 4) (v := undef) rfl (by kernel_rfl) (fun _ _ _ h => h) (Or.inr ⟨by rfl, rfl⟩) hS ?_
              simp only [List.getElem_toArray, List.getElem_cons_succ, List.getElem_cons_zero, Act.put, List.setIfInBounds_toArray, List.set_cons_zero, List.set_cons_succ]
              refine wpAnyB_pure (i := 5) (v := undef) rfl (by kernel_rfl) (fun _ _ _ h => h) (Or.inr ⟨by rfl, rfl⟩) hS ?_
              simp only [List.getElem_toArray, List.getElem_cons_succ, List.getElem_cons_zero, Act.put, List.setIfInBounds_toArray, List.set_cons_zero, List.set_cons_succ]
              refine wpAnyB_pure (i := 6) (v := undef) rfl (by kernel_rfl) (fun _ _ _ h => h) (Or.inr ⟨by rfl, rfl⟩) hS ?_
              simp only [List.getElem_toArray, List.getElem_cons_succ, List.getElem_cons_zero, Act.put, List.setIfInBounds_toArray, List.set_cons_zero, List.set_cons_succ]
              refine wpAnyB_pure (i := 7) (v := undef) rfl (by kernel_rfl) (fun _ _ _ h => h) (Or.inr ⟨by rfl, rfl⟩) hS ?_
              simp only [List.getElem_toArray, List.getElem_cons_succ, List.getElem_cons_zero, Act.put, List.setIfInBounds_toArray, List.set_cons_zero, List.set_cons_succ]
              refine wpAnyB_pure (i := 8) (v := undef) rfl (by kernel_rfl) (fun _ _ _ h => h) (Or.inr ⟨by rfl, rfl⟩) hS ?_
              simp only [List.getElem_toArray, List.getElem_cons_succ, List.getElem_cons_zero, Act.put, List.setIfInBounds_toArray, List.set_cons_zero, List.set_cons_succ]
              refine wpAnyB_pure (i := 9) (v := .bool true) rfl (by kernel_rfl) (fun _ _ _ h => h) (Or.inl ⟨by rfl, fun w _ => by go_simp⟩) hS ?_
              simp only [List.getElem_toArray, List.getElem_cons_succ, List.getElem_cons_zero, Act.put, List.setIfInBounds_toArray, List.set_cons_zero, List.set_cons_succ]
              refine wpAnyB_pure (i := 10) (v := .bool true) rfl (by kernel_rfl) (fun _ _ _ h => h) (Or.inl ⟨by rfl, fun w _ => by go_simp⟩) hS ?_
              simp only [List.getElem_toArray, List.getElem_cons_succ, List.getElem_cons_zero, Act.put, List.setIfInBounds_toArray, List.set_cons_zero, List.set_cons_succ]
              refine wpAnyB_done (by kernel_rfl) ?_ _
              refine NoPanic.normal ?_
              have HS9 : Hid (Below wr.heap.size wr wr.drew) := hS
              clear hS
              go_wp2
              go_ret
              exact ⟨rfl, HBM.out.trans (HS9.out.mono HBM.out.size)⟩
            · obtain rfl : rs = [] := List.length_eq_zero_iff.1 (by omega)
              clear n1
              go_wp2_with fail
              refine wp_region_bad (fun w' => Below wr.heap.size wr w') [] (by kernel_rfl) ((Below.refl _ _).drew) (fun hS => ?_)
              refine wpAnyB_pure (i := 0) (v := .pointer none) rfl (by kernel_rfl) (fun _ _ _ h => h) (Or.inl ⟨by rfl, fun w _ => by go_simp⟩) hS ?_
              simp only [List.getElem_toArray, List.getElem_cons_zero, Act.put, List.setIfInBounds_toArray, List.set_cons_zero, List.set_cons_succ]
              refine wpAnyB_pure (i := 1) (v := .bool true) rfl (by kernel_rfl) (fun _ _ _ h => h) (Or.inl ⟨by rfl, fun w _ => by go_simp⟩) hS ?_
              simp only [List.getElem_toArray, List.getElem_cons_succ, List.getElem_cons_zero, Act.put, List.setIfInBounds_toArray, List.set_cons_zero, List.set_cons_succ]
              refine wpAnyB_pure (i := 2) (v := .bool true) rfl (by kernel_rfl) (fun _ _ _ h => h) (Or.inl ⟨by rfl, fun w _ => by go_simp⟩) hS ?_
              simp only [List.getElem_toArray, List.getElem_cons_succ, List.getElem_cons_zero, Act.put, List.setIfInBounds_toArray, List.set_cons_zero, List.set_cons_succ]
              refine wpAnyB_pure (i := 3) (v := undef) rfl (by kernel_rfl) (fun _ _ _ h => h) (Or.inr ⟨by rfl, rfl⟩) hS ?_
              simp only [List.getElem_toArray, List.getElem_cons_succ, List.getElem_cons_zero, Act.put, List.setIfInBounds_toArray, List.set_cons_zero, List.set_cons_succ]
              refine wpAnyB_pure (i := 4) (v := undef) rfl (by kernel_rfl) (fun _ _ _ h => h) (Or.inr ⟨by rfl, rfl⟩) hS ?_
              simp only [List.getElem_toArray, List.getElem_cons_succ, List.getElem_cons_zero, Act.put, List.setIfInBounds_toArray, List.set_cons_zero, List.set_cons_succ]
              refine wpAnyB_pure (i := 5) (v := undef) rfl (by kernel_rfl) (fun _ _ _ h => h) (Or.inr ⟨by rfl, rfl⟩) hS ?_
              simp only [List.getElem_toArray, List.getElem_cons_succ, List.getElem_cons_zero, Act.put, List.setIfInBounds_toArray, List.set_cons_zero, List.set_cons_succ]
              refine wpAnyB_pure (i := 6) (v := undef) rfl (by kernel_rfl) (fun _ _ _ h => h) (Or.inr ⟨by rfl, rfl⟩) hS ?_
              simp only [List.getElem_toArray, List.getElem_cons_succ, List.getElem_cons_zero, Act.put, List.setIfInBounds_toArray, List.set_cons_zero, List.set_cons_succ]
              refine wpAnyB_pure (i := 7) (v := undef) rfl (by kernel_rfl) (fun _ _ _ h => h) (Or.inr ⟨by rfl, rfl⟩) hS ?_
              simp only [List.getElem_toArray, List.getElem_cons_succ, List.getElem_cons_zero, Act.put, List.setIfInBounds_toArray, List.set_cons_zero, List.set_cons_succ]
              refine wpAnyB_pure (i := 8) (v := undef) rfl (by kernel_rfl) (fun _ _ _ h => h) (Or.inr ⟨by rfl, rfl⟩) hS ?_
              simp only [List.getElem_toArray, List.getElem_cons_succ, List.getElem_cons_zero, Act.put, List.setIfInBounds_toArray, List.set_cons_zero, List.set_cons_succ]
              refine wpAnyB_pure (i := 9) (v := .bool true) rfl (by kernel_rfl) (fun _ _ _ h => h) (Or.inl ⟨by rfl, fun w _ => by go_simp⟩) hS ?_
              simp only [List.getElem_toArray, List.getElem_cons_succ, List.getElem_cons_zero, Act.put, List.setIfInBounds_toArray, List.set_cons_zero, List.set_cons_succ]
              refine wpAnyB_pure (i := 10) (v := .bool true) rfl (by kernel_rfl) (fun _ _ _ h => h) (Or.inl ⟨by rfl, fun w _ => by go_simp⟩) hS ?_
              simp only [List.getElem_toArray, List.getElem_cons_succ, List.getElem_cons_zero, Act.put, List.setIfInBounds_toArray, List.set_cons_zero, List.set_cons_succ]
              refine wpAnyB_done (by kernel_rfl) ?_ _
              refine NoPanic.normal ?_
              have HS9 : Hid (Below wr.heap.size wr wr.drew) := hS
              clear hS
              go_wp2
              go_ret
              exact ⟨rfl, HBM.out.trans (HS9.out.mono HBM.out.size)⟩
      · have hcl' : decide ((cn : Int) < (L : Int)) = false := by simp; omega
        have hcl2 : decide (cn < L) = false := by simp; omega
        obtain ⟨l3, hl3⟩ : ∃ l3, l3 = l2 := ⟨_, rfl⟩
        have HYB : Hid (BytesAt wr.heap.size wr (.slice (some ⟨gb, 0, none⟩) L cb) l3) := by rw [hl3]; exact HYL.out
        have HBY3 : Hid (ByL l3) := by rw [hl3]; exact HBY2.out
        have HLN3 : Hid (l3.length ≤ 1000000) := by show _ ≤ _; rw [hl3, HL2.out]; have := HLL.out; omega
        clear hl3 HYL hcl
        go_wp2_with fail
        refine (dload_any l3 _ wr HYB.out HBY3.out HLN3.out).mono ?_
        rintro e wk ⟨px, rfl, hnx, htx, hBk⟩
        have hsk := hBk.size
        obtain ⟨HBK, HYK⟩ : Hid (Below w.heap.size w wk) ∧ Hid (BytesAt wk.heap.size wk (.slice (some ⟨gb, 0, none⟩) L cb) l3) := ⟨HBW.out.trans (hBk.mono HBW.out.size), (HYB.out.below hBk).mono hsk⟩
        clear hBk
        go_wp2_with fail
        refine (rdload_any l3 _ wk HYK.out HBY3.out HLN3.out).mono ?_
        rintro e wm ⟨py, rfl, hny, hty, hBm⟩
        have hsm := hBm.size
        obtain ⟨HBM, HYM⟩ : Hid (Below w.heap.size w wm) ∧ Hid (BytesAt wm.heap.size wm (.slice (some ⟨gb, 0, none⟩) L cb) l3) := ⟨HBK.out.trans (hBm.mono HBK.out.size), (HYK.out.below hBm).mono hsm⟩
        by_cases hb : okD l3 = true
        · have e0 : errD l3 = 0 := by unfold errD; rw [if_pos hb]
          obtain ⟨gx, rfl, hX⟩ := htx e0
          obtain ⟨gy, rfl, hY⟩ := hty e0
          rw [e0]
          have HRB : Hid (dataTo (dL l3) (dF l3) 4 = l3) := data_all HBY3.out hb
          obtain ⟨HX, HFX, HYD, HFY⟩ : Hid (DataAt wm gx (dL l3) (dF l3)) ∧ Hid (∀ i, i < 4 → Fine (dL l3 i) (dF l3 i)) ∧ Hid (RDataTo wk.heap.size wm gy 4 (dF l3) (dN l3)) ∧ Hid (∀ i, i < 4 → RFine (dF l3 i) (dN l3 i)) := ⟨hX.below hBm, fun i hi => dfine HBY3.out ((okD_at hb).1 i hi), hY, fun i hi => rdfine HBY3.out ((okD_at hb).1 i hi)⟩
          have HCD : Hid (∀ k, castN (dN l3) k = dL l3 k) := cast_dN HBY3.out
          clear hnx htx hny hty e0 hb hX hY hBm
          go_wp2_with fail
          go_loopw [15] (fun x wi => ∃ i : Nat, i ≤ rs.length ∧ i ≤ 100 ∧ x = .int .i64 i ∧ Below wm.heap.size wm wi) (fun x _ => 100 - (intOf x).toNat)
          case atStart => exact ⟨0, Nat.zero_le _, Nat.zero_le _, rfl, Below.refl _ _⟩
          case round =>
            obtain ⟨i, hi, hi2, rfl, hBi⟩ := hrel
            have hsi2 := hBi.size
            obtain ⟨HBI, HXI, HYI, HBW2⟩ : Hid (Below wm.heap.size wm wr) ∧ Hid (DataAt wr gx (dL l3) (dF l3)) ∧ Hid (RDataTo wk.heap.size wr gy 4 (dF l3) (dN l3)) ∧ Hid (Below w.heap.size w wr) := ⟨hBi, HX.out.below hBi, HYD.out.below hBi, HBM.out.trans (hBi.mono HBM.out.size)⟩
            have HYI2 : Hid (BytesAt wr.heap.size wr (.slice (some ⟨gb, 0, none⟩) L cb) l3) := (HYM.out.below hBi).mono hsi2
            clear hBi
            by_cases hgo : i < rs.length ∧ i < 100
            · have hg1 : (i : Int) < (rs.length : Int) := by omega
              have hg2 : (i : Int) < 100 := by omega
              obtain ⟨gi, off, rfl, hg, c0⟩ := HCR.out i hgo.1
              obtain ⟨x, hx⟩ : ∃ x, x = rs[i]'hgo.1 := ⟨_, rfl⟩
              rw [← hx] at c0
              have HC0 : Hid (∀ w', Below wr.heap.size wr w' → w'.cell? ⟨gi, off + i, none⟩ = some (.int .i64 x)) := fun w' hw' => by
                have h1 := HBW2.out.size
                exact (hw'.cell (p := ⟨gi, _, none⟩) (show gi < _ by omega)).trans ((HBW2.out.cell (p := ⟨gi, _, none⟩) hg).trans c0)
              clear c0 hx hgo
              obtain ⟨uc, huc⟩ : ∃ uc, uc = clusterT (dL l3 0) (dF l3 0) x := ⟨_, rfl⟩
              have HQ0 : Hid (∀ w', Below wr.heap.size wr w' → Calls Tryd.prog 12 #[.pointer (some ⟨gx, 0, none⟩), .int .i64 x] w' fun e w'' => e = .returned (.int .i64 uc) ∧ Below w'.heap.size w' w'') := fun w' hw' => by
                rw [huc]; exact dcluster_any (dL l3) (dF l3) gx x w' (HXI.out.below hw') HFX.out
              have HZ0 : Hid (∀ w', Below wr.heap.size wr w' → Calls Tryd.prog 21 #[.pointer (some ⟨gy, 0, none⟩), .int .i64 x] w' fun e w'' => e = .returned (.int .i64 uc) ∧ Below w'.heap.size w' w'') := fun w' hw' => by
                rw [huc, ← HCD.out]; exact rdcluster_any wk.heap.size (dF l3) (dN l3) gy x w' (HYI.out.below hw') HFY.out
              clear huc
              obtain ⟨uw, huw⟩ : ∃ uw, uw = ofT (dL l3 1) (dF l3 1) x := ⟨_, rfl⟩
              have HQ1 : Hid (∀ w', Below wr.heap.size wr w' → Calls Tryd.prog 13 #[.pointer (some ⟨gx, 0, none⟩), .int .i64 x] w' fun e w'' => e = .returned (.int .i64 uw) ∧ Below w'.heap.size w' w'') := fun w' hw' => by
                rw [huw]; exact dword_any (dL l3) (dF l3) gx x w' (HXI.out.below hw') HFX.out
              have HZ1 : Hid (∀ w', Below wr.heap.size wr w' → Calls Tryd.prog 22 #[.pointer (some ⟨gy, 0, none⟩), .int .i64 x] w' fun e w'' => e = .returned (.int .i64 uw) ∧ Below w'.heap.size w' w'') := fun w' hw' => by
                rw [huw, ← HCD.out]; exact rdword_any wk.heap.size (dF l3) (dN l3) gy x w' (HYI.out.below hw') HFY.out
              clear huw
              obtain ⟨us, hus⟩ : ∃ us, us = ofT (dL l3 2) (dF l3 2) x := ⟨_, rfl⟩
              have HQ2 : Hid (∀ w', Below wr.heap.size wr w' → Calls Tryd.prog 14 #[.pointer (some ⟨gx, 0, none⟩), .int .i64 x] w' fun e w'' => e = .returned (.int .i64 us) ∧ Below w'.heap.size w' w'') := fun w' hw' => by
                rw [hus]; exact dscript_any (dL l3) (dF l3) gx x w' (HXI.out.below hw') HFX.out
              have HZ2 : Hid (∀ w', Below wr.heap.size wr w' → Calls Tryd.prog 23 #[.pointer (some ⟨gy, 0, none⟩), .int .i64 x] w' fun e w'' => e = .returned (.int .i64 us) ∧ Below w'.heap.size w' w'') := fun w' hw' => by
                rw [hus, ← HCD.out]; exact rdscript_any wk.heap.size (dF l3) (dN l3) gy x w' (HYI.out.below hw') HFY.out
              clear hus
              obtain ⟨up, hup⟩ : ∃ up, up = (ofT (dL l3 3) (dF l3 3) x != 0) := ⟨_, rfl⟩
              have HQ3 : Hid (∀ w', Below wr.heap.size wr w' → Calls Tryd.prog 15 #[.pointer (some ⟨gx, 0, none⟩), .int .i64 x] w' fun e w'' => e = .returned (.bool up) ∧ Below w'.heap.size w' w'') := fun w' hw' => by
                rw [hup]; exact dpicto_any (dL l3) (dF l3) gx x w' (HXI.out.below hw') HFX.out
              have HZ3 : Hid (∀ w', Below wr.heap.size wr w' → Calls Tryd.prog 24 #[.pointer (some ⟨gy, 0, none⟩), .int .i64 x] w' fun e w'' => e = .returned (.bool up) ∧ Below w'.heap.size w' w'') := fun w' hw' => by
                rw [hup, ← HCD.out]; exact rdpicto_any wk.heap.size (dF l3) (dN l3) gy x w' (HYI.out.below hw') HFY.out
              clear hup
              go_wp2_with fail
              refine wp_region_bad (fun w' => Below wr.heap.size wr w') [] (by kernel_rfl) ((Below.refl _ _).drew) (fun hS0 => ?_)
              refine wpAnyB_pure (i := 0) (v := .pointer (some ⟨gx, 0, none⟩)) rfl (by kernel_rfl) (fun _ _ _ h => h) (Or.inl ⟨by rfl, fun w _ => by go_simp⟩) hS0 ?_
              simp only [List.getElem_toArray, List.getElem_cons_zero, Act.put, List.setIfInBounds_toArray, List.set_cons_zero, List.set_cons_succ]
              refine wpAnyB_pure (i := 1) (v := .slice (some ⟨gi, off, none⟩) rs.length capr) rfl (by kernel_rfl) (fun _ _ _ h => h) (Or.inl ⟨by rfl, fun w _ => by go_simp⟩) hS0 ?_
              simp only [List.getElem_toArray, List.getElem_cons_succ, List.getElem_cons_zero, Act.put, List.setIfInBounds_toArray, List.set_cons_zero, List.set_cons_succ]
              refine wpAnyB_pure (i := 2) (v := .int .i64 (i : Int)) rfl (by kernel_rfl) (fun _ _ _ h => h) (Or.inl ⟨by rfl, fun w _ => by go_simp⟩) hS0 ?_
              simp only [List.getElem_toArray, List.getElem_cons_succ, List.getElem_cons_zero, Act.put, List.setIfInBounds_toArray, List.set_cons_zero, List.set_cons_succ]
              refine wpAnyB_pure (i := 3) (v := .pointer (some ⟨gi, off + i, none⟩)) rfl (by kernel_rfl) (fun _ _ _ h => h) (Or.inl ⟨by rfl, fun w _ => by go_simp⟩) hS0 ?_
              simp only [List.getElem_toArray, List.getElem_cons_succ, List.getElem_cons_zero, Act.put, List.setIfInBounds_toArray, List.set_cons_zero, List.set_cons_succ]
              refine wpAnyB_take [] (i := 4) (v := .int .i64 x) rfl (by kernel_rfl) (fun _ _ _ h => h) (Or.inl ⟨by rfl, fun w hSw => by have := HC0.out w hSw; go_simp⟩) hS0 ?_
              simp only [List.getElem_toArray, List.getElem_cons_succ, List.getElem_cons_zero, Act.put, List.setIfInBounds_toArray, List.set_cons_zero, List.set_cons_succ]
              refine wpAnyB_pure (i := 6) (v := .pointer (some ⟨gy, 0, none⟩)) rfl (by kernel_rfl) (fun _ _ _ h => h) (Or.inl ⟨by rfl, fun w _ => by go_simp⟩) hS0 ?_
              simp only [List.getElem_toArray, List.getElem_cons_succ, List.getElem_cons_zero, Act.put, List.setIfInBounds_toArray, List.set_cons_zero, List.set_cons_succ]
              refine wpAnyB_pure (i := 7) (v := .slice (some ⟨gi, off, none⟩) rs.length capr) rfl (by kernel_rfl) (fun _ _ _ h => h) (Or.inl ⟨by rfl, fun w _ => by go_simp⟩) hS0 ?_
              simp only [List.getElem_toArray, List.getElem_cons_succ, List.getElem_cons_zero, Act.put, List.setIfInBounds_toArray, List.set_cons_zero, List.set_cons_succ]
              refine wpAnyB_pure (i := 8) (v := .int .i64 (i : Int)) rfl (by kernel_rfl) (fun _ _ _ h => h) (Or.inl ⟨by rfl, fun w _ => by go_simp⟩) hS0 ?_
              simp only [List.getElem_toArray, List.getElem_cons_succ, List.getElem_cons_zero, Act.put, List.setIfInBounds_toArray, List.set_cons_zero, List.set_cons_succ]
              refine wpAnyB_pure (i := 9) (v := .pointer (some ⟨gi, off + i, none⟩)) rfl (by kernel_rfl) (fun _ _ _ h => h) (Or.inl ⟨by rfl, fun w _ => by go_simp⟩) hS0 ?_
              simp only [List.getElem_toArray, List.getElem_cons_succ, List.getElem_cons_zero, Act.put, List.setIfInBounds_toArray, List.set_cons_zero, List.set_cons_succ]
              refine wpAnyB_take [] (i := 10) (v := .int .i64 x) rfl (by kernel_rfl) (fun _ _ _ h => h) (Or.inl ⟨by rfl, fun w hSw => by have := HC0.out w hSw; go_simp⟩) hS0 ?_
              simp only [List.getElem_toArray, List.getElem_cons_succ, List.getElem_cons_zero, Act.put, List.setIfInBounds_toArray, List.set_cons_zero, List.set_cons_succ]
              refine wpAnyB_one (i := 5) rfl (by kernel_rfl) (fun K hK => ?_)
              go_simp
              refine (HQ0.out _ hS0).mono ?_
              rintro e wz1 ⟨rfl, hBz1⟩
              have hS1 : Below wr.heap.size wr wz1 := hS0.trans (hBz1.mono hS0.size)
              refine hK.out _ _ hS1 ?_
              clear hK K hBz1
              refine wpAnyB_one (i := 11) rfl (by kernel_rfl) (fun K hK => ?_)
              go_simp
              refine (HZ0.out _ hS1).mono ?_
              rintro e wz2 ⟨rfl, hBz2⟩
              have hS2 : Below wr.heap.size wr wz2 := hS1.trans (hBz2.mono hS1.size)
              refine hK.out _ _ hS2 ?_
              clear hK K hBz2
              refine wpAnyB_pure (i := 12) (v := .bool false) rfl (by kernel_rfl) (fun _ _ _ h => h) (Or.inl ⟨by rfl, fun w _ => by go_simp⟩) hS2 ?_
              simp only [List.getElem_toArray, List.getElem_cons_succ, List.getElem_cons_zero, Act.put, List.setIfInBounds_toArray, List.set_cons_zero, List.set_cons_succ]
              refine wpAnyB_pure (i := 13) (v := .bool false) rfl (by kernel_rfl) (fun _ _ _ h => h) (Or.inl ⟨by rfl, fun w _ => by go_simp⟩) hS2 ?_
              simp only [List.getElem_toArray, List.getElem_cons_succ, List.getElem_cons_zero, Act.put, List.setIfInBounds_toArray, List.set_cons_zero, List.set_cons_succ]
              refine wpAnyB_pure (i := 14) (v := .pointer (some ⟨gx, 0, none⟩)) rfl (by kernel_rfl) (fun _ _ _ h => h) (Or.inl ⟨by rfl, fun w _ => by go_simp⟩) hS2 ?_
              simp only [List.getElem_toArray, List.getElem_cons_succ, List.getElem_cons_zero, Act.put, List.setIfInBounds_toArray, List.set_cons_zero, List.set_cons_succ]
              refine wpAnyB_pure (i := 15) (v := .slice (some ⟨gi, off, none⟩) rs.length capr) rfl (by kernel_rfl) (fun _ _ _ h => h) (Or.inl ⟨by rfl, fun w _ => by go_simp⟩) hS2 ?_
              simp only [List.getElem_toArray, List.getElem_cons_succ, List.getElem_cons_zero, Act.put, List.setIfInBounds_toArray, List.set_cons_zero, List.set_cons_succ]
              refine wpAnyB_pure (i := 16) (v := .int .i64 (i : Int)) rfl (by kernel_rfl) (fun _ _ _ h => h) (Or.inl ⟨by rfl, fun w _ => by go_simp⟩) hS2 ?_
              simp only [List.getElem_toArray, List.getElem_cons_succ, List.getElem_cons_zero, Act.put, List.setIfInBounds_toArray, List.set_cons_zero, List.set_cons_succ]
              refine wpAnyB_pure (i := 17) (v := .pointer (some ⟨gi, off + i, none⟩)) rfl (by kernel_rfl) (fun _ _ _ h => h) (Or.inl ⟨by rfl, fun w _ => by go_simp⟩) hS2 ?_
              simp only [List.getElem_toArray, List.getElem_cons_succ, List.getElem_cons_zero, Act.put, List.setIfInBounds_toArray, List.set_cons_zero, List.set_cons_succ]
              refine wpAnyB_take [] (i := 18) (v := .int .i64 x) rfl (by kernel_rfl) (fun _ _ _ h => h) (Or.inl ⟨by rfl, fun w hSw => by have := HC0.out w hSw; go_simp⟩) hS2 ?_
              simp only [List.getElem_toArray, List.getElem_cons_succ, List.getElem_cons_zero, Act.put, List.setIfInBounds_toArray, List.set_cons_zero, List.set_cons_succ]
              refine wpAnyB_pure (i := 20) (v := .pointer (some ⟨gy, 0, none⟩)) rfl (by kernel_rfl) (fun _ _ _ h => h) (Or.inl ⟨by rfl, fun w _ => by go_simp⟩) hS2 ?_
              simp only [List.getElem_toArray, List.getElem_cons_succ, List.getElem_cons_zero, Act.put, List.setIfInBounds_toArray, List.set_cons_zero, List.set_cons_succ]
              refine wpAnyB_pure (i := 21) (v := .slice (some ⟨gi, off, none⟩) rs.length capr) rfl (by kernel_rfl) (fun _ _ _ h => h) (Or.inl ⟨by rfl, fun w _ => by go_simp⟩) hS2 ?_
              simp only [List.getElem_toArray, List.getElem_cons_succ, List.getElem_cons_zero, Act.put, List.setIfInBounds_toArray, List.set_cons_zero, List.set_cons_succ]
              refine wpAnyB_pure (i := 22) (v := .int .i64 (i : Int)) rfl (by kernel_rfl) (fun _ _ _ h => h) (Or.inl ⟨by rfl, fun w _ => by go_simp⟩) hS2 ?_
              simp only [List.getElem_toArray, List.getElem_cons_succ, List.getElem_cons_zero, Act.put, List.setIfInBounds_toArray, List.set_cons_zero, List.set_cons_succ]
              refine wpAnyB_pure (i := 23) (v := .pointer (some ⟨gi, off + i, none⟩)) rfl (by kernel_rfl) (fun _ _ _ h => h) (Or.inl ⟨by rfl, fun w _ => by go_simp⟩) hS2 ?_
              simp only [List.getElem_toArray, List.getElem_cons_succ, List.getElem_cons_zero, Act.put, List.setIfInBounds_toArray, List.set_cons_zero, List.set_cons_succ]
              refine wpAnyB_take [] (i := 24) (v := .int .i64 x) rfl (by kernel_rfl) (fun _ _ _ h => h) (Or.inl ⟨by rfl, fun w hSw => by have := HC0.out w hSw; go_simp⟩) hS2 ?_
              simp only [List.getElem_toArray, List.getElem_cons_succ, List.getElem_cons_zero, Act.put, List.setIfInBounds_toArray, List.set_cons_zero, List.set_cons_succ]
              refine wpAnyB_one (i := 19) rfl (by kernel_rfl) (fun K hK => ?_)
              go_simp
              refine (HQ1.out _ hS2).mono ?_
              rintro e wz3 ⟨rfl, hBz3⟩
              have hS3 : Below wr.heap.size wr wz3 := hS2.trans (hBz3.mono hS2.size)
              refine hK.out _ _ hS3 ?_
              clear hK K hBz3
              refine wpAnyB_one (i := 25) rfl (by kernel_rfl) (fun K hK => ?_)
              go_simp
              refine (HZ1.out _ hS3).mono ?_
              rintro e wz4 ⟨rfl, hBz4⟩
              have hS4 : Below wr.heap.size wr wz4 := hS3.trans (hBz4.mono hS3.size)
              refine hK.out _ _ hS4 ?_
              clear hK K hBz4
              refine wpAnyB_pure (i := 26) (v := .bool false) rfl (by kernel_rfl) (fun _ _ _ h => h) (Or.inl ⟨by rfl, fun w _ => by go_simp⟩) hS4 ?_
              simp only [List.getElem_toArray, List.getElem_cons_succ, List.getElem_cons_zero, Act.put, List.setIfInBounds_toArray, List.set_cons_zero, List.set_cons_succ]
              refine wpAnyB_pure (i := 27) (v := .bool false) rfl (by kernel_rfl) (fun _ _ _ h => h) (Or.inl ⟨by rfl, fun w _ => by go_simp⟩) hS4 ?_
              simp only [List.getElem_toArray, List.getElem_cons_succ, List.getElem_cons_zero, Act.put, List.setIfInBounds_toArray, List.set_cons_zero, List.set_cons_succ]
              refine wpAnyB_pure (i := 28) (v := .bool false) rfl (by kernel_rfl) (fun _ _ _ h => h) (Or.inl ⟨by rfl, fun w _ => by go_simp⟩) hS4 ?_
              simp only [List.getElem_toArray, List.getElem_cons_succ, List.getElem_cons_zero, Act.put, List.setIfInBounds_toArray, List.set_cons_zero, List.set_cons_succ]
              refine wpAnyB_pure (i := 29) (v := .pointer (some ⟨gx, 0, none⟩)) rfl (by kernel_rfl) (fun _ _ _ h => h) (Or.inl ⟨by rfl, fun w _ => by go_simp⟩) hS4 ?_
              simp only [List.getElem_toArray, List.getElem_cons_succ, List.getElem_cons_zero, Act.put, List.setIfInBounds_toArray, List.set_cons_zero, List.set_cons_succ]
              refine wpAnyB_pure (i := 30) (v := .slice (some ⟨gi, off, none⟩) rs.length capr) rfl (by kernel_rfl) (fun _ _ _ h => h) (Or.inl ⟨by rfl, fun w _ => by go_simp⟩) hS4 ?_
              simp only [List.getElem_toArray, List.getElem_cons_succ, List.getElem_cons_zero, Act.put, List.setIfInBounds_toArray, List.set_cons_zero, List.set_cons_succ]
              refine wpAnyB_pure (i := 31) (v := .int .i64 (i : Int)) rfl (by kernel_rfl) (fun _ _ _ h => h) (Or.inl ⟨by rfl, fun w _ => by go_simp⟩) hS4 ?_
              simp only [List.getElem_toArray, List.getElem_cons_succ, List.getElem_cons_zero, Act.put, List.setIfInBounds_toArray, List.set_cons_zero, List.set_cons_succ]
              refine wpAnyB_pure (i := 32) (v := .pointer (some ⟨gi, off + i, none⟩)) rfl (by kernel_rfl) (fun _ _ _ h => h) (Or.inl ⟨by rfl, fun w _ => by go_simp⟩) hS4 ?_
              simp only [List.getElem_toArray, List.getElem_cons_succ, List.getElem_cons_zero, Act.put, List.setIfInBounds_toArray, List.set_cons_zero, List.set_cons_succ]
              refine wpAnyB_take [] (i := 33) (v := .int .i64 x) rfl (by kernel_rfl) (fun _ _ _ h => h) (Or.inl ⟨by rfl, fun w hSw => by have := HC0.out w hSw; go_simp⟩) hS4 ?_
              simp only [List.getElem_toArray, List.getElem_cons_succ, List.getElem_cons_zero, Act.put, List.setIfInBounds_toArray, List.set_cons_zero, List.set_cons_succ]
              refine wpAnyB_pure (i := 35) (v := .pointer (some ⟨gy, 0, none⟩)) rfl (by kernel_rfl) (fun _ _ _ h => h) (Or.inl ⟨by rfl, fun w _ => by go_simp⟩) hS4 ?_
              simp only [List.getElem_toArray, List.getElem_cons_succ, List.getElem_cons_zero, Act.put, List.setIfInBounds_toArray, List.set_cons_zero, List.set_cons_succ]
              refine wpAnyB_pure (i := 36) (v := .slice (some ⟨gi, off, none⟩) rs.length capr) rfl (by kernel_rfl) (fun _ _ _ h => h) (Or.inl ⟨by rfl, fun w _ => by go_simp⟩) hS4 ?_
              simp only [List.getElem_toArray, List.getElem_cons_succ, List.getElem_cons_zero, Act.put, List.setIfInBounds_toArray, List.set_cons_zero, List.set_cons_succ]
              refine wpAnyB_pure (i := 37) (v := .int .i64 (i : Int)) rfl (by kernel_rfl) (fun _ _ _ h => h) (Or.inl ⟨by rfl, fun w _ => by go_simp⟩) hS4 ?_
              simp only [List.getElem_toArray, List.getElem_cons_succ, List.getElem_cons_zero, Act.put, List.setIfInBounds_toArray, List.set_cons_zero, List.set_cons_succ]
              refine wpAnyB_pure (i := 38) (v := .pointer (some ⟨gi, off + i, none⟩)) rfl (by kernel_rfl) (fun _ _ _ h => h) (Or.inl ⟨by rfl, fun w _ => by go_simp⟩) hS4 ?_
              simp only [List.getElem_toArray, List.getElem_cons_succ, List.getElem_cons_zero, Act.put, List.setIfInBounds_toArray, List.set_cons_zero, List.set_cons_succ]
              refine wpAnyB_take [] (i := 39) (v := .int .i64 x) rfl (by kernel_rfl) (fun _ _ _ h => h) (Or.inl ⟨by rfl, fun w hSw => by have := HC0.out w hSw; go_simp⟩) hS4 ?_
              simp only [List.getElem_toArray, List.getElem_cons_succ, List.getElem_cons_zero, Act.put, List.setIfInBounds_toArray, List.set_cons_zero, List.set_cons_succ]
              refine wpAnyB_one (i := 34) rfl (by kernel_rfl) (fun K hK => ?_)
              go_simp
              refine (HQ2.out _ hS4).mono ?_
              rintro e wz5 ⟨rfl, hBz5⟩
              have hS5 : Below wr.heap.size wr wz5 := hS4.trans (hBz5.mono hS4.size)
              refine hK.out _ _ hS5 ?_
              clear hK K hBz5
              refine wpAnyB_one (i := 40) rfl (by kernel_rfl) (fun K hK => ?_)
              go_simp
              refine (HZ2.out _ hS5).mono ?_
              rintro e wz6 ⟨rfl, hBz6⟩
              have hS6 : Below wr.heap.size wr wz6 := hS5.trans (hBz6.mono hS5.size)
              refine hK.out _ _ hS6 ?_
              clear hK K hBz6
              refine wpAnyB_pure (i := 41) (v := .bool false) rfl (by kernel_rfl) (fun _ _ _ h => h) (Or.inl ⟨by rfl, fun w _ => by go_simp⟩) hS6 ?_
              simp only [List.getElem_toArray, List.getElem_cons_succ, List.getElem_cons_zero, Act.put, List.setIfInBounds_toArray, List.set_cons_zero, List.set_cons_succ]
              refine wpAnyB_pure (i := 42) (v := .bool false) rfl (by kernel_rfl) (fun _ _ _ h => h) (Or.inl ⟨by rfl, fun w _ => by go_simp⟩) hS6 ?_
              simp only [List.getElem_toArray, List.getElem_cons_succ, List.getElem_cons_zero, Act.put, List.setIfInBounds_toArray, List.set_cons_zero, List.set_cons_succ]
              refine wpAnyB_pure (i := 43) (v := .bool false) rfl (by kernel_rfl) (fun _ _ _ h => h) (Or.inl ⟨by rfl, fun w _ => by go_simp⟩) hS6 ?_
              simp only [List.getElem_toArray, List.getElem_cons_succ, List.getElem_cons_zero, Act.put, List.setIfInBounds_toArray, List.set_cons_zero, List.set_cons_succ]
              refine wpAnyB_pure (i := 44) (v := .pointer (some ⟨gx, 0, none⟩)) rfl (by kernel_rfl) (fun _ _ _ h => h) (Or.inl ⟨by rfl, fun w _ => by go_simp⟩) hS6 ?_
              simp only [List.getElem_toArray, List.getElem_cons_succ, List.getElem_cons_zero, Act.put, List.setIfInBounds_toArray, List.set_cons_zero, List.set_cons_succ]
              refine wpAnyB_pure (i := 45) (v := .slice (some ⟨gi, off, none⟩) rs.length capr) rfl (by kernel_rfl) (fun _ _ _ h => h) (Or.inl ⟨by rfl, fun w _ => by go_simp⟩) hS6 ?_
              simp only [List.getElem_toArray, List.getElem_cons_succ, List.getElem_cons_zero, Act.put, List.setIfInBounds_toArray, List.set_cons_zero, List.set_cons_succ]
              refine wpAnyB_pure (i := 46) (v := .int .i64 (i : Int)) rfl (by kernel_rfl) (fun _ _ _ h => h) (Or.inl ⟨by rfl, fun w _ => by go_simp⟩) hS6 ?_
              simp only [List.getElem_toArray, List.getElem_cons_succ, List.getElem_cons_zero, Act.put, List.setIfInBounds_toArray, List.set_cons_zero, List.set_cons_succ]
              refine wpAnyB_pure (i := 47) (v := .pointer (some ⟨gi, off + i, none⟩)) rfl (by kernel_rfl) (fun _ _ _ h => h) (Or.inl ⟨by rfl, fun w _ => by go_simp⟩) hS6 ?_
              simp only [List.getElem_toArray, List.getElem_cons_succ, List.getElem_cons_zero, Act.put, List.setIfInBounds_toArray, List.set_cons_zero, List.set_cons_succ]
              refine wpAnyB_take [] (i := 48) (v := .int .i64 x) rfl (by kernel_rfl) (fun _ _ _ h => h) (Or.inl ⟨by rfl, fun w hSw => by have := HC0.out w hSw; go_simp⟩) hS6 ?_
              simp only [List.getElem_toArray, List.getElem_cons_succ, List.getElem_cons_zero, Act.put, List.setIfInBounds_toArray, List.set_cons_zero, List.set_cons_succ]
              refine wpAnyB_pure (i := 50) (v := .pointer (some ⟨gy, 0, none⟩)) rfl (by kernel_rfl) (fun _ _ _ h => h) (Or.inl ⟨by rfl, fun w _ => by go_simp⟩) hS6 ?_
              simp only [List.getElem_toArray, List.getElem_cons_succ, List.getElem_cons_zero, Act.put, List.setIfInBounds_toArray, List.set_cons_zero, List.set_cons_succ]
              refine wpAnyB_pure (i := 51) (v := .slice (some ⟨gi, off, none⟩) rs.length capr) rfl (by kernel_rfl) (fun _ _ _ h => h) (Or.inl ⟨by rfl, fun w _ => by go_simp⟩) hS6 ?_
              simp only [List.getElem_toArray, List.getElem_cons_succ, List.getElem_cons_zero, Act.put, List.setIfInBounds_toArray, List.set_cons_zero, List.set_cons_succ]
              refine wpAnyB_pure (i := 52) (v := .int .i64 (i : Int)) rfl (by kernel_rfl) (fun _ _ _ h => h) (Or.inl ⟨by rfl, fun w _ => by go_simp⟩) hS6 ?_
              simp only [List.getElem_toArray, List.getElem_cons_succ, List.getElem_cons_zero, Act.put, List.setIfInBounds_toArray, List.set_cons_zero, List.set_cons_succ]
              refine wpAnyB_pure (i := 53) (v := .pointer (some ⟨gi, off + i, none⟩)) rfl (by kernel_rfl) (fun _ _ _ h => h) (Or.inl ⟨by rfl, fun w _ => by go_simp⟩) hS6 ?_
              simp only [List.getElem_toArray, List.getElem_cons_succ, List.getElem_cons_zero, Act.put, List.setIfInBounds_toArray, List.set_cons_zero, List.set_cons_succ]
              refine wpAnyB_take [] (i := 54) (v := .int .i64 x) rfl (by kernel_rfl) (fun _ _ _ h => h) (Or.inl ⟨by rfl, fun w hSw => by have := HC0.out w hSw; go_simp⟩) hS6 ?_
              simp only [List.getElem_toArray, List.getElem_cons_succ, List.getElem_cons_zero, Act.put, List.setIfInBounds_toArray, List.set_cons_zero, List.set_cons_succ]
              refine wpAnyB_one (i := 49) rfl (by kernel_rfl) (fun K hK => ?_)
              go_simp
              refine (HQ3.out _ hS6).mono ?_
              rintro e wz7 ⟨rfl, hBz7⟩
              have hS7 : Below wr.heap.size wr wz7 := hS6.trans (hBz7.mono hS6.size)
              refine hK.out _ _ hS7 ?_
              clear hK K hBz7
              refine wpAnyB_one (i := 55) rfl (by kernel_rfl) (fun K hK => ?_)
              go_simp
              refine (HZ3.out _ hS7).mono ?_
              rintro e wz8 ⟨rfl, hBz8⟩
              have hS8 : Below wr.heap.size wr wz8 := hS7.trans (hBz8.mono hS7.size)
              refine hK.out _ _ hS8 ?_
              clear hK K hBz8
              refine wpAnyB_pure (i := 56) (v := .bool false) rfl (by kernel_rfl) (fun _ _ _ h => h) (Or.inl ⟨by rfl, fun w _ => by go_simp⟩) hS8 ?_
              simp only [List.getElem_toArray, List.getElem_cons_succ, List.getElem_cons_zero, Act.put, List.setIfInBounds_toArray, List.set_cons_zero, List.set_cons_succ]
              refine wpAnyB_pure (i := 57) (v := .bool false) rfl (by kernel_rfl) (fun _ _ _ h => h) (Or.inl ⟨by rfl, fun w _ => by go_simp⟩) hS8 ?_
              simp only [List.getElem_toArray, List.getElem_cons_succ, List.getElem_cons_zero, Act.put, List.setIfInBounds_toArray, List.set_cons_zero, List.set_cons_succ]
              refine wpAnyB_done (by kernel_rfl) ?_ _
              refine NoPanic.normal ?_
              have HF8 : Hid (Below wm.heap.size wm wz8) := HBI.out.trans (hS8.mono hsi2)
              clear hS0 hS1 hS2 hS3 hS4 hS5 hS6 hS7 hS8
              go_wp2
              go_roundw
              case rel => exact ⟨i + 1, by omega, by omega, by go_num, HF8.out⟩
              case measure => simp [intOf]; omega
            · have hex : ¬ ((i : Int) < (rs.length : Int)) ∨ ((i : Int) < (rs.length : Int)) ∧ ¬ ((i : Int) < 100) := by omega
              clear hgo
              rcases hex with n1 | ⟨n1, n2⟩
              · go_wp2_with fail
                refine wp_region_bad (fun w' => Below wr.heap.size wr w') [] (by kernel_rfl) ((Below.refl _ _).drew) (fun hS => ?_)
                refine wpAnyB_pure (i := 0) (v := .pointer (some ⟨gx, 0, none⟩)) rfl (by kernel_rfl) (fun _ _ _ h => h) (Or.inl ⟨by rfl, fun w _ => by go_simp⟩) hS ?_
                simp only [List.getElem_toArray, List.getElem_cons_zero, Act.put, List.setIfInBounds_toArray, List.set_cons_zero, List.set_cons_succ]
                refine wpAnyB_pure (i := 1) (v := .bool false) rfl (by kernel_rfl) (fun _ _ _ h => h) (Or.inl ⟨by rfl, fun w _ => by go_simp⟩) hS ?_
                simp only [List.getElem_toArray, List.getElem_cons_succ, List.getElem_cons_zero, Act.put, List.setIfInBounds_toArray, List.set_cons_zero, List.set_cons_succ]
                refine wpAnyB_pure (i := 2) (v := .bool false) rfl (by kernel_rfl) (fun _ _ _ h => h) (Or.inl ⟨by rfl, fun w _ => by go_simp⟩) hS ?_
                simp only [List.getElem_toArray, List.getElem_cons_succ, List.getElem_cons_zero, Act.put, List.setIfInBounds_toArray, List.set_cons_zero, List.set_cons_succ]
                refine wpAnyB_pure (i := 3) (v := .pointer (some ⟨gx, 0, none⟩)) rfl (by kernel_rfl) (fun _ _ _ h => h) (Or.inl ⟨by rfl, fun w _ => by go_simp⟩) hS ?_
                simp only [List.getElem_toArray, List.getElem_cons_succ, List.getElem_cons_zero, Act.put, List.setIfInBounds_toArray, List.set_cons_zero, List.set_cons_succ]
                refine wpAnyB_pure (i := 6) (v := .slice (some ⟨gb, 0, none⟩) L cb) rfl (by kernel_rfl) (fun _ _ _ h => h) (Or.inl ⟨by rfl, fun w _ => by go_simp⟩) hS ?_
                simp only [List.getElem_toArray, List.getElem_cons_succ, List.getElem_cons_zero, Act.put, List.setIfInBounds_toArray, List.set_cons_zero, List.set_cons_succ]
                refine wpAnyB_take [] (i := 7) (v := .string (strOfNums l3)) rfl (by kernel_rfl) (fun _ _ _ h => h) (yields_convert (by rfl) rfl rfl (fun w' hw' => (HYI2.out.below hw').conv)) hS ?_
                simp only [List.getElem_toArray, List.getElem_cons_succ, List.getElem_cons_zero, Act.put, List.setIfInBounds_toArray, List.set_cons_zero, List.set_cons_succ]
                refine wpAnyB_one (i := 4) rfl (by kernel_rfl) (fun K hK => ?_)
                go_simp
                refine (dsave_any (dL l3) (dF l3) gx wr.drew (HXI.out.below hS) HFX.out).mono ?_
                rintro e w7 ⟨v7, rfl, ho7, hB7⟩
                have HY7 : Hid (BytesAt w7.heap.size w7 v7 l3) := by
                  have := bytes_of_row ho7
                  rw [HRB.out] at this
                  exact this
                have HB7 : Hid (Below wr.heap.size wr w7) := hS.trans hB7
                refine hK.out _ _ HB7.out ?_
                refine wpAnyB_mono (S' := fun w' => Below w7.heap.size w7 w') (fun w' h => HB7.out.trans (h.mono HB7.out.size)) ?_
                clear hK K ho7 hB7 hS
                have hS7 : Below w7.heap.size w7 w7 := Below.refl _ _
                refine wpAnyB_take [] (i := 5) (v := .string (strOfNums l3)) rfl (by kernel_rfl) (fun _ _ _ h => h) (yields_convert (by rfl) rfl rfl (fun w' hw' => (HY7.out.below hw').conv)) hS7 ?_
                simp only [List.getElem_toArray, List.getElem_cons_succ, List.getElem_cons_zero, Act.put, List.setIfInBounds_toArray, List.set_cons_zero, List.set_cons_succ]
                refine wpAnyB_pure (i := 8) (v := .bool true) rfl (by kernel_rfl) (fun _ _ _ h => h) (Or.inl ⟨by rfl, fun w _ => by go_simp⟩) hS7 ?_
                simp only [List.getElem_toArray, List.getElem_cons_succ, List.getElem_cons_zero, Act.put, List.setIfInBounds_toArray, List.set_cons_zero, List.set_cons_succ]
                refine wpAnyB_pure (i := 9) (v := .bool true) rfl (by kernel_rfl) (fun _ _ _ h => h) (Or.inl ⟨by rfl, fun w _ => by go_simp⟩) hS7 ?_
                simp only [List.getElem_toArray, List.getElem_cons_succ, List.getElem_cons_zero, Act.put, List.setIfInBounds_toArray, List.set_cons_zero, List.set_cons_succ]
                refine wpAnyB_pure (i := 10) (v := .bool true) rfl (by kernel_rfl) (fun _ _ _ h => h) (Or.inl ⟨by rfl, fun w _ => by go_simp⟩) hS7 ?_
                simp only [List.getElem_toArray, List.getElem_cons_succ, List.getElem_cons_zero, Act.put, List.setIfInBounds_toArray, List.set_cons_zero, List.set_cons_succ]
                refine wpAnyB_done (by kernel_rfl) ?_ _
                refine NoPanic.normal ?_
                clear hS7
                go_wp2
                go_ret
                exact ⟨rfl, HBW2.out.trans (HB7.out.mono HBW2.out.size)⟩
              · go_wp2_with fail
                refine wp_region_bad (fun w' => Below wr.heap.size wr w') [] (by kernel_rfl) ((Below.refl _ _).drew) (fun hS => ?_)
                refine wpAnyB_pure (i := 0) (v := .pointer (some ⟨gx, 0, none⟩)) rfl (by kernel_rfl) (fun _ _ _ h => h) (Or.inl ⟨by rfl, fun w _ => by go_simp⟩) hS ?_
                simp only [List.getElem_toArray, List.getElem_cons_zero, Act.put, List.setIfInBounds_toArray, List.set_cons_zero, List.set_cons_succ]
                refine wpAnyB_pure (i := 1) (v := .bool false) rfl (by kernel_rfl) (fun _ _ _ h => h) (Or.inl ⟨by rfl, fun w _ => by go_simp⟩) hS ?_
                simp only [List.getElem_toArray, List.getElem_cons_succ, List.getElem_cons_zero, Act.put, List.setIfInBounds_toArray, List.set_cons_zero, List.set_cons_succ]
                refine wpAnyB_pure (i := 2) (v := .bool false) rfl (by kernel_rfl) (fun _ _ _ h => h) (Or.inl ⟨by rfl, fun w _ => by go_simp⟩) hS ?_
                simp only [List.getElem_toArray, List.getElem_cons_succ, List.getElem_cons_zero, Act.put, List.setIfInBounds_toArray, List.set_cons_zero, List.set_cons_succ]
                refine wpAnyB_pure (i := 3) (v := .pointer (some ⟨gx, 0, none⟩)) rfl (by kernel_rfl) (fun _ _ _ h => h) (Or.inl ⟨by rfl, fun w _ => by go_simp⟩) hS ?_
                simp only [List.getElem_toArray, List.getElem_cons_succ, List.getElem_cons_zero, Act.put, List.setIfInBounds_toArray, List.set_cons_zero, List.set_cons_succ]
                refine wpAnyB_pure (i := 6) (v := .slice (some ⟨gb, 0, none⟩) L cb) rfl (by kernel_rfl) (fun _ _ _ h => h) (Or.inl ⟨by rfl, fun w _ => by go_simp⟩) hS ?_
                simp only [List.getElem_toArray, List.getElem_cons_succ, List.getElem_cons_zero, Act.put, List.setIfInBounds_toArray, List.set_cons_zero, List.set_cons_succ]
                refine wpAnyB_take [] (i := 7) (v := .string (strOfNums l3)) rfl (by kernel_rfl) (fun _ _ _ h => h) (yields_convert (by rfl) rfl rfl (fun w' hw' => (HYI2.out.below hw').conv)) hS ?_
                simp only [List.getElem_toArray, List.getElem_cons_succ, List.getElem_cons_zero, Act.put, List.setIfInBounds_toArray, List.set_cons_zero, List.set_cons_succ]
                refine wpAnyB_one (i := 4) rfl (by kernel_rfl) (fun K hK => ?_)
                go_simp
                refine (dsave_any (dL l3) (dF l3) gx wr.drew (HXI.out.below hS) HFX.out).mono ?_
                rintro e w7 ⟨v7, rfl, ho7, hB7⟩
                have HY7 : Hid (BytesAt w7.heap.size w7 v7 l3) := by
                  have := bytes_of_row ho7
                  rw [HRB.out] at this
                  exact this
                have HB7 : Hid (Below wr.heap.size wr w7) := hS.trans hB7
                refine hK.out _ _ HB7.out ?_
                refine wpAnyB_mono (S' := fun w' => Below w7.heap.size w7 w') (fun w' h => HB7.out.trans (h.mono HB7.out.size)) ?_
                clear hK K ho7 hB7 hS
                have hS7 : Below w7.heap.size w7 w7 := Below.refl _ _
                refine wpAnyB_take [] (i := 5) (v := .string (strOfNums l3)) rfl (by kernel_rfl) (fun _ _ _ h => h) (yields_convert (by rfl) rfl rfl (fun w' hw' => (HY7.out.below hw').conv)) hS7 ?_
                simp only [List.getElem_toArray, List.getElem_cons_succ, List.getElem_cons_zero, Act.put, List.setIfInBounds_toArray, List.set_cons_zero, List.set_cons_succ]
                refine wpAnyB_pure (i := 8) (v := .bool true) rfl (by kernel_rfl) (fun _ _ _ h => h) (Or.inl ⟨by rfl, fun w _ => by go_simp⟩) hS7 ?_
                simp only [List.getElem_toArray, List.getElem_cons_succ, List.getElem_cons_zero, Act.put, List.setIfInBounds_toArray, List.set_cons_zero, List.set_cons_succ]
                refine wpAnyB_pure (i := 9) (v := .bool true) rfl (by kernel_rfl) (fun _ _ _ h => h) (Or.inl ⟨by rfl, fun w _ => by go_simp⟩) hS7 ?_
                simp only [List.getElem_toArray, List.getElem_cons_succ, List.getElem_cons_zero, Act.put, List.setIfInBounds_toArray, List.set_cons_zero, List.set_cons_succ]
                refine wpAnyB_pure (i := 10) (v := .bool true) rfl (by kernel_rfl) (fun _ _ _ h => h) (Or.inl ⟨by rfl, fun w _ => by go_simp⟩) hS7 ?_
                simp only [List.getElem_toArray, List.getElem_cons_succ, List.getElem_cons_zero, Act.put, List.setIfInBounds_toArray, List.set_cons_zero, List.set_cons_succ]
                refine wpAnyB_done (by kernel_rfl) ?_ _
                refine NoPanic.normal ?_
                clear hS7
                go_wp2
                go_ret
                exact ⟨rfl, HBW2.out.trans (HB7.out.mono HBW2.out.size)⟩
        · have e0 : errD l3 = 2 := by unfold errD; rw [if_neg hb]
          obtain rfl := hnx (by rw [e0]; omega)
          obtain rfl := hny (by rw [e0]; omega)
          rw [e0]
          clear hnx htx hny hty e0 hb hBm
          go_wp2_with fail
          go_loopw [15] (fun x wi => x = .int .i64 0 ∧ wi = wm) (fun x _ => 0)
          case atStart => exact ⟨rfl, rfl⟩
          case round =>
            obtain ⟨rfl, rfl⟩ := hrel
            by_cases n1 : 0 < rs.length
            · have n1' : (0 : Int) < (rs.length : Int) := by omega
              go_wp2_with fail
              refine wp_region_bad (fun w' => Below wr.heap.size wr w') [] (by kernel_rfl) ((Below.refl _ _).drew) (fun hS => ?_)
              refine wpAnyB_pure (i := 0) (v := .pointer none) rfl (by kernel_rfl) (fun _ _ _ h => h) (Or.inl ⟨by rfl, fun w _ => by go_simp⟩) hS ?_
              simp only [List.getElem_toArray, List.getElem_cons_zero, Act.put, List.setIfInBounds_toArray, List.set_cons_zero, List.set_cons_succ]
              refine wpAnyB_pure (i := 1) (v := .bool true) rfl (by kernel_rfl) (fun _ _ _ h => h) (Or.inl ⟨by rfl, fun w _ => by go_simp⟩) hS ?_
              simp only [List.getElem_toArray, List.getElem_cons_succ, List.getElem_cons_zero, Act.put, List.setIfInBounds_toArray, List.set_cons_zero, List.set_cons_succ]
              refine wpAnyB_pure (i := 2) (v := .bool true) rfl (by kernel_rfl) (fun _ _ _ h => h) (Or.inl ⟨by rfl, fun w _ => by go_simp⟩) hS ?_
              simp only [List.getElem_toArray, List.getElem_cons_succ, List.getElem_cons_zero, Act.put, List.setIfInBounds_toArray, List.set_cons_zero, List.set_cons_succ]
              refine wpAnyB_pure (i := 3) (v := undef) rfl (by kernel_rfl) (fun _ _ _ h => h) (Or.inr ⟨by rfl, rfl⟩) hS ?_
              simp only [List.getElem_toArray, List.getElem_cons_succ, List.getElem_cons_zero, Act.put, List.setIfInBounds_toArray, List.set_cons_zero, List.set_cons_succ]
              refine wpAnyB_pure (i := 4) (v := undef) rfl (by kernel_rfl) (fun _ _ _ h => h) (Or.inr ⟨by rfl, rfl⟩) hS ?_
              simp only [List.getElem_toArray, List.getElem_cons_succ, List.getElem_cons_zero, Act.put, List.setIfInBounds_toArray, List.set_cons_zero, List.set_cons_succ]
              refine wpAnyB_pure (i := 5) (v := undef) rfl (by kernel_rfl) (fun _ _ _ h => h) (Or.inr ⟨by rfl, rfl⟩) hS ?_
              simp only [List.getElem_toArray, List.getElem_cons_succ, List.getElem_cons_zero, Act.put, List.setIfInBounds_toArray, List.set_cons_zero, List.set_cons_succ]
              refine wpAnyB_pure (i := 6) (v := undef) rfl (by kernel_rfl) (fun _ _ _ h => h) (Or.inr ⟨by rfl, rfl⟩) hS ?_
              simp only [List.getElem_toArray, List.getElem_cons_succ, List.getElem_cons_zero, Act.put, List.setIfInBounds_toArray, List.set_cons_zero, List.set_cons_succ]
              refine wpAnyB_pure (i := 7) (v := undef) rfl (by kernel_rfl) (fun _ _ _ h => h) (Or.inr ⟨by rfl, rfl⟩) hS ?_
              simp only [List.getElem_toArray, List.getElem_cons_succ, List.getElem_cons_zero, Act.put, List.setIfInBounds_toArray, List.set_cons_zero, List.set_cons_succ]
              refine wpAnyB_pure (i := 8) (v := undef) rfl (by kernel_rfl) (fun _ _ _ h => h) (Or.inr ⟨by rfl, rfl⟩) hS ?_
              simp only [List.getElem_toArray, List.getElem_cons_succ, List.getElem_cons_zero, Act.put, List.setIfInBounds_toArray, List.set_cons_zero, List.set_cons_succ]
              refine wpAnyB_pure (i := 9) (v := .bool true) rfl (by kernel_rfl) (fun _ _ _ h => h) (Or.inl ⟨by rfl, fun w _ => by go_simp⟩) hS ?_
              simp only [List.getElem_toArray, List.getElem_cons_succ, List.getElem_cons_zero, Act.put, List.setIfInBounds_toArray, List.set_cons_zero, List.set_cons_succ]
              refine wpAnyB_pure (i := 10) (v := .bool true) rfl (by kernel_rfl) (fun _ _ _ h => h) (Or.inl ⟨by rfl, fun w _ => by go_simp⟩) hS ?_
              simp only [List.getElem_toArray, List.getElem_cons_succ, List.getElem_cons_zero, Act.put, List.setIfInBounds_toArray, List.set_cons_zero, List.set_cons_succ]
              refine wpAnyB_done (by kernel_rfl) ?_ _
              refine NoPanic.normal ?_
              have HS9 : Hid (Below wr.heap.size wr wr.drew) := hS
              clear hS
              go_wp2
              go_ret
              exact ⟨rfl, HBM.out.trans (HS9.out.mono HBM.out.size)⟩
            · obtain rfl : rs = [] := List.length_eq_zero_iff.1 (by omega)
              clear n1
              go_wp2_with fail
              refine wp_region_bad (fun w' => Below wr.heap.size wr w') [] (by kernel_rfl) ((Below.refl _ _).drew) (fun hS => ?_)
              refine wpAnyB_pure (i := 0) (v := .pointer none) rfl (by kernel_rfl) (fun _ _ _ h => h) (Or.inl ⟨by rfl, fun w _ => by go_simp⟩) hS ?_
              simp only [List.getElem_toArray, List.getElem_cons_zero, Act.put, List.setIfInBounds_toArray, List.set_cons_zero, List.set_cons_succ]
              refine wpAnyB_pure (i := 1) (v := .bool true) rfl (by kernel_rfl) (fun _ _ _ h => h) (Or.inl ⟨by rfl, fun w _ => by go_simp⟩) hS ?_
              simp only [List.getElem_toArray, List.getElem_cons_succ, List.getElem_cons_zero, Act.put, List.setIfInBounds_toArray, List.set_cons_zero, List.set_cons_succ]
              refine wpAnyB_pure (i := 2) (v := .bool true) rfl (by kernel_rfl) (fun _ _ _ h => h) (Or.inl ⟨by rfl, fun w _ => by go_simp⟩) hS ?_
              simp only [List.getElem_toArray, List.getElem_cons_succ, List.getElem_cons_zero, Act.put, List.setIfInBounds_toArray, List.set_cons_zero, List.set_cons_succ]
              refine wpAnyB_pure (i := 3) (v := undef) rfl (by kernel_rfl) (fun _ _ _ h => h) (Or.inr ⟨by rfl, rfl⟩) hS ?_
              simp only [List.getElem_toArray, List.getElem_cons_succ, List.getElem_cons_zero, Act.put, List.setIfInBounds_toArray, List.set_cons_zero, List.set_cons_succ]
              refine wpAnyB_pure (i := 4) (v := undef) rfl (by kernel_rfl) (fun _ _ _ h => h) (Or.inr ⟨by rfl, rfl⟩) hS ?_
              simp only [List.getElem_toArray, List.getElem_cons_succ, List.getElem_cons_zero, Act.put, List.setIfInBounds_toArray, List.set_cons_zero, List.set_cons_succ]
              refine wpAnyB_pure (i := 5) (v := undef) rfl (by kernel_rfl) (fun _ _ _ h => h) (Or.inr ⟨by rfl, rfl⟩) hS ?_
              simp only [List.getElem_toArray, List.getElem_cons_succ, List.getElem_cons_zero, Act.put, List.setIfInBounds_toArray, List.set_cons_zero, List.set_cons_succ]
              refine wpAnyB_pure (i := 6) (v := undef) rfl (by kernel_rfl) (fun _ _ _ h => h) (Or.inr ⟨by rfl, rfl⟩) hS ?_
              simp only [List.getElem_toArray, List.getElem_cons_succ, List.getElem_cons_zero, Act.put, List.setIfInBounds_toArray, List.set_cons_zero, List.set_cons_succ]
              refine wpAnyB_pure (i := 7) (v := undef) rfl (by kernel_rfl) (fun _ _ _ h => h) (Or.inr ⟨by rfl, rfl⟩) hS ?_
              simp only [List.getElem_toArray, List.getElem_cons_succ, List.getElem_cons_zero, Act.put, List.setIfInBounds_toArray, List.set_cons_zero, List.set_cons_succ]
              refine wpAnyB_pure (i := 8) (v := undef) rfl (by kernel_rfl) (fun _ _ _ h => h) (Or.inr ⟨by rfl, rfl⟩) hS ?_
              simp only [List.getElem_toArray, List.getElem_cons_succ, List.getElem_cons_zero, Act.put, List.setIfInBounds_toArray, List.set_cons_zero, List.set_cons_succ]
              refine wpAnyB_pure (i := 9) (v := .bool true) rfl (by kernel_rfl) (fun _ _ _ h => h) (Or.inl ⟨by rfl, fun w _ => by go_simp⟩) hS ?_
              simp only [List.getElem_toArray, List.getElem_cons_succ, List.getElem_cons_zero, Act.put, List.setIfInBounds_toArray, List.set_cons_zero, List.set_cons_succ]
              refine wpAnyB_pure (i := 10) (v := .bool true) rfl (by kernel_rfl) (fun _ _ _ h => h) (Or.inl ⟨by rfl, fun w _ => by go_simp⟩) hS ?_
              simp only [List.getElem_toArray, List.getElem_cons_succ, List.getElem_cons_zero, Act.put, List.setIfInBounds_toArray, List.set_cons_zero, List.set_cons_succ]
              refine wpAnyB_done (by kernel_rfl) ?_ _
              refine NoPanic.normal ?_
              have HS9 : Hid (Below wr.heap.size wr wr.drew) := hS
              clear hS
              go_wp2
              go_ret
              exact ⟨rfl, HBM.out.trans (HS9.out.mono HBM.out.size)⟩
end Go.Proofs.YtpknmpgbaccffaaDoor
