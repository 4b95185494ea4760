/-
  subset.row.
-/
import Derived.Test.YtklhjjgnhigbiaaGreatDoorGF
import Derived.Test.YtklhjjgnhigbiaaGreatDoorGK
namespace Go.Proofs.YtklhjjgnhigbiaaGreatDoor
open Go.RowKit Go.Shelf
set_option linter.unusedVariables false

theorem meet_ent : ∀ args w, (callFunc 22 args).run Tryz.prog w = .ok (.enter 22 args) w := enters_of Tryz.func22 (by kernel_rfl) rfl
/-- A row of numbers, those behind the i-th still nought. -/
def padL (R : List Nat) (len : Nat) : List Nat := R ++ List.replicate (len - R.length) 0
theorem padL_set {R : List Nat} {len x : Nat} (h : R.length < len) : (cellP (padL R len)).set R.length (.int .i64 (x : Int)) = cellP (padL (R ++ [x]) len) := by
  obtain ⟨k, hk⟩ : ∃ k, len - R.length = k + 1 := ⟨len - R.length - 1, by omega⟩
  have hk2 : len - (R ++ [x]).length = k := by simp; omega
  unfold padL
  rw [hk, hk2, List.replicate_succ, cellP_append, cellP_append, cellP_append]
  have e : (cellP R).length = R.length := cellP_length R
  rw [List.set_append_right _ _ (by omega), e, Nat.sub_self]
  simp [cellP]
theorem padL_len {R : List Nat} {len : Nat} (h : R.length ≤ len) : (padL R len).length = len := by simp [padL]; omega
theorem zeros_cells (n : Nat) : (madeCells #[Value.int .i64 0] n).toList = cellP (List.replicate n 0) := by
  apply List.ext_getElem
  · simp [madeCells, cellP]
  · intro i h1 h2
    simp [madeCells, cellP, Nat.mod_one]
theorem ownsRow_full (w : World) {base e : Nat} {n : Nat} {cs : Array Value} {l : List Value} (hb : base ≤ w.heap.size) (hm : n ≤ maxLen) (hc : cs.toList = l) (hl : l.length = n) : (w.alloc (.cells cs e)).ownsRow base e 1 (.slice (some ⟨w.heap.size, 0, none⟩) n n) n l := by
  have h1 : cs.toList.length = cs.size := Array.length_toList
  refine ⟨by rw [Nat.mul_one]; exact hl, .inr ⟨w.heap.size, n, cs, rfl, hb, heap_new' _ _, Nat.le_refl _, hm, by rw [Nat.mul_one, ← h1, hc, hl], ?_⟩⟩
  rw [Nat.mul_one, hc, List.take_of_length_le (by omega)]
theorem FrS.only {bs gm b : Nat} {w w3 w4 : World} {sv sv3 : Value} (f : FrS bs gm w sv w3 sv3) (hO : OnlyB b w3 w4) (hb : w.heap.size ≤ b) : FrS bs gm w sv w4 sv3 :=
  ⟨hO.os.trans f.os, hO.tape.trans f.tape, hO.output.trans f.output, by rw [hO.size]; exact f.size, fun k hk h1 h2 h3 => (hO.block k (by omega)).trans (f.block k hk h1 h2 h3), f.fresh⟩
theorem tk_anyS : anyS < 18446744073709551616 := by decide

set_option maxRecDepth 100000 in
set_option maxHeartbeats 32000000 in
theorem row_any (wb : World) (bs bk gm : Nat) (d : AutD) (av : Value) (at' : List Nat) (v : Value) (ms : List Nat) (mv : Value) (free : Bool) (w : World) (sv : Value) (S : List (List Nat)) (vs : List Value) (hT : TabW wb) (hP : PowW wb) (ha : AutAt wb av d) (hok : OkA d) (hmv : WrdAt wb.heap.size wb mv ms) (hB : Below wb.heap.size wb w) (hI : MetI wb.heap.size bs bk gm w sv S vs) (hv : LstAt wb.heap.size w v at') (hat : ∀ x ∈ at', x ≤ d.sets.length) (hal : at'.length ≤ 1000) (hS : S.length + ms.length ≤ 9000) :
    Calls Tryz.prog 25 #[av, v, mv, .bool free, .func (.func 22) #[] #[.pointer (some ⟨bk, 0, none⟩), .pointer (some ⟨bs, 0, none⟩)]] w fun e w' => ∃ v', e = .returned v' ∧ ∃ sv' vs', w'.ownsRow w.heap.size 3 1 v' (rowF d free at' ms S).1.length (cellP (rowF d free at' ms S).1) ∧ MetI wb.heap.size bs bk gm w' sv' (rowF d free at' ms S).2 vs' ∧ FrS bs gm w sv w' sv' := by
  obtain ⟨i0, hi0, hz0, hz1, hz2⟩ := info_parts Tryz.infoInt
  have hbw : wb.heap.size ≤ w.heap.size := hB.size
  have HI : Hid (MetI wb.heap.size bs bk gm w sv S vs) := hI
  have HT : Hid (TabW wb) := hT
  have HP : Hid (PowW wb) := hP
  have HAB : Hid (AutAt wb av d) := ha
  have HOK : Hid (OkA d) := hok
  have HBW : Hid (Below wb.heap.size wb w) := hB
  have HMV : Hid (WrdAt wb.heap.size wb mv ms) := hmv
  have hst := step_any d av at' v anyS (w.alloc (.cells (match av with | .agg cs => cs | _ => #[]) 29)) (hT.below (hB.alloc hbw _)) (ha.below (hB.alloc hbw _)) hok ((hv.below (below_alloc w _)).plc.less (Nat.zero_le _)) hat hal tk_anyS
  obtain ⟨sv1, fv, lv, wv, rfl, hs, hf, hl1, hw⟩ := ha
  dsimp only at hst
  obtain ⟨W0, hW0⟩ : ∃ W, W = w.alloc (.cells #[.bool d.null, sv1, fv, lv, wv] 29) := ⟨_, rfl⟩
  have hB0 : Below w.heap.size w W0 := by rw [hW0]; exact below_alloc _ _
  have hbx : ABox W0 w.heap.size d.null sv1 fv lv wv := by rw [hW0]; exact heap_new' _ _
  have HB0 : Hid (Below w.heap.size w W0) := hB0
  have HI0 : Hid (MetI wb.heap.size bs bk gm W0 sv S vs) := hI.below hB0
  obtain ⟨sa, sc, hes, _⟩ := hs.slice
  obtain ⟨fa, fc, hef, _⟩ := hf.slice
  obtain ⟨la, lc, hel, _⟩ := hl1.slice
  obtain ⟨xa, xc, hex, _⟩ := hw.slice
  obtain ⟨va, vn, vc, hev⟩ := hv.any
  obtain ⟨ma, mc, hem, hmc⟩ : ∃ a c, mv = .slice a ms.length c ∧ ms.length ≤ c := by
    obtain ⟨a, c, e, h1, _⟩ := hmv
    exact ⟨a, c, e, h1⟩
  obtain ⟨n1, hn1⟩ : ∃ x, x = d.null := ⟨_, rfl⟩
  obtain ⟨n2, hn2⟩ : ∃ x, x = d.sets.length := ⟨_, rfl⟩
  obtain ⟨n3, hn3⟩ : ∃ x, x = d.first.length := ⟨_, rfl⟩
  obtain ⟨n4, hn4⟩ : ∃ x, x = d.last.length := ⟨_, rfl⟩
  obtain ⟨n5, hn5⟩ : ∃ x, x = d.fol.length := ⟨_, rfl⟩
  obtain ⟨len, hn6⟩ : ∃ x, x = ms.length := ⟨_, rfl⟩
  have HN6 : Hid (len = ms.length) := hn6
  have hm2 : d.sets.length ≤ 300 := hok.sets
  rw [← hn2] at hes
  rw [← hn3] at hef
  rw [← hn4] at hel
  rw [← hn5] at hex
  rw [← hn6] at hem hmc hS
  subst hes hef hel hex hev hem
  rw [← hn1] at hW0 hbx hst HAB
  rw [← hn1]
  have HBX : Hid (ABox W0 w.heap.size n1 (.slice sa n2 sc) (.slice fa n3 fc) (.slice la n4 lc) (.slice xa n5 xc)) := hbx
  have HW0 : Hid (W0 = _) := hW0
  obtain ⟨RS, hRS⟩ : ∃ R, R = rowF d free at' ms S := ⟨_, rfl⟩
  have HRS : Hid (RS = rowF d free at' ms S) := hRS
  rw [← hRS]
  obtain ⟨NX, hNX⟩ : ∃ R, R = stepL d at' anyS := ⟨_, rfl⟩
  have HNX : Hid (NX = stepL d at' anyS) := hNX
  rw [← hNX] at hst
  clear hs hf hl1 hw hv hbx hn1 hn2 hn3 hn4 hn5 hn6 hB0 hW0 hok hRS hNX hT hP hmv hB hI
  go_enter Tryz.func25, Tryz.ntmps25
  go_wp2_with fail
  refine hst.mono ?_
  rw [← HW0.out]
  rintro e w1 ⟨v1, rfl, ho1, hB1⟩
  have HLN : Hid (LstAt wb.heap.size w1 v1 NX) := lst_of_row ho1 (by have := HB0.out.size; omega)
  obtain ⟨ta, tn, tc, rfl⟩ := own_slice' ho1
  have HI1 : Hid (MetI wb.heap.size bs bk gm w1 sv S vs) := HI0.out.below hB1
  have HX1 : Hid (ABox w1 w.heap.size n1 (.slice sa n2 sc) (.slice fa n3 fc) (.slice la n4 lc) (.slice xa n5 xc)) := HBX.out.below hB1
  have HB1 : Hid (Below w.heap.size w w1) := below_after HB0.out hB1
  clear hst ho1 hB1 HW0
  obtain ⟨WM, hWM⟩ : ∃ W, W = w1.alloc (.cells (madeCells #[.int .i64 0] len) 3) := ⟨_, rfl⟩
  have hmk : Sem.run Tryz.prog (Instr.makeSlice 26 (.int .i64 (len : Int)) (.int .i64 (len : Int))) w1 = .ok (.slice (some ⟨w1.heap.size, 0, none⟩) len len) WM := by
    have := run_make (P := Tryz.prog) w1 26 3 i0 (.int .i64 0) Tryz.underlying26 hi0 hz0 .i64 .i64 (len : Int) (len : Int) (by omega) (by omega) (by rw [hz2]; omega) (by omega)
    rw [this, hz1, hWM]
    simp [Value.cells]
  have hBM : Below w1.heap.size w1 WM := by rw [hWM]; exact below_alloc _ _
  have HOM : Hid (WM.ownsRow w.heap.size 3 1 (.slice (some ⟨w1.heap.size, 0, none⟩) len len) len (cellP (padL (rowF d free at' (ms.take 0) S).1 len))) := by
    rw [hWM]
    refine ownsRow_full w1 (HB1.out.size) (by unfold maxLen; omega) ?_ ?_
    · rw [zeros_cells]
      simp [padL, rowF]
    · rw [cellP_length, padL_len (by simp [rowF])]
  have HIM : Hid (MetI wb.heap.size bs bk gm WM sv (rowF d free at' (ms.take 0) S).2 vs) := by
    have : (rowF d free at' (ms.take 0) S).2 = S := by simp [rowF]
    show MetI _ _ _ _ _ _ _ _
    rw [this]
    exact HI1.out.below hBM
  have HXM : Hid (ABox WM w.heap.size n1 (.slice sa n2 sc) (.slice fa n3 fc) (.slice la n4 lc) (.slice xa n5 xc)) := HX1.out.below hBM
  have HLM : Hid (LstAt wb.heap.size WM (.slice ta tn tc) NX) := HLN.out.below hBM
  have HFM : Hid (FrS bs gm w sv WM sv) := FrS.of _ (below_after HB1.out hBM)
  have hwM : w1.heap.size < WM.heap.size := by rw [hWM]; simp
  have hw1 : w.heap.size ≤ w1.heap.size := HB1.out.size
  have HAM : Hid (∀ u ∈ vs, u.ownBlock ≠ some w1.heap.size) := fun u hu e => by have := HI.out.old u hu _ e; omega
  have HKM : Hid (∀ (k : Nat) (cs : Array Value) (fr : Nat × Nat), w1.heap[k]? = some (.cells cs 3 fr) → WM.heap[k]? = w1.heap[k]?) := fun k cs fr hk => hBM.block k (lt_of_heap hk)
  clear hBM hWM
  go_upto_region 3 with fail
  go_wp2
  go_loopw [13, 14, 23] (fun x13 x14 x23 wr => ∃ (i : Nat) (sv' : Value) (vs' : List Value), i ≤ len ∧ x23 = .int .i64 (i : Int) ∧ Hid (wr.ownsRow w.heap.size 3 1 (.slice (some ⟨w1.heap.size, 0, none⟩) len len) len (cellP (padL (rowF d free at' (ms.take i) S).1 len))) ∧ Hid (MetI wb.heap.size bs bk gm wr sv' (rowF d free at' (ms.take i) S).2 vs') ∧ Hid (ABox wr w.heap.size n1 (.slice sa n2 sc) (.slice fa n3 fc) (.slice la n4 lc) (.slice xa n5 xc)) ∧ Hid (∀ (k : Nat) (cs : Array Value) (fr : Nat × Nat), w1.heap[k]? = some (.cells cs 3 fr) → wr.heap[k]? = w1.heap[k]?) ∧ Hid (∀ u ∈ vs', u.ownBlock ≠ some w1.heap.size) ∧ Hid (FrS bs gm w sv wr sv')) (fun _ _ x23 _ => len - (intOf x23).toNat)
  case atStart => exact ⟨0, sv, vs, Nat.zero_le _, rfl, HOM, HIM, HXM, HKM, HAM, HFM⟩
  case round =>
    obtain ⟨i, sv', vs', hi, rfl, HOr, HIr, HXr, HKr, HAr, HFr⟩ := hrel
    have HLr : Hid (LstAt wb.heap.size wr (.slice ta tn tc) NX) := HLN.out.to (fun g cs fr _ hw => HKr.out g cs fr hw)
    have HBr : Hid (Below wb.heap.size wb wr) := HBW.out.trans (HFr.out.below HI.out)
    have hsr : w.heap.size ≤ wr.heap.size := HFr.out.size
    by_cases hil : i < len
    · have hin : i < ms.length := by rw [← HN6.out]; exact hil
      obtain ⟨gw, ow, m, hwa, hgw, e1, hm64, HM⟩ : ∃ (gw ow m : Nat), ma = some ⟨gw, ow, none⟩ ∧ gw < wb.heap.size ∧ wb.cell? ⟨gw, ow + i, none⟩ = some (.int .u64 (m : Int)) ∧ m < 18446744073709551616 ∧ Hid (m = ms[i]) := by
        obtain ⟨wa', wc', e0, _, hx⟩ := HMV.out
        obtain ⟨h64, g, off, h1, h2, h3⟩ := hx i hin
        have hq : ma = wa' := by simp at e0; exact e0.1
        exact ⟨g, off, ms[i], by rw [hq]; exact h1, h2, h3, h64, rfl⟩
      subst hwa
      have e2 : wr.cell? ⟨gw, ow + i, none⟩ = some (.int .u64 (m : Int)) := (HBr.out.cell (p := ⟨gw, _, none⟩) hgw).trans e1
      have hgw2 : gw < wr.heap.size := by have := HBr.out.size; omega
      have c0 := HXr.out.c0
      have c1 := HXr.out.c1
      have c2 := HXr.out.c2
      have c3 := HXr.out.c3
      have c4 := HXr.out.c4
      have hlx := HXr.out.lt
      have htk := taking_any d _ NX (.slice ta tn tc) m free wr (HAB.out.below HBr.out) HOK.out (HLr.out.plc.less (Nat.zero_le _)) (by rw [HNX.out]; exact step_in at' anyS) (by rw [HNX.out]; have := step_len (d := d) at' anyS; omega) hm64
      obtain ⟨T, hTK⟩ : ∃ T, T = nxt d free at' m := ⟨_, rfl⟩
      have e3 : takL d NX m free = T := by rw [HNX.out, tak_any HOK.out, hTK]
      rw [e3] at htk
      have HTX : Hid ((∀ x ∈ T, x ≤ 1000) ∧ T.length ≤ 1000) := ⟨fun x hx => by rw [hTK] at hx; have := nxt_le free at' m x hx; omega, by rw [hTK]; have := nxt_len (d := d) free at' m; omega⟩
      obtain ⟨RI, hRI⟩ : ∃ R, R = rowF d free at' (ms.take i) S := ⟨_, rfl⟩
      have HNXT : Hid (rowF d free at' (ms.take (i + 1)) S = (RI.1 ++ [RI.2.idxOf T], meetS RI.2 T)) := by
        show _ = _
        rw [rowF_succ d free at' ms S hin, ← hRI, hTK, HM.out]; rfl
      have hRIl : RI.1.length = i ∧ RI.2.length ≤ 9000 := by
        have := rowF_len d free at' (ms.take i) S
        rw [← hRI] at this
        have h2 : (ms.take i).length = i := by rw [List.length_take]; omega
        omega
      have HRIl : Hid (RI.1.length = i) := hRIl.1
      rw [← hRI] at HOr HIr
      have hRI9 := hRIl.2
      have hi0' : (0 : Int) ≤ (i : Int) := by omega
      have hi1 : (i : Int) < (len : Int) := by omega
      have eg := meet_ent
      clear e3 hTK hRI hRIl e1 hm64
      go_wp2_with fail
      refine htk.mono ?_
      rintro e w2 ⟨v2, rfl, ho2, hB2⟩
      have HI2 : Hid (MetI wb.heap.size bs bk gm w2 sv' RI.2 vs') := HIr.out.below hB2
      have HL2 : Hid (LstAt wb.heap.size w2 v2 T) := lst_of_row ho2 (by omega)
      have HO2 : Hid (w2.ownsRow w.heap.size 3 1 (.slice (some ⟨w1.heap.size, 0, none⟩) len len) len (cellP (padL RI.1 len))) := ownsRow_below HOr.out hB2
      have HX2 : Hid (ABox w2 w.heap.size n1 (.slice sa n2 sc) (.slice fa n3 fc) (.slice la n4 lc) (.slice xa n5 xc)) := HXr.out.below hB2
      have HK2 : Hid (∀ (k : Nat) (cs : Array Value) (fr : Nat × Nat), w1.heap[k]? = some (.cells cs 3 fr) → w2.heap[k]? = w1.heap[k]?) := fun k cs fr hk => (hB2.block k (by have := lt_of_heap ((HKr.out k cs fr hk).trans hk); exact this)).trans (HKr.out k cs fr hk)
      have HV2 : Hid (∀ k, v2.ownBlock = some k → w1.heap.size < k) := fun k e => by
        have := (ho2.lt k e).1
        have := lt_of_heap (own_typed HOr.out (k := w1.heap.size) rfl).choose_spec
        omega
      have HF2 : Hid (FrS bs gm w sv w2 sv') := HFr.out.trans (FrS.of _ hB2)
      have HB2 : Hid (Below wb.heap.size wb w2) := HBr.out.trans (hB2.mono (by have := HBr.out.size; exact this))
      have hmt := meet_any wb.heap.size bs bk gm w2 sv' RI.2 vs' v2 T (HP.out.below HB2.out) HI2.out (fun k e => (ho2.lt k e).2) (by have := HB2.out.size; exact this) HL2.out HTX.out.1 HTX.out.2 (by omega)
      obtain ⟨ya, yn, yc, rfl⟩ := own_slice' ho2
      obtain ⟨ix, hix⟩ : ∃ ix, ix = RI.2.idxOf T := ⟨_, rfl⟩
      rw [← hix] at hmt HNXT
      clear htk ho2 hB2 hix
      go_wp2_with fail
      refine hmt.mono ?_
      rintro e w3 ⟨rfl, sv3, vs3, hI3, hV3, hF3⟩
      have HO3 : Hid (w3.ownsRow w.heap.size 3 1 (.slice (some ⟨w1.heap.size, 0, none⟩) len len) len (cellP (padL RI.1 len))) := own_blk HO2.out (fun k e => by
        obtain ⟨cs, hc⟩ := own_typed HO2.out e
        rw [hF3.keep HI2.out hc (by decide) (by decide)]
        exact hc.symm)
      have HX3 : Hid (ABox w3 w.heap.size n1 (.slice sa n2 sc) (.slice fa n3 fc) (.slice la n4 lc) (.slice xa n5 xc)) := hF3.keep HI2.out HX2.out (by decide) (by decide)
      have HK3 : Hid (∀ (k : Nat) (cs : Array Value) (fr : Nat × Nat), w1.heap[k]? = some (.cells cs 3 fr) → w3.heap[k]? = w1.heap[k]?) := fun k cs fr hk => by
        have h2 := (HK2.out k cs fr hk).trans hk
        rw [hF3.keep HI2.out h2 (by decide) (by decide), hk]
      have HA3 : Hid (∀ u ∈ vs3, u.ownBlock ≠ some w1.heap.size) := fun u hu e => by
        rcases hV3 u hu with q | q
        · exact HAr.out u q e
        · rw [q] at e
          have := HV2.out _ e
          omega
      have HI3 : Hid (MetI wb.heap.size bs bk gm w3 sv3 (meetS RI.2 T) vs3) := hI3
      have HF3 : Hid (FrS bs gm w sv w3 sv3) := HF2.out.trans hF3
      obtain ⟨cur, hcur⟩ := own_typed HO3.out (k := w1.heap.size) rfl
      have hfz : w3.frozen? ⟨w1.heap.size, i, none⟩ = false := by simp [World.frozen?, hcur]
      obtain ⟨u0, hu0⟩ : ∃ u, w3.cell? ⟨w1.heap.size, i, none⟩ = some u := by
        have hlp : i < (cellP (padL RI.1 len)).length := by rw [cellP_length, padL_len (by rw [HRIl.out]; omega)]; exact hil
        have := HO3.out.cells (g := w1.heap.size) rfl i _ (List.getElem?_eq_getElem hlp)
        rw [add_lit', Nat.zero_add] at this
        exact ⟨_, this⟩
      obtain ⟨w4, hw4⟩ : ∃ W, W = w3.setCell ⟨w1.heap.size, i, none⟩ (.int .i64 (ix : Int)) := ⟨_, rfl⟩
      have hO4 : OnlyB w1.heap.size w3 w4 := by rw [hw4]; exact (OnlyB.refl _ _).set _ _
      have HO4 : Hid (w4.ownsRow w.heap.size 3 1 (.slice (some ⟨w1.heap.size, 0, none⟩) len len) len (cellP (padL (RI.1 ++ [ix]) len))) := by
        have h5 := own_set (i := i) HO3.out (.int .i64 (ix : Int))
        have h6 := padL_set (R := RI.1) (len := len) (x := ix) (by rw [HRIl.out]; exact hil)
        rw [HRIl.out] at h6
        rw [h6] at h5
        rw [hw4]; exact h5
      have hne : w.heap.size ≠ w1.heap.size := fun e => by
        have hx := HX3.out
        unfold ABox at hx
        rw [e, hcur] at hx
        injection hx with hx
        injection hx with _ hx _
        exact absurd hx (by decide)
      have HX4 : Hid (ABox w4 w.heap.size n1 (.slice sa n2 sc) (.slice fa n3 fc) (.slice la n4 lc) (.slice xa n5 xc)) := (hO4.block _ hne).trans HX3.out
      have HI4 : Hid (MetI wb.heap.size bs bk gm w4 sv3 (meetS RI.2 T) vs3) := HI3.out.only hO4 hcur HA3.out
      have HK4 : Hid (∀ (k : Nat) (cs : Array Value) (fr : Nat × Nat), w1.heap[k]? = some (.cells cs 3 fr) → w4.heap[k]? = w1.heap[k]?) := fun k cs fr hk => (hO4.block k (by have := lt_of_heap hk; omega)).trans (HK3.out k cs fr hk)
      have HF4 : Hid (FrS bs gm w sv w4 sv3) := HF3.out.only hO4 hw1
      have HW4 : Hid (w4 = w3.setCell ⟨w1.heap.size, i, none⟩ (.int .i64 (ix : Int))) := hw4
      clear hmt hI3 hV3 hF3 hcur hO4 hw4 hne c0 c1 c2 c3 c4 e2
      go_upto_region 7 with fail
      rw [← HW4.out]
      go_wp2
      go_roundw
      case rel => exact ⟨i + 1, sv3, vs3, by omega, by go_num, by rw [HNXT.out]; exact HO4, by rw [HNXT.out]; exact HI4, HX4, HK4, HA3, HF4⟩
      case measure => simp [intOf]; omega
    · obtain rfl : i = len := by omega
      have HEQ : Hid (ms.take i = ms) := List.take_of_length_le (by rw [← HN6.out]; exact Nat.le_refl _)
      have HRl : Hid (RS.1.length = i) := by
        have := (rowF_len d free at' ms S).1
        show _ = _
        rw [HRS.out, this, ← HN6.out]
      rw [HEQ.out, ← HRS.out] at HOr HIr
      have HO5 : Hid (wr.ownsRow w.heap.size 3 1 (.slice (some ⟨w1.heap.size, 0, none⟩) i i) RS.1.length (cellP RS.1)) := by
        have h := HOr.out
        have e : padL RS.1 i = RS.1 := by unfold padL; rw [HRl.out, Nat.sub_self]; simp
        rw [e] at h
        rw [HRl.out]
        exact h
      go_wp2
      go_ret
      exact ⟨_, rfl, _, _, HO5.out, HIr.out, HFr.out⟩
end Go.Proofs.YtklhjjgnhigbiaaGreatDoor
