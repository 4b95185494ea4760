/-
  scansionref13.Least.
-/
import Derived.Test.YtleafbbcgebmpaaDoorLsPlace
import Derived.Test.YtleafbbcgebmpaaDoorSbRRun
import Derived.Deep.RegionLaw
import Derived.Deep.CutRange
import Derived.Deep.AppendLies
namespace Go.Proofs.YtleafbbcgebmpaaDoor
open Go.RowKit Go.Shelf
set_option linter.unusedVariables false

def lesE (N : List (List Int)) (F : List Bool) : Int := if rightD N F = true then 0 else 1
def lesN (N : List (List Int)) (F : List Bool) : List (List Int) := if rightD N F = true then leN N F else []
def lesF (N : List (List Int)) (F : List Bool) : List Bool := if rightD N F = true then leF N F else []
/-- What Least answers. -/
def LesA (N : List (List Int)) (F : List Bool) (w : World) (e : Ending) (w' : World) : Prop := ∃ v, e = .returned (.tuple #[v, .int .i64 (lesE N F)]) ∧ DfaAt w' v (lesN N F) (lesF N F) ∧ Below w.heap.size w w'
theorem lf_made {w1 WM : World} (h : WM = (w1.alloc (.cells #[.int .i64 0] 3)).alloc (.cells #[.slice none 0 0, .slice none 0 0] 25)) : LfI w1 (w1.heap.size + 1) WM (.slice (some ⟨w1.heap.size, 0, none⟩) 1 1) [0] (.slice none 0 0) (.slice none 0 0) [] [] [] (.slice none 0 0) [] := by
  obtain ⟨h1, h2, h3, h4⟩ := alloc2 h
  obtain ⟨V, hV⟩ : ∃ V, V = w1.alloc (.cells #[.int .i64 0] 3) := ⟨_, rfl⟩
  rw [← hV] at h
  have hb : Below V.heap.size V WM := by rw [h]; exact below_alloc _ _
  have hrow : V.ownsRow w1.heap.size 3 1 (.slice (some ⟨w1.heap.size, 0, none⟩) 1 1) 1 [.int .i64 0] := by
    rw [hV]
    exact World.ownsRow_lit w1 #[.int .i64 0] 1 (Nat.le_refl _) (by unfold maxLen; omega) rfl
  exact ⟨h3, by omega, h2, ownsRow_below hrow hb, World.ownsRow_nil _ _ _ _, fun k e e2 => (by cases e2), rfl, World.ownsRow_nil _ _ _ _, fun i k => (by cases k), World.ownsRow_nil _ _ _ _, fun u hu => (by cases hu)⟩
section
variable {w1 : World} {bd : Nat} {w : World} {lv nv fv rv : Value} {l : List Nat} {ns : List Value} {N : List (List Nat)} {F : List Bool} {R : List Nat}
theorem LfI.ll (h : LfI w1 bd w lv l nv fv ns N F rv R) : ∃ a c, lv = .slice a l.length c ∧ l.length ≤ c := by
  rcases h.lrow.2 with ⟨rfl, h0⟩ | ⟨g, cap, cur, rfl, hb, hg, hc, hm, hs, ht⟩
  · exact ⟨none, 0, by rw [h0], by omega⟩
  · exact ⟨_, _, rfl, hc⟩
theorem LfI.rl (h : LfI w1 bd w lv l nv fv ns N F rv R) : ∃ a c, rv = .slice a R.length c := by
  rcases h.rrow.2 with ⟨rfl, h0⟩ | ⟨g, cap, cur, rfl, hb, hg, hc, hm, hs, ht⟩
  · exact ⟨none, 0, by rw [h0]⟩
  · exact ⟨_, _, rfl⟩
theorem LfI.at (h : LfI w1 bd w lv l nv fv ns N F rv R) {j : Nat} (hj : j < l.length) : ∃ g c, lv = .slice (some ⟨g, 0, none⟩) l.length c ∧ g < w.heap.size ∧ w.cell? ⟨g, j, none⟩ = some (.int .i64 ((l[j] : Nat) : Int)) := by
  have hr := h.lrow
  rcases hr.2 with ⟨rfl, h0⟩ | ⟨g, cap, cur, rfl, hb, hg, hc, hm, hs, ht⟩
  · omega
  · refine ⟨g, cap, rfl, lt_of_heap hg, ?_⟩
    have := hr.cells (g := g) rfl j (.int .i64 ((l[j] : Nat) : Int)) (by simp [cellP, hj])
    rw [add_lit', Nat.zero_add] at this
    exact this
theorem LfI.ints (h : LfI w1 bd w lv l nv fv ns N F rv R) : IntsAt w lv (upI l) := (plc_of_row (b0 := 0) h.lrow (Nat.zero_le _)).ints
/-- What is handed out. -/
theorem LfI.fin {D : Nat} (h : LfI w1 bd w lv l nv fv ns N F rv R) (hD : D < w1.heap.size) : DfaAt ((w.setCell ⟨D, 0, none⟩ nv).setCell ⟨D, 1, none⟩ fv) (.agg #[nv, fv]) (intsL N) F := by
  have hO : OnlyB D w ((w.setCell ⟨D, 0, none⟩ nv).setCell ⟨D, 1, none⟩ fv) := ((OnlyB.refl _ _).set _ _).set _ _
  have hn : ∀ {e : TypeId} {n : Nat} {v : Value} {xs : List Value} {k : Nat}, w.ownsRow w1.heap.size e 1 v n xs → v.ownBlock = some k → k ≠ D := fun {e n v xs k} hr hk q => by
    have := (hr.lt k hk).1
    omega
  refine dfa_of_rows (base := w1.heap.size) (b2 := w1.heap.size) h.nl (own_blk h.nrow fun k e => hO.block k (hn h.nrow e)) (fun i h1 h2 => (h.nlst i h1 h2).to (fun k cs fr hk hc => hO.block k (by omega))) (own_blk h.frow fun k e => hO.block k (hn h.frow e))
end
theorem vg_le {M : Mach} (h : M.Ok) {j : Nat} (hv : Vg (nxr M) M.k (rep M 0) j) : j ≤ M.n ∧ (gbf (nxr M) M.k (rep M 0) j).S.length ≤ M.n := by
  have key : ∀ i, Vg (nxr M) M.k (rep M 0) i → (gbf (nxr M) M.k (rep M 0) i).S.length ≤ M.n := fun i hi => nodup_len (gbf_nodup i) (gbf_lt (rep_lt h.ne) (fun a c => nxr_lt h) i hi)
  refine ⟨?_, key j hv⟩
  cases j with
  | zero => omega
  | succ j =>
    have h1 := hv j (by omega)
    have h2 := key j (hv.le (by omega))
    omega
theorem map_snoc_rep (M : Mach) (l : List Nat) (x : Nat) : (l ++ [x]).map (rep M) = l.map (rep M) ++ [rep M x] := by simp

set_option maxRecDepth 100000 in
set_option maxHeartbeats 32000000 in
theorem rleast_any (N : List (List Int)) (F : List Bool) (dv : Value) (w : World) (hd : DfaAt w dv N F) : Calls Tryd.prog 12 #[dv] w (LesA N F w) := by
  obtain ⟨i0, hi0, hz0, hz1, hz2⟩ := info_parts Tryd.infoInt
  obtain ⟨iL, hiL, hzL0, hzL1, hzL2⟩ := info_parts Tryd.infoLs12
  obtain ⟨iB, hiB, hzB0, hzB1, hzB2⟩ := info_parts Tryd.infoBool12
  have HD : Hid (DfaAt w dv N F) := hd
  obtain ⟨na, nc, fa, fc, rfl, hnc, hfc, hx, hfx⟩ := dfa_parts hd
  obtain ⟨W0, hW0⟩ : ∃ W, W = (w.alloc (.cells #[.slice na N.length nc, .slice fa F.length fc] 25)).alloc (.cells #[.slice none 0 0, .slice none 0 0] 25) := ⟨_, rfl⟩
  obtain ⟨h0, h1, hB0, hs0⟩ := alloc2 hW0
  have hrt := rright_any12 N F (.agg #[.slice na N.length nc, .slice fa F.length fc]) W0 (hd.below hB0)
  obtain ⟨n, hn⟩ : ∃ x, x = N.length := ⟨_, rfl⟩
  obtain ⟨fl, hfl⟩ : ∃ x, x = F.length := ⟨_, rfl⟩
  have HN : Hid (n = N.length ∧ fl = F.length) := ⟨hn, hfl⟩
  have HSP : Hid (∀ W, rightD N F = true → Below w.heap.size w W → Calls Tryd.prog 23 #[.agg #[.slice na N.length nc, .slice fa F.length fc]] W fun e w' => ∃ (B og : Nat) (g : Nat → Nat) (m : Nat → Nat → Bool), W.heap.size ≤ B ∧ e = .returned (.slice (some ⟨og, 0, none⟩) N.length N.length) ∧ MatI w' B og N.length N.length g m ∧ (∀ a b, a < N.length → b < N.length → m a b = (mch N F).apt N.length a b) ∧ Below W.heap.size W w') := fun W hr hb => rsplit_any N F _ W (hd.below hb) hr
  rw [← hn, ← hfl] at hrt hW0 h0 HSP ⊢
  rw [← hn] at hnc
  rw [← hfl] at hfc
  have HA0 : Hid (DBox W0 w.heap.size (.slice na n nc) (.slice fa fl fc)) := h0
  have HD0 : Hid (DBox W0 (w.heap.size + 1) (.slice none 0 0) (.slice none 0 0)) := h1
  have HB0 : Hid (Below w.heap.size w W0) := hB0
  have HW0 : Hid (W0 = _) := hW0
  have HS0 : Hid (W0.heap.size = w.heap.size + 2) := hs0
  have a0 := HA0.out.c0
  have a1 := HA0.out.c1
  have al := HA0.out.lt
  have HROW : Hid (∀ W, rightD N F = true → Below w.heap.size w W → ∀ a c, (ha : a < n) → (hc : c < (N.getD 0 []).length) → ∃ g off y yc g2 o2, na = some ⟨g, off, none⟩ ∧ g < W.heap.size ∧ W.cell? ⟨g, off + a, none⟩ = some (.slice y (N.getD 0 []).length yc) ∧ y = some ⟨g2, o2, none⟩ ∧ (N.getD 0 []).length ≤ yc ∧ g2 < W.heap.size ∧ W.cell? ⟨g2, o2 + c, none⟩ = some (.int .i64 (((mch N F).d a c : Nat) : Int)) ∧ (mch N F).d a c < n) := fun W hr hb a c ha hc => by
    obtain ⟨na', nc', fa', fc', e, _, _, hx', _⟩ := dfa_parts (hd.below hb)
    have hna : na = na' := by
      injection e with e
      have := congrArg (fun z : Array Value => z.getD 0 (.bool false)) e
      simp at this
      exact this.1
    subst hna
    have haN : a < N.length := by omega
    have hri := rightD_iff.1 hr
    obtain ⟨g, off, x, h1, h2, h3, h4⟩ := hx' a haN
    obtain ⟨y, yc, rfl, hyc⟩ := h4.slice
    have hl : N[a].length = (N.getD 0 []).length := (hri.2.2.2.2.2 a haN).1
    have hcN : c < N[a].length := by omega
    obtain ⟨g2, o2, k1, k2, k3⟩ := h4.at hcN
    obtain ⟨q, q1, q2, q3⟩ := mch_ent hr haN (c := c) (by omega)
    have e2 : (N.getD a []).getD c 0 = N[a][c] := by
      have eN : N.getD a [] = N[a] := by rw [List.getD_eq_getElem?_getD, List.getElem?_eq_getElem haN]; rfl
      rw [eN, List.getD_eq_getElem?_getD, List.getElem?_eq_getElem hcN]
      rfl
    rw [q2] at e2
    rw [hl] at h3 hyc
    refine ⟨g, off, y, yc, g2, o2, h1, h2, h3, k1, hyc, k2, ?_, by rw [q3]; omega⟩
    rw [k3, ← e2, q3]
  have HFIN : Hid (∀ W, rightD N F = true → Below w.heap.size w W → ∀ a, (ha : a < n) → ∃ g off, fa = some ⟨g, off, none⟩ ∧ g < W.heap.size ∧ W.cell? ⟨g, off + a, none⟩ = some (.bool ((mch N F).f a))) := fun W hr hb a ha => by
    have haF : a < F.length := by have := (rightD_iff.1 hr).2.2.1; omega
    obtain ⟨g, off, h1, h2, h3⟩ := hfx a haF
    refine ⟨g, off, h1, Nat.lt_of_lt_of_le h2 hb.size, ((hb.cell (p := ⟨g, _, none⟩) h2).trans h3).trans ?_⟩
    show _ = some (Value.bool (F.getD a false))
    rw [List.getD_eq_getElem?_getD, List.getElem?_eq_getElem haF]
    rfl
  obtain ⟨R, hR⟩ : ∃ R, R = rightD N F := ⟨_, rfl⟩
  have HR : Hid (R = rightD N F) := hR
  rw [← hR] at hrt
  clear hd hx hfx hn hfl h0 h1 hB0 hs0 hW0 hR hzL1 hzB1
  obtain ⟨iL, hiL, hzL0, hzL1, hzL2⟩ := info_parts Tryd.infoLs12
  obtain ⟨iB, hiB, hzB0, hzB1, hzB2⟩ := info_parts Tryd.infoBool12
  go_enter Tryd.func12, Tryd.ntmps12
  go_upto_region 1 with fail
  rw [← HW0.out]
  go_wp2_with fail
  refine hrt.mono ?_
  rintro e wa ⟨rfl, hBa⟩
  have HBa : Hid (Below W0.heap.size W0 wa) := hBa
  have HAa : Hid (DBox wa w.heap.size (.slice na n nc) (.slice fa fl fc)) := HA0.out.below hBa
  have HDa : Hid (DBox wa (w.heap.size + 1) (.slice none 0 0) (.slice none 0 0)) := HD0.out.below hBa
  have HBWa : Hid (Below w.heap.size w wa) := below_after HB0.out hBa
  clear hrt a0 a1 al hBa
  cases R with
  | false =>
    have HRF : Hid (lesE N F = 1 ∧ lesN N F = [] ∧ lesF N F = []) := by
      have e := HR.out
      unfold lesE lesN lesF
      rw [← e]
      exact ⟨rfl, rfl, rfl⟩
    have e0 := HDa.out.c0
    have e1 := HDa.out.c1
    have f0 := HDa.out.nf 0
    have f1 := HDa.out.nf 1
    have hlt := HDa.out.lt
    have HBF : Hid (Below w.heap.size w ((wa.setCell ⟨w.heap.size + 1, 0, none⟩ (.slice none 0 0)).setCell ⟨w.heap.size + 1, 1, none⟩ (.slice none 0 0))) := (HBWa.out.setCell (p := ⟨w.heap.size + 1, 0, none⟩) (Nat.le_succ _) _).setCell (p := ⟨w.heap.size + 1, 1, none⟩) (Nat.le_succ _) _
    go_wp2
    refine bodyPost_ret (results_cell_tmp_row rfl _ _ (w.heap.size + 1) 25 #[.slice none 0 0, .slice none 0 0] (0, 0) _ rfl ?_ Tryd.underlying25 rfl (by kernel_rfl)) rfl ?_
    · exact (HDa.out.s0 _).s1 _
    · exact ⟨_, by rw [HRF.out.1]; rfl, by rw [HRF.out.2.1, HRF.out.2.2]; exact dfaZ _, HBF.out⟩
  | true =>
  have HRT : Hid (rightD N F = true) := HR.out.symm
  have hri := rightD_iff.1 HRT.out
  have HRI : Hid _ := hri
  obtain ⟨C, hC⟩ : ∃ x, x = (N.getD 0 []).length := ⟨_, rfl⟩
  have HMO : Hid ((mch N F).Ok ∧ (mch N F).n = n ∧ (mch N F).k = C) := ⟨mch_ok HRT.out, HN.out.1.symm, hC.symm⟩
  rw [← hC] at HROW
  have hn1 : 1 ≤ n := by have := HN.out.1; have := hri.1; omega
  have hn5 : n ≤ 5000 := by have := HN.out.1; have := hri.2.1; omega
  have hC1 : 1 ≤ C := by rw [hC]; exact hri.2.2.2.1
  have hC2 : C ≤ 200 := by rw [hC]; exact hri.2.2.2.2.1
  have a0 := HAa.out.c0
  have a1 := HAa.out.c1
  have al := HAa.out.lt
  have hsp := HSP.out wa HRT.out HBWa.out
  clear hri hC
  go_upto_region 4 with fail
  go_wp2_with fail
  refine hsp.mono ?_
  rintro e w1 ⟨B, og, g, m, hBB, rfl, hmat, hmm, hB1⟩
  have HMAT : Hid (MatI w1 B og n n g m ∧ ∀ a b, a < n → b < n → m a b = (mch N F).apt n a b) := ⟨hmat, hmm⟩
  have HBW1 : Hid (Below w.heap.size w w1) := below_after HBWa.out hB1
  have HAA : Hid (∀ W, Below w1.heap.size w1 W → W.cell? ⟨w.heap.size, 0, none⟩ = some (.slice na n nc) ∧ W.cell? ⟨w.heap.size, 1, none⟩ = some (.slice fa fl fc) ∧ w.heap.size < W.heap.size) := fun W hb => ⟨((HAa.out.below hB1).below hb).c0, ((HAa.out.below hB1).below hb).c1, ((HAa.out.below hB1).below hb).lt⟩
  have HDD : Hid (DBox w1 (w.heap.size + 1) (.slice none 0 0) (.slice none 0 0)) := HDa.out.below hB1
  have HOGL : Hid (og < w1.heap.size) := hmat.ltO.1
  obtain ⟨WM, hWM⟩ : ∃ W, W = (w1.alloc (.cells #[.int .i64 0] 3)).alloc (.cells #[.slice none 0 0, .slice none 0 0] 25) := ⟨_, rfl⟩
  have hlf := lf_made hWM
  obtain ⟨bd, hbd⟩ : ∃ x, x = w1.heap.size + 1 := ⟨_, rfl⟩
  have HBD : Hid (bd = w1.heap.size + 1) := hbd
  rw [← hbd] at hlf
  have HWM : Hid (WM = _) := hWM
  have HLF : Hid (LfI w1 bd WM (.slice (some ⟨w1.heap.size, 0, none⟩) 1 1) [0] (.slice none 0 0) (.slice none 0 0) [] (gbf (nxr (mch N F)) C (rep (mch N F) 0) 0).N (([0] : List Nat).take 0 |>.map (mch N F).f) (.slice none 0 0) []) := hlf
  have HST : Hid (([0] : List Nat).map (rep (mch N F)) = (gbf (nxr (mch N F)) C (rep (mch N F) 0) 0).S ∧ ∀ x ∈ ([0] : List Nat), x < n) := ⟨rfl, fun x hx => by rw [List.mem_singleton.1 hx]; omega⟩
  clear hsp a0 a1 al hmat hmm hB1 hWM hlf hbd hBB
  go_upto_region 7 with fail
  rw [← HWM.out, ← HBD.out]
  go_wp2
  go_loopw [6, 8] (fun x6 x8 wr => ∃ (j : Nat) (lv nv fv : Value) (l : List Nat) (ns : List Value), Hid (Vg (nxr (mch N F)) C (rep (mch N F) 0) j) ∧ x6 = lv ∧ x8 = .int .i64 (j : Int) ∧ Hid (l.map (rep (mch N F)) = (gbf (nxr (mch N F)) C (rep (mch N F) 0) j).S ∧ ∀ x ∈ l, x < n) ∧ Hid (LfI w1 bd wr lv l nv fv ns (gbf (nxr (mch N F)) C (rep (mch N F) 0) j).N ((l.take j).map (mch N F).f) (.slice none 0 0) [])) (fun _ x8 _ => n + 1 - (intOf x8).toNat)
  case atStart => exact ⟨0, _, _, _, _, _, Vg.zero, rfl, rfl, HST, HLF⟩
  case round =>
    obtain ⟨j, lv, nv, fv, l, ns, HV, hx6, rfl, HS, HW⟩ := hrel
    subst hx6
    have HVN : Hid (j ≤ n ∧ l.length ≤ n) := by
      have h1 := HV.out
      have e1 := HMO.out.2.2
      rw [← e1] at h1
      have h2 := vg_le HMO.out.1 h1
      have e2 := congrArg List.length HS.out.1
      rw [List.length_map, ← e1] at e2
      have := HMO.out.2.1
      exact ⟨by omega, by omega⟩
    obtain ⟨la, lc, hle, hlc⟩ := HW.out.ll
    obtain ⟨na2, nn, nc2, rfl⟩ := own_slice' HW.out.nrow
    obtain ⟨fva, fvn, fvc, rfl⟩ := own_slice' HW.out.frow
    obtain ⟨sl, hsl⟩ : ∃ x, x = l.length := ⟨_, rfl⟩
    have HSL : Hid (sl = l.length) := hsl
    rw [← hsl] at hle hlc
    subst hle
    have hjn : j ≤ n := HVN.out.1
    have hsn : sl ≤ n := by rw [hsl]; exact HVN.out.2
    have HGN : Hid ((gbf (nxr (mch N F)) C (rep (mch N F) 0) j).N.length = j) := gbf_N j
    by_cases hjl : j < sl
    · obtain ⟨T0, hT0⟩ : ∃ T, T = (gbf (nxr (mch N F)) C (rep (mch N F) 0) j) := ⟨_, rfl⟩
      have HT0 : Hid (T0 = (gbf (nxr (mch N F)) C (rep (mch N F) 0) j)) := hT0
      have hjll : j < l.length := by rw [← hsl]; exact hjl
      obtain ⟨X, hX⟩ : ∃ X, X = l[j] := ⟨_, rfl⟩
      have HX : Hid (X = l[j]'(by rw [← HSL.out]; exact hjl) ∧ X < n) := ⟨hX, by rw [hX]; exact HS.out.2 _ (List.getElem_mem hjll)⟩
      rw [← hT0] at HS HW HGN
      have HAX : Hid (T0.S.getD j 0 = rep (mch N F) X ∧ j < T0.S.length) := by
        show _ ∧ _
        rw [← HS.out.1]
        refine ⟨?_, by rw [List.length_map]; exact hjll⟩
        rw [List.getD_eq_getElem?_getD, List.getElem?_map, List.getElem?_eq_getElem hjll, hX]
        rfl
      have HPJ : Hid (∀ i, ∃ T, (rowG (nxr (mch N F)) (T0.S.getD j 0) T0.S i).2 = T0.S ++ T) := fun i => by
        obtain ⟨T, h⟩ := rowG_pre (nx := nxr (mch N F)) (T0.S.getD j 0) T0.S 0 i
        rw [Nat.zero_add] at h
        exact ⟨T, h⟩
      have HSX : Hid ((l.map (rep (mch N F)) = (rowG (nxr (mch N F)) (T0.S.getD j 0) T0.S 0).2 ∧ ∀ x ∈ l, x < n) ∧ l[j]? = some X) := ⟨HS.out, by rw [List.getElem?_eq_getElem hjll, hX]⟩
      obtain ⟨l0, hl0⟩ : ∃ q, q = l.take j := ⟨_, rfl⟩
      have HL0 : Hid (l0.length = j) := by show _ = _; rw [hl0, List.length_take]; omega
      rw [← hl0] at HW
      have HSS : Hid ((l.map (rep (mch N F)) = (rowG (nxr (mch N F)) (T0.S.getD j 0) T0.S 0).2 ∧ ∀ x ∈ l, x < n) ∧ l[j]? = some X ∧ l.take j = l0) := ⟨HSX.out.1, HSX.out.2, hl0.symm⟩
      have HW' : Hid (LfI w1 bd wr (.slice la sl lc) l (.slice na2 nn nc2) (.slice fva fvn fvc) ns T0.N (l0.map (mch N F).f) (.slice none 0 0) (rowG (nxr (mch N F)) (T0.S.getD j 0) T0.S 0).1) := HW
      clear hT0 hX hl0 hsl HS HW HX hjll
      go_wp2
      go_loopw [6, 9, 10] (fun x6 x9 x10 wr => ∃ (i : Nat) (lv rv : Value) (l : List Nat), i ≤ C ∧ x10 = .int .i64 (i : Int) ∧ x6 = lv ∧ x9 = rv ∧ Hid ((l.map (rep (mch N F)) = (rowG (nxr (mch N F)) (T0.S.getD j 0) T0.S i).2 ∧ ∀ x ∈ l, x < n) ∧ l[j]? = some X ∧ l.take j = l0) ∧ Hid (LfI w1 bd wr lv l (.slice na2 nn nc2) (.slice fva fvn fvc) ns T0.N (l0.map (mch N F).f) rv (rowG (nxr (mch N F)) (T0.S.getD j 0) T0.S i).1)) (fun _ _ x10 _ => C - (intOf x10).toNat)
      case atStart => exact ⟨0, _, _, l, Nat.zero_le _, rfl, rfl, rfl, HSS, HW'⟩
      case round =>
        obtain ⟨i, lv, rv, l, hi, rfl, hx6, hx9, HS, HW⟩ := hrel
        subst hx6 hx9
        obtain ⟨P, hP⟩ : ∃ P, P = rowG (nxr (mch N F)) (T0.S.getD j 0) T0.S i := ⟨_, rfl⟩
        have HPE : Hid (P = rowG (nxr (mch N F)) (T0.S.getD j 0) T0.S i) := hP
        have HPL : Hid (P.1.length = i) := by show _ = _; rw [hP]; exact rowG_len _ _ _
        have HPS : Hid (rowG (nxr (mch N F)) (T0.S.getD j 0) T0.S (i + 1) = stepG (nxr (mch N F)) (T0.S.getD j 0) P i) := by show _ = _; rw [hP]; rfl
        have HND : Hid (P.2.Nodup ∧ ∀ x ∈ P.2, x < n) := by
          refine ⟨by rw [hP]; exact rowG_nodup _ (by rw [HT0.out]; exact gbf_nodup _) _, ?_⟩
          rw [hP, ← HS.out.1.1]
          intro x hx
          obtain ⟨y, hy, rfl⟩ := List.mem_map.1 hx
          have := rep_lt (M := mch N F) (s := y) (by rw [HMO.out.2.1]; exact HS.out.1.2 y hy)
          rwa [HMO.out.2.1] at this
        rw [← hP] at HS HW
        have HLN : Hid (l.length ≤ n) := by
          have h1 := nodup_len HND.out.1 HND.out.2
          rw [← HS.out.1.1, List.length_map] at h1
          exact h1
        have hjll : j < l.length := (List.getElem?_eq_some_iff.1 HS.out.2.1).1
        obtain ⟨qg, pc, hpe, hqg, hqv⟩ := HW.out.at hjll
        obtain ⟨_, pc', hpe', hpc'⟩ := HW.out.ll
        obtain ⟨ra, rc, hre⟩ := HW.out.rl
        have hXe : l[j] = X := (List.getElem?_eq_some_iff.1 HS.out.2.1).2
        rw [hXe] at hqv
        obtain ⟨pl, hpl⟩ : ∃ x, x = l.length := ⟨_, rfl⟩
        have HPLL : Hid (pl = l.length) := hpl
        have hpc : pl ≤ pc := by
          rw [hpe] at hpe'
          injection hpe' with _ _ e3
          omega
        rw [← hpl] at hpe hjll
        rw [HPL.out] at hre
        subst hpe hre
        have hpln : pl ≤ n := by rw [hpl]; exact HLN.out
        have hXn : X < n := by rw [← hXe]; exact HS.out.1.2 _ (List.getElem_mem _)
        obtain ⟨c0, c1, cl⟩ := HAA.out wr HW.out.bl
        clear hP hpl hpe' hpc' hXe
        by_cases hil : i < C
        case pos =>
          obtain ⟨ga, oa, ya, yca, g2, o2, e1, l1, z1, e2, _, l2, z2, hdp⟩ := HROW.out wr HRT.out (below_after HBW1.out HW.out.bl) X i hXn hil
          obtain ⟨gb, ob, yb, ycb, g3, o3, e3, l3, z3, e4, _, l4, _, _⟩ := HROW.out wr HRT.out (below_after HBW1.out HW.out.bl) 0 0 (by omega) (by omega)
          subst e1 e2 e4
          rw [Nat.add_zero] at z3
          have hn0 : (0 : Int) < (n : Int) := by omega
          obtain ⟨rfl, rfl⟩ : ga = gb ∧ oa = ob := by
            injection e3 with e3
            injection e3 with h1 h2 _
            exact ⟨h1, h2⟩
          obtain ⟨S1, hS1⟩ : ∃ x, x = (mch N F).d X i := ⟨_, rfl⟩
          rw [← hS1] at z2 hdp
          have HNX : Hid (nxr (mch N F) (T0.S.getD j 0) i = rep (mch N F) S1) := by
            show _ = _
            rw [HAX.out.1, nxr_rep HMO.out.1 (by rw [HMO.out.2.1]; exact hXn) (by rw [HMO.out.2.2]; exact hil), hS1]
            rfl
          have hpl1 := rplace_any (mch N F) HMO.out.1 B og g m l (.slice (some ⟨qg, 0, none⟩) pl pc) S1
          rw [HMO.out.2.1] at hpl1
          have HPLC : Hid (∀ W, Below wr.heap.size wr W → Calls Tryd.prog 24 #[.slice (some ⟨og, 0, none⟩) n n, .slice (some ⟨qg, 0, none⟩) pl pc, .int .i64 (S1 : Int)] W fun e w' => e = .returned (.int .i64 (if rep (mch N F) S1 ∈ l.map (rep (mch N F)) then (((l.map (rep (mch N F))).idxOf (rep (mch N F) S1) : Nat) : Int) else -1)) ∧ w' = W) := fun W hb => hpl1 W (HMAT.out.1.below (HW.out.bl.trans (hb.mono HW.out.bl.size))) HMAT.out.2 (HW.out.below hb).ints HS.out.1.2 hdp (by have := HLN.out; omega)
          have hj0 : (0 : Int) ≤ (j : Int) := by omega
          have hj1 : (j : Int) < (pl : Int) := by omega
          have hX0 : (0 : Int) ≤ (X : Int) := by omega
          have hX1 : (X : Int) < (n : Int) := by omega
          have hi0' : (0 : Int) ≤ (i : Int) := by omega
          have hi1 : (i : Int) < (C : Int) := by omega
          clear hS1 hpl1 e3
          go_upto_region 14 with fail
          go_cut [11] from 36 to 47 (fun s wx => s = .int .i64 (S1 : Int) ∧ Hid (Below wr.heap.size wr wx))
          case first =>
            go_region
            all_goals (
              go_wp2
              go_meet
              exact ⟨rfl, by first | exact (Below.refl _ _).drew | exact below_drewN' (Below.refl _ _) _⟩)
          case rest =>
          obtain ⟨rfl, HBc⟩ := hcut
          obtain ⟨w8, hw8⟩ : ∃ W, W = wc := ⟨_, rfl⟩
          rw [← hw8] at HBc ⊢
          have HW8 : Hid (LfI w1 bd w8 (.slice (some ⟨qg, 0, none⟩) pl pc) l (.slice na2 nn nc2) (.slice fva fvn fvc) ns T0.N (l0.map (mch N F).f) (.slice ra i rc) P.1) := HW.out.below HBc.out
          obtain ⟨ix, hix⟩ : ∃ x, x = P.2.idxOf (rep (mch N F) S1) := ⟨_, rfl⟩
          have HIX : Hid (ix = P.2.idxOf (rep (mch N F) S1)) := hix
          obtain ⟨FR, hFR⟩ : ∃ x : Int, x = (if rep (mch N F) S1 ∈ l.map (rep (mch N F)) then (((l.map (rep (mch N F))).idxOf (rep (mch N F) S1) : Nat) : Int) else -1) := ⟨_, rfl⟩
          have HFR : Hid ((rep (mch N F) S1 ∈ P.2 → FR = (ix : Int)) ∧ (¬ rep (mch N F) S1 ∈ P.2 → FR = -1)) := by
            show _ ∧ _
            rw [hFR, hix, HS.out.1.1]
            exact ⟨fun h => if_pos h, fun h => if_neg h⟩
          have hpc1 := HPLC.out w8 HBc.out
          rw [← hFR] at hpc1
          clear hw8 hFR hix HPLC z1 z2 z3 l1 l2 l3 l4 hqg hqv c0 c1 cl hj0 hj1 hX0 hX1 hi0' hi1 HW HBc
          go_wp2_with fail
          refine hpc1.mono ?_
          rintro e w9 ⟨rfl, hw9⟩
          obtain rfl := hw9.symm
          clear hpc1 hw9
          go_upto_if 52 with fail
          go_cut [6, 12] from 53 to 59 (fun s k wx => k = .int .i64 (ix : Int) ∧ Hid (∃ l2 : List Nat, (l2.map (rep (mch N F)) = meetG P.2 (rep (mch N F) S1) ∧ (∀ x ∈ l2, x < n) ∧ l2[j]? = some X ∧ l2.take j = l0) ∧ LfI w1 bd wx s l2 (.slice na2 nn nc2) (.slice fva fvn fvc) ns T0.N (l0.map (mch N F).f) (.slice ra i rc) P.1))
          case first =>
            by_cases hmem : rep (mch N F) S1 ∈ P.2
            · have HMS : Hid (meetG P.2 (rep (mch N F) S1) = P.2) := by show _ = _; unfold meetG; rw [if_pos hmem]
              obtain rfl := HFR.out.1 hmem
              have hg : decide ((ix : Int) < 0) = false := decide_eq_false (by omega)
              clear hmem
              go_wp2
              go_meet
              exact ⟨rfl, l, ⟨by rw [HMS.out]; exact HS.out.1.1, HS.out.1.2, HS.out.2⟩, HW8.out⟩
            · have HMS : Hid (meetG P.2 (rep (mch N F) S1) = P.2 ++ [rep (mch N F) S1] ∧ ix = pl) := by
                refine ⟨?_, ?_⟩
                · unfold meetG; rw [if_neg hmem]
                · rw [HIX.out, HPLL.out, List.idxOf_eq_length hmem, ← HS.out.1.1, List.length_map]
              obtain rfl := HFR.out.2 hmem
              have HSR : Hid ((w8.alloc (.cells #[.int .i64 (S1 : Int)] 3)).ownsRow w1.heap.size 3 1 (.slice (some ⟨qg, 0, none⟩) pl pc) pl (cellP l)) := by
                have := (HW8.out.below (below_alloc w8 (.cells #[.int .i64 (S1 : Int)] 3))).lrow
                rw [← HPLL.out] at this
                exact this
              have hbs : w1.heap.size ≤ w8.heap.size := HW8.out.bl.size
              have HFN : Hid (∀ w3 g3 cap, w3.ownsRow w1.heap.size 3 1 (.slice (some ⟨g3, 0, none⟩) (pl + 1) cap) (pl + 1) (cellP l ++ [.int .i64 (S1 : Int)]) → (w8.alloc (.cells #[.int .i64 (S1 : Int)] 3)).grownBy w3 (Value.slice (some ⟨qg, 0, none⟩) pl pc).ownBlock → ((Value.slice (some ⟨qg, 0, none⟩) pl pc).ownBlock = some g3 ∨ g3 = w8.heap.size + 1) → ((l ++ [S1]).map (rep (mch N F)) = meetG P.2 (rep (mch N F) S1) ∧ (∀ x ∈ l ++ [S1], x < n) ∧ (l ++ [S1])[j]? = some X ∧ (l ++ [S1]).take j = l0) ∧ LfI w1 bd w3 (.slice (some ⟨g3, 0, none⟩) (pl + 1) cap) (l ++ [S1]) (.slice na2 nn nc2) (.slice fva fvn fvc) ns T0.N (l0.map (mch N F).f) (.slice ra i rc) P.1) := fun w3 g3 cap ho hg hat => by
                have h7 := HW8.out.below (below_alloc w8 (.cells #[.int .i64 (S1 : Int)] 3))
                refine ⟨⟨by rw [map_snoc_rep, HMS.out.1, HS.out.1.1], fun x hx => ?_, by rw [List.getElem?_append_left (by rw [← HPLL.out]; exact hjll)]; exact HS.out.2.1, by rw [List.take_append_of_le_length (by rw [← HPLL.out]; omega)]; exact HS.out.2.2⟩, h7.pushL hg (by rw [← HPLL.out]; exact ho) (fun k e => ?_)⟩
                · rcases List.mem_append.1 hx with q | q
                  · exact HS.out.1.2 x q
                  · rw [List.mem_singleton.1 q]; exact hdp
                · have e2 : g3 = k := by injection e
                  subst e2
                  rcases hat with q | q
                  · exact .inl q
                  · right; simp; omega
              clear hmem
              go_wp2_with (at_builtin; go_must (refine wpList_append_lies _ rfl _ _ 33 rfl w1.heap.size 3 i0 (.int .i64 0) 1 8 Tryd.underlying33 hi0 hz0 hz1 hz2 rfl (by decide) _ _ _ rfl HSR.out ⟨w8.heap.size, 0, none⟩ 1 1 [.int .i64 (S1 : Int)] rfl rfl (World.news_of_block (by exact heap_new' _ _)) (by simp [Value.oneCell']) (by omega) (by unfold maxLen; omega) (by omega) (by simp; omega) (w8.heap.size + 1) (by simp) ?_); intro g3 cap w3 ho3 hg3 hat3 _; have HZ : Hid _ := HFN.out w3 g3 cap ho3 hg3 hat3; clear ho3 hg3 hat3)
              go_wp2
              go_meet
              exact ⟨by rw [HMS.out.2], _, HZ.out⟩
          case rest =>
          obtain ⟨rfl, hcut⟩ := hcut
          obtain ⟨l2, HS2, HC⟩ := hcut.out
          obtain ⟨w11, hw11⟩ : ∃ W, W = wc := ⟨_, rfl⟩
          rw [← hw11] at HC ⊢
          have HP2 : Hid ((rowG (nxr (mch N F)) (T0.S.getD j 0) T0.S (i + 1)).2 = meetG P.2 (rep (mch N F) S1) ∧ (rowG (nxr (mch N F)) (T0.S.getD j 0) T0.S (i + 1)).1 = P.1 ++ [ix]) := by
            show _ ∧ _
            rw [HPS.out, HIX.out]
            unfold stepG
            rw [HNX.out]
            exact ⟨rfl, rfl⟩
          have HS3 : Hid ((l2.map (rep (mch N F)) = (rowG (nxr (mch N F)) (T0.S.getD j 0) T0.S (i + 1)).2 ∧ ∀ x ∈ l2, x < n) ∧ l2[j]? = some X ∧ l2.take j = l0) := ⟨⟨by rw [HP2.out.1]; exact HS2.1, HS2.2.1⟩, HS2.2.2⟩
          have HW11 : Hid (LfI w1 bd w11 u6 l2 (.slice na2 nn nc2) (.slice fva fvn fvc) ns T0.N (l0.map (mch N F).f) (.slice ra i rc) P.1) := HC
          obtain ⟨ka, kn, kc, rfl⟩ := own_slice' HW11.out.lrow
          have HRR : Hid ((w11.alloc (.cells #[.int .i64 (ix : Int)] 3)).ownsRow w1.heap.size 3 1 (.slice ra i rc) i (cellP P.1)) := by
            have := (HW11.out.below (below_alloc w11 (.cells #[.int .i64 (ix : Int)] 3))).rrow
            rw [HPL.out] at this
            exact this
          have hbs : w1.heap.size ≤ w11.heap.size := HW11.out.bl.size
          have HFN : Hid (∀ w3 g3 cap, w3.ownsRow w1.heap.size 3 1 (.slice (some ⟨g3, 0, none⟩) (i + 1) cap) (i + 1) (cellP P.1 ++ [.int .i64 (ix : Int)]) → (w11.alloc (.cells #[.int .i64 (ix : Int)] 3)).grownBy w3 (Value.slice ra i rc).ownBlock → ((Value.slice ra i rc).ownBlock = some g3 ∨ g3 = w11.heap.size + 1) → LfI w1 bd w3 (.slice ka kn kc) l2 (.slice na2 nn nc2) (.slice fva fvn fvc) ns T0.N (l0.map (mch N F).f) (.slice (some ⟨g3, 0, none⟩) (i + 1) cap) (rowG (nxr (mch N F)) (T0.S.getD j 0) T0.S (i + 1)).1) := fun w3 g3 cap ho hg hat => by
            have h7 := HW11.out.below (below_alloc w11 (.cells #[.int .i64 (ix : Int)] 3))
            rw [HP2.out.2]
            exact h7.pushR hg (by rw [HPL.out]; exact ho) (fun k e => by
              have e2 : g3 = k := by injection e
              subst e2
              rcases hat with q | q
              · exact .inl q
              · right; simp; omega)
          clear hcut HC hw11 HS2 HS
          go_wp2_with (at_builtin; go_must (refine wpList_append_lies _ rfl _ _ 33 rfl w1.heap.size 3 i0 (.int .i64 0) 1 8 Tryd.underlying33 hi0 hz0 hz1 hz2 rfl (by decide) _ _ _ rfl HRR.out ⟨w11.heap.size, 0, none⟩ 1 1 [.int .i64 (ix : Int)] rfl rfl (World.news_of_block (by exact heap_new' _ _)) (by simp [Value.oneCell']) (by omega) (by unfold maxLen; omega) (by omega) (by simp; omega) (w11.heap.size + 1) (by simp) ?_); intro g3 cap w3 ho3 hg3 hat3 _; have HZ : Hid _ := HFN.out w3 g3 cap ho3 hg3 hat3; clear ho3 hg3 hat3)
          go_wp2
          go_roundw
          case rel => exact ⟨i + 1, _, _, l2, by omega, by go_num, rfl, rfl, HS3, HZ⟩
          case measure => simp [intOf]; omega
        case neg =>
        obtain rfl : i = C := by omega
        obtain ⟨gb, ob, yb, ycb, g3, o3, e3, l3, z3, e4, _, l4, _, _⟩ := HROW.out wr HRT.out (below_after HBW1.out HW.out.bl) 0 0 (by omega) (by omega)
        subst e3 e4
        rw [Nat.add_zero] at z3
        have hn0 : (0 : Int) < (n : Int) := by omega
        obtain ⟨RN, hRN⟩ : ∃ x, x = P.1 := ⟨_, rfl⟩
        have HRN : Hid ((gbf (nxr (mch N F)) i (rep (mch N F) 0) (j + 1)).S = P.2 ∧ (gbf (nxr (mch N F)) i (rep (mch N F) 0) (j + 1)).N = T0.N ++ [RN]) := by
          show _ ∧ _
          rw [hRN, HPE.out, HT0.out]
          exact ⟨rfl, rfl⟩
        have HW2 : Hid (LfI w1 bd wr (.slice (some ⟨qg, 0, none⟩) pl pc) l (.slice na2 nn nc2) (.slice fva fvn fvc) ns T0.N (l0.map (mch N F).f) (.slice ra i rc) RN) := by rw [hRN]; exact HW
        have HNR : Hid ((wr.alloc (.cells #[.slice ra i rc] 33)).ownsRow w1.heap.size 33 1 (.slice na2 nn nc2) j ns) := by
          have := (HW2.out.below (below_alloc wr (.cells #[.slice ra i rc] 33))).nrow
          rw [HGN.out] at this
          exact this
        have HFN : Hid (∀ w3 g3 cap, w3.ownsRow w1.heap.size 33 1 (.slice (some ⟨g3, 0, none⟩) (j + 1) cap) (j + 1) (ns ++ [.slice ra i rc]) → (wr.alloc (.cells #[.slice ra i rc] 33)).grownBy w3 (Value.slice na2 nn nc2).ownBlock → (w3.cell? ⟨bd, 0, none⟩ = some (.slice na2 nn nc2) ∧ w3.frozen? ⟨bd, 0, none⟩ = false) ∧ LfI w1 bd (w3.setCell ⟨bd, 0, none⟩ (.slice (some ⟨g3, 0, none⟩) (j + 1) cap)) (.slice (some ⟨qg, 0, none⟩) pl pc) l (.slice (some ⟨g3, 0, none⟩) (j + 1) cap) (.slice fva fvn fvc) (ns ++ [.slice ra i rc]) (gbf (nxr (mch N F)) i (rep (mch N F) 0) (j + 1)).N (l0.map (mch N F).f) (.slice none 0 0) []) := fun w3 g3 cap ho hg => by
          have h7 := HW2.out.below (below_alloc wr (.cells #[.slice ra i rc] 33))
          have hp := h7.pushN (g := g3) (cap := cap) hg (by rw [HGN.out]; exact ho)
          rw [HGN.out] at hp
          refine ⟨hp.1, ?_⟩
          rw [HRN.out.2]
          exact hp.2
        have d0 := HW2.out.c0
        have hbdl := HW2.out.lt
        have hbs : w1.heap.size ≤ wr.heap.size := HW2.out.bl.size
        have hnum : (0 : Int) ≤ (0 : Int) := by omega
        clear hRN HW
        go_upto_region 20 with fail
        go_cut [] from 63 to 69 (fun wx => Hid (∃ nv' ns', LfI w1 bd wx (.slice (some ⟨qg, 0, none⟩) pl pc) l nv' (.slice fva fvn fvc) ns' (gbf (nxr (mch N F)) i (rep (mch N F) 0) (j + 1)).N (l0.map (mch N F).f) (.slice none 0 0) []))
        case first =>
          go_wp2_with (at_builtin; go_must (refine wpList_append_lies _ rfl _ _ 22 rfl w1.heap.size 33 iL (.slice none 0 0) 1 24 Tryd.underlying22 hiL hzL0 hzL1 hzL2 rfl (by decide) _ _ _ rfl HNR.out ⟨wr.heap.size, 0, none⟩ 1 1 [.slice ra i rc] rfl rfl (World.news_of_block (by exact heap_new' _ _)) (by simp [Value.oneCell']) (by omega) (by unfold maxLen; omega) (by omega) (by simp; omega) (wr.heap.size + 1) (by simp) ?_); intro g3 cap w3 ho3 hg3 hat3 _; obtain ⟨⟨z0, z1⟩, z2⟩ := HFN.out w3 g3 cap ho3 hg3; have HZ : Hid _ := z2; clear ho3 hg3 hat3 z2)
          go_wp2
          go_meet
          exact ⟨_, _, HZ.out⟩
        case rest =>
        obtain ⟨nv3, ns3, HC⟩ := hcut.out
        obtain ⟨w12, hw12⟩ : ∃ W, W = wc := ⟨_, rfl⟩
        rw [← hw12] at HC ⊢
        have HC : Hid (LfI w1 bd w12 (.slice (some ⟨qg, 0, none⟩) pl pc) l nv3 (.slice fva fvn fvc) ns3 (gbf (nxr (mch N F)) i (rep (mch N F) 0) (j + 1)).N (l0.map (mch N F).f) (.slice none 0 0) []) := HC
        clear hcut hw12 d0 hbdl hbs HW2 HNR HFN z3 l3 l4 c0 c1 cl hqv hqg
        obtain ⟨ka, kn, kc, rfl⟩ := own_slice' HC.out.nrow
        obtain ⟨c0, c1, cl⟩ := HAA.out w12 HC.out.bl
        obtain ⟨gf, of, hfe, hgf, f0⟩ := HFIN.out w12 HRT.out (below_after HBW1.out HC.out.bl) X hXn
        obtain ⟨qg2, pc2, hpe2, hqg2, hqv2⟩ := HC.out.at (j := j) (by rw [← HPLL.out]; exact hjll)
        rw [(List.getElem?_eq_some_iff.1 HS.out.2.1).2] at hqv2
        obtain ⟨rfl, rfl⟩ : qg = qg2 ∧ pc = pc2 := by
          injection hpe2 with h1 h2 h3
          injection h1 with h1
          injection h1 with h1 _ _
          exact ⟨h1, h3⟩
        obtain ⟨xx, hxx⟩ : ∃ b, b = (mch N F).f X := ⟨_, rfl⟩
        rw [← hxx] at f0
        subst hfe
        have HFN2 : Hid (∀ w6 w8 o v', Below w12.heap.size w12 w6 → (w6.alloc o).grownBy w8 (Value.slice fva fvn fvc).ownBlock → w8.ownsRow w1.heap.size 4 1 v' (j + 1) (cellBo (l0.map (mch N F).f) ++ [.bool xx]) → (w8.cell? ⟨bd, 1, none⟩ = some (.slice fva fvn fvc) ∧ w8.frozen? ⟨bd, 1, none⟩ = false) ∧ Hid (LfI w1 bd (w8.setCell ⟨bd, 1, none⟩ v') (.slice (some ⟨qg, 0, none⟩) pl pc) l (.slice ka kn kc) v' ns3 (gbf (nxr (mch N F)) i (rep (mch N F) 0) (j + 1)).N ((l.take (j + 1)).map (mch N F).f) (.slice none 0 0) [])) := fun w6 w8 o v' hb hg ho => by
          have h7 := (HC.out.below hb).below (below_alloc w6 o)
          have hp := h7.pushF (v' := v') (x := xx) hg (by rw [List.length_map, HL0.out]; exact ho)
          refine ⟨hp.1, ?_⟩
          show LfI _ _ _ _ _ _ _ _ _ _ _ _
          have e : (l.take (j + 1)).map (mch N F).f = l0.map (mch N F).f ++ [xx] := by
            rw [List.take_add_one, HS.out.2.1, HS.out.2.2, List.map_append, hxx]
            rfl
          rw [e]
          exact hp.2
        have HRW2 : Hid (∀ w6 o, Below w12.heap.size w12 w6 → (w6.alloc o).ownsRow w1.heap.size 4 1 (.slice fva fvn fvc) j (cellBo (l0.map (mch N F).f)) ∧ w1.heap.size ≤ w6.heap.size) := fun w6 o hb => by
          have h6 := HC.out.below hb
          have := (h6.below (below_alloc w6 o)).frow
          rw [List.length_map, HL0.out] at this
          exact ⟨this, h6.bl.size⟩
        have HV1 : Hid (Vg (nxr (mch N F)) i (rep (mch N F) 0) (j + 1)) := by
          have := HAX.out.2
          rw [HT0.out] at this
          exact HV.out.succ this
        have HS4 : Hid (l.map (rep (mch N F)) = (gbf (nxr (mch N F)) i (rep (mch N F) 0) (j + 1)).S ∧ ∀ x ∈ l, x < n) := ⟨by rw [HRN.out.1]; exact HS.out.1.1, HS.out.1.2⟩
        have d1 := HC.out.c1
        have b1 := HC.out.lt
        have hj0 : (0 : Int) ≤ (j : Int) := by omega
        have hj1 : (j : Int) < (pl : Int) := by omega
        have hX0 : (0 : Int) ≤ (X : Int) := by omega
        have hXf : (X : Int) < (fl : Int) := by have h1 := HN.out; have h2 := HRI.out.2.2.1; omega
        have hRB : Hid (Below w12.heap.size w12 w12.drew) := (Below.refl _ _).drew
        clear hxx hpe2 HS
        go_wp2
        go_region_law (refine step_append_lies _ (by rfl) (.tmp 70) (.tmp 79) 23 (by rfl) w1.heap.size 4 iB (.bool false) 1 1 Tryd.underlying23 hiB hzB0 hzB1 hzB2 rfl (by decide) (.slice fva fvn fvc) j (cellBo (l0.map (mch N F).f)) (by rfl) (by exact (HRW2.out _ _ hRB.out).1) ⟨w12.drew.heap.size, 0, none⟩ 1 1 [.bool xx] (by rfl) rfl (by exact World.news_of_block (heap_new' w12.drew _)) (by simp [Value.oneCell']) (by omega) (by unfold maxLen; omega) (by omega) (by have := (HRW2.out w12.drew (.cells #[.bool xx] 4) hRB.out).2; simp at this ⊢; omega) (w12.drew.heap.size + 1) (by simp) ?_; intro gL capL w8 hownL hgrowL hatL hltL; obtain ⟨⟨t0, t1⟩, HZ⟩ := HFN2.out _ _ _ _ hRB.out hgrowL hownL)
        all_goals (
          go_wp2
          go_roundw
          case rel => exact ⟨j + 1, _, _, _, l, _, HV1, rfl, by go_num, HS4, HZ⟩
          case measure => simp [intOf]; omega)
    · have HEN : Hid (lesE N F = 0 ∧ lesN N F = intsL (gbf (nxr (mch N F)) C (rep (mch N F) 0) j).N ∧ lesF N F = (l.take j).map (mch N F).f) := by
        have hv := HV.out
        have hs := HS.out.1
        have hk := HMO.out.2.2
        rw [← hk] at hv hs
        have hfin : Gfin (nxr (mch N F)) (mch N F).k (rep (mch N F) 0) j := ⟨hv, by rw [← hs, List.length_map, ← HSL.out]; exact hjl⟩
        have ej : lsm (mch N F) = j := (ls_fin HMO.out.1).1.one hfin
        have hlj : l.length = j := by
          have := hfin.len
          rwa [← hs, List.length_map] at this
        unfold lesE lesN lesF
        rw [if_pos HRT.out, if_pos HRT.out, if_pos HRT.out]
        refine ⟨rfl, ?_, ?_⟩
        · show intsL (lsG (mch N F)).N = _
          unfold lsG
          rw [ej, hk]
        · show (lsG (mch N F)).S.map (mch N F).f = _
          have e2 : (lsG (mch N F)).S = l.map (rep (mch N F)) := by
            unfold lsG
            rw [ej, hs]
          rw [e2, List.map_map, List.take_of_length_le (by omega)]
          refine List.map_congr_left (fun x hx => ?_)
          exact f_rep HMO.out.1 (by rw [HMO.out.2.1]; exact HS.out.2 x hx)
      have d0 := HW.out.c0
      have d1 := HW.out.c1
      have b1 := HW.out.lt
      have hdb := HDD.out.below HW.out.bl
      have HDB : Hid (DBox wr (w.heap.size + 1) (.slice none 0 0) (.slice none 0 0)) := hdb
      have e0 := HDB.out.c0
      have e1 := HDB.out.c1
      have f0 := HDB.out.nf 0
      have f1 := HDB.out.nf 1
      have hlt := HDB.out.lt
      have HDL : Hid (w.heap.size + 1 < w1.heap.size) := HDD.out.lt
      have HBF : Hid (Below w.heap.size w wr) := below_after HBW1.out HW.out.bl
      clear hsl hdb
      go_wp2
      refine bodyPost_ret (results_cell_tmp_row rfl _ _ (w.heap.size + 1) 25 #[.slice na2 nn nc2, .slice fva fvn fvc] (0, 0) _ rfl ?_ Tryd.underlying25 rfl (by kernel_rfl)) rfl ?_
      · exact (HDB.out.s0 _).s1 _
      · have hfin := HW.out.fin HDL.out
        refine ⟨_, by rw [HEN.out.1]; rfl, by rw [HEN.out.2.1, HEN.out.2.2]; exact hfin, ?_⟩
        exact (HBF.out.setCell (p := ⟨w.heap.size + 1, 0, none⟩) (Nat.le_succ _) _).setCell (p := ⟨w.heap.size + 1, 1, none⟩) (Nat.le_succ _) _
end Go.Proofs.YtleafbbcgebmpaaDoor
