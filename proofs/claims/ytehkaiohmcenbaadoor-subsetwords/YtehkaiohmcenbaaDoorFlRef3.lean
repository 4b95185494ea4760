/-
  The document's answer: where the words of an expression end.
-/
import Derived.Test.YtehkaiohmcenbaaDoorGI
import Derived.Deep.CutRange
namespace Go.Proofs.YtehkaiohmcenbaaDoor
open Go.RowKit Go.Shelf
set_option linter.unusedVariables false

def RefA (ws : List Nat) (n : Nd) (bs : List Bool) (w : World) (e : Ending) (w' : World) : Prop := ∃ v' bs', e = .returned v' ∧ BlsIn w' v' bs' ∧ Leads (relN ws n) bs bs' ∧ Below w.heap.size w w'
/-- One sign further. -/
def setL (ws : List Nat) (s : Int) (bs : List Bool) (i : Nat) : List Bool := false :: (List.range i).map fun q => (match bs[q]? with | some b => b | none => false) && bitW ws s q
theorem setL_len (ws : List Nat) (s : Int) (bs : List Bool) (i : Nat) : (setL ws s bs i).length = i + 1 := by simp [setL]
theorem setL_leads {ws : List Nat} {s : Int} {bs : List Bool} (h : bs.length = ws.length + 1) : Leads (relS ws s) bs (setL ws s bs ws.length) := by
  refine ⟨by rw [setL_len, h], fun p => ?_⟩
  unfold hB relS setL
  cases p with
  | zero => simp
  | succ p =>
    rw [List.getElem?_cons_succ, List.getElem?_map]
    constructor
    · intro e
      rcases Nat.lt_or_ge p ws.length with q | q
      · rw [List.getElem?_range q] at e
        simp only [Option.map_some, Option.some.injEq, Bool.and_eq_true] at e
        refine ⟨p, ?_, rfl, e.2⟩
        rw [List.getElem?_eq_getElem (by omega)] at e ⊢
        simp only at e
        rw [e.1]
      · rw [List.getElem?_eq_none (by simpa using q)] at e
        cases e
    · rintro ⟨q, h1, h2, h3⟩
      obtain rfl : q = p := by omega
      have := bitW_lt h3
      rw [List.getElem?_range this]
      simp only [Option.map_some, Option.some.injEq, Bool.and_eq_true]
      rw [h1]
      exact ⟨rfl, h3⟩

theorem relH_at (ws : List Nat) : ∀ (l : List Nd) (h : 0 < l.length), relH ws l = relN ws l[0]
  | [], h => by cases h
  | x :: l, _ => by rw [relH]; rfl

set_option maxRecDepth 100000 in
set_option maxHeartbeats 16000000 in
theorem refEnds_body (n : Nd) (za : Option Addr) (ca : Nat) (wa : Option Addr) (wc : Nat) (ws : List Nat) (v : Value) (bs : List Bool) (w : World) (hw : WrdAt w.heap.size w (.slice wa ws.length wc) ws) (hL : ws.length < 64) (hright : rightN n = true) (hkl : n.kids.length ≤ 1000) (hv : BlsIn w v bs) (hbl : bs.length = ws.length + 1)
    (HR : ∀ i, (h : i < n.kids.length) → n.kids.length ≤ ca ∧ ∃ ga oa xa ka, za = some ⟨ga, oa, none⟩ ∧ ga < w.heap.size ∧ w.cell? ⟨ga, oa + i * 3, none⟩ = some (.int .i64 n.kids[i].k) ∧ w.cell? ⟨ga, oa + i * 3 + 1, none⟩ = some (.int .i64 n.kids[i].s) ∧ w.cell? ⟨ga, oa + i * 3 + 2, none⟩ = some (.slice xa n.kids[i].kids.length ka) ∧
      ∀ W v bs, Below w.heap.size w W → BlsIn W v bs → bs.length = ws.length + 1 → Calls Tryd.prog 63 #[.agg #[.int .i64 n.kids[i].k, .int .i64 n.kids[i].s, .slice xa n.kids[i].kids.length ka], .slice wa ws.length wc, v] W (RefA ws n.kids[i] bs W)) :
    Calls Tryd.prog 63 #[.agg #[.int .i64 n.k, .int .i64 n.s, .slice za n.kids.length ca], .slice wa ws.length wc, v] w (RefA ws n bs w) := by
  obtain ⟨i0, hi0, hz0, hz1, hz2⟩ := info_parts Tryd.infoBool
  obtain ⟨len, hlen⟩ : ∃ len, len = n.kids.length := ⟨_, rfl⟩
  obtain ⟨wl, hwl⟩ : ∃ len, len = ws.length := ⟨_, rfl⟩
  obtain ⟨nk, hnk⟩ : ∃ x, x = n.k := ⟨_, rfl⟩
  obtain ⟨ns, hns⟩ : ∃ x, x = n.s := ⟨_, rfl⟩
  have HHR : Hid (∀ i, (h : i < n.kids.length) → len ≤ ca ∧ ∃ (ga oa : Nat) (xa : Option Addr) (ka : Nat) (yk ys : Int) (yl : Nat), za = some ⟨ga, oa, none⟩ ∧ ga < w.heap.size ∧ w.cell? ⟨ga, oa + i * 3, none⟩ = some (.int .i64 yk) ∧ w.cell? ⟨ga, oa + i * 3 + 1, none⟩ = some (.int .i64 ys) ∧ w.cell? ⟨ga, oa + i * 3 + 2, none⟩ = some (.slice xa yl ka) ∧
      ∀ W v bs, Below w.heap.size w W → BlsIn W v bs → bs.length = ws.length + 1 → Calls Tryd.prog 63 #[.agg #[.int .i64 yk, .int .i64 ys, .slice xa yl ka], .slice wa wl wc, v] W (RefA ws n.kids[i] bs W)) := fun i hi => by
    obtain ⟨h1, ga, oa, xa, ka, h⟩ := HR i hi
    rw [← hwl] at h
    rw [← hwl]
    exact ⟨by omega, ga, oa, xa, ka, _, _, _, h⟩
  rw [← hlen, ← hnk, ← hns, ← hwl]
  have HW : Hid (WrdAt w.heap.size w (.slice wa wl wc) ws) := by rw [hwl]; exact hw
  have HV : Hid (BlsIn w v bs) := hv
  obtain ⟨va, vc, rfl, hvc⟩ := hv.slice
  obtain ⟨N, hN⟩ : ∃ N, N = bs.length := ⟨_, rfl⟩
  rw [← hN] at HV hvc ⊢
  have HNN : Hid (N = bs.length) := hN
  have hNw : N = wl + 1 := by omega
  have HLEN : Hid (len = n.kids.length) := hlen
  have HWL : Hid (wl = ws.length) := hwl
  have hl1000 : len ≤ 1000 := by omega
  have hwl64 : wl < 64 := by omega
  have HMAY : Hid (mayK nk ns len = true) := by
    rw [rightN_eq, Bool.and_eq_true, ← hnk, ← hns, ← hlen] at hright
    exact hright.1
  have HRN : Hid (relN ws n = relK ws nk ns (relC ws n.kids) (relA ws n.kids) (relH ws n.kids)) := by rw [hnk, hns]; exact relN_eq ws n
  have HMC : Hid ((madeCells (Value.bool false).cells ((wl + 1) * 1)).toList = List.replicate (wl + 1) (.bool false)) := by
    show _ = _
    rw [Nat.mul_one]
    exact toList_madeCells_one _ _
  have HB0 : Hid (Below w.heap.size w (w.alloc (.cells #[.int .i64 nk, .int .i64 ns, .slice za len ca] 24))) := below_alloc _ _
  have HEA : Hid ((w.alloc (.cells #[.int .i64 nk, .int .i64 ns, .slice za len ca] 24)).heap[w.heap.size]? = some (.cells #[.int .i64 nk, .int .i64 ns, .slice za len ca] 24 (0, 0))) := heap_new' w _
  have hNw' : Hid (N = wl + 1) := hNw
  clear HR hlen hwl hnk hns hw hright hkl hL hv hbl hN hNw
  go_enter Tryd.func63, Tryd.ntmps63
  go_upto_region 2 with (first | (at_make; go_loud (refine wpList_make_full _ rfl _ _ 44 rfl (w.heap.size + 1) 4 i0 (.bool false) 1 Tryd.underlying44 hi0 hz0 hz1 .i64 .i64 _ _ (wl + 1) rfl rfl (by simp) (by simp) (by rw [hz2]; omega) (by unfold maxLen; omega) (by simp) ?_; intro w1 ho1 hg1)) | fail)
  have HB1 : Hid (Below w.heap.size w w1) := HB0.out.grown hg1 (by simp) (fun k e => by cases e)
  have HE1 : Hid (w1.heap[w.heap.size]? = some (.cells #[.int .i64 nk, .int .i64 ns, .slice za len ca] 24 (0, 0))) := (hg1.block w.heap.size (by simp) (by simp)).trans HEA.out
  have HO1 : Hid (w1.ownsRow (w.heap.size + 1) 4 1 (.slice (some ⟨w.heap.size + 1, 0, none⟩) (wl + 1) (wl + 1)) (wl + 1) (List.replicate (wl + 1) (.bool false))) := by
    have := ho1
    rw [HMC.out, World.size_alloc] at this
    exact this
  have hw1 : w.heap.size + 1 < w1.heap.size := lt_of_own HO1.out
  clear ho1 hg1
  have e0 : w1.cell? ⟨w.heap.size, 0, none⟩ = some (.int .i64 nk) := cell_in HE1.out 0
  have HKEY : Hid (∀ j, (h : j < n.kids.length) → ∀ wr, Below w.heap.size w wr → len ≤ ca ∧ ∃ (ga oa : Nat) (xa : Option Addr) (ka : Nat) (yk ys : Int) (yl : Nat), za = some ⟨ga, oa, none⟩ ∧ wr.cell? ⟨ga, oa + j * 3, none⟩ = some (.int .i64 yk) ∧ wr.cell? ⟨ga, oa + j * 3 + 1, none⟩ = some (.int .i64 ys) ∧ wr.cell? ⟨ga, oa + j * 3 + 2, none⟩ = some (.slice xa yl ka) ∧
      ∀ W v bs, Below w.heap.size w W → BlsIn W v bs → bs.length = ws.length + 1 → Calls Tryd.prog 63 #[.agg #[.int .i64 yk, .int .i64 ys, .slice xa yl ka], .slice wa wl wc, v] W (RefA ws n.kids[j] bs W)) := fun j hj wr hb => by
    obtain ⟨h1, ga, oa, xa, ka, yk, ys, yl, r, hga, p0, p1, p2, hc⟩ := HHR.out j hj
    exact ⟨h1, ga, oa, xa, ka, yk, ys, yl, r, (hb.cell (p := ⟨ga, _, none⟩) hga).trans p0, (hb.cell (p := ⟨ga, _, none⟩) hga).trans p1, (hb.cell (p := ⟨ga, _, none⟩) hga).trans p2, hc⟩
  by_cases k1 : nk = 1
  · subst k1
    have hm : len = 0 ∧ 0 ≤ ns ∧ ns < 64 := by have := HMAY.out; simpa [mayK] using this
    obtain ⟨k, rfl⟩ : ∃ k : Nat, ns = (k : Int) := ⟨ns.toNat, by omega⟩
    have e1 : w1.cell? ⟨w.heap.size, 1, none⟩ = some (.int .i64 (k : Int)) := cell_in HE1.out 1
    have HOS : Hid (w1.ownsRow (w.heap.size + 1) 4 1 (.slice (some ⟨w.heap.size + 1, 0, none⟩) (wl + 1) (wl + 1)) (wl + 1) (cellB (setL ws (k : Int) bs 0) ++ List.replicate (wl - 0) (.bool false))) := by
      have := HO1.out
      rw [List.replicate_succ] at this
      exact this
    go_wp2
    go_loopw [8] (fun x wr => ∃ i : Nat, i ≤ wl ∧ x = .int .i64 (i : Int) ∧ Hid (wr.ownsRow (w.heap.size + 1) 4 1 (.slice (some ⟨w.heap.size + 1, 0, none⟩) (wl + 1) (wl + 1)) (wl + 1) (cellB (setL ws (k : Int) bs i) ++ List.replicate (wl - i) (.bool false))) ∧ Hid (Below w.heap.size w wr) ∧ wr.cell? ⟨w.heap.size, 1, none⟩ = some (.int .i64 (k : Int))) (fun x _ => wl - (intOf x).toNat)
    case atStart => exact ⟨0, Nat.zero_le _, rfl, HOS, HB1, e1⟩
    case round =>
      obtain ⟨i, hi, rfl, HO, HBr, e1r⟩ := hrel
      have hG : w.heap.size + 1 < wr.heap.size := lt_of_own HO.out
      by_cases hil : i < wl
      · have hin : i < ws.length := by rw [← HWL.out]; exact hil
        have hib : i < bs.length := by have := hNw'.out; have := HNN.out; omega
        obtain ⟨y, hy⟩ : ∃ y, y = ws[i] := ⟨_, rfl⟩
        obtain ⟨b, hb⟩ : ∃ b, b = bs[i] := ⟨_, rfl⟩
        obtain ⟨gw, ow, rfl, hgw, c0, hy64, hwc⟩ : ∃ ga oa, wa = some ⟨ga, oa, none⟩ ∧ ga < w.heap.size ∧ w.cell? ⟨ga, oa + i, none⟩ = some (.int .u64 (y : Int)) ∧ y < 18446744073709551616 ∧ wl ≤ wc := by
          obtain ⟨a', c', e1, hc, h⟩ := HW.out
          obtain ⟨h0, g, off, e2, h1, h3⟩ := h i hin
          have e3 : wa = a' ∧ wl = ws.length ∧ wc = c' := by simpa using e1
          exact ⟨g, off, by rw [e3.1]; exact e2, h1, by rw [hy]; exact h3, by rw [hy]; exact h0, by omega⟩
        obtain ⟨gv, ov, rfl, hgv, d0⟩ : ∃ ga oa, va = some ⟨ga, oa, none⟩ ∧ ga < w.heap.size ∧ w.cell? ⟨ga, oa + i, none⟩ = some (.bool b) := by
          obtain ⟨a', c', e1, hc, h⟩ := HV.out
          obtain ⟨g, off, e2, h1, h3⟩ := h i hib
          have e3 : va = a' ∧ N = bs.length ∧ vc = c' := by simpa using e1
          exact ⟨g, off, by rw [e3.1]; exact e2, h1, by rw [hb]; exact h3⟩
        have c1 : wr.cell? ⟨gw, ow + i, none⟩ = some (.int .u64 (y : Int)) := (HBr.out.cell (p := ⟨gw, _, none⟩) hgw).trans c0
        have d1 : wr.cell? ⟨gv, ov + i, none⟩ = some (.bool b) := (HBr.out.cell (p := ⟨gv, _, none⟩) hgv).trans d0
        have hlk : (cellB (setL ws (k : Int) bs i)).length = i + 1 := by simp [cellB, setL]
        have q1 : wr.cell? ⟨w.heap.size + 1, i + 1, none⟩ = some (.bool false) := by
          rw [(own_at HO.out (i := i + 1) (by omega)).1, List.getElem?_append_right (by omega), hlk, Nat.sub_self, List.getElem?_replicate, if_pos (by omega)]
        have q2 : wr.frozen? ⟨w.heap.size + 1, i + 1, none⟩ = false := (own_at HO.out (i := i + 1) (by omega)).2
        have HBT : Hid (bitW ws (k : Int) i = y.testBit k) := by
          show _ = _
          rw [bitW_at hin, hy]; simp
        have HSET : Hid (∀ (W : World) (x : Bool), Below wr.heap.size wr W → x = (b && y.testBit k) → (W.setCell ⟨w.heap.size + 1, i + 1, none⟩ (.bool x)).ownsRow (w.heap.size + 1) 4 1 (.slice (some ⟨w.heap.size + 1, 0, none⟩) (wl + 1) (wl + 1)) (wl + 1) (cellB (setL ws (k : Int) bs (i + 1)) ++ List.replicate (wl - (i + 1)) (.bool false))) := fun W x hW hx => by
          have := own_set (i := i + 1) (ownsRow_below HO.out hW) (.bool x)
          have es : setL ws (k : Int) bs (i + 1) = setL ws (k : Int) bs i ++ [x] := by
            unfold setL
            rw [List.range_succ, List.map_append, List.cons_append]
            congr 2
            simp only [List.map_cons, List.map_nil]
            rw [List.getElem?_eq_getElem hib, HBT.out, hx, hb]
          have e : (cellB (setL ws (k : Int) bs i) ++ List.replicate (wl - i) (Value.bool false)).set (i + 1) (.bool x) = cellB (setL ws (k : Int) bs (i + 1)) ++ List.replicate (wl - (i + 1)) (Value.bool false) := by
            rw [es, List.set_append_right _ _ (by omega), hlk, Nat.sub_self, show wl - i = (wl - (i + 1)) + 1 by omega, List.replicate_succ, List.set_cons_zero]
            simp [cellB]
          rw [e] at this
          exact this
        have hi0' : (0 : Int) ≤ (i : Int) := by omega
        have hi1 : (i : Int) < (wl : Int) := by omega
        have hiN : (i : Int) < (N : Int) := by have := hNw'.out; omega
        have hi2 : (i : Int) + 1 < (wl : Int) + 1 := by omega
        have hi3 : (0 : Int) ≤ (i : Int) + 1 := by omega
        have HKP : Hid (∀ (W : World) (x : Value), (W.cell? ⟨gv, ov + i, none⟩ = some (.bool b) ∧ W.cell? ⟨gw, ow + i, none⟩ = some (.int .u64 (y : Int)) ∧ W.cell? ⟨w.heap.size, 1, none⟩ = some (.int .i64 (k : Int))) → (W.setCell ⟨w.heap.size + 1, i + 1, none⟩ x).cell? ⟨gv, ov + i, none⟩ = some (.bool b) ∧ (W.setCell ⟨w.heap.size + 1, i + 1, none⟩ x).cell? ⟨gw, ow + i, none⟩ = some (.int .u64 (y : Int)) ∧ (W.setCell ⟨w.heap.size + 1, i + 1, none⟩ x).cell? ⟨w.heap.size, 1, none⟩ = some (.int .i64 (k : Int))) := fun W x h => by
          have hb : ∀ g, g ≤ w.heap.size → (W.setCell ⟨w.heap.size + 1, i + 1, none⟩ x).heap[g]? = W.heap[g]? := fun g hg => Below.heap_setCell _ _ _ _ (by show g ≠ w.heap.size + 1; omega)
          exact ⟨(World.cell?_of_block (a := ⟨gv, _, none⟩) (hb gv (by omega))).trans h.1, (World.cell?_of_block (a := ⟨gw, _, none⟩) (hb gw (by omega))).trans h.2.1, (World.cell?_of_block (a := ⟨w.heap.size, 1, none⟩) (hb w.heap.size (by omega))).trans h.2.2⟩
        clear c0 d0 hy hb
        cases b with
        | false =>
          go_wp2
          go_region
          obtain ⟨W, hW⟩ : ∃ W, W = (wr.setCell ⟨w.heap.size + 1, i + 1, none⟩ (.bool false)).drew := ⟨_, rfl⟩
          rw [← hW]
          have HOW : Hid (W.ownsRow (w.heap.size + 1) 4 1 (.slice (some ⟨w.heap.size + 1, 0, none⟩) (wl + 1) (wl + 1)) (wl + 1) (cellB (setL ws (k : Int) bs (i + 1)) ++ List.replicate (wl - (i + 1)) (.bool false))) := by
            rw [hW]
            exact ownsRow_below (HSET.out wr false (Below.refl _ _) rfl) ((Below.refl _ _).drew)
          have HBX : Hid (Below w.heap.size w W) := by
            rw [hW]
            exact (HBr.out.setCell (by show w.heap.size ≤ w.heap.size + 1; omega) _).drew
          have e1w : W.cell? ⟨w.heap.size, 1, none⟩ = some (.int .i64 (k : Int)) := by
            rw [hW]
            exact (World.cell?_of_block (a := ⟨w.heap.size, 1, none⟩) (Below.heap_setCell _ _ _ _ (by show w.heap.size ≠ w.heap.size + 1; omega))).trans e1r
          clear hW
          go_wp2
          go_roundw
          case rel => exact ⟨i + 1, by omega, by go_num, HOW, HBX, e1w⟩
          case measure => simp [intOf]; omega
        | true =>
          have HSH : Hid ((bits .and .u64 ((y : Int) / 2 ^ k) 1 == 1) = y.testBit k) := shr_bit hy64
          have hk64 : k < 64 := by omega
          have hconv : IntKind.u64.wrap (k : Int) = (k : Int) := u64_in k (by have : (64 : Nat) < 2 ^ 64 := by decide
                                                                              omega)
          go_wp2
          go_region
          obtain ⟨W, hW⟩ : ∃ W, W = (wr.setCell ⟨w.heap.size + 1, i + 1, none⟩ (.bool (bits .and .u64 ((y : Int) / 2 ^ k) 1 == 1))).drew := ⟨_, rfl⟩
          rw [← hW]
          have HOW : Hid (W.ownsRow (w.heap.size + 1) 4 1 (.slice (some ⟨w.heap.size + 1, 0, none⟩) (wl + 1) (wl + 1)) (wl + 1) (cellB (setL ws (k : Int) bs (i + 1)) ++ List.replicate (wl - (i + 1)) (.bool false))) := by
            rw [hW]
            exact ownsRow_below (HSET.out wr (bits .and .u64 ((y : Int) / 2 ^ k) 1 == 1) (Below.refl _ _) (by rw [HSH.out]; rfl)) ((Below.refl _ _).drew)
          have HBX : Hid (Below w.heap.size w W) := by
            rw [hW]
            exact (HBr.out.setCell (by show w.heap.size ≤ w.heap.size + 1; omega) _).drew
          have e1w : W.cell? ⟨w.heap.size, 1, none⟩ = some (.int .i64 (k : Int)) := by
            rw [hW]
            exact (World.cell?_of_block (a := ⟨w.heap.size, 1, none⟩) (Below.heap_setCell _ _ _ _ (by show w.heap.size ≠ w.heap.size + 1; omega))).trans e1r
          clear hW
          go_wp2
          go_roundw
          case rel => exact ⟨i + 1, by omega, by go_num, HOW, HBX, e1w⟩
          case measure => simp [intOf]; omega
      · obtain rfl : i = wl := by omega
        have HFIN : Hid (wr.ownsRow (w.heap.size + 1) 4 1 (.slice (some ⟨w.heap.size + 1, 0, none⟩) (i + 1) (i + 1)) (setL ws (k : Int) bs ws.length).length (cellB (setL ws (k : Int) bs ws.length))) := by
          have := HO.out
          rw [Nat.sub_self, List.replicate_zero, List.append_nil] at this
          show wr.ownsRow _ _ _ _ _ _
          rw [setL_len, ← HWL.out]
          exact this
        go_wp2
        go_ret
        refine ⟨_, _, rfl, bls_of_row HFIN.out, ?_, HBr.out⟩
        have h1 := setL_leads (ws := ws) (s := (k : Int)) (bs := bs) (by have := hNw'.out; have := HNN.out; have := HWL.out; omega)
        have e : relN ws n = relS ws (k : Int) := by
          rw [HRN.out]; funext q p; simp [relK]
        rw [e]; exact h1
  have k1' : (nk == 1) = false := by simpa using k1
  by_cases k0 : nk = 0
  · subst k0
    clear k1 k1'
    have HV1 : Hid (BlsIn w1 (.slice va N vc) bs) := HV.out.below HB1.out
    go_wp2
    go_loopw [7, 9] (fun x7 x wr => ∃ (j : Nat) (os : List Bool), j ≤ len ∧ x = .int .i64 (j : Int) ∧ Hid (BlsIn wr x7 os) ∧ Hid (os.length = N) ∧ Hid (∀ p, hB os p ↔ ∃ q, hB bs q ∧ relC ws (n.kids.take j) q p) ∧ Hid (Below w.heap.size w wr) ∧ Hid (wr.heap[w.heap.size]? = some (.cells #[.int .i64 0, .int .i64 ns, .slice za len ca] 24 (0, 0)))) (fun _ x _ => len - (intOf x).toNat)
    case atStart => exact ⟨0, bs, Nat.zero_le _, rfl, HV1, HNN.out.symm, (fun p => by rw [List.take_zero, relC]; exact ⟨fun h => ⟨p, h, rfl⟩, fun ⟨q, h, e⟩ => by rw [show p = q from e]; exact h⟩), HB1, HE1⟩
    case round =>
      obtain ⟨j, os, hj, rfl, HOS, HOL, HRL, HBr, HEr⟩ := hrel
      have hws : w.heap.size ≤ wr.heap.size := HBr.out.size
      have hlt0 : w.heap.size < wr.heap.size := lt_of_heap HEr.out
      have e2 : wr.cell? ⟨w.heap.size, 2, none⟩ = some (.slice za len ca) := cell_in HEr.out 2
      obtain ⟨o1, o2, rfl, ho⟩ := HOS.out.slice
      by_cases hjl : j < len
      · have hjn : j < n.kids.length := by rw [← HLEN.out]; exact hjl
        obtain ⟨hca, ga, oa, xa, ka, yk, ys, yl, rfl, r0, r1, r2, hcall⟩ := HKEY.out j hjn wr HBr.out
        have hj0 : (0 : Int) ≤ (j : Int) := by omega
        have hj1 : (j : Int) < (len : Int) := by omega
        have HTK : Hid (n.kids.take (j + 1) = n.kids.take j ++ [n.kids[j]]) := by
          show _ = _
          rw [List.take_add_one, List.getElem?_eq_getElem hjn]; rfl
        have hcl := hcall wr _ os HBr.out HOS.out (by have := HOL.out; have := hNw'.out; have := HWL.out; omega)
        clear hcall
        go_wp2_with fail
        refine hcl.mono ?_
        rintro e w2 ⟨v2, o3, rfl, hp2, hl2, hB2⟩
        have HP2 : Hid (BlsIn w2 v2 o3) := hp2
        have HL2 : Hid (o3.length = N) := by show _ = _; rw [hl2.1, HOL.out]
        have HR2 : Hid (∀ p, hB o3 p ↔ ∃ q, hB bs q ∧ relC ws (n.kids.take (j + 1)) q p) := fun p => by
          rw [hl2.2 p, HTK.out]
          constructor
          · rintro ⟨m, h1, h2⟩
            obtain ⟨q, h3, h4⟩ := (HRL.out m).1 h1
            exact ⟨q, h3, (relC_snoc ws _ _ q p).2 ⟨m, h4, h2⟩⟩
          · rintro ⟨q, h3, h4⟩
            obtain ⟨m, h5, h6⟩ := (relC_snoc ws _ _ q p).1 h4
            exact ⟨m, (HRL.out m).2 ⟨q, h3, h5⟩, h6⟩
        have HB2 : Hid (Below w.heap.size w w2) := HBr.out.trans (hB2.mono hws)
        have HE2 : Hid (w2.heap[w.heap.size]? = some (.cells #[.int .i64 0, .int .i64 ns, .slice (some ⟨ga, oa, none⟩) len ca] 24 (0, 0))) := (hB2.block _ hlt0).trans HEr.out
        clear hcl hp2 hl2 hB2 r0 r1 r2 e2
        go_wp2
        go_roundw
        case rel => exact ⟨j + 1, o3, by omega, by go_num, HP2, HL2, HR2, HB2, HE2⟩
        case measure => simp [intOf]; omega
      · obtain rfl : j = len := by omega
        go_wp2
        go_ret
        refine ⟨_, os, rfl, HOS.out, ⟨by rw [HOL.out, HNN.out], fun p => ?_⟩, HBr.out⟩
        have h1 := HRL.out p
        rw [List.take_of_length_le (by rw [← HLEN.out]; exact Nat.le_refl _)] at h1
        rw [h1, HRN.out]
        simp [relK]
  have k0' : (nk == 0) = false := by simpa using k0
  by_cases k2 : nk = 2
  · subst k2
    clear k1 k1' k0 k0'
    have HV1 : Hid (BlsIn w1 (.slice (some ⟨w.heap.size + 1, 0, none⟩) (wl + 1) (wl + 1)) (List.replicate (wl + 1) false)) := bls_of_row (base := w.heap.size + 1) (by
      have := HO1.out
      rw [List.length_replicate]
      simpa [cellB] using this)
    go_wp2
    go_loopw [7, 10] (fun x7 x wr => ∃ (j : Nat) (os : List Bool), j ≤ len ∧ x = .int .i64 (j : Int) ∧ Hid (BlsIn wr x7 os) ∧ Hid (os.length = N) ∧ Hid (∀ p, hB os p ↔ ∃ q, hB bs q ∧ relA ws (n.kids.take j) q p) ∧ Hid (Below w.heap.size w wr) ∧ Hid (wr.heap[w.heap.size]? = some (.cells #[.int .i64 2, .int .i64 ns, .slice za len ca] 24 (0, 0)))) (fun _ x _ => len - (intOf x).toNat)
    case atStart => exact ⟨0, List.replicate (wl + 1) false, Nat.zero_le _, rfl, HV1, (by show _ = _; rw [List.length_replicate, hNw'.out]), (fun p => by rw [List.take_zero, relA]; unfold hB; rw [List.getElem?_replicate]; constructor; (intro h; split at h <;> cases h); (rintro ⟨q, _, h⟩; cases h)), HB1, HE1⟩
    case round =>
      obtain ⟨j, os, hj, rfl, HOS, HOL, HRL, HBr, HEr⟩ := hrel
      have hws : w.heap.size ≤ wr.heap.size := HBr.out.size
      have hlt0 : w.heap.size < wr.heap.size := lt_of_heap HEr.out
      have e2 : wr.cell? ⟨w.heap.size, 2, none⟩ = some (.slice za len ca) := cell_in HEr.out 2
      obtain ⟨o1, o2, rfl, ho⟩ := HOS.out.slice
      by_cases hjl : j < len
      · have hjn : j < n.kids.length := by rw [← HLEN.out]; exact hjl
        obtain ⟨hca, ga, oa, xa, ka, yk, ys, yl, rfl, r0, r1, r2, hcall⟩ := HKEY.out j hjn wr HBr.out
        have hj0 : (0 : Int) ≤ (j : Int) := by omega
        have hj1 : (j : Int) < (len : Int) := by omega
        have HTK : Hid (n.kids.take (j + 1) = n.kids.take j ++ [n.kids[j]]) := by
          show _ = _
          rw [List.take_add_one, List.getElem?_eq_getElem hjn]; rfl
        have hcl := hcall wr _ bs HBr.out (HV.out.below HBr.out) (by have := HNN.out; have := hNw'.out; have := HWL.out; omega)
        have HHO : Hid (∀ W v b3, Below wr.heap.size wr W → BlsIn W v b3 → b3.length = N → Calls Tryd.prog 77 #[.slice o1 os.length o2, v] W fun e w' => ∃ v', e = .returned v' ∧ BlsIn w' v' (orL os b3) ∧ Below W.heap.size W w') := fun W v b3 hb h3 hl => either_any os b3 _ v W (HOS.out.below hb) h3 (by rw [HOL.out, hl]) (by have := HOL.out; have := hNw'.out; omega)
        clear hcall
        go_wp2_with fail
        refine hcl.mono ?_
        rintro e w2 ⟨v2, o3, rfl, hp2, hl2, hB2⟩
        have HL4 : Hid (o3.length = N) := by show _ = _; rw [hl2.1, HNN.out]
        have hcl2 := HHO.out w2 v2 o3 hB2 hp2 HL4.out
        have HL2 : Hid (∀ p, hB o3 p ↔ ∃ q, hB bs q ∧ relN ws n.kids[j] q p) := hl2.2
        have HB2 : Hid (Below w.heap.size w w2) := HBr.out.trans (hB2.mono hws)
        have hs2 := hB2.size
        have HE2 : Hid (w2.heap[w.heap.size]? = some (.cells #[.int .i64 2, .int .i64 ns, .slice (some ⟨ga, oa, none⟩) len ca] 24 (0, 0))) := (hB2.block _ hlt0).trans HEr.out
        obtain ⟨v2a, v2c, rfl, _⟩ := hp2.slice
        clear hcl hp2 hl2 hB2 r0 r1 r2 e2
        go_wp2_with fail
        refine hcl2.mono ?_
        rintro e w3 ⟨v3, rfl, hp3, hB3⟩
        have HP3 : Hid (BlsIn w3 v3 (orL os o3)) := hp3
        have HL3 : Hid ((orL os o3).length = N) := by show _ = _; rw [orL_len (by rw [HOL.out, HL4.out]), HOL.out]
        have HR3 : Hid (∀ p, hB (orL os o3) p ↔ ∃ q, hB bs q ∧ relA ws (n.kids.take (j + 1)) q p) := fun p => by
          rw [hB_or (by rw [HOL.out, HL4.out]), HRL.out p, HL2.out p, HTK.out]
          simp only [relA_iff, List.mem_append, List.mem_singleton]
          constructor
          · rintro (⟨q, h1, x, h2, h3⟩ | ⟨q, h1, h2⟩)
            · exact ⟨q, h1, x, .inl h2, h3⟩
            · exact ⟨q, h1, _, .inr rfl, h2⟩
          · rintro ⟨q, h1, x, h2 | rfl, h3⟩
            · exact .inl ⟨q, h1, x, h2, h3⟩
            · exact .inr ⟨q, h1, h3⟩
        have HB3 : Hid (Below w.heap.size w w3) := below_after HB2.out hB3
        have HE3 : Hid (w3.heap[w.heap.size]? = some (.cells #[.int .i64 2, .int .i64 ns, .slice (some ⟨ga, oa, none⟩) len ca] 24 (0, 0))) := (hB3.block _ (by omega)).trans HE2.out
        clear hcl2 hp3 hB3
        go_wp2
        go_roundw
        case rel => exact ⟨j + 1, _, by omega, by go_num, HP3, HL3, HR3, HB3, HE3⟩
        case measure => simp [intOf]; omega
      · obtain rfl : j = len := by omega
        go_wp2
        go_ret
        refine ⟨_, os, rfl, HOS.out, ⟨by rw [HOL.out, HNN.out], fun p => ?_⟩, HBr.out⟩
        have h1 := HRL.out p
        rw [List.take_of_length_le (by rw [← HLEN.out]; exact Nat.le_refl _)] at h1
        rw [h1, HRN.out]
        simp [relK]
  have k2' : (nk == 2) = false := by simpa using k2
  by_cases k5 : nk = 5
  · subst k5
    clear k1 k1' k0 k0' k2 k2'
    have hm : len = 1 := by have := HMAY.out; simpa [mayK] using this
    obtain rfl : len = 1 := hm
    have hk0 : 0 < n.kids.length := by rw [← HLEN.out]; omega
    have HV1 : Hid (BlsIn w1 (.slice va N vc) bs) := HV.out.below HB1.out
    obtain ⟨hca, ga, oa, xa, ka, yk, ys, yl, rfl, r0, r1, r2, hcall⟩ := HKEY.out 0 hk0 w1 HB1.out
    have HCALL : Hid (∀ W v bs, Below w.heap.size w W → BlsIn W v bs → bs.length = ws.length + 1 → Calls Tryd.prog 63 #[.agg #[.int .i64 yk, .int .i64 ys, .slice xa yl ka], .slice wa wl wc, v] W (RefA ws n.kids[0] bs W)) := hcall
    have e2 : w1.cell? ⟨w.heap.size, 2, none⟩ = some (.slice (some ⟨ga, oa, none⟩) 1 ca) := cell_in HE1.out 2
    have HK0 : Hid (∀ W, Below w1.heap.size w1 W → W.cell? ⟨w.heap.size, 0, none⟩ = some (.int .i64 5) ∧ W.cell? ⟨w.heap.size, 2, none⟩ = some (.slice (some ⟨ga, oa, none⟩) 1 ca) ∧ W.cell? ⟨ga, oa + 0 * 3, none⟩ = some (.int .i64 yk) ∧ W.cell? ⟨ga, oa + 0 * 3 + 1, none⟩ = some (.int .i64 ys) ∧ W.cell? ⟨ga, oa + 0 * 3 + 2, none⟩ = some (.slice xa yl ka)) := fun W h => ⟨(h.cell (p := ⟨w.heap.size, _, none⟩) (lt_of_heap HE1.out)).trans e0, (h.cell (p := ⟨w.heap.size, _, none⟩) (lt_of_heap HE1.out)).trans e2, (h.cell (p := ⟨ga, _, none⟩) (cell_some_lt r0)).trans r0, (h.cell (p := ⟨ga, _, none⟩) (cell_some_lt r1)).trans r1, (h.cell (p := ⟨ga, _, none⟩) (cell_some_lt r2)).trans r2⟩
    have r0' : w1.cell? ⟨ga, oa, none⟩ = some (.int .i64 yk) := by simpa using r0
    have r1' : w1.cell? ⟨ga, oa + 1, none⟩ = some (.int .i64 ys) := by simpa using r1
    have r2' : w1.cell? ⟨ga, oa + 2, none⟩ = some (.slice xa yl ka) := by simpa using r2
    have hcl := hcall w1 _ bs HB1.out HV1.out (by have := HNN.out; have := hNw'.out; have := HWL.out; omega)
    have HEI : Hid (∀ W v1 b1 v3 b3, BlsIn W v1 b1 → BlsIn W v3 b3 → b1.length = N → b3.length = N → Calls Tryd.prog 77 #[v1, v3] W fun e w' => ∃ v', e = .returned v' ∧ BlsIn w' v' (orL b1 b3) ∧ Below W.heap.size W w') := fun W v1 b1 v3 b3 h1 h3 l1 l3 => either_any b1 b3 v1 v3 W h1 h3 (by rw [l1, l3]) (by have := hNw'.out; omega)
    have HRH : Hid (relH ws n.kids = relN ws n.kids[0]) := relH_at ws n.kids hk0
    have HFW : Hid (Fwd ws.length (relN ws n.kids[0])) := fwdN ws _
    clear hcall
    go_wp2_with fail
    refine hcl.mono ?_
    rintro e w2 ⟨v2, o2, rfl, hp2, hl2, hB2⟩
    have HP2 : Hid (BlsIn w2 v2 o2) := hp2
    have HL2 : Hid (o2.length = N) := by show _ = _; rw [hl2.1, HNN.out]
    have HR2 : Hid (∀ p, hB o2 p ↔ ∃ q, hB bs q ∧ relN ws n.kids[0] q p) := hl2.2
    have HB2 : Hid (Below w1.heap.size w1 w2) := hB2
    have HBW2 : Hid (Below w.heap.size w w2) := below_after HB1.out hB2
    obtain ⟨v2a, v2c, rfl, _⟩ := hp2.slice
    clear hcl hp2 hl2 hB2 r0 r1 r2 r0' r1' r2' e0 e2
    have hcl2 := HEI.out w2 (.slice va N vc) bs _ o2 (HV.out.below HBW2.out) HP2.out HNN.out.symm HL2.out
    go_wp2_with fail
    refine hcl2.mono ?_
    rintro e w3 ⟨v3, rfl, hp3, hB3⟩
    have HP3 : Hid (BlsIn w3 v3 (orL bs o2)) := hp3
    have HB3 : Hid (Below w.heap.size w w3) := below_after HBW2.out hB3
    obtain ⟨v3a, v3c, rfl, _⟩ := hp3.slice
    clear hcl2 hp3 hB3
    go_wp2
    go_ret
    refine ⟨_, _, rfl, HP3.out, ⟨by rw [orL_len (by rw [HL2.out, HNN.out])], fun p => ?_⟩, HB3.out⟩
    rw [hB_or (by rw [HL2.out, HNN.out]), HR2.out p, HRN.out, HRH.out]
    simp only [relK]
    constructor
    · rintro (h | ⟨q, h1, h2⟩)
      · exact ⟨p, h, by simp⟩
      · exact ⟨q, h1, by simp [h2]⟩
    · rintro ⟨q, h1, h2⟩
      have h3 : p = q ∨ relN ws n.kids[0] q p := by simpa using h2
      rcases h3 with rfl | h3
      · exact .inl h1
      · exact .inr ⟨q, h1, h3⟩
  have k5' : (nk == 5) = false := by simpa using k5
  by_cases k3 : nk = 3
  · subst k3
    clear k1 k1' k0 k0' k2 k2' k5 k5'
    have hm : len = 1 := by have := HMAY.out; simpa [mayK] using this
    obtain rfl : len = 1 := hm
    have hk0 : 0 < n.kids.length := by rw [← HLEN.out]; omega
    have HV1 : Hid (BlsIn w1 (.slice va N vc) bs) := HV.out.below HB1.out
    obtain ⟨hca, ga, oa, xa, ka, yk, ys, yl, rfl, r0, r1, r2, hcall⟩ := HKEY.out 0 hk0 w1 HB1.out
    have HCALL : Hid (∀ W v bs, Below w.heap.size w W → BlsIn W v bs → bs.length = ws.length + 1 → Calls Tryd.prog 63 #[.agg #[.int .i64 yk, .int .i64 ys, .slice xa yl ka], .slice wa wl wc, v] W (RefA ws n.kids[0] bs W)) := hcall
    have e2 : w1.cell? ⟨w.heap.size, 2, none⟩ = some (.slice (some ⟨ga, oa, none⟩) 1 ca) := cell_in HE1.out 2
    have HK0 : Hid (∀ W, Below w1.heap.size w1 W → W.cell? ⟨w.heap.size, 0, none⟩ = some (.int .i64 3) ∧ W.cell? ⟨w.heap.size, 2, none⟩ = some (.slice (some ⟨ga, oa, none⟩) 1 ca) ∧ W.cell? ⟨ga, oa + 0 * 3, none⟩ = some (.int .i64 yk) ∧ W.cell? ⟨ga, oa + 0 * 3 + 1, none⟩ = some (.int .i64 ys) ∧ W.cell? ⟨ga, oa + 0 * 3 + 2, none⟩ = some (.slice xa yl ka)) := fun W h => ⟨(h.cell (p := ⟨w.heap.size, _, none⟩) (lt_of_heap HE1.out)).trans e0, (h.cell (p := ⟨w.heap.size, _, none⟩) (lt_of_heap HE1.out)).trans e2, (h.cell (p := ⟨ga, _, none⟩) (cell_some_lt r0)).trans r0, (h.cell (p := ⟨ga, _, none⟩) (cell_some_lt r1)).trans r1, (h.cell (p := ⟨ga, _, none⟩) (cell_some_lt r2)).trans r2⟩
    have r0' : w1.cell? ⟨ga, oa, none⟩ = some (.int .i64 yk) := by simpa using r0
    have r1' : w1.cell? ⟨ga, oa + 1, none⟩ = some (.int .i64 ys) := by simpa using r1
    have r2' : w1.cell? ⟨ga, oa + 2, none⟩ = some (.slice xa yl ka) := by simpa using r2
    have hcl := hcall w1 _ bs HB1.out HV1.out (by have := HNN.out; have := hNw'.out; have := HWL.out; omega)
    have HEI : Hid (∀ W v1 b1 v3 b3, BlsIn W v1 b1 → BlsIn W v3 b3 → b1.length = N → b3.length = N → Calls Tryd.prog 77 #[v1, v3] W fun e w' => ∃ v', e = .returned v' ∧ BlsIn w' v' (orL b1 b3) ∧ Below W.heap.size W w') := fun W v1 b1 v3 b3 h1 h3 l1 l3 => either_any b1 b3 v1 v3 W h1 h3 (by rw [l1, l3]) (by have := hNw'.out; omega)
    have HRH : Hid (relH ws n.kids = relN ws n.kids[0]) := relH_at ws n.kids hk0
    have HFW : Hid (Fwd ws.length (relN ws n.kids[0])) := fwdN ws _
    clear hcall
    go_wp2_with fail
    refine hcl.mono ?_
    rintro e w2 ⟨v2, o2, rfl, hp2, hl2, hB2⟩
    have HP2 : Hid (BlsIn w2 v2 o2) := hp2
    have HL2 : Hid (o2.length = N) := by show _ = _; rw [hl2.1, HNN.out]
    have HR2 : Hid (∀ p, hB o2 p ↔ ∃ q, hB bs q ∧ relN ws n.kids[0] q p) := hl2.2
    have HB2 : Hid (Below w1.heap.size w1 w2) := hB2
    have HBW2 : Hid (Below w.heap.size w w2) := below_after HB1.out hB2
    obtain ⟨v2a, v2c, rfl, _⟩ := hp2.slice
    clear hcl hp2 hl2 hB2 r0 r1 r2 r0' r1' r2' e0 e2
    have HBS : Hid (BlsIn w2 (.slice v2a o2.length v2c) o2) := HP2
    go_wp2
    go_loopw [7, 11] (fun x7 x wr => ∃ (i : Nat) (os : List Bool), i ≤ wl ∧ x = .int .i64 (i : Int) ∧ Hid (BlsIn wr x7 os) ∧ Hid (os.length = N) ∧ Hid (∀ p, hB os p ↔ ∃ q, hB bs q ∧ PlN (relN ws n.kids[0]) (i + 1) q p) ∧ Hid (Below w1.heap.size w1 wr)) (fun _ x _ => wl - (intOf x).toNat)
    case atStart => exact ⟨0, o2, Nat.zero_le _, rfl, HBS, HL2, (fun p => by rw [HR2.out p]; simp [PlN]), HB2⟩
    case round =>
      obtain ⟨i, os, hi, rfl, HOS, HOL, HRL, HBr⟩ := hrel
      have HBWr : Hid (Below w.heap.size w wr) := below_after HB1.out HBr.out
      obtain ⟨o1, oc, rfl, ho⟩ := HOS.out.slice
      obtain ⟨s0, s1, s2, s3, s4⟩ := HK0.out wr HBr.out
      have s2' : wr.cell? ⟨ga, oa, none⟩ = some (.int .i64 yk) := by simpa using s2
      have s3' : wr.cell? ⟨ga, oa + 1, none⟩ = some (.int .i64 ys) := by simpa using s3
      have s4' : wr.cell? ⟨ga, oa + 2, none⟩ = some (.slice xa yl ka) := by simpa using s4
      clear s2 s3 s4
      by_cases hil : i < wl
      · have hi1 : (i : Int) < (wl : Int) := by omega
        have hcl := HCALL.out wr _ os HBWr.out HOS.out (by have := HOL.out; have := hNw'.out; have := HWL.out; omega)
        go_wp2_with fail
        refine hcl.mono ?_
        rintro e w3 ⟨v3, o3, rfl, hp3, hl3, hB3⟩
        have HL3 : Hid (o3.length = N) := by show _ = _; rw [hl3.1, HOL.out]
        have HR3 : Hid (∀ p, hB o3 p ↔ ∃ q, hB os q ∧ relN ws n.kids[0] q p) := hl3.2
        have hcl2 := HEI.out w3 _ os v3 o3 (HOS.out.below hB3) hp3 HOL.out HL3.out
        have HB3 : Hid (Below w1.heap.size w1 w3) := below_after HBr.out hB3
        obtain ⟨v3a, v3c, rfl, _⟩ := hp3.slice
        clear hcl hp3 hl3 hB3 s0 s1 s2' s3' s4'
        go_wp2_with fail
        refine hcl2.mono ?_
        rintro e w4 ⟨v4, rfl, hp4, hB4⟩
        have HP4 : Hid (BlsIn w4 v4 (orL os o3)) := hp4
        have HL4 : Hid ((orL os o3).length = N) := by show _ = _; rw [orL_len (by rw [HOL.out, HL3.out]), HOL.out]
        have HR4 : Hid (∀ p, hB (orL os o3) p ↔ ∃ q, hB bs q ∧ PlN (relN ws n.kids[0]) (i + 1 + 1) q p) := fun p => by
          rw [hB_or (by rw [HOL.out, HL3.out]), HRL.out p, HR3.out p]
          simp only [plN_step]
          constructor
          · rintro (⟨q, h1, h2⟩ | ⟨m, h1, h2⟩)
            · exact ⟨q, h1, .inl h2⟩
            · obtain ⟨q, h3, h4⟩ := (HRL.out m).1 h1
              exact ⟨q, h3, .inr ⟨m, h4, h2⟩⟩
          · rintro ⟨q, h1, h2 | ⟨m, h2, h3⟩⟩
            · exact .inl ⟨q, h1, h2⟩
            · exact .inr ⟨m, (HRL.out m).2 ⟨q, h1, h2⟩, h3⟩
        have HB4 : Hid (Below w1.heap.size w1 w4) := below_after HB3.out hB4
        clear hcl2 hp4 hB4
        go_wp2
        go_roundw
        case rel => exact ⟨i + 1, _, by omega, by go_num, HP4, HL4, HR4, HB4⟩
        case measure => simp [intOf]; omega
      · obtain rfl : i = wl := by omega
        have HPL : Hid (∀ p, hB os p ↔ ∃ q, hB bs q ∧ Pl (relN ws n.kids[0]) q p) := fun p => by
          rw [HRL.out p]
          constructor
          · rintro ⟨q, h1, h2⟩; exact ⟨q, h1, h2.pl⟩
          · rintro ⟨q, h1, h2⟩
            have hq := hB_lt h1
            have hp : p ≤ ws.length := (HFW.out.pl q p h2).2 (by have := HNN.out; have := hNw'.out; have := HWL.out; omega)
            refine ⟨q, h1, (pl_plN (fun q p h => (HFW.out q p h).1) h2).le ?_⟩
            have := HWL.out
            omega
        have hcl3 := HEI.out wr _ os (.slice va N vc) bs HOS.out (HV.out.below HBWr.out) HOL.out HNN.out.symm
        go_wp2_with fail
        refine hcl3.mono ?_
        rintro e w5 ⟨v5, rfl, hp5, hB5⟩
        have HP5 : Hid (BlsIn w5 v5 (orL os bs)) := hp5
        have HB5 : Hid (Below w.heap.size w w5) := below_after HBWr.out hB5
        obtain ⟨v5a, v5c, rfl, _⟩ := hp5.slice
        clear hcl3 hp5 hB5 s0 s1 s2' s3' s4'
        go_wp2
        go_ret
        refine ⟨_, _, rfl, HP5.out, ⟨by rw [orL_len (by rw [HOL.out, HNN.out]), HOL.out, HNN.out], fun p => ?_⟩, HB5.out⟩
        rw [hB_or (by rw [HOL.out, HNN.out]), HPL.out p, HRN.out, HRH.out]
        simp only [relK]
        constructor
        · rintro (⟨q, h1, h2⟩ | h)
          · exact ⟨q, h1, by simp [h2]⟩
          · exact ⟨p, h, by simp⟩
        · rintro ⟨q, h1, h2⟩
          have h3 : p = q ∨ Pl (relN ws n.kids[0]) q p := by simpa using h2
          rcases h3 with rfl | h3
          · exact .inr h1
          · exact .inl ⟨q, h1, h3⟩
  have k4 : nk = 4 := by
    have := HMAY.out
    unfold mayK at this
    rw [if_neg k0, if_neg k1, if_neg k2] at this
    split at this
    · rename_i h; rcases h with h | h | h
      · exact absurd h k3
      · exact h
      · exact absurd h k5
    · cases this
  · subst k4
    clear k1 k1' k0 k0' k2 k2' k5 k5' k3
    have hm : len = 1 := by have := HMAY.out; simpa [mayK] using this
    obtain rfl : len = 1 := hm
    have hk0 : 0 < n.kids.length := by rw [← HLEN.out]; omega
    have HV1 : Hid (BlsIn w1 (.slice va N vc) bs) := HV.out.below HB1.out
    obtain ⟨hca, ga, oa, xa, ka, yk, ys, yl, rfl, r0, r1, r2, hcall⟩ := HKEY.out 0 hk0 w1 HB1.out
    have HCALL : Hid (∀ W v bs, Below w.heap.size w W → BlsIn W v bs → bs.length = ws.length + 1 → Calls Tryd.prog 63 #[.agg #[.int .i64 yk, .int .i64 ys, .slice xa yl ka], .slice wa wl wc, v] W (RefA ws n.kids[0] bs W)) := hcall
    have e2 : w1.cell? ⟨w.heap.size, 2, none⟩ = some (.slice (some ⟨ga, oa, none⟩) 1 ca) := cell_in HE1.out 2
    have HK0 : Hid (∀ W, Below w1.heap.size w1 W → W.cell? ⟨w.heap.size, 0, none⟩ = some (.int .i64 4) ∧ W.cell? ⟨w.heap.size, 2, none⟩ = some (.slice (some ⟨ga, oa, none⟩) 1 ca) ∧ W.cell? ⟨ga, oa + 0 * 3, none⟩ = some (.int .i64 yk) ∧ W.cell? ⟨ga, oa + 0 * 3 + 1, none⟩ = some (.int .i64 ys) ∧ W.cell? ⟨ga, oa + 0 * 3 + 2, none⟩ = some (.slice xa yl ka)) := fun W h => ⟨(h.cell (p := ⟨w.heap.size, _, none⟩) (lt_of_heap HE1.out)).trans e0, (h.cell (p := ⟨w.heap.size, _, none⟩) (lt_of_heap HE1.out)).trans e2, (h.cell (p := ⟨ga, _, none⟩) (cell_some_lt r0)).trans r0, (h.cell (p := ⟨ga, _, none⟩) (cell_some_lt r1)).trans r1, (h.cell (p := ⟨ga, _, none⟩) (cell_some_lt r2)).trans r2⟩
    have r0' : w1.cell? ⟨ga, oa, none⟩ = some (.int .i64 yk) := by simpa using r0
    have r1' : w1.cell? ⟨ga, oa + 1, none⟩ = some (.int .i64 ys) := by simpa using r1
    have r2' : w1.cell? ⟨ga, oa + 2, none⟩ = some (.slice xa yl ka) := by simpa using r2
    have hcl := hcall w1 _ bs HB1.out HV1.out (by have := HNN.out; have := hNw'.out; have := HWL.out; omega)
    have HEI : Hid (∀ W v1 b1 v3 b3, BlsIn W v1 b1 → BlsIn W v3 b3 → b1.length = N → b3.length = N → Calls Tryd.prog 77 #[v1, v3] W fun e w' => ∃ v', e = .returned v' ∧ BlsIn w' v' (orL b1 b3) ∧ Below W.heap.size W w') := fun W v1 b1 v3 b3 h1 h3 l1 l3 => either_any b1 b3 v1 v3 W h1 h3 (by rw [l1, l3]) (by have := hNw'.out; omega)
    have HRH : Hid (relH ws n.kids = relN ws n.kids[0]) := relH_at ws n.kids hk0
    have HFW : Hid (Fwd ws.length (relN ws n.kids[0])) := fwdN ws _
    clear hcall
    go_wp2_with fail
    refine hcl.mono ?_
    rintro e w2 ⟨v2, o2, rfl, hp2, hl2, hB2⟩
    have HP2 : Hid (BlsIn w2 v2 o2) := hp2
    have HL2 : Hid (o2.length = N) := by show _ = _; rw [hl2.1, HNN.out]
    have HR2 : Hid (∀ p, hB o2 p ↔ ∃ q, hB bs q ∧ relN ws n.kids[0] q p) := hl2.2
    have HB2 : Hid (Below w1.heap.size w1 w2) := hB2
    have HBW2 : Hid (Below w.heap.size w w2) := below_after HB1.out hB2
    obtain ⟨v2a, v2c, rfl, _⟩ := hp2.slice
    clear hcl hp2 hl2 hB2 r0 r1 r2 r0' r1' r2' e0 e2
    have HBS : Hid (BlsIn w2 (.slice v2a o2.length v2c) o2) := HP2
    go_wp2
    go_loopw [7, 11] (fun x7 x wr => ∃ (i : Nat) (os : List Bool), i ≤ wl ∧ x = .int .i64 (i : Int) ∧ Hid (BlsIn wr x7 os) ∧ Hid (os.length = N) ∧ Hid (∀ p, hB os p ↔ ∃ q, hB bs q ∧ PlN (relN ws n.kids[0]) (i + 1) q p) ∧ Hid (Below w1.heap.size w1 wr)) (fun _ x _ => wl - (intOf x).toNat)
    case atStart => exact ⟨0, o2, Nat.zero_le _, rfl, HBS, HL2, (fun p => by rw [HR2.out p]; simp [PlN]), HB2⟩
    case round =>
      obtain ⟨i, os, hi, rfl, HOS, HOL, HRL, HBr⟩ := hrel
      have HBWr : Hid (Below w.heap.size w wr) := below_after HB1.out HBr.out
      obtain ⟨o1, oc, rfl, ho⟩ := HOS.out.slice
      obtain ⟨s0, s1, s2, s3, s4⟩ := HK0.out wr HBr.out
      have s2' : wr.cell? ⟨ga, oa, none⟩ = some (.int .i64 yk) := by simpa using s2
      have s3' : wr.cell? ⟨ga, oa + 1, none⟩ = some (.int .i64 ys) := by simpa using s3
      have s4' : wr.cell? ⟨ga, oa + 2, none⟩ = some (.slice xa yl ka) := by simpa using s4
      clear s2 s3 s4
      by_cases hil : i < wl
      · have hi1 : (i : Int) < (wl : Int) := by omega
        have hcl := HCALL.out wr _ os HBWr.out HOS.out (by have := HOL.out; have := hNw'.out; have := HWL.out; omega)
        go_wp2_with fail
        refine hcl.mono ?_
        rintro e w3 ⟨v3, o3, rfl, hp3, hl3, hB3⟩
        have HL3 : Hid (o3.length = N) := by show _ = _; rw [hl3.1, HOL.out]
        have HR3 : Hid (∀ p, hB o3 p ↔ ∃ q, hB os q ∧ relN ws n.kids[0] q p) := hl3.2
        have hcl2 := HEI.out w3 _ os v3 o3 (HOS.out.below hB3) hp3 HOL.out HL3.out
        have HB3 : Hid (Below w1.heap.size w1 w3) := below_after HBr.out hB3
        obtain ⟨v3a, v3c, rfl, _⟩ := hp3.slice
        clear hcl hp3 hl3 hB3 s0 s1 s2' s3' s4'
        go_wp2_with fail
        refine hcl2.mono ?_
        rintro e w4 ⟨v4, rfl, hp4, hB4⟩
        have HP4 : Hid (BlsIn w4 v4 (orL os o3)) := hp4
        have HL4 : Hid ((orL os o3).length = N) := by show _ = _; rw [orL_len (by rw [HOL.out, HL3.out]), HOL.out]
        have HR4 : Hid (∀ p, hB (orL os o3) p ↔ ∃ q, hB bs q ∧ PlN (relN ws n.kids[0]) (i + 1 + 1) q p) := fun p => by
          rw [hB_or (by rw [HOL.out, HL3.out]), HRL.out p, HR3.out p]
          simp only [plN_step]
          constructor
          · rintro (⟨q, h1, h2⟩ | ⟨m, h1, h2⟩)
            · exact ⟨q, h1, .inl h2⟩
            · obtain ⟨q, h3, h4⟩ := (HRL.out m).1 h1
              exact ⟨q, h3, .inr ⟨m, h4, h2⟩⟩
          · rintro ⟨q, h1, h2 | ⟨m, h2, h3⟩⟩
            · exact .inl ⟨q, h1, h2⟩
            · exact .inr ⟨m, (HRL.out m).2 ⟨q, h1, h2⟩, h3⟩
        have HB4 : Hid (Below w1.heap.size w1 w4) := below_after HB3.out hB4
        clear hcl2 hp4 hB4
        go_wp2
        go_roundw
        case rel => exact ⟨i + 1, _, by omega, by go_num, HP4, HL4, HR4, HB4⟩
        case measure => simp [intOf]; omega
      · obtain rfl : i = wl := by omega
        have HPL : Hid (∀ p, hB os p ↔ ∃ q, hB bs q ∧ Pl (relN ws n.kids[0]) q p) := fun p => by
          rw [HRL.out p]
          constructor
          · rintro ⟨q, h1, h2⟩; exact ⟨q, h1, h2.pl⟩
          · rintro ⟨q, h1, h2⟩
            have hq := hB_lt h1
            have hp : p ≤ ws.length := (HFW.out.pl q p h2).2 (by have := HNN.out; have := hNw'.out; have := HWL.out; omega)
            refine ⟨q, h1, (pl_plN (fun q p h => (HFW.out q p h).1) h2).le ?_⟩
            have := HWL.out
            omega
        go_wp2
        go_ret
        refine ⟨_, os, rfl, HOS.out, ⟨by rw [HOL.out, HNN.out], fun p => ?_⟩, HBWr.out⟩
        rw [HPL.out p, HRN.out, HRH.out]
        simp [relK]

theorem refEnds_any (ws : List Nat) (hL : ws.length < 64) (wa : Option Addr) (wc : Nat) : ∀ (d : Nat) (n : Nd) (z v : Value) (bs : List Bool) (w : World), Dp d n.kids → rightN n = true → KdX (fun k => k < w.heap.size) w z n.kids → WrdAt w.heap.size w (.slice wa ws.length wc) ws → BlsIn w v bs → bs.length = ws.length + 1 → Calls Tryd.prog 63 #[ndV n z, .slice wa ws.length wc, v] w (RefA ws n bs w)
  | d, n, z, v, bs, w, hd, hr, hz, hw, hv, hbl => by
    obtain ⟨a, ca, rfl, _⟩ := hz.slice
    refine refEnds_body n a ca wa wc ws v bs w hw hL hr hd.len hv hbl (fun i hi => ?_)
    obtain ⟨g, off, cap, z', e1, e2, e3, e4, e5, e6, e7⟩ := hz.at i hi
    obtain ⟨rfl, _, rfl⟩ : a = some ⟨g, off, none⟩ ∧ n.kids.length = n.kids.length ∧ ca = cap := by simpa using e1
    obtain ⟨xa, xc, rfl, _⟩ := e7.slice
    refine ⟨e2, g, off, xa, xc, rfl, e3, e4, e5, e6, fun W v2 b2 hB hv2 hb2 => ?_⟩
    match d, hd with
    | 0, hd =>
      have h0 : n.kids = [] := hd
      rw [h0] at hi
      cases hi
    | d + 1, hd =>
      have hri : rightN n.kids[i] = true := by
        rw [rightN_eq, Bool.and_eq_true] at hr
        exact (rightL_iff _).1 hr.2 _ (List.getElem_mem hi)
      exact refEnds_any ws hL wa wc d n.kids[i] (.slice xa n.kids[i].kids.length xc) v2 b2 W (hd.2 _ (List.getElem_mem hi)) hri (kdx_below e7 hB) (wrd_below hw hB) hv2 hb2
end Go.Proofs.YtehkaiohmcenbaaDoor
