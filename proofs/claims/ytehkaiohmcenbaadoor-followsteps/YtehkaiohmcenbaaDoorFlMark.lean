/-
  Marks of places: a bit for each.
-/
import Derived.Test.YtehkaiohmcenbaaDoorFlFew
import Derived.Test.YtehkaiohmcenbaaDoorFlMath
import Derived.Shelf.Spec.TrailingZeros
import Derived.Laws.MakeOwn
namespace Go.Proofs.YtehkaiohmcenbaaDoor
open Go.RowKit Go.Shelf
set_option linter.unusedVariables false

/-- Words of 64 bits as cells. -/
def cellU (ms : List Nat) : List Value := ms.map fun (x : Nat) => Value.int .u64 (x : Int)
/-- Is the place x marked? -/
def mb (ms : List Nat) (x : Nat) : Bool := (ms.getD (x / 64) 0).testBit (x % 64)
def Fit (ms : List Nat) : Prop := ∀ y ∈ ms, y < 2 ^ 64
/-- The marks' row. -/
def MrkAt (w : World) (g : Nat) (ms : List Nat) : Prop := w.heap[g]? = some (.cells (cellU ms).toArray 42 (0, 0))
theorem MrkAt.lt {w : World} {g : Nat} {ms : List Nat} (h : MrkAt w g ms) : g < w.heap.size := lt_of_heap h
theorem MrkAt.cell {w : World} {g : Nat} {ms : List Nat} (h : MrkAt w g ms) {i : Nat} (hi : i < ms.length) : w.cell? ⟨g, i, none⟩ = some (.int .u64 (ms[i] : Int)) := by
  rw [cell_in h]; simp [cellU, hi]
theorem MrkAt.set {w : World} {g : Nat} {ms : List Nat} (h : MrkAt w g ms) (i x : Nat) : MrkAt (w.setCell ⟨g, i, none⟩ (.int .u64 (x : Int))) g (ms.set i x) := by
  unfold MrkAt at h ⊢
  simp [World.setCell, Array.getElem?_modify, h, cellU, List.map_set]
theorem mb_zero (n x : Nat) : mb (List.replicate n 0) x = false := by
  unfold mb
  rw [List.getD_eq_getElem?_getD, List.getElem?_replicate]
  split <;> simp
theorem fit_zero (n : Nat) : Fit (List.replicate n 0) := fun y hy => by
  rw [List.mem_replicate] at hy; omega
theorem mb_set {ms : List Nat} {x : Nat} (hx : x / 64 < ms.length) (y : Nat) : mb (ms.set (x / 64) (ms[x / 64] ||| 2 ^ (x % 64))) y = (mb ms y || decide (y = x)) := by
  unfold mb
  rw [List.getD_eq_getElem?_getD, List.getD_eq_getElem?_getD, List.getElem?_set]
  by_cases h : x / 64 = y / 64
  · rw [if_pos h, if_pos hx, ← h, List.getElem?_eq_getElem hx]
    simp only [Option.getD_some, Nat.testBit_or, Nat.testBit_two_pow]
    congr 1
    rw [Bool.eq_iff_iff]; simp; omega
  · rw [if_neg h]
    have : y ≠ x := fun e => h (by rw [e])
    simp [this]
theorem fit_set {ms : List Nat} (h : Fit ms) (i : Nat) {x : Nat} (hx : x < 2 ^ 64) : Fit (ms.set i x) := fun y hy => by
  rcases List.mem_or_eq_of_mem_set hy with q | q
  · exact h y q
  · rw [q]; exact hx
theorem Tryd.infoU64 : (Tryd.prog.info? 42).map (fun i => (i.zero, i.size, i.bytes)) = some (some (.int .u64 0), 1, 8) := by kernel_rfl

theorem FrI.set {lo hi : Nat} {w wr : World} (h : FrI lo hi w wr) {g i : Nat} (h1 : lo ≤ g) (h2 : g < hi) (v : Value) : FrI lo hi w (wr.setCell ⟨g, i, none⟩ v) :=
  ⟨h.1.setCell h1 v, fun k hk hs => (Below.heap_setCell _ _ _ _ (by show k ≠ g; omega)).trans (h.2 k hk hs)⟩
theorem FrI.drew {lo hi : Nat} {w wr : World} (h : FrI lo hi w wr) : FrI lo hi w wr.drew := ⟨h.1.drew, h.2⟩
theorem FrI.below {lo hi : Nat} {w wr w' : World} (h : FrI lo hi w wr) (hb : Below wr.heap.size wr w') (hl : lo ≤ wr.heap.size) : FrI lo hi w w' := h.trans (FrI.of hb hl)
/-- The marks' value. -/
def mrkV (last g nw : Nat) : Value := .agg #[.int .i64 (last : Int), .slice (some ⟨g, 0, none⟩) nw nw]

set_option maxRecDepth 100000 in
set_option maxHeartbeats 4000000 in
theorem newMarks_any (last : Nat) (hl : last ≤ 1000) (w : World) : Calls Tryd.prog 37 #[.int .i64 (last : Int)] w fun e w' => ∃ g, e = .returned (mrkV last g (last / 64 + 1)) ∧ w.heap.size ≤ g ∧ MrkAt w' g (List.replicate (last / 64 + 1) 0) ∧ Below w.heap.size w w' := by
  obtain ⟨i0, hi0, hz0, hz1, hz2⟩ := info_parts Tryd.infoU64
  obtain ⟨nw, hnw⟩ : ∃ nw, nw = last / 64 + 1 := ⟨_, rfl⟩
  have hni : (last : Int) / 64 + 1 = (nw : Int) := by omega
  have hnl : nw ≤ 100 := by omega
  have hmk : ∀ W, Sem.run Tryd.prog (Instr.makeSlice 36 (.int .i64 (nw : Int)) (.int .i64 (nw : Int))) W = .ok (.slice (some ⟨W.heap.size, 0, none⟩) nw nw) (W.alloc (.cells (cellU (List.replicate nw 0)).toArray 42)) := fun W => by
    have := run_make (P := Tryd.prog) W 36 42 i0 (.int .u64 0) Tryd.underlying36 hi0 hz0 .i64 .i64 (nw : Int) (nw : Int) (by omega) (by omega) (by rw [hz2]; omega) (by omega)
    rw [this, hz1]
    have e : madeCells (Value.int .u64 0).cells ((nw : Int).toNat * 1) = (cellU (List.replicate nw 0)).toArray := by
      rw [← Array.toList_inj]
      have := toList_madeCells_one (Value.int .u64 0) nw
      simp only [Int.toNat_natCast, Nat.mul_one]
      refine Eq.trans this ?_
      simp [cellU]
    rw [e]
    simp
  rw [← hnw]
  have HB : Hid (∀ x o, Below w.heap.size w ((w.alloc x).alloc o)) := fun x o => ((Below.refl _ _).alloc (Nat.le_refl _) _).alloc (by simp) _
  clear hnw
  go_enter Tryd.func37, Tryd.ntmps37
  go_wp2
  refine bodyPost_ret (results_cell_row rfl _ _ w.heap.size 63 #[.int .i64 (last : Int), .slice (some ⟨w.heap.size + 1, 0, none⟩) nw nw] (0, 0) _ rfl ?_ Tryd.underlying63 rfl (by kernel_rfl)) rfl ?_
  · rw [Below.heap_alloc _ _ _ (by simp)]; exact heap_new' _ _
  · refine ⟨w.heap.size + 1, rfl, by omega, ?_, HB.out _ _⟩
    have := heap_new' (w.alloc (.cells #[.int .i64 (last : Int), .slice (some ⟨w.heap.size + 1, 0, none⟩) nw nw] 63)) (.cells (cellU (List.replicate nw 0)).toArray 42)
    rw [World.size_alloc] at this
    exact this

theorem PlcAt.at {b0 B : Nat} {w : World} {a : Option Addr} {len cap : Nat} {l : List Nat} (h : PlcAt b0 B w (.slice a len cap) l) (hl : len = l.length) {j : Nat} (hj : j < l.length) : ∃ ga oa, a = some ⟨ga, oa, none⟩ ∧ (ga < b0 ∨ B ≤ ga) ∧ ga < w.heap.size ∧ w.cell? ⟨ga, oa + j, none⟩ = some (.int .i64 (l[j] : Int)) := by
  obtain ⟨a', c', e1, _, _, hx⟩ := h
  obtain ⟨g, off, e2, h1, h2, h3⟩ := hx j hj
  exact ⟨g, off, by simp at e1; rw [e1.1]; exact e2, h1, h2, h3⟩

set_option maxRecDepth 100000 in
set_option maxHeartbeats 4000000 in
theorem mput_any (last g nw : Nat) (ms l : List Nat) (v : Value) (w : World) (b0 B : Nat) (hm : MrkAt w g ms) (hf : Fit ms) (hn : ms.length = nw) (hnw : nw = last / 64 + 1) (hv : PlcAt b0 B w v l) (hx : ∀ x ∈ l, x ≤ last) (hll : l.length ≤ 100000) (hg : b0 ≤ g ∧ g < B) (hl : last ≤ 1000) :
    Calls Tryd.prog 51 #[mrkV last g nw, v] w fun e w' => e = .returned (.tuple #[]) ∧ ∃ ms', ms'.length = nw ∧ Fit ms' ∧ (∀ y, mb ms' y = (mb ms y || decide (y ∈ l))) ∧ MrkAt w' g ms' ∧ FrI g (g + 1) w w' := by
  have HV : Hid (PlcAt b0 B w v l) := hv
  obtain ⟨a, cap, rfl, hcap, _, _⟩ := hv
  have hglt : g < w.heap.size := hm.lt
  obtain ⟨len, hle⟩ : ∃ len, len = l.length := ⟨_, rfl⟩
  rw [← hle] at hcap HV hll ⊢
  have HLE : Hid (len = l.length) := hle
  have HM : Hid (MrkAt w g ms) := hm
  have HF : Hid (Fit ms) := hf
  have HN : Hid (ms.length = nw) := hn
  have HNW : Hid (nw = last / 64 + 1) := hnw
  have HX : Hid (∀ x ∈ l, x ≤ last) := hx
  have HB0 : Hid (FrI g (g + 1) w (w.alloc (.cells #[.int .i64 (last : Int), .slice (some ⟨g, 0, none⟩) nw nw] 63))) := FrI.of (below_alloc _ _) (by omega)
  have HE0 : Hid ((w.alloc (.cells #[.int .i64 (last : Int), .slice (some ⟨g, 0, none⟩) nw nw] 63)).heap[w.heap.size]? = some (.cells #[.int .i64 (last : Int), .slice (some ⟨g, 0, none⟩) nw nw] 63 (0, 0))) := heap_new' _ _
  have HM0 : Hid (MrkAt (w.alloc (.cells #[.int .i64 (last : Int), .slice (some ⟨g, 0, none⟩) nw nw] 63)) g ms) := (Below.heap_alloc _ _ _ hglt).trans hm
  unfold mrkV
  clear hle hm hf hn hnw hx
  go_enter Tryd.func51, Tryd.ntmps51
  go_wp2
  go_loopw [8] (fun x8 wr => ∃ (j : Nat) (ns : List Nat), j ≤ len ∧ x8 = .int .i64 (j : Int) ∧ Hid (ns.length = nw) ∧ Hid (Fit ns) ∧ Hid (∀ y, mb ns y = (mb ms y || decide (y ∈ l.take j))) ∧ Hid (MrkAt wr g ns) ∧ Hid (FrI g (g + 1) w wr) ∧ Hid (wr.heap[w.heap.size]? = some (.cells #[.int .i64 (last : Int), .slice (some ⟨g, 0, none⟩) nw nw] 63 (0, 0)))) (fun x8 _ => len - (intOf x8).toNat)
  case atStart => exact ⟨0, ms, Nat.zero_le _, rfl, HN, HF, (fun y => by simp), HM0, HB0, HE0⟩
  case round =>
    obtain ⟨j, ns, hj, rfl, HNL, HNF, HNB, HNM, HFR, HE⟩ := hrel
    have b0' : wr.cell? ⟨w.heap.size, 0, none⟩ = some (.int .i64 (last : Int)) := cell_in HE.out 0
    have b1' : wr.cell? ⟨w.heap.size, 1, none⟩ = some (.slice (some ⟨g, 0, none⟩) nw nw) := cell_in HE.out 1
    have hws : w.heap.size < wr.heap.size := lt_of_heap HE.out
    by_cases hjl : j < len
    · have hjn : j < l.length := by rw [← HLE.out]; exact hjl
      obtain ⟨ga, oa, rfl, hBg, hga, c0⟩ := HV.out.at HLE.out hjn
      obtain ⟨x, hx⟩ : ∃ x, x = l[j] := ⟨_, rfl⟩
      rw [← hx] at c0
      have HXX : Hid (x = l[j]) := hx
      have hxl : x ≤ last := by rw [hx]; exact HX.out _ (List.getElem_mem hjn)
      have c1 : wr.cell? ⟨ga, oa + j, none⟩ = some (.int .i64 (x : Int)) := (World.cell?_of_block (a := ⟨ga, _, none⟩) (HFR.out.block (k := ga) (by omega))).trans c0
      have hxn : x / 64 < ns.length := by rw [HNL.out, HNW.out]; omega
      have hxn' : x / 64 < nw := by rw [HNW.out]; omega
      obtain ⟨M, hM⟩ : ∃ M, M = ns[x / 64] := ⟨_, rfl⟩
      have m0 : wr.cell? ⟨g, x / 64, none⟩ = some (.int .u64 (M : Int)) := by rw [hM]; exact HNM.out.cell hxn
      have HMM : Hid (M = ns[x / 64]) := hM
      have HM64 : Hid (M < 2 ^ 64) := by show _ < _; rw [hM]; exact HNF.out _ (List.getElem_mem hxn)
      have HOR : Hid (bits .or .u64 (M : Int) (IntKind.u64.wrap ((2 : Int) ^ (x % 64))) = ((M ||| 2 ^ (x % 64) : Nat) : Int)) := or_bit HM64.out (by omega)
      have hnf : wr.frozen? ⟨g, x / 64, none⟩ = false := by have := HNM.out; unfold MrkAt at this; simp [World.frozen?, this]
      have hj0 : (0 : Int) ≤ (j : Int) := by omega
      have hj1 : (j : Int) < (len : Int) := by omega
      have hx1 : (x : Int) ≤ (last : Int) := by omega
      have hi0 : (0 : Int) ≤ (x : Int) / 64 := by omega
      have hi1 : (x : Int) / 64 < (nw : Int) := by omega
      have HTK : Hid (l.take (j + 1) = l.take j ++ [x]) := by
        show _ = _
        rw [List.take_add_one, List.getElem?_eq_getElem hjn, hx]; rfl
      clear hM hx c0
      have HNS : Hid ((ns.set (x / 64) (M ||| 2 ^ (x % 64))).length = nw) := by show _ = _; rw [List.length_set]; exact HNL.out
      have HFS : Hid (Fit (ns.set (x / 64) (M ||| 2 ^ (x % 64)))) := fit_set HNF.out _ (Nat.or_lt_two_pow HM64.out (pow64 (by omega)))
      have HBS : Hid (∀ y, mb (ns.set (x / 64) (M ||| 2 ^ (x % 64))) y = (mb ms y || decide (y ∈ l.take (j + 1)))) := fun y => by
        rw [HMM.out, mb_set hxn, HNB.out, HTK.out, Bool.or_assoc]
        congr 1
        simp
      have HMS : Hid (MrkAt (wr.setCell ⟨g, x / 64, none⟩ (.int .u64 (bits .or .u64 (M : Int) (IntKind.u64.wrap ((2 : Int) ^ (x % 64)))))).drew g (ns.set (x / 64) (M ||| 2 ^ (x % 64)))) := by
        rw [HOR.out]; exact HNM.out.set _ _
      have HFS2 : Hid (FrI g (g + 1) w (wr.setCell ⟨g, x / 64, none⟩ (.int .u64 (bits .or .u64 (M : Int) (IntKind.u64.wrap ((2 : Int) ^ (x % 64)))))).drew) := (HFR.out.set (Nat.le_refl _) (by omega) _).drew
      have HES : Hid ((wr.setCell ⟨g, x / 64, none⟩ (.int .u64 (bits .or .u64 (M : Int) (IntKind.u64.wrap ((2 : Int) ^ (x % 64)))))).drew.heap[w.heap.size]? = some (.cells #[.int .i64 (last : Int), .slice (some ⟨g, 0, none⟩) nw nw] 63 (0, 0))) := (Below.heap_setCell _ _ _ _ (by show w.heap.size ≠ g; omega)).trans HE.out
      go_wp2
      go_region
      go_wp2
      go_roundw
      case rel => exact ⟨j + 1, _, by omega, by go_num, HNS, HFS, HBS, HMS, HFS2, HES⟩
      case measure => simp [intOf]; omega
    · obtain rfl : j = len := by omega
      have HEQ : Hid (l.take j = l) := List.take_of_length_le (by rw [← HLE.out]; exact Nat.le_refl _)
      go_wp2
      go_end0
      refine ⟨rfl, ns, HNL.out, HNF.out, ?_, HNM.out, HFR.out⟩
      have := HNB.out
      rw [HEQ.out] at this
      exact this

set_option maxRecDepth 100000 in
set_option maxHeartbeats 4000000 in
theorem marked_any (last : Nat) (l : List Nat) (v : Value) (w : World) (b0 B : Nat) (hv : PlcAt b0 B w v l) (hx : ∀ x ∈ l, x ≤ last) (hll : l.length ≤ 100000) (hl : last ≤ 1000) :
    Calls Tryd.prog 40 #[v, .int .i64 (last : Int)] w fun e w' => ∃ g ms, e = .returned (mrkV last g (last / 64 + 1)) ∧ w.heap.size ≤ g ∧ ms.length = last / 64 + 1 ∧ Fit ms ∧ (∀ y, mb ms y = decide (y ∈ l)) ∧ MrkAt w' g ms ∧ Below w.heap.size w w' := by
  have h1 := newMarks_any last hl (w.alloc (.cells #[.int .i64 0, .slice none 0 0] 63))
  have HB0 : Hid (Below w.heap.size w (w.alloc (.cells #[.int .i64 0, .slice none 0 0] 63))) := below_alloc _ _
  have HE0 : Hid ((w.alloc (.cells #[.int .i64 0, .slice none 0 0] 63)).heap[w.heap.size]? = some (.cells #[.int .i64 0, .slice none 0 0] 63 (0, 0))) := heap_new' _ _
  have HV : Hid (PlcAt b0 B w v l) := hv
  have HX : Hid (∀ x ∈ l, x ≤ last) := hx
  obtain ⟨va, vc, hve, _⟩ := hv.slice
  subst hve
  obtain ⟨len, hle⟩ : ∃ len, len = l.length := ⟨_, rfl⟩
  rw [← hle] at HV hll ⊢
  have HLE : Hid (len = l.length) := hle
  obtain ⟨nw, hnw⟩ : ∃ nw, nw = last / 64 + 1 := ⟨_, rfl⟩
  rw [← hnw] at h1 ⊢
  have HNW : Hid (nw = last / 64 + 1) := hnw
  clear hv hx hle hnw
  go_enter Tryd.func40, Tryd.ntmps40
  go_wp2_with fail
  refine h1.mono ?_
  rintro e w1 ⟨g, rfl, hg, hm, hB⟩
  unfold mrkV
  have hs1 : w.heap.size + 1 ≤ w1.heap.size := by have := hB.size; simp at this; omega
  have hg1 : w.heap.size + 1 ≤ g := by simpa using hg
  have hgl : g < w1.heap.size := hm.lt
  obtain ⟨W2, hW2⟩ : ∃ W, W = w1.alloc (.cells #[.int .i64 (last : Int), .slice (some ⟨g, 0, none⟩) nw nw] 63) := ⟨_, rfl⟩
  have hBW : Below w.heap.size w W2 := by rw [hW2]; exact (HB0.out.trans (hB.mono (by simp))).alloc (by omega) _
  have hm2 : MrkAt W2 g (List.replicate nw 0) := by rw [hW2]; exact (Below.heap_alloc _ _ _ hgl).trans hm
  have hbx : W2.heap[w1.heap.size]? = some (.cells #[.int .i64 (last : Int), .slice (some ⟨g, 0, none⟩) nw nw] 63 (0, 0)) := by rw [hW2]; exact heap_new' _ _
  have hE2 : W2.heap[w.heap.size]? = some (.cells #[.int .i64 0, .slice none 0 0] 63 (0, 0)) := by
    rw [hW2, Below.heap_alloc _ _ _ (by omega)]
    exact (hB.block _ (by simp)).trans HE0.out
  have hv2 : PlcAt w.heap.size (W2.heap.size + 1) W2 (.slice va len vc) l := by
    have := HV.out
    obtain ⟨a, cap, e, hc, hn, hi⟩ := this
    refine ⟨a, cap, e, hc, hn, fun i hi' => ?_⟩
    obtain ⟨g', off, e1, _, h3, h4⟩ := hi i hi'
    exact ⟨g', off, e1, .inl h3, Nat.lt_of_lt_of_le h3 hBW.size, (hBW.cell (p := ⟨g', _, none⟩) h3).trans h4⟩
  have h2 := mput_any last g nw (List.replicate nw 0) l (.slice va len vc) W2 w.heap.size (W2.heap.size + 1) hm2 (fit_zero _) (by simp) HNW.out hv2 HX.out (by rw [← HLE.out]; exact hll) ⟨by omega, by have := hm2.lt; omega⟩ hl
  have hsz2 : W2.heap.size = w1.heap.size + 1 := by rw [hW2]; simp
  have HW2 : Hid (Below w.heap.size w W2) := hBW
  have HBX : Hid (W2.heap[w1.heap.size]? = some (.cells #[.int .i64 (last : Int), .slice (some ⟨g, 0, none⟩) nw nw] 63 (0, 0))) := hbx
  have HE2 : Hid (W2.heap[w.heap.size]? = some (.cells #[.int .i64 0, .slice none 0 0] 63 (0, 0))) := hE2
  have HS2 : Hid (W2.heap.size = w1.heap.size + 1) := hsz2
  unfold mrkV at h2
  rw [hW2] at h2
  clear h1 hm hB hbx hE2 hm2 hv2 hBW
  go_wp2_with fail
  refine h2.mono ?_
  rintro e w3 ⟨rfl, ms', hl3, hf3, hb3, hm3, hfr3⟩
  rw [← hW2] at hfr3
  have hsz3 : w1.heap.size + 1 ≤ w3.heap.size := by have := hfr3.size; have := HS2.out; omega
  have e3 : w3.heap[w1.heap.size]? = some (.cells #[.int .i64 (last : Int), .slice (some ⟨g, 0, none⟩) nw nw] 63 (0, 0)) := (hfr3.block (k := w1.heap.size) (by have := HS2.out; omega)).trans HBX.out
  have d0 : w3.cell? ⟨w1.heap.size, 0, none⟩ = some (.int .i64 (last : Int)) := cell_in e3 0
  have d1 : w3.cell? ⟨w1.heap.size, 1, none⟩ = some (.slice (some ⟨g, 0, none⟩) nw nw) := cell_in e3 1
  have HE3 : Hid (w3.heap[w.heap.size]? = some (.cells #[.int .i64 0, .slice none 0 0] 63 (0, 0))) := (hfr3.block (k := w.heap.size) (by omega)).trans HE2.out
  have hnf0 : w3.frozen? ⟨w.heap.size, 0, none⟩ = false := by simp [World.frozen?, HE3.out]
  have hnf1 : w3.frozen? ⟨w.heap.size, 1, none⟩ = false := by simp [World.frozen?, HE3.out]
  have r0 : w3.cell? ⟨w.heap.size, 0, none⟩ = some (.int .i64 0) := cell_in HE3.out 0
  have r1 : w3.cell? ⟨w.heap.size, 1, none⟩ = some (.slice none 0 0) := cell_in HE3.out 1
  have HL3 : Hid (ms'.length = nw) := hl3
  have HM3 : Hid (MrkAt w3 g ms') := hm3
  have HB3 : Hid (Below w.heap.size w w3) := HW2.out.trans (hfr3.1.mono (by omega))
  have HF3 : Hid (Fit ms' ∧ ∀ y, mb ms' y = decide (y ∈ l)) := ⟨hf3, fun y => by rw [hb3, mb_zero]; rfl⟩
  clear h2 hl3 hf3 hb3 hm3 hfr3 e3 hW2
  go_wp2
  refine bodyPost_ret (results_cell_row rfl _ _ w.heap.size 63 #[.int .i64 (last : Int), .slice (some ⟨g, 0, none⟩) nw nw] (0, 0) _ rfl ?_ Tryd.underlying63 rfl (by kernel_rfl)) rfl ?_
  · exact cells_set2 HE3.out _ _
  · refine ⟨g, ms', rfl, by omega, HL3.out, HF3.out.1, HF3.out.2, ?_, (HB3.out.setCell (Nat.le_refl _) _).setCell (Nat.le_refl _) _⟩
    exact (Below.heap_setCell _ _ _ _ (by show g ≠ w.heap.size; omega)).trans ((Below.heap_setCell _ _ _ _ (by show g ≠ w.heap.size; omega)).trans HM3.out)

theorem mb_getD {ms ns os : List Nat} (h : ∀ i, ns.getD i 0 = ms.getD i 0 ||| os.getD i 0) (y : Nat) : mb ns y = (mb ms y || mb os y) := by
  unfold mb
  rw [h, Nat.testBit_or]
theorem getD_at {ms : List Nat} {i : Nat} (h : i < ms.length) : ms.getD i 0 = ms[i] := by
  rw [List.getD_eq_getElem?_getD, List.getElem?_eq_getElem h]; rfl
theorem getD_set {ms : List Nat} {j x i : Nat} (h : j < ms.length) : (ms.set j x).getD i 0 = if i = j then x else ms.getD i 0 := by
  rw [List.getD_eq_getElem?_getD, List.getD_eq_getElem?_getD, List.getElem?_set]
  by_cases e : j = i
  · rw [if_pos e, if_pos h, if_pos e.symm]; rfl
  · rw [if_neg e, if_neg (fun q => e q.symm)]
theorem getD_out {ms : List Nat} {i : Nat} (h : ms.length ≤ i) : ms.getD i 0 = 0 := by
  rw [List.getD_eq_getElem?_getD, List.getElem?_eq_none h]; rfl

set_option maxRecDepth 100000 in
set_option maxHeartbeats 4000000 in
theorem mjoin_any (last last' g g' nw : Nat) (ms os : List Nat) (w : World) (hm : MrkAt w g ms) (hf : Fit ms) (hn : ms.length = nw) (ho : MrkAt w g' os) (hof : Fit os) (hon : os.length = nw) (hne : g ≠ g') (hnw : nw ≤ 1000) :
    Calls Tryd.prog 41 #[mrkV last g nw, mrkV last' g' nw] w fun e w' => e = .returned (.tuple #[]) ∧ ∃ ms', ms'.length = nw ∧ Fit ms' ∧ (∀ y, mb ms' y = (mb ms y || mb os y)) ∧ MrkAt w' g ms' ∧ FrI g (g + 1) w w' := by
  obtain ⟨W0, hW0⟩ : ∃ W, W = (w.alloc (.cells #[.int .i64 (last : Int), .slice (some ⟨g, 0, none⟩) nw nw] 63)).alloc (.cells #[.int .i64 (last' : Int), .slice (some ⟨g', 0, none⟩) nw nw] 63) := ⟨_, rfl⟩
  obtain ⟨hE0, hE1, hB0, hs0⟩ := alloc2 hW0
  have hgl := hm.lt
  have hgl' := ho.lt
  have HM0 : Hid (MrkAt W0 g ms) := (hB0.block _ hgl).trans hm
  have HO0 : Hid (MrkAt W0 g' os) := (hB0.block _ hgl').trans ho
  have HF : Hid (Fit ms) := hf
  have HOF : Hid (Fit os) := hof
  have HN : Hid (ms.length = nw) := hn
  have HON : Hid (os.length = nw) := hon
  have HR0 : Hid (FrI g (g + 1) w W0) := FrI.of hB0 (by omega)
  have HE0 : Hid (W0.heap[w.heap.size]? = some (.cells #[.int .i64 (last : Int), .slice (some ⟨g, 0, none⟩) nw nw] 63 (0, 0)) ∧ W0.heap[w.heap.size + 1]? = some (.cells #[.int .i64 (last' : Int), .slice (some ⟨g', 0, none⟩) nw nw] 63 (0, 0))) := ⟨hE0, hE1⟩
  have HW0 : Hid (W0 = (w.alloc (.cells #[.int .i64 (last : Int), .slice (some ⟨g, 0, none⟩) nw nw] 63)).alloc (.cells #[.int .i64 (last' : Int), .slice (some ⟨g', 0, none⟩) nw nw] 63)) := hW0
  unfold mrkV
  clear hm ho hf hof hn hon hE0 hE1 hB0 hs0 hW0
  go_enter Tryd.func41, Tryd.ntmps41
  go_wp2
  rw [← HW0.out]
  go_loopw [8] (fun x8 wr => ∃ (j : Nat) (ns : List Nat), j ≤ nw ∧ x8 = .int .i64 (j : Int) ∧ Hid (ns.length = nw) ∧ Hid (Fit ns) ∧ Hid (∀ i, ns.getD i 0 = if i < j then ms.getD i 0 ||| os.getD i 0 else ms.getD i 0) ∧ Hid (MrkAt wr g ns) ∧ Hid (MrkAt wr g' os) ∧ Hid (FrI g (g + 1) w wr) ∧ Hid (wr.heap[w.heap.size]? = some (.cells #[.int .i64 (last : Int), .slice (some ⟨g, 0, none⟩) nw nw] 63 (0, 0)) ∧ wr.heap[w.heap.size + 1]? = some (.cells #[.int .i64 (last' : Int), .slice (some ⟨g', 0, none⟩) nw nw] 63 (0, 0)))) (fun x8 _ => nw - (intOf x8).toNat)
  case atStart => exact ⟨0, ms, Nat.zero_le _, rfl, HN, HF, (fun i => by simp), HM0, HO0, HR0, HE0⟩
  case round =>
    obtain ⟨j, ns, hj, rfl, HNL, HNF, HNB, HNM, HNO, HFR, HE⟩ := hrel
    have b1 : wr.cell? ⟨w.heap.size, 1, none⟩ = some (.slice (some ⟨g, 0, none⟩) nw nw) := cell_in HE.out.1 1
    have b2 : wr.cell? ⟨w.heap.size + 1, 1, none⟩ = some (.slice (some ⟨g', 0, none⟩) nw nw) := cell_in HE.out.2 1
    by_cases hjl : j < nw
    · have hjn : j < ns.length := by rw [HNL.out]; exact hjl
      have hjo : j < os.length := by rw [HON.out]; exact hjl
      have hjm : j < ms.length := by rw [HN.out]; exact hjl
      obtain ⟨M, hM⟩ : ∃ M, M = ns[j] := ⟨_, rfl⟩
      obtain ⟨O, hO⟩ : ∃ O, O = os[j] := ⟨_, rfl⟩
      have m0 : wr.cell? ⟨g, j, none⟩ = some (.int .u64 (M : Int)) := by rw [hM]; exact HNM.out.cell hjn
      have o0 : wr.cell? ⟨g', j, none⟩ = some (.int .u64 (O : Int)) := by rw [hO]; exact HNO.out.cell hjo
      have HM64 : Hid (M < 2 ^ 64) := by show _ < _; rw [hM]; exact HNF.out _ (List.getElem_mem hjn)
      have HO64 : Hid (O < 2 ^ 64) := by show _ < _; rw [hO]; exact HOF.out _ (List.getElem_mem hjo)
      have HMM : Hid (M = ms.getD j 0 ∧ O = os.getD j 0) := by
        have := HNB.out j
        rw [if_neg (by omega), getD_at hjn] at this
        exact ⟨by rw [hM, this], by rw [hO, getD_at hjo]⟩
      have HOR : Hid (bits .or .u64 (M : Int) (O : Int) = ((M ||| O : Nat) : Int)) := bits_or_u64_nat M O (by simpa using HM64.out) (by simpa using HO64.out)
      have hnf : wr.frozen? ⟨g, j, none⟩ = false := by have := HNM.out; unfold MrkAt at this; simp [World.frozen?, this]
      have hj0 : (0 : Int) ≤ (j : Int) := by omega
      have hj1 : (j : Int) < (nw : Int) := by omega
      have HNS : Hid ((ns.set j (M ||| O)).length = nw) := by show _ = _; rw [List.length_set]; exact HNL.out
      have HFS : Hid (Fit (ns.set j (M ||| O))) := fit_set HNF.out _ (Nat.or_lt_two_pow HM64.out HO64.out)
      have HBS : Hid (∀ i, (ns.set j (M ||| O)).getD i 0 = if i < j + 1 then ms.getD i 0 ||| os.getD i 0 else ms.getD i 0) := fun i => by
        rw [getD_set hjn, HNB.out i]
        by_cases e : i = j
        · subst e
          rw [if_pos rfl, if_pos (by omega), HMM.out.1, HMM.out.2]
        · rw [if_neg e]
          by_cases q : i < j
          · rw [if_pos q, if_pos (by omega)]
          · rw [if_neg q, if_neg (by omega)]
      have HMS : Hid (MrkAt (wr.setCell ⟨g, j, none⟩ (.int .u64 (bits .or .u64 (M : Int) (O : Int)))).drew g (ns.set j (M ||| O))) := by
        rw [HOR.out]; exact HNM.out.set _ _
      have HOS : Hid (MrkAt (wr.setCell ⟨g, j, none⟩ (.int .u64 (bits .or .u64 (M : Int) (O : Int)))).drew g' os) := (Below.heap_setCell _ _ _ _ (by show g' ≠ g; omega)).trans HNO.out
      have HFS2 : Hid (FrI g (g + 1) w (wr.setCell ⟨g, j, none⟩ (.int .u64 (bits .or .u64 (M : Int) (O : Int)))).drew) := (HFR.out.set (Nat.le_refl _) (by omega) _).drew
      have HES : Hid ((wr.setCell ⟨g, j, none⟩ (.int .u64 (bits .or .u64 (M : Int) (O : Int)))).drew.heap[w.heap.size]? = some (.cells #[.int .i64 (last : Int), .slice (some ⟨g, 0, none⟩) nw nw] 63 (0, 0)) ∧ (wr.setCell ⟨g, j, none⟩ (.int .u64 (bits .or .u64 (M : Int) (O : Int)))).drew.heap[w.heap.size + 1]? = some (.cells #[.int .i64 (last' : Int), .slice (some ⟨g', 0, none⟩) nw nw] 63 (0, 0))) := ⟨(Below.heap_setCell _ _ _ _ (by show w.heap.size ≠ g; omega)).trans HE.out.1, (Below.heap_setCell _ _ _ _ (by show w.heap.size + 1 ≠ g; omega)).trans HE.out.2⟩
      clear hM hO
      go_wp2
      go_region
      go_wp2
      go_roundw
      case rel => exact ⟨j + 1, _, by omega, by go_num, HNS, HFS, HBS, HMS, HOS, HFS2, HES⟩
      case measure => simp [intOf]; omega
    · obtain rfl : j = nw := by omega
      go_wp2
      go_end0
      refine ⟨rfl, ns, HNL.out, HNF.out, mb_getD (fun i => ?_), HNM.out, HFR.out⟩
      rw [HNB.out i]
      by_cases q : i < j
      · rw [if_pos q]
      · rw [if_neg q, getD_out (ms := os) (by rw [HON.out]; omega), Nat.or_zero]

/-- The table of math/bits. -/
def TabW (w : World) : Prop := 0 < w.heap.size ∧ TabAt 0 Lib.deBruijn64tab w
theorem TabW.below {w w' : World} (h : TabW w) (hb : Below w.heap.size w w') : TabW w' := ⟨Nat.lt_of_lt_of_le h.1 hb.size, fun j hj => (hb.cell (p := ⟨_, _, none⟩) h.1).trans (h.2 j hj)⟩
set_option maxRecDepth 100000 in
set_option maxHeartbeats 4000000 in
theorem tz_any (x : Nat) (hx : x < 18446744073709551616) (h0 : x ≠ 0) (w : World) (hT : TabW w) : Calls Tryd.prog 68 #[.int .u64 (x : Int)] w fun e w' => e = .returned (.int .i64 (Lib.ctz 64 x : Int)) ∧ w' = w := by
  obtain ⟨hlow, hk⟩ := Lib.lowest_bit 64 x h0 hx
  obtain ⟨hi, htab⟩ := Lib.deBruijn64_at _ hk
  have hcell := hT.2 _ hi
  rw [htab] at hcell
  have key := tz64_key x _ hx h0 hlow
  have hx0 : ((x : Int) == 0) = false := by simp; omega
  obtain ⟨k, hkk⟩ : ∃ k, k = Lib.ctz 64 x := ⟨_, rfl⟩
  obtain ⟨idx, hix⟩ : ∃ i, i = 2 ^ Lib.ctz 64 x * 285870213051353865 % 18446744073709551616 / 288230376151711744 := ⟨_, rfl⟩
  rw [← hix] at key hcell hi
  rw [← hkk] at hcell hk ⊢
  have hg := hT.1
  clear hlow htab hT hix hkk
  go_enter Tryd.func68, Tryd.ntmps68
  go_wp2_with (simp only [key])
  go_ret
  exact ⟨rfl, rfl⟩
end Go.Proofs.YtehkaiohmcenbaaDoor
