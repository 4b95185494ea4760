/-
  ucd.entries, scriptEntries, shipped: the entries of the four tables.
-/
import Derived.Test.YtpmlbdfdiebkcaaDoorTables
import Derived.Test.YtpmlbdfdiebkcaaDoorProps
namespace Go.Proofs.YtpmlbdfdiebkcaaDoor
open Go.RowKit
set_option linter.unusedVariables false

/-- The slice value v holds the ranges l. -/
def SpansIn (w : World) (v : Value) (l : List Sp) : Prop :=
  ∃ a cap, v = .slice a l.length cap ∧ ∀ i, (h : i < l.length) → ∃ g off, a = some ⟨g, off, none⟩ ∧ g < w.heap.size ∧ w.cell? ⟨g, off + i * 2, none⟩ = some (.int .i64 l[i].1) ∧ w.cell? ⟨g, off + i * 2 + 1, none⟩ = some (.int .i64 l[i].2)
def ListsIn (w : World) (v : Value) (LL : List (List Sp)) : Prop :=
  ∃ a cap, v = .slice a LL.length cap ∧ ∀ i, (h : i < LL.length) → ∃ g off vi, a = some ⟨g, off, none⟩ ∧ g < w.heap.size ∧ w.cell? ⟨g, off + i, none⟩ = some vi ∧ SpansIn w vi LL[i]
theorem SpansIn.below {w w' : World} {v : Value} {l : List Sp} (h : SpansIn w v l) (hb : Below w.heap.size w w') : SpansIn w' v l := by
  obtain ⟨a, cap, rfl, hi⟩ := h
  refine ⟨a, cap, rfl, fun i hlt => ?_⟩
  obtain ⟨g, off, rfl, hg, h0, h1⟩ := hi i hlt
  exact ⟨g, off, rfl, by have := hb.size; omega, (hb.cell (p := ⟨g, _, none⟩) hg).trans h0, (hb.cell (p := ⟨g, _, none⟩) hg).trans h1⟩
theorem ListsIn.below {w w' : World} {v : Value} {LL : List (List Sp)} (h : ListsIn w v LL) (hb : Below w.heap.size w w') : ListsIn w' v LL := by
  obtain ⟨a, cap, rfl, hi⟩ := h
  refine ⟨a, cap, rfl, fun i hlt => ?_⟩
  obtain ⟨g, off, vi, rfl, hg, h0, h1⟩ := hi i hlt
  exact ⟨g, off, vi, rfl, by have := hb.size; omega, (hb.cell (p := ⟨g, _, none⟩) hg).trans h0, h1.below hb⟩
theorem cellsS_at : ∀ (l : List Sp) (i : Nat) (h : i < l.length), (cellsS l)[i * 2]? = some (.int .i64 l[i].1) ∧ (cellsS l)[i * 2 + 1]? = some (.int .i64 l[i].2)
  | u :: us, 0, h => ⟨rfl, rfl⟩
  | u :: us, i + 1, h => by
    have e : cellsS (u :: us) = .int .i64 u.1 :: .int .i64 u.2 :: cellsS us := rfl
    have := cellsS_at us i (by simpa using h)
    have e1 : (i + 1) * 2 = i * 2 + 1 + 1 := by omega
    rw [e, e1]
    simp only [List.getElem?_cons_succ, List.getElem_cons_succ]
    exact this
theorem spanW_below (w : World) (l : List Sp) : Below w.heap.size w (spanW w l) := (Below.refl _ _).alloc (Nat.le_refl _) _
theorem spanW_size (w : World) (l : List Sp) : (spanW w l).heap.size = w.heap.size + 1 := by simp [spanW]
theorem span_in (w : World) (l : List Sp) : SpansIn (spanW w l) (spanV w l) l := by
  refine ⟨_, _, rfl, fun i hi => ⟨w.heap.size, 0, rfl, by rw [spanW_size]; omega, ?_, ?_⟩⟩
  · rw [Nat.zero_add]; exact cell_row (heap_new' w _) (cellsS_at l i hi).1
  · rw [Nat.zero_add]; exact cell_row (heap_new' w _) (cellsS_at l i hi).2
theorem spansW_below : ∀ (LL : List (List Sp)) (w : World), Below w.heap.size w (spansW w LL)
  | [], w => Below.refl _ _
  | l :: LL, w => (spanW_below w l).trans ((spansW_below LL (spanW w l)).mono (by rw [spanW_size]; omega))
theorem spansV_in : ∀ (LL : List (List Sp)) (w w' : World), Below (spansW w LL).heap.size (spansW w LL) w' → ∀ j, (h : j < LL.length) → ∃ vj, (spansV w LL)[j]? = some vj ∧ SpansIn w' vj LL[j]
  | l :: LL, w, w', hb, 0, h => by
    refine ⟨spanV w l, rfl, ?_⟩
    have h1 := spansW_below LL (spanW w l)
    exact (span_in w l).below (h1.trans (hb.mono h1.size))
  | l :: LL, w, w', hb, j + 1, h => spansV_in LL (spanW w l) w' hb j (by simpa using h)
theorem listsW_below (w : World) (LL : List (List Sp)) : Below w.heap.size w (listsW w LL) := (spansW_below LL w).alloc (spansW_below LL w).size _
theorem lists_in (w : World) (LL : List (List Sp)) : ListsIn (listsW w LL) (listsV w LL) ([] :: LL) := by
  refine ⟨_, _, rfl, fun i hi => ?_⟩
  have hsz : (listsW w LL).heap.size = (spansW w LL).heap.size + 1 := by simp [listsW]
  cases i with
  | zero => exact ⟨_, 0, .slice none 0 0, rfl, by rw [hsz]; omega, cell_row (heap_new' _ _) rfl, none, 0, rfl, fun i hi => by simp at hi⟩
  | succ i =>
    obtain ⟨vj, h1, h2⟩ := spansV_in LL w (listsW w LL) ((Below.refl _ _).alloc (Nat.le_refl _) _) i (by simpa using hi)
    refine ⟨_, 0, vj, rfl, by rw [hsz]; omega, cell_row (heap_new' _ _) ?_, by simpa using h2⟩
    rw [Nat.zero_add]
    exact h1
/-- The entries of lists: each with its place as its value. -/
def spP (k : Nat) (s : Sp) : Pp := ⟨s.1, s.2, (k : Int)⟩
def entsF : Nat → List (List Sp) → List Pp
  | _, [] => []
  | k, l :: LL => l.map (spP k) ++ entsF (k + 1) LL
theorem ents_step : ∀ (LL : List (List Sp)) (k i : Nat) (h : i < LL.length), entsF k (LL.take (i + 1)) = entsF k (LL.take i) ++ (LL[i]).map (spP (k + i))
  | l :: LL, k, 0, h => by simp [entsF]
  | l :: LL, k, i + 1, h => by
    have := ents_step LL (k + 1) i (by simpa using h)
    simp only [List.take_succ_cons, entsF, List.getElem_cons_succ]
    have e : k + 1 + i = k + (i + 1) := by omega
    rw [this, List.append_assoc, e]
theorem ents_len : ∀ (LL : List (List Sp)) (k i : Nat), (entsF k (LL.take i)).length ≤ (entsF k LL).length
  | [], k, i => by simp [entsF]
  | l :: LL, k, 0 => by simp [entsF]
  | l :: LL, k, i + 1 => by
    have := ents_len LL (k + 1) i
    simp only [List.take_succ_cons, entsF, List.length_append]
    omega

theorem wrap_next {j : Nat} (h : j < 4611686018427387904) : wrap64 ((j : Int) + 1) = ((j + 1 : Nat) : Int) := by
  rw [← IntWalk.i64_left]
  exact (IntWalk.i64_in _ (by omega)).trans (by omega)
theorem meas_wrap {M j : Nat} (hw : wrap64 ((j : Int) + 1) = ((j + 1 : Nat) : Int)) (h : j < M) : M - (intOf (.int .i64 (wrap64 ((j : Int) + 1)))).toNat < M - (intOf (.int .i64 (j : Int))).toNat := by
  rw [hw]
  simp only [intOf, Int.toNat_natCast]
  omega

set_option maxRecDepth 100000 in
set_option maxHeartbeats 8000000 in
theorem entries_any (LL : List (List Sp)) (v : Value) (w : World) (hv : ListsIn w v LL) (hl : LL.length ≤ 255) (hn : (entsF 0 LL).length ≤ 4096) :
    Calls Tryd.prog 45 #[v] w fun e w' => ∃ v', e = .returned v' ∧ w'.ownsRow w.heap.size 70 3 v' (entsF 0 LL).length (cellsPs (entsF 0 LL)) ∧ Below w.heap.size w w' := by
  obtain ⟨iP, hiP, hzP0, hzP1, hzP2⟩ := info_parts Tryd.infoProp
  obtain ⟨a, cap, rfl, hcl⟩ := hv
  have HCL : Hid (∀ i, (h : i < LL.length) → ∃ g off vi, a = some ⟨g, off, none⟩ ∧ g < w.heap.size ∧ w.cell? ⟨g, off + i, none⟩ = some vi ∧ SpansIn w vi LL[i]) := hcl
  clear hcl
  go_enter Tryd.func45, Tryd.ntmps45
  go_wp2_with fail
  go_loopw [3, 10] (fun y x wr => ∃ k : Nat, k ≤ LL.length ∧ x = .int .i64 k ∧ wr.ownsRow w.heap.size 70 3 y (entsF 0 (LL.take k)).length (cellsPs (entsF 0 (LL.take k))) ∧ Below w.heap.size w wr) (fun _ x _ => LL.length - (intOf x).toNat)
  case atStart => exact ⟨0, Nat.zero_le _, rfl, World.ownsRow_nil _ _ _ _, Below.refl _ _⟩
  case round =>
    obtain ⟨k, hk, rfl, ho, hB⟩ := hrel
    have hbs := hB.size
    obtain ⟨wk, hwk⟩ : ∃ wk, wk = wr := ⟨_, rfl⟩
    obtain ⟨y, hy⟩ : ∃ y, y = u3 := ⟨_, rfl⟩
    by_cases hlt : k < LL.length
    · have hlt' : (k : Int) < (LL.length : Int) := by omega
      obtain ⟨g, off, vi, rfl, hg, hc, hsp⟩ := HCL.out k hlt
      have hc' : wr.cell? ⟨g, off + k, none⟩ = some vi := (hB.cell (p := ⟨g, _, none⟩) hg).trans hc
      obtain ⟨l, hl2⟩ : ∃ l, l = LL[k] := ⟨_, rfl⟩
      rw [← hl2] at hsp
      obtain ⟨ai, ci, rfl, hspc⟩ := hsp
      have HSP : Hid (∀ i, (h : i < l.length) → ∃ g off, ai = some ⟨g, off, none⟩ ∧ g < w.heap.size ∧ w.cell? ⟨g, off + i * 2, none⟩ = some (.int .i64 l[i].1) ∧ w.cell? ⟨g, off + i * 2 + 1, none⟩ = some (.int .i64 l[i].2)) := hspc
      have HST : Hid (entsF 0 (LL.take (k + 1)) = entsF 0 (LL.take k) ++ l.map (spP k)) := by show _ = _; rw [ents_step LL 0 k hlt, hl2, Nat.zero_add]
      have HLEN : Hid ((entsF 0 (LL.take k)).length + l.length ≤ 4096) := by
        show _ ≤ _
        have h1 := ents_len LL 0 (k + 1)
        rw [HST.out, List.length_append, List.length_map] at h1
        omega
      obtain ⟨E, hE⟩ : ∃ E, E = entsF 0 (LL.take k) := ⟨_, rfl⟩
      rw [← hE] at HST HLEN ho
      obtain ⟨HO, HB⟩ : Hid (wr.ownsRow w.heap.size 70 3 u3 E.length (cellsPs E)) ∧ Hid (Below w.heap.size w wr) := ⟨ho, hB⟩
      clear ho hB hc hspc hl2 hE
      subst hwk
      have HOK : Hid (wk.ownsRow w.heap.size 70 3 u3 E.length (cellsPs E)) := HO.out
      go_wp2_with fail
      go_loopw [3, 17] (fun y x wi => ∃ j : Nat, j ≤ l.length ∧ x = .int .i64 j ∧ wi.ownsRow w.heap.size 70 3 y (E ++ (l.take j).map (spP k)).length (cellsPs (E ++ (l.take j).map (spP k))) ∧ Below w.heap.size w wi) (fun _ x _ => l.length - (intOf x).toNat)
      case atStart => exact ⟨0, Nat.zero_le _, rfl, by simpa using HO.out, HB.out⟩
      case round =>
        obtain ⟨j, hj, rfl, ho, hB⟩ := hrel
        have hsi := hB.size
        by_cases hjl : j < l.length
        · have hjl' : (j : Int) < (l.length : Int) := by omega
          have HWJ : Hid (wrap64 ((j : Int) + 1) = ((j + 1 : Nat) : Int)) := wrap_next (by have := HLEN.out; omega)
          obtain ⟨g2, off2, rfl, hg2, c0, c1⟩ := HSP.out j hjl
          obtain ⟨p, hp⟩ : ∃ p, p = l[j] := ⟨_, rfl⟩
          have HSJ : Hid (E ++ (l.take (j + 1)).map (spP k) = (E ++ (l.take j).map (spP k)) ++ [spP k p]) := by
            show _ = _
            rw [List.take_succ_eq_append_getElem hjl, List.map_append, hp]
            simp
          rw [← hp] at c0 c1
          have d0 : wr.cell? ⟨g2, off2 + j * 2, none⟩ = some (.int .i64 p.1) := (hB.cell (p := ⟨g2, _, none⟩) hg2).trans c0
          have d1 : wr.cell? ⟨g2, off2 + j * 2 + 1, none⟩ = some (.int .i64 p.2) := (hB.cell (p := ⟨g2, _, none⟩) hg2).trans c1
          have HN : Hid ((E ++ (l.take j).map (spP k)).length ≤ 4096) := by
            show _ ≤ _
            have := HLEN.out
            rw [List.length_append, List.length_map, List.length_take]
            omega
          obtain ⟨R, hR⟩ : ∃ R, R = E ++ (l.take j).map (spP k) := ⟨_, rfl⟩
          rw [← hR] at HSJ ho HN
          obtain ⟨HOI, HBI⟩ : Hid (wr.ownsRow w.heap.size 70 3 u3 R.length (cellsPs R)) ∧ Hid (Below w.heap.size w wr) := ⟨ho, hB⟩
          have hwk2 : IntKind.u8.wrap (k : Int) = (k : Int) := by
            have : IntKind.u8.wrap (k : Int) = (k : Int) % 256 := by simp [IntKind.wrap, IntKind.signed, IntKind.bits]
            omega
          have HOA : Hid (((wr.alloc (.cells #[.int .i64 p.1, .int .i64 p.2] 110)).alloc (.cells #[.int .i64 p.1, .int .i64 p.2, .int .u8 (k : Int)] 70)).ownsRow w.heap.size 70 3 u3 R.length (cellsPs R)) := (HOI.out.alloc _).alloc _
          have HNA : Hid (((wr.alloc (.cells #[.int .i64 p.1, .int .i64 p.2] 110)).alloc (.cells #[.int .i64 p.1, .int .i64 p.2, .int .u8 (k : Int)] 70)).heap[wr.heap.size + 1]? = some (.cells #[.int .i64 p.1, .int .i64 p.2, .int .u8 (k : Int)] 70 (0, 0))) := heap_alloc2_new wr _ _
          have HBA : Hid (Below w.heap.size w ((wr.alloc (.cells #[.int .i64 p.1, .int .i64 p.2] 110)).alloc (.cells #[.int .i64 p.1, .int .i64 p.2, .int .u8 (k : Int)] 70))) := (HBI.out.alloc hsi _).alloc (by simp; omega) _
          clear c0 c1 hp ho hB hR
          go_wp2_with (first | (at_builtin; refine wpList_append_own _ rfl _ _ 45 rfl w.heap.size 70 iP (.agg #[.int .i64 0, .int .i64 0, .int .u8 0]) 3 24 Tryd.undPs hiP hzP0 hzP1 hzP2 rfl (by decide) _ _ _ rfl HOA.out ⟨wr.heap.size + 1, 0, none⟩ 1 1 (cellsP (spP k p)) rfl rfl (World.news_of_block HNA.out) (by simp [cellsP, Value.oneCell']) (by unfold maxLen; have := HN.out; omega) (by have := HN.out; omega) (by simp; omega) ?_; intro v2 w2 ho2 hg2 _; have HO2 : Hid (w2.ownsRow w.heap.size 70 3 v2 (R ++ [spP k p]).length (cellsPs (R ++ [spP k p]))) := (by rw [cellsPs_snoc, List.length_append]; exact ho2); have HG2 : Hid (Below w.heap.size w w2) := HBA.out.grown hg2 (by simp; omega) (fun j e => (HOA.out.lt j e).1); clear ho2 hg2) | fail)
          go_roundw
          case rel => exact ⟨j + 1, Nat.succ_le_of_lt hjl, congrArg (Value.int .i64) HWJ.out, by rw [HSJ.out]; exact HO2.out, HG2.out⟩
          case measure => exact meas_wrap HWJ.out hjl
        · have hjl' : ¬ ((j : Int) < (l.length : Int)) := by omega
          have hje : l.take j = l := List.take_of_length_le (by omega)
          rw [hje] at ho
          have HOI : Hid (wr.ownsRow w.heap.size 70 3 u3 (entsF 0 (LL.take (k + 1))).length (cellsPs (entsF 0 (LL.take (k + 1))))) := by rw [HST.out]; exact ho
          have HBI : Hid (Below w.heap.size w wr) := hB
          clear ho hB hje
          go_wp2_with fail
          go_roundw
          case rel => exact ⟨k + 1, by omega, by go_num, HOI.out, HBI.out⟩
          case measure => simp [intOf]; omega
    · have hlt' : ¬ ((k : Int) < (LL.length : Int)) := by omega
      have hke : LL.take k = LL := List.take_of_length_le (by omega)
      rw [hke] at ho
      obtain ⟨HO, HB⟩ : Hid (wr.ownsRow w.heap.size 70 3 u3 (entsF 0 LL).length (cellsPs (entsF 0 LL))) ∧ Hid (Below w.heap.size w wr) := ⟨ho, hB⟩
      clear ho hB hke
      go_wp2
      go_ret
      exact ⟨_, rfl, HO.out, HB.out⟩

end Go.Proofs.YtpmlbdfdiebkcaaDoor
