/-
  The document's answer: lists of truth values for places. The document's answer: whether an expression may be; where its words end.
-/
import Derived.Test.YtehkaiohmcenbaaDoorGB
namespace Go.Proofs.YtehkaiohmcenbaaDoor
open Go.RowKit Go.Shelf
set_option linter.unusedVariables false

/-- The slice value v holds the truth values bs. -/
def BlsIn (w : World) (v : Value) (bs : List Bool) : Prop :=
  ∃ a cap, v = .slice a bs.length cap ∧ bs.length ≤ cap ∧ ∀ i, (h : i < bs.length) → ∃ g off, a = some ⟨g, off, none⟩ ∧ g < w.heap.size ∧ w.cell? ⟨g, off + i, none⟩ = some (.bool bs[i])
theorem BlsIn.below {w w' : World} {v : Value} {bs : List Bool} (h : BlsIn w v bs) (hb : Below w.heap.size w w') : BlsIn w' v bs := by
  obtain ⟨a, cap, rfl, hc, hi⟩ := h
  refine ⟨a, cap, rfl, hc, fun i hlt => ?_⟩
  obtain ⟨g, off, rfl, hg, h0⟩ := hi i hlt
  exact ⟨g, off, rfl, Nat.lt_of_lt_of_le hg hb.size, (hb.cell (p := ⟨g, _, none⟩) hg).trans h0⟩
theorem BlsIn.slice {w : World} {v : Value} {bs : List Bool} (h : BlsIn w v bs) : ∃ a cap, v = .slice a bs.length cap ∧ bs.length ≤ cap := by
  obtain ⟨a, cap, rfl, hc, _⟩ := h
  exact ⟨a, cap, rfl, hc⟩
def cellB (bs : List Bool) : List Value := bs.map Value.bool
theorem bls_of_row {w : World} {base : Nat} {v : Value} {bs : List Bool} (h : w.ownsRow base 4 1 v bs.length (cellB bs)) : BlsIn w v bs := by
  rcases h.2 with ⟨rfl, h0⟩ | ⟨g, cap, cur, rfl, hb, hg, hc, hm, hs, ht⟩
  · obtain rfl : bs = [] := List.length_eq_zero_iff.1 h0
    exact ⟨none, 0, rfl, Nat.le_refl _, fun i hi => by cases hi⟩
  · refine ⟨_, cap, rfl, hc, fun i hi => ⟨g, 0, rfl, lt_of_heap hg, ?_⟩⟩
    have := h.cells (g := g) rfl i (.bool bs[i]) (by simp [cellB, hi])
    rw [add_lit'] at this
    exact this
theorem Tryd.infoBool : (Tryd.prog.info? 4).map (fun i => (i.zero, i.size, i.bytes)) = some (some (.bool false), 1, 1) := by kernel_rfl
/-- The place p is among them. -/
def hB (bs : List Bool) (p : Nat) : Prop := bs[p]? = some true
theorem hB_lt {bs : List Bool} {p : Nat} (h : hB bs p) : p < bs.length := (List.getElem?_eq_some_iff.1 h).1
theorem hB_at {bs : List Bool} {p : Nat} (h : p < bs.length) : hB bs p ↔ bs[p] = true := by
  unfold hB; rw [List.getElem?_eq_getElem h]; simp
def orL (a b : List Bool) : List Bool := List.zipWith (· || ·) a b
theorem orL_len {a b : List Bool} (h : a.length = b.length) : (orL a b).length = a.length := by simp [orL, h]
theorem hB_or {a b : List Bool} (h : a.length = b.length) (p : Nat) : hB (orL a b) p ↔ hB a p ∨ hB b p := by
  unfold hB orL
  rw [List.getElem?_zipWith]
  rcases Nat.lt_or_ge p a.length with q | q
  · rw [List.getElem?_eq_getElem q, List.getElem?_eq_getElem (by omega)]
    simp
  · rw [List.getElem?_eq_none q, List.getElem?_eq_none (by omega)]
    simp

set_option maxRecDepth 100000 in
set_option maxHeartbeats 4000000 in
theorem either_any (a b : List Bool) (va vb : Value) (w : World) (ha : BlsIn w va a) (hb : BlsIn w vb b) (hl : a.length = b.length) (hs : a.length ≤ 1000) :
    Calls Tryd.prog 77 #[va, vb] w fun e w' => ∃ v', e = .returned v' ∧ BlsIn w' v' (orL a b) ∧ Below w.heap.size w w' := by
  obtain ⟨i0, hi0, hz0, hz1, hz2⟩ := info_parts Tryd.infoBool
  have HA : Hid (BlsIn w va a) := ha
  have HB : Hid (BlsIn w vb b) := hb
  obtain ⟨xa, ca, rfl, hca⟩ := ha.slice
  obtain ⟨xb, cb, rfl, hcb⟩ := hb.slice
  obtain ⟨N, hN⟩ : ∃ N, N = a.length := ⟨_, rfl⟩
  have hN2 : N = b.length := by omega
  rw [← hN] at HA hca ⊢
  rw [← hN2] at HB hcb ⊢
  have HN : Hid (N = a.length ∧ N = b.length) := ⟨hN, hN2⟩
  have hN1000 : N ≤ 1000 := by omega
  have HMC : Hid ((madeCells (Value.bool false).cells (N * 1)).toList = List.replicate N (.bool false)) := by
    show _ = _
    rw [Nat.mul_one]
    exact toList_madeCells_one _ _
  clear hN hN2 hl hs ha hb
  go_enter Tryd.func77, Tryd.ntmps77
  go_wp2_with (first | (at_make; go_loud (refine wpList_make_full w rfl _ _ 44 rfl w.heap.size 4 i0 (.bool false) 1 Tryd.underlying44 hi0 hz0 hz1 .i64 .i64 _ _ N rfl rfl rfl rfl (by rw [hz2]; omega) (by unfold maxLen; omega) (Nat.le_refl _) ?_; intro w1 ho1 hg1; have hB1 : Below w.heap.size w w1 := (Below.refl _ _).grown hg1 (Nat.le_refl _) (fun j e => (by cases e)))) | fail)
  have HO1 : Hid (w1.ownsRow w.heap.size 4 1 (.slice (some ⟨w.heap.size, 0, none⟩) N N) N (cellB ((orL a b).take 0) ++ List.replicate (N - 0) (.bool false))) := by
    rw [HMC.out] at ho1
    show w1.ownsRow _ _ _ _ _ _
    simpa [cellB] using ho1
  clear ho1 hg1
  go_loopw [6] (fun x wr => ∃ k : Nat, k ≤ N ∧ x = .int .i64 (k : Int) ∧ Hid (wr.ownsRow w.heap.size 4 1 (.slice (some ⟨w.heap.size, 0, none⟩) N N) N (cellB ((orL a b).take k) ++ List.replicate (N - k) (.bool false))) ∧ Hid (Below w.heap.size w wr)) (fun x _ => N - (intOf x).toNat)
  case atStart => exact ⟨0, Nat.zero_le _, rfl, HO1, hB1⟩
  case round =>
    obtain ⟨k, hk, rfl, HO, HBr⟩ := hrel
    by_cases hlt : k < N
    · have hk0 : (0 : Int) ≤ (k : Int) := by omega
      have hk1 : (k : Int) < (N : Int) := by omega
      have hka : k < a.length := by rw [← HN.out.1]; exact hlt
      have hkb : k < b.length := by rw [← HN.out.2]; exact hlt
      have hol : (orL a b).length = N := by rw [orL_len (by rw [← HN.out.1, ← HN.out.2]), ← HN.out.1]
      obtain ⟨ba, hba⟩ : ∃ x, x = a[k] := ⟨_, rfl⟩
      obtain ⟨bb, hbb⟩ : ∃ x, x = b[k] := ⟨_, rfl⟩
      obtain ⟨ga, oa, rfl, hga, c0⟩ : ∃ g off, xa = some ⟨g, off, none⟩ ∧ g < w.heap.size ∧ w.cell? ⟨g, off + k, none⟩ = some (.bool ba) := by
        obtain ⟨a', c', e1, _, h⟩ := HA.out
        obtain ⟨g, off, r1, r2, r3⟩ := h k hka
        have e3 : xa = a' ∧ N = a.length ∧ ca = c' := by simpa using e1
        exact ⟨g, off, by rw [e3.1]; exact r1, r2, by rw [hba]; exact r3⟩
      obtain ⟨gb, ob, rfl, hgb, d0⟩ : ∃ g off, xb = some ⟨g, off, none⟩ ∧ g < w.heap.size ∧ w.cell? ⟨g, off + k, none⟩ = some (.bool bb) := by
        obtain ⟨a', c', e1, _, h⟩ := HB.out
        obtain ⟨g, off, r1, r2, r3⟩ := h k hkb
        have e3 : xb = a' ∧ N = b.length ∧ cb = c' := by simpa using e1
        exact ⟨g, off, by rw [e3.1]; exact r1, r2, by rw [hbb]; exact r3⟩
      have c1 : wr.cell? ⟨ga, oa + k, none⟩ = some (.bool ba) := (HBr.out.cell (p := ⟨ga, _, none⟩) hga).trans c0
      have d1 : wr.cell? ⟨gb, ob + k, none⟩ = some (.bool bb) := (HBr.out.cell (p := ⟨gb, _, none⟩) hgb).trans d0
      have q1 : wr.cell? ⟨w.heap.size, k, none⟩ = some (.bool false) := by
        have hlk : (cellB ((orL a b).take k)).length = k := by simp [cellB]; omega
        rw [(own_at HO.out hlt).1, List.getElem?_append_right (by omega), hlk, Nat.sub_self, List.getElem?_replicate, if_pos (by omega)]
      have q2 : wr.frozen? ⟨w.heap.size, k, none⟩ = false := (own_at HO.out hlt).2
      have HSET : Hid (∀ v : Bool, v = (ba || bb) → (wr.setCell ⟨w.heap.size, k, none⟩ (.bool v)).ownsRow w.heap.size 4 1 (.slice (some ⟨w.heap.size, 0, none⟩) N N) N (cellB ((orL a b).take (k + 1)) ++ List.replicate (N - (k + 1)) (.bool false))) := fun v hv => by
        have := own_set (i := k) HO.out (.bool v)
        have e1 : (orL a b).take (k + 1) = (orL a b).take k ++ [v] := by
          rw [List.take_add_one, List.getElem?_eq_getElem (by omega)]
          simp [orL, hv, hba, hbb]
        have e : (cellB ((orL a b).take k) ++ List.replicate (N - k) (Value.bool false)).set k (.bool v) = cellB ((orL a b).take (k + 1)) ++ List.replicate (N - (k + 1)) (Value.bool false) := by
          rw [e1]
          have hlk : (cellB ((orL a b).take k)).length = k := by simp [cellB]; omega
          rw [List.set_append_right _ _ (by omega), hlk, Nat.sub_self, show N - k = (N - (k + 1)) + 1 by omega, List.replicate_succ, List.set_cons_zero]
          simp [cellB]
        rw [e] at this
        exact this
      clear c0 d0 hba hbb
      cases ba with
      | true =>
        have HS1 : Hid _ := HSET.out true rfl
        go_wp2
        go_roundw
        case rel => exact ⟨k + 1, by omega, by go_num, HS1, HBr.out.setCell (Nat.le_refl _) _⟩
        case measure => simp [intOf]; omega
      | false =>
        have HS1 : Hid _ := HSET.out bb rfl
        go_wp2
        go_roundw
        case rel => exact ⟨k + 1, by omega, by go_num, HS1, HBr.out.setCell (Nat.le_refl _) _⟩
        case measure => simp [intOf]; omega
    · obtain rfl : k = N := by omega
      go_wp2
      go_ret
      have := HO.out
      have hol : (orL a b).length = k := by rw [orL_len (by rw [← HN.out.1, ← HN.out.2]), ← HN.out.1]
      rw [Nat.sub_self, List.replicate_zero, List.append_nil, List.take_of_length_le (by omega)] at this
      refine ⟨_, rfl, bls_of_row (base := w.heap.size) ?_, HBr.out⟩
      rw [hol]; exact this

/-- What the document tells of an expression whose parts do what H says. -/
def Leads (R : Nat → Nat → Prop) (bs bs' : List Bool) : Prop := bs'.length = bs.length ∧ ∀ p, hB bs' p ↔ ∃ q, hB bs q ∧ R q p
def PlN (R : Nat → Nat → Prop) : Nat → Nat → Nat → Prop
  | 0, _, _ => False
  | k + 1, q, p => R q p ∨ ∃ m, PlN R k q m ∧ R m p
theorem PlN.up {R : Nat → Nat → Prop} : ∀ {k q p : Nat}, PlN R k q p → PlN R (k + 1) q p
  | 0, q, p, h => by cases h
  | k + 1, q, p, h => h.imp id (fun ⟨m, a, b⟩ => ⟨m, a.up, b⟩)
theorem PlN.le {R : Nat → Nat → Prop} {k j q p : Nat} (h : PlN R k q p) (hj : k ≤ j) : PlN R j q p := by
  induction hj with
  | refl => exact h
  | step _ ih => exact ih.up
theorem PlN.pl {R : Nat → Nat → Prop} : ∀ {k q p : Nat}, PlN R k q p → Pl R q p
  | 0, q, p, h => by cases h
  | k + 1, q, p, h => h.elim .one (fun ⟨m, a, b⟩ => .more a.pl b)
theorem pl_plN {R : Nat → Nat → Prop} (hf : ∀ q p, R q p → q ≤ p) {q p : Nat} (h : Pl R q p) : PlN R (p - q + 1) q p := by
  induction h using Pl.ind with
  | one a => exact (show PlN R 1 _ _ from .inl a).le (by omega)
  | more k a ih =>
    rename_i m p
    have h1 := k.le hf
    have h2 := hf _ _ a
    by_cases e : m = p
    · subst e; exact ih
    · exact (show PlN R ((m - q + 1) + 1) q p from .inr ⟨m, ih, a⟩).le (by omega)
theorem plN_step {R : Nat → Nat → Prop} {k q p : Nat} : PlN R (k + 2) q p ↔ PlN R (k + 1) q p ∨ ∃ m, PlN R (k + 1) q m ∧ R m p := by
  constructor
  · rintro (a | ⟨m, a, b⟩)
    · exact .inl (.inl a)
    · exact .inr ⟨m, a, b⟩
  · rintro (a | ⟨m, a, b⟩)
    · exact a.up
    · exact .inr ⟨m, a, b⟩
theorem relC_snoc (ws : List Nat) : ∀ (l : List Nd) (x : Nd) (q p : Nat), relC ws (l ++ [x]) q p ↔ ∃ m, relC ws l q m ∧ relN ws x m p
  | [], x, q, p => by
    rw [List.nil_append, relC, relC]
    show (∃ m, relN ws x q m ∧ p = m) ↔ (∃ m, m = q ∧ relN ws x m p)
    constructor
    · rintro ⟨m, h, rfl⟩; exact ⟨q, rfl, h⟩
    · rintro ⟨m, rfl, h⟩; exact ⟨p, h, rfl⟩
  | y :: l, x, q, p => by
    rw [List.cons_append, relC, relC]
    show (∃ m, relN ws y q m ∧ relC ws (l ++ [x]) m p) ↔ (∃ m, (∃ k, relN ws y q k ∧ relC ws l k m) ∧ relN ws x m p)
    constructor
    · rintro ⟨m, h1, h2⟩
      obtain ⟨k, h3, h4⟩ := (relC_snoc ws l x m p).1 h2
      exact ⟨k, ⟨m, h1, h3⟩, h4⟩
    · rintro ⟨m, ⟨k, h1, h2⟩, h3⟩
      exact ⟨k, h1, (relC_snoc ws l x k p).2 ⟨m, h2, h3⟩⟩
end Go.Proofs.YtehkaiohmcenbaaDoor

namespace Go.Proofs.YtehkaiohmcenbaaDoor
open Go.RowKit Go.Shelf
set_option linter.unusedVariables false

set_option maxRecDepth 100000 in
set_option maxHeartbeats 8000000 in
theorem refRight_body (n : Nd) (za : Option Addr) (ca : Nat) (w : World) (hkl : n.kids.length ≤ 1000)
    (HR : ∀ i, (h : i < n.kids.length) → n.kids.length ≤ ca ∧ ∃ ga oa xa ka, za = some ⟨ga, oa, none⟩ ∧ ga < w.heap.size ∧ w.cell? ⟨ga, oa + i * 3, none⟩ = some (.int .i64 n.kids[i].k) ∧ w.cell? ⟨ga, oa + i * 3 + 1, none⟩ = some (.int .i64 n.kids[i].s) ∧ w.cell? ⟨ga, oa + i * 3 + 2, none⟩ = some (.slice xa n.kids[i].kids.length ka) ∧
      ∀ W, Below w.heap.size w W → Calls Tryd.prog 44 #[.agg #[.int .i64 n.kids[i].k, .int .i64 n.kids[i].s, .slice xa n.kids[i].kids.length ka]] W fun e w' => e = .returned (.bool (rightN n.kids[i])) ∧ Below W.heap.size W w') :
    Calls Tryd.prog 44 #[.agg #[.int .i64 n.k, .int .i64 n.s, .slice za n.kids.length ca]] w fun e w' => e = .returned (.bool (rightN n)) ∧ Below w.heap.size w w' := by
  obtain ⟨len, hlen⟩ : ∃ len, len = n.kids.length := ⟨_, rfl⟩
  obtain ⟨nk, hnk⟩ : ∃ x, x = n.k := ⟨_, rfl⟩
  obtain ⟨ns, hns⟩ : ∃ x, x = n.s := ⟨_, rfl⟩
  have HHR : Hid (∀ i, (h : i < n.kids.length) → len ≤ ca ∧ ∃ (ga oa : Nat) (xa : Option Addr) (ka : Nat) (yk ys : Int) (yl : Nat), za = some ⟨ga, oa, none⟩ ∧ ga < w.heap.size ∧ w.cell? ⟨ga, oa + i * 3, none⟩ = some (.int .i64 yk) ∧ w.cell? ⟨ga, oa + i * 3 + 1, none⟩ = some (.int .i64 ys) ∧ w.cell? ⟨ga, oa + i * 3 + 2, none⟩ = some (.slice xa yl ka) ∧
      ∀ W, Below w.heap.size w W → Calls Tryd.prog 44 #[.agg #[.int .i64 yk, .int .i64 ys, .slice xa yl ka]] W fun e w' => e = .returned (.bool (rightN n.kids[i])) ∧ Below W.heap.size W w') := fun i hi => by
    obtain ⟨h1, ga, oa, xa, ka, h⟩ := HR i hi
    exact ⟨by omega, ga, oa, xa, ka, _, _, _, h⟩
  rw [← hlen, ← hnk, ← hns]
  have HLEN : Hid (len = n.kids.length) := hlen
  have hl1000 : len ≤ 1000 := by omega
  have HB0 : Hid (Below w.heap.size w (w.alloc (.cells #[.int .i64 nk, .int .i64 ns, .slice za len ca] 24))) := below_alloc _ _
  have HEA : Hid ((w.alloc (.cells #[.int .i64 nk, .int .i64 ns, .slice za len ca] 24)).heap[w.heap.size]? = some (.cells #[.int .i64 nk, .int .i64 ns, .slice za len ca] 24 (0, 0))) := heap_new' w _
  have HN : Hid (rightN n = (mayK nk ns len && rightL n.kids)) := by show _ = _; rw [rightN_eq, hnk, hns, hlen]
  clear HR hlen hnk hns hkl
  by_cases k1 : nk = 1
  · subst k1
    have HE : Hid (rightN n = (decide (len = 0) && (decide (0 ≤ ns) && decide (ns < 64)))) := by
      show _ = _
      rw [HN.out]
      by_cases h0 : len = 0
      · have : n.kids = [] := List.length_eq_zero_iff.1 (by rw [← HLEN.out]; exact h0)
        rw [this, rightL]; simp [mayK]
      · simp [mayK, h0]
    by_cases hl : len = 0
    · obtain rfl : len = 0 := hl
      by_cases hs0 : 0 ≤ ns
      · have hs0' : decide (ns ≥ 0) = true := by simpa using hs0
        go_enter Tryd.func44, Tryd.ntmps44
        go_wp2
        go_ret
        refine ⟨?_, HB0.out⟩
        rw [HE.out]
        have : decide (ns ≤ 63) = decide (ns < 64) := by rw [Bool.eq_iff_iff]; simp; omega
        simp [hs0, this]
      · have hs0' : decide (ns ≥ 0) = false := by simpa using hs0
        go_enter Tryd.func44, Tryd.ntmps44
        go_wp2
        go_ret
        refine ⟨?_, HB0.out⟩
        rw [HE.out]
        simp; omega
    · have hl' : ((len : Int) == 0) = false := by simp; omega
      go_enter Tryd.func44, Tryd.ntmps44
      go_wp2
      go_ret
      refine ⟨?_, HB0.out⟩
      rw [HE.out]
      simp [hl]
  have k1' : (nk == 1) = false := by simpa using k1
  by_cases k0 : nk = 0
  · subst k0
    have HLOOP : Hid (rightN n = rightL n.kids) := by show _ = _; rw [HN.out]; simp [mayK]
    clear HN k1 k1'
    go_enter Tryd.func44, Tryd.ntmps44
    go_wp2
    go_loopw [4] (fun x wr => ∃ (j : Nat), j ≤ len ∧ x = .int .i64 (j : Int) ∧ Hid (∀ i, (h : i < n.kids.length) → i < j → rightN n.kids[i] = true) ∧ Hid (Below w.heap.size w wr) ∧ Hid (wr.heap[w.heap.size]? = some (.cells #[.int .i64 0, .int .i64 ns, .slice za len ca] 24 (0, 0)))) (fun x _ => len - (intOf x).toNat)
    case atStart => exact ⟨0, Nat.zero_le _, rfl, (fun i h hi => by omega), HB0, HEA⟩
    case round =>
      obtain ⟨j, hj, rfl, HAL, HB, HE⟩ := hrel
      have hws : w.heap.size ≤ wr.heap.size := HB.out.size
      have hwlt : w.heap.size < wr.heap.size := lt_of_heap HE.out
      have e2 : wr.cell? ⟨w.heap.size, 2, none⟩ = some (.slice za len ca) := cell_in HE.out 2
      by_cases hjl : j < len
      · have hjn : j < n.kids.length := by rw [← HLEN.out]; exact hjl
        obtain ⟨hca, ga, oa, xa, ka, yk, ys, yl, rfl, hga, p0, p1, p2, hcall⟩ := HHR.out j hjn
        have r0 : wr.cell? ⟨ga, oa + j * 3, none⟩ = some (.int .i64 yk) := (HB.out.cell (p := ⟨ga, _, none⟩) hga).trans p0
        have r1 : wr.cell? ⟨ga, oa + j * 3 + 1, none⟩ = some (.int .i64 ys) := (HB.out.cell (p := ⟨ga, _, none⟩) hga).trans p1
        have r2 : wr.cell? ⟨ga, oa + j * 3 + 2, none⟩ = some (.slice xa yl ka) := (HB.out.cell (p := ⟨ga, _, none⟩) hga).trans p2
        have hj0 : (0 : Int) ≤ (j : Int) := by omega
        have hj1 : (j : Int) < (len : Int) := by omega
        have hcl := hcall wr HB.out
        obtain ⟨c, hc⟩ : ∃ c, c = rightN n.kids[j] := ⟨_, rfl⟩
        rw [← hc] at hcl
        have HC : Hid (c = rightN n.kids[j]) := hc
        clear p0 p1 p2 hcall hc
        cases c with
        | false =>
          have HF : Hid (rightN n = false) := by
            show _ = _
            rw [HLOOP.out]
            cases h : rightL n.kids with
            | false => rfl
            | true => have := (rightL_iff n.kids).1 h _ (List.getElem_mem hjn); rw [← HC.out] at this; cases this
          go_wp2_with fail
          refine hcl.mono ?_
          rintro e w2 ⟨rfl, hB2⟩
          clear hcl
          go_wp2
          go_ret
          exact ⟨by rw [HF.out]; rfl, HB.out.trans (hB2.mono hws)⟩
        | true =>
          go_wp2_with fail
          refine hcl.mono ?_
          rintro e w2 ⟨rfl, hB2⟩
          clear hcl
          have HB2 : Hid (Below w.heap.size w w2) := HB.out.trans (hB2.mono hws)
          have HE2 : Hid (w2.heap[w.heap.size]? = some (.cells #[.int .i64 0, .int .i64 ns, .slice (some ⟨ga, oa, none⟩) len ca] 24 (0, 0))) := (hB2.block _ hwlt).trans HE.out
          have HAL2 : Hid (∀ i, (h : i < n.kids.length) → i < j + 1 → rightN n.kids[i] = true) := fun i h hi => by
            by_cases q : i < j
            · exact HAL.out i h q
            · obtain rfl : i = j := by omega
              exact HC.out.symm
          clear hB2
          go_wp2
          go_roundw
          case rel => exact ⟨j + 1, by omega, by go_num, HAL2, HB2, HE2⟩
          case measure => simp [intOf]; omega
      · obtain rfl : j = len := by omega
        have HT : Hid (rightN n = true) := by
          show _ = _
          rw [HLOOP.out]
          exact (rightL_iff n.kids).2 (fun x hx => by
            obtain ⟨i, hi, rfl⟩ := List.getElem_of_mem hx
            exact HAL.out i hi (by rw [HLEN.out]; exact hi))
        go_wp2
        go_ret
        exact ⟨by rw [HT.out]; rfl, HB.out⟩
  have k0' : (nk == 0) = false := by simpa using k0
  by_cases k2 : nk = 2
  · subst k2
    clear k0 k0' k1 k1'
    by_cases hl : len = 0
    · obtain rfl : len = 0 := hl
      have HF : Hid (rightN n = false) := by show _ = _; rw [HN.out]; simp [mayK]
      clear HN
      go_enter Tryd.func44, Tryd.ntmps44
      go_wp2
      go_ret
      exact ⟨by rw [HF.out]; rfl, HB0.out⟩
    · have hl' : ((len : Int) == 0) = false := by simp; omega
      have HLOOP : Hid (rightN n = rightL n.kids) := by
        have h1 : 1 ≤ len := by omega
        show _ = _; rw [HN.out]; simp [mayK, h1]
      clear HN
      go_enter Tryd.func44, Tryd.ntmps44
      go_wp2
      go_loopw [4] (fun x wr => ∃ (j : Nat), j ≤ len ∧ x = .int .i64 (j : Int) ∧ Hid (∀ i, (h : i < n.kids.length) → i < j → rightN n.kids[i] = true) ∧ Hid (Below w.heap.size w wr) ∧ Hid (wr.heap[w.heap.size]? = some (.cells #[.int .i64 2, .int .i64 ns, .slice za len ca] 24 (0, 0)))) (fun x _ => len - (intOf x).toNat)
      case atStart => exact ⟨0, Nat.zero_le _, rfl, (fun i h hi => by omega), HB0, HEA⟩
      case round =>
        obtain ⟨j, hj, rfl, HAL, HB, HE⟩ := hrel
        have hws : w.heap.size ≤ wr.heap.size := HB.out.size
        have hwlt : w.heap.size < wr.heap.size := lt_of_heap HE.out
        have e2 : wr.cell? ⟨w.heap.size, 2, none⟩ = some (.slice za len ca) := cell_in HE.out 2
        by_cases hjl : j < len
        · have hjn : j < n.kids.length := by rw [← HLEN.out]; exact hjl
          obtain ⟨hca, ga, oa, xa, ka, yk, ys, yl, rfl, hga, p0, p1, p2, hcall⟩ := HHR.out j hjn
          have r0 : wr.cell? ⟨ga, oa + j * 3, none⟩ = some (.int .i64 yk) := (HB.out.cell (p := ⟨ga, _, none⟩) hga).trans p0
          have r1 : wr.cell? ⟨ga, oa + j * 3 + 1, none⟩ = some (.int .i64 ys) := (HB.out.cell (p := ⟨ga, _, none⟩) hga).trans p1
          have r2 : wr.cell? ⟨ga, oa + j * 3 + 2, none⟩ = some (.slice xa yl ka) := (HB.out.cell (p := ⟨ga, _, none⟩) hga).trans p2
          have hj0 : (0 : Int) ≤ (j : Int) := by omega
          have hj1 : (j : Int) < (len : Int) := by omega
          have hcl := hcall wr HB.out
          obtain ⟨c, hc⟩ : ∃ c, c = rightN n.kids[j] := ⟨_, rfl⟩
          rw [← hc] at hcl
          have HC : Hid (c = rightN n.kids[j]) := hc
          clear p0 p1 p2 hcall hc
          cases c with
          | false =>
            have HF : Hid (rightN n = false) := by
              show _ = _
              rw [HLOOP.out]
              cases h : rightL n.kids with
              | false => rfl
              | true => have := (rightL_iff n.kids).1 h _ (List.getElem_mem hjn); rw [← HC.out] at this; cases this
            go_wp2_with fail
            refine hcl.mono ?_
            rintro e w2 ⟨rfl, hB2⟩
            clear hcl
            go_wp2
            go_ret
            exact ⟨by rw [HF.out]; rfl, HB.out.trans (hB2.mono hws)⟩
          | true =>
            go_wp2_with fail
            refine hcl.mono ?_
            rintro e w2 ⟨rfl, hB2⟩
            clear hcl
            have HB2 : Hid (Below w.heap.size w w2) := HB.out.trans (hB2.mono hws)
            have HE2 : Hid (w2.heap[w.heap.size]? = some (.cells #[.int .i64 2, .int .i64 ns, .slice (some ⟨ga, oa, none⟩) len ca] 24 (0, 0))) := (hB2.block _ hwlt).trans HE.out
            have HAL2 : Hid (∀ i, (h : i < n.kids.length) → i < j + 1 → rightN n.kids[i] = true) := fun i h hi => by
              by_cases q : i < j
              · exact HAL.out i h q
              · obtain rfl : i = j := by omega
                exact HC.out.symm
            clear hB2
            go_wp2
            go_roundw
            case rel => exact ⟨j + 1, by omega, by go_num, HAL2, HB2, HE2⟩
            case measure => simp [intOf]; omega
        · obtain rfl : j = len := by omega
          have HT : Hid (rightN n = true) := by
            show _ = _
            rw [HLOOP.out]
            exact (rightL_iff n.kids).2 (fun x hx => by
              obtain ⟨i, hi, rfl⟩ := List.getElem_of_mem hx
              exact HAL.out i hi (by rw [HLEN.out]; exact hi))
          go_wp2
          go_ret
          exact ⟨by rw [HT.out]; rfl, HB.out⟩
  have k2' : (nk == 2) = false := by simpa using k2
  by_cases k3 : nk = 3
  · subst k3
    clear k0 k0' k1 k1' k2 k2'
    by_cases hl : len = 1
    · obtain rfl : len = 1 := hl
      have HLOOP : Hid (rightN n = rightL n.kids) := by show _ = _; rw [HN.out]; simp [mayK]
      clear HN
      go_enter Tryd.func44, Tryd.ntmps44
      go_wp2
      go_loopw [4] (fun x wr => ∃ (j : Nat), j ≤ 1 ∧ x = .int .i64 (j : Int) ∧ Hid (∀ i, (h : i < n.kids.length) → i < j → rightN n.kids[i] = true) ∧ Hid (Below w.heap.size w wr) ∧ Hid (wr.heap[w.heap.size]? = some (.cells #[.int .i64 3, .int .i64 ns, .slice za 1 ca] 24 (0, 0)))) (fun x _ => 1 - (intOf x).toNat)
      case atStart => exact ⟨0, Nat.zero_le _, rfl, (fun i h hi => by omega), HB0, HEA⟩
      case round =>
        obtain ⟨j, hj, rfl, HAL, HB, HE⟩ := hrel
        have hws : w.heap.size ≤ wr.heap.size := HB.out.size
        have hwlt : w.heap.size < wr.heap.size := lt_of_heap HE.out
        have e2 : wr.cell? ⟨w.heap.size, 2, none⟩ = some (.slice za 1 ca) := cell_in HE.out 2
        by_cases hjl : j < 1
        · have hjn : j < n.kids.length := by rw [← HLEN.out]; exact hjl
          obtain ⟨hca, ga, oa, xa, ka, yk, ys, yl, rfl, hga, p0, p1, p2, hcall⟩ := HHR.out j hjn
          have r0 : wr.cell? ⟨ga, oa + j * 3, none⟩ = some (.int .i64 yk) := (HB.out.cell (p := ⟨ga, _, none⟩) hga).trans p0
          have r1 : wr.cell? ⟨ga, oa + j * 3 + 1, none⟩ = some (.int .i64 ys) := (HB.out.cell (p := ⟨ga, _, none⟩) hga).trans p1
          have r2 : wr.cell? ⟨ga, oa + j * 3 + 2, none⟩ = some (.slice xa yl ka) := (HB.out.cell (p := ⟨ga, _, none⟩) hga).trans p2
          have hj0 : (0 : Int) ≤ (j : Int) := by omega
          have hj1 : (j : Int) < ((1 : Nat) : Int) := by omega
          have hcl := hcall wr HB.out
          obtain ⟨c, hc⟩ : ∃ c, c = rightN n.kids[j] := ⟨_, rfl⟩
          rw [← hc] at hcl
          have HC : Hid (c = rightN n.kids[j]) := hc
          clear p0 p1 p2 hcall hc
          cases c with
          | false =>
            have HF : Hid (rightN n = false) := by
              show _ = _
              rw [HLOOP.out]
              cases h : rightL n.kids with
              | false => rfl
              | true => have := (rightL_iff n.kids).1 h _ (List.getElem_mem hjn); rw [← HC.out] at this; cases this
            go_wp2_with fail
            refine hcl.mono ?_
            rintro e w2 ⟨rfl, hB2⟩
            clear hcl
            go_wp2
            go_ret
            exact ⟨by rw [HF.out]; rfl, HB.out.trans (hB2.mono hws)⟩
          | true =>
            go_wp2_with fail
            refine hcl.mono ?_
            rintro e w2 ⟨rfl, hB2⟩
            clear hcl
            have HB2 : Hid (Below w.heap.size w w2) := HB.out.trans (hB2.mono hws)
            have HE2 : Hid (w2.heap[w.heap.size]? = some (.cells #[.int .i64 3, .int .i64 ns, .slice (some ⟨ga, oa, none⟩) 1 ca] 24 (0, 0))) := (hB2.block _ hwlt).trans HE.out
            have HAL2 : Hid (∀ i, (h : i < n.kids.length) → i < j + 1 → rightN n.kids[i] = true) := fun i h hi => by
              by_cases q : i < j
              · exact HAL.out i h q
              · obtain rfl : i = j := by omega
                exact HC.out.symm
            clear hB2
            go_wp2
            go_roundw
            case rel => exact ⟨j + 1, by omega, by go_num, HAL2, HB2, HE2⟩
            case measure => simp [intOf]; omega
        · obtain rfl : j = 1 := by omega
          have HT : Hid (rightN n = true) := by
            show _ = _
            rw [HLOOP.out]
            exact (rightL_iff n.kids).2 (fun x hx => by
              obtain ⟨i, hi, rfl⟩ := List.getElem_of_mem hx
              exact HAL.out i hi (by rw [HLEN.out]; exact hi))
          go_wp2
          go_ret
          exact ⟨by rw [HT.out]; rfl, HB.out⟩
    · have hl' : ((len : Int) != 1) = true := by simp; omega
      have HF : Hid (rightN n = false) := by show _ = _; rw [HN.out]; simp [mayK, hl]
      clear HN
      go_enter Tryd.func44, Tryd.ntmps44
      go_wp2
      go_ret
      exact ⟨by rw [HF.out]; rfl, HB0.out⟩
  have k3' : (nk == 3) = false := by simpa using k3
  by_cases k4 : nk = 4
  · subst k4
    clear k0 k0' k1 k1' k2 k2' k3 k3'
    by_cases hl : len = 1
    · obtain rfl : len = 1 := hl
      have HLOOP : Hid (rightN n = rightL n.kids) := by show _ = _; rw [HN.out]; simp [mayK]
      clear HN
      go_enter Tryd.func44, Tryd.ntmps44
      go_wp2
      go_loopw [4] (fun x wr => ∃ (j : Nat), j ≤ 1 ∧ x = .int .i64 (j : Int) ∧ Hid (∀ i, (h : i < n.kids.length) → i < j → rightN n.kids[i] = true) ∧ Hid (Below w.heap.size w wr) ∧ Hid (wr.heap[w.heap.size]? = some (.cells #[.int .i64 4, .int .i64 ns, .slice za 1 ca] 24 (0, 0)))) (fun x _ => 1 - (intOf x).toNat)
      case atStart => exact ⟨0, Nat.zero_le _, rfl, (fun i h hi => by omega), HB0, HEA⟩
      case round =>
        obtain ⟨j, hj, rfl, HAL, HB, HE⟩ := hrel
        have hws : w.heap.size ≤ wr.heap.size := HB.out.size
        have hwlt : w.heap.size < wr.heap.size := lt_of_heap HE.out
        have e2 : wr.cell? ⟨w.heap.size, 2, none⟩ = some (.slice za 1 ca) := cell_in HE.out 2
        by_cases hjl : j < 1
        · have hjn : j < n.kids.length := by rw [← HLEN.out]; exact hjl
          obtain ⟨hca, ga, oa, xa, ka, yk, ys, yl, rfl, hga, p0, p1, p2, hcall⟩ := HHR.out j hjn
          have r0 : wr.cell? ⟨ga, oa + j * 3, none⟩ = some (.int .i64 yk) := (HB.out.cell (p := ⟨ga, _, none⟩) hga).trans p0
          have r1 : wr.cell? ⟨ga, oa + j * 3 + 1, none⟩ = some (.int .i64 ys) := (HB.out.cell (p := ⟨ga, _, none⟩) hga).trans p1
          have r2 : wr.cell? ⟨ga, oa + j * 3 + 2, none⟩ = some (.slice xa yl ka) := (HB.out.cell (p := ⟨ga, _, none⟩) hga).trans p2
          have hj0 : (0 : Int) ≤ (j : Int) := by omega
          have hj1 : (j : Int) < ((1 : Nat) : Int) := by omega
          have hcl := hcall wr HB.out
          obtain ⟨c, hc⟩ : ∃ c, c = rightN n.kids[j] := ⟨_, rfl⟩
          rw [← hc] at hcl
          have HC : Hid (c = rightN n.kids[j]) := hc
          clear p0 p1 p2 hcall hc
          cases c with
          | false =>
            have HF : Hid (rightN n = false) := by
              show _ = _
              rw [HLOOP.out]
              cases h : rightL n.kids with
              | false => rfl
              | true => have := (rightL_iff n.kids).1 h _ (List.getElem_mem hjn); rw [← HC.out] at this; cases this
            go_wp2_with fail
            refine hcl.mono ?_
            rintro e w2 ⟨rfl, hB2⟩
            clear hcl
            go_wp2
            go_ret
            exact ⟨by rw [HF.out]; rfl, HB.out.trans (hB2.mono hws)⟩
          | true =>
            go_wp2_with fail
            refine hcl.mono ?_
            rintro e w2 ⟨rfl, hB2⟩
            clear hcl
            have HB2 : Hid (Below w.heap.size w w2) := HB.out.trans (hB2.mono hws)
            have HE2 : Hid (w2.heap[w.heap.size]? = some (.cells #[.int .i64 4, .int .i64 ns, .slice (some ⟨ga, oa, none⟩) 1 ca] 24 (0, 0))) := (hB2.block _ hwlt).trans HE.out
            have HAL2 : Hid (∀ i, (h : i < n.kids.length) → i < j + 1 → rightN n.kids[i] = true) := fun i h hi => by
              by_cases q : i < j
              · exact HAL.out i h q
              · obtain rfl : i = j := by omega
                exact HC.out.symm
            clear hB2
            go_wp2
            go_roundw
            case rel => exact ⟨j + 1, by omega, by go_num, HAL2, HB2, HE2⟩
            case measure => simp [intOf]; omega
        · obtain rfl : j = 1 := by omega
          have HT : Hid (rightN n = true) := by
            show _ = _
            rw [HLOOP.out]
            exact (rightL_iff n.kids).2 (fun x hx => by
              obtain ⟨i, hi, rfl⟩ := List.getElem_of_mem hx
              exact HAL.out i hi (by rw [HLEN.out]; exact hi))
          go_wp2
          go_ret
          exact ⟨by rw [HT.out]; rfl, HB.out⟩
    · have hl' : ((len : Int) != 1) = true := by simp; omega
      have HF : Hid (rightN n = false) := by show _ = _; rw [HN.out]; simp [mayK, hl]
      clear HN
      go_enter Tryd.func44, Tryd.ntmps44
      go_wp2
      go_ret
      exact ⟨by rw [HF.out]; rfl, HB0.out⟩
  have k4' : (nk == 4) = false := by simpa using k4
  by_cases k5 : nk = 5
  · subst k5
    clear k0 k0' k1 k1' k2 k2' k3 k3' k4 k4'
    by_cases hl : len = 1
    · obtain rfl : len = 1 := hl
      have HLOOP : Hid (rightN n = rightL n.kids) := by show _ = _; rw [HN.out]; simp [mayK]
      clear HN
      go_enter Tryd.func44, Tryd.ntmps44
      go_wp2
      go_loopw [4] (fun x wr => ∃ (j : Nat), j ≤ 1 ∧ x = .int .i64 (j : Int) ∧ Hid (∀ i, (h : i < n.kids.length) → i < j → rightN n.kids[i] = true) ∧ Hid (Below w.heap.size w wr) ∧ Hid (wr.heap[w.heap.size]? = some (.cells #[.int .i64 5, .int .i64 ns, .slice za 1 ca] 24 (0, 0)))) (fun x _ => 1 - (intOf x).toNat)
      case atStart => exact ⟨0, Nat.zero_le _, rfl, (fun i h hi => by omega), HB0, HEA⟩
      case round =>
        obtain ⟨j, hj, rfl, HAL, HB, HE⟩ := hrel
        have hws : w.heap.size ≤ wr.heap.size := HB.out.size
        have hwlt : w.heap.size < wr.heap.size := lt_of_heap HE.out
        have e2 : wr.cell? ⟨w.heap.size, 2, none⟩ = some (.slice za 1 ca) := cell_in HE.out 2
        by_cases hjl : j < 1
        · have hjn : j < n.kids.length := by rw [← HLEN.out]; exact hjl
          obtain ⟨hca, ga, oa, xa, ka, yk, ys, yl, rfl, hga, p0, p1, p2, hcall⟩ := HHR.out j hjn
          have r0 : wr.cell? ⟨ga, oa + j * 3, none⟩ = some (.int .i64 yk) := (HB.out.cell (p := ⟨ga, _, none⟩) hga).trans p0
          have r1 : wr.cell? ⟨ga, oa + j * 3 + 1, none⟩ = some (.int .i64 ys) := (HB.out.cell (p := ⟨ga, _, none⟩) hga).trans p1
          have r2 : wr.cell? ⟨ga, oa + j * 3 + 2, none⟩ = some (.slice xa yl ka) := (HB.out.cell (p := ⟨ga, _, none⟩) hga).trans p2
          have hj0 : (0 : Int) ≤ (j : Int) := by omega
          have hj1 : (j : Int) < ((1 : Nat) : Int) := by omega
          have hcl := hcall wr HB.out
          obtain ⟨c, hc⟩ : ∃ c, c = rightN n.kids[j] := ⟨_, rfl⟩
          rw [← hc] at hcl
          have HC : Hid (c = rightN n.kids[j]) := hc
          clear p0 p1 p2 hcall hc
          cases c with
          | false =>
            have HF : Hid (rightN n = false) := by
              show _ = _
              rw [HLOOP.out]
              cases h : rightL n.kids with
              | false => rfl
              | true => have := (rightL_iff n.kids).1 h _ (List.getElem_mem hjn); rw [← HC.out] at this; cases this
            go_wp2_with fail
            refine hcl.mono ?_
            rintro e w2 ⟨rfl, hB2⟩
            clear hcl
            go_wp2
            go_ret
            exact ⟨by rw [HF.out]; rfl, HB.out.trans (hB2.mono hws)⟩
          | true =>
            go_wp2_with fail
            refine hcl.mono ?_
            rintro e w2 ⟨rfl, hB2⟩
            clear hcl
            have HB2 : Hid (Below w.heap.size w w2) := HB.out.trans (hB2.mono hws)
            have HE2 : Hid (w2.heap[w.heap.size]? = some (.cells #[.int .i64 5, .int .i64 ns, .slice (some ⟨ga, oa, none⟩) 1 ca] 24 (0, 0))) := (hB2.block _ hwlt).trans HE.out
            have HAL2 : Hid (∀ i, (h : i < n.kids.length) → i < j + 1 → rightN n.kids[i] = true) := fun i h hi => by
              by_cases q : i < j
              · exact HAL.out i h q
              · obtain rfl : i = j := by omega
                exact HC.out.symm
            clear hB2
            go_wp2
            go_roundw
            case rel => exact ⟨j + 1, by omega, by go_num, HAL2, HB2, HE2⟩
            case measure => simp [intOf]; omega
        · obtain rfl : j = 1 := by omega
          have HT : Hid (rightN n = true) := by
            show _ = _
            rw [HLOOP.out]
            exact (rightL_iff n.kids).2 (fun x hx => by
              obtain ⟨i, hi, rfl⟩ := List.getElem_of_mem hx
              exact HAL.out i hi (by rw [HLEN.out]; exact hi))
          go_wp2
          go_ret
          exact ⟨by rw [HT.out]; rfl, HB.out⟩
    · have hl' : ((len : Int) != 1) = true := by simp; omega
      have HF : Hid (rightN n = false) := by show _ = _; rw [HN.out]; simp [mayK, hl]
      clear HN
      go_enter Tryd.func44, Tryd.ntmps44
      go_wp2
      go_ret
      exact ⟨by rw [HF.out]; rfl, HB0.out⟩
  have k5' : (nk == 5) = false := by simpa using k5
  have HF : Hid (rightN n = false) := by
    show _ = _
    rw [HN.out]
    have : mayK nk ns len = false := by
      unfold mayK
      rw [if_neg k0, if_neg k1, if_neg k2, if_neg (by simp [k3, k4, k5])]
    rw [this]; rfl
  clear HN k0 k1 k2 k3 k4 k5
  go_enter Tryd.func44, Tryd.ntmps44
  go_wp2
  go_ret
  exact ⟨by rw [HF.out]; rfl, HB0.out⟩

theorem refRight_any : ∀ (d : Nat) (n : Nd) (z : Value) (w : World), Dp d n.kids → KdX (fun k => k < w.heap.size) w z n.kids → Calls Tryd.prog 44 #[ndV n z] w fun e w' => e = .returned (.bool (rightN n)) ∧ Below w.heap.size w w'
  | d, n, z, w, hd, hz => by
    obtain ⟨a, ca, rfl, _⟩ := hz.slice
    refine refRight_body n a ca w hd.len (fun i hi => ?_)
    obtain ⟨g, off, cap, z', e1, e2, e3, e4, e5, e6, e7⟩ := hz.at i hi
    obtain ⟨rfl, _, rfl⟩ : a = some ⟨g, off, none⟩ ∧ n.kids.length = n.kids.length ∧ ca = cap := by simpa using e1
    obtain ⟨xa, xc, rfl, _⟩ := e7.slice
    refine ⟨e2, g, off, xa, xc, rfl, e3, e4, e5, e6, fun W hB => ?_⟩
    match d, hd with
    | 0, hd =>
      have h0 : n.kids = [] := hd
      rw [h0] at hi
      cases hi
    | d + 1, hd => exact refRight_any d n.kids[i] (.slice xa n.kids[i].kids.length xc) W (hd.2 _ (List.getElem_mem hi)) (kdx_below e7 hB)
end Go.Proofs.YtehkaiohmcenbaaDoor
