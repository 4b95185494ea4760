/-
  The document's answer: lists of truth values for places.
-/
import Derived.Test.YtehkaiohmcenbaaDoorFlFew
namespace Go.Proofs.YtehkaiohmcenbaaDoor
open Go.RowKit Go.Shelf
set_option linter.unusedVariables false

/-- The slice value v holds the truth values bs. -/
def BlsIn (w : World) (v : Value) (bs : List Bool) : Prop :=
  ∃ a cap, v = .slice a bs.length cap ∧ bs.length ≤ cap ∧ ∀ i, (h : i < bs.length) → ∃ g off, a = some ⟨g, off, none⟩ ∧ g < w.heap.size ∧ w.cell? ⟨g, off + i, none⟩ = some (.bool bs[i])
theorem BlsIn.below {w w' : World} {v : Value} {bs : List Bool} (h : BlsIn w v bs) (hb : Below w.heap.size w w') : BlsIn w' v bs := by
  obtain ⟨a, cap, rfl, hc, hi⟩ := h
  refine ⟨a, cap, rfl, hc, fun i hlt => ?_⟩
  obtain ⟨g, off, rfl, hg, h0⟩ := hi i hlt
  exact ⟨g, off, rfl, Nat.lt_of_lt_of_le hg hb.size, (hb.cell (p := ⟨g, _, none⟩) hg).trans h0⟩
theorem BlsIn.slice {w : World} {v : Value} {bs : List Bool} (h : BlsIn w v bs) : ∃ a cap, v = .slice a bs.length cap ∧ bs.length ≤ cap := by
  obtain ⟨a, cap, rfl, hc, _⟩ := h
  exact ⟨a, cap, rfl, hc⟩
def cellB (bs : List Bool) : List Value := bs.map Value.bool
theorem bls_of_row {w : World} {base : Nat} {v : Value} {bs : List Bool} (h : w.ownsRow base 4 1 v bs.length (cellB bs)) : BlsIn w v bs := by
  rcases h.2 with ⟨rfl, h0⟩ | ⟨g, cap, cur, rfl, hb, hg, hc, hm, hs, ht⟩
  · obtain rfl : bs = [] := List.length_eq_zero_iff.1 h0
    exact ⟨none, 0, rfl, Nat.le_refl _, fun i hi => by cases hi⟩
  · refine ⟨_, cap, rfl, hc, fun i hi => ⟨g, 0, rfl, lt_of_heap hg, ?_⟩⟩
    have := h.cells (g := g) rfl i (.bool bs[i]) (by simp [cellB, hi])
    rw [add_lit'] at this
    exact this
theorem Tryd.infoBool : (Tryd.prog.info? 4).map (fun i => (i.zero, i.size, i.bytes)) = some (some (.bool false), 1, 1) := by kernel_rfl
/-- The place p is among them. -/
def hB (bs : List Bool) (p : Nat) : Prop := bs[p]? = some true
theorem hB_lt {bs : List Bool} {p : Nat} (h : hB bs p) : p < bs.length := (List.getElem?_eq_some_iff.1 h).1
theorem hB_at {bs : List Bool} {p : Nat} (h : p < bs.length) : hB bs p ↔ bs[p] = true := by
  unfold hB; rw [List.getElem?_eq_getElem h]; simp
def orL (a b : List Bool) : List Bool := List.zipWith (· || ·) a b
theorem orL_len {a b : List Bool} (h : a.length = b.length) : (orL a b).length = a.length := by simp [orL, h]
theorem hB_or {a b : List Bool} (h : a.length = b.length) (p : Nat) : hB (orL a b) p ↔ hB a p ∨ hB b p := by
  unfold hB orL
  rw [List.getElem?_zipWith]
  rcases Nat.lt_or_ge p a.length with q | q
  · rw [List.getElem?_eq_getElem q, List.getElem?_eq_getElem (by omega)]
    simp
  · rw [List.getElem?_eq_none q, List.getElem?_eq_none (by omega)]
    simp

set_option maxRecDepth 100000 in
set_option maxHeartbeats 4000000 in
theorem either_any (a b : List Bool) (va vb : Value) (w : World) (ha : BlsIn w va a) (hb : BlsIn w vb b) (hl : a.length = b.length) (hs : a.length ≤ 1000) :
    Calls Tryd.prog 77 #[va, vb] w fun e w' => ∃ v', e = .returned v' ∧ BlsIn w' v' (orL a b) ∧ Below w.heap.size w w' := by
  obtain ⟨i0, hi0, hz0, hz1, hz2⟩ := info_parts Tryd.infoBool
  have HA : Hid (BlsIn w va a) := ha
  have HB : Hid (BlsIn w vb b) := hb
  obtain ⟨xa, ca, rfl, hca⟩ := ha.slice
  obtain ⟨xb, cb, rfl, hcb⟩ := hb.slice
  obtain ⟨N, hN⟩ : ∃ N, N = a.length := ⟨_, rfl⟩
  have hN2 : N = b.length := by omega
  rw [← hN] at HA hca ⊢
  rw [← hN2] at HB hcb ⊢
  have HN : Hid (N = a.length ∧ N = b.length) := ⟨hN, hN2⟩
  have hN1000 : N ≤ 1000 := by omega
  have HMC : Hid ((madeCells (Value.bool false).cells (N * 1)).toList = List.replicate N (.bool false)) := by
    show _ = _
    rw [Nat.mul_one]
    exact toList_madeCells_one _ _
  clear hN hN2 hl hs ha hb
  go_enter Tryd.func77, Tryd.ntmps77
  go_wp2_with (first | (at_make; go_loud (refine wpList_make_full w rfl _ _ 44 rfl w.heap.size 4 i0 (.bool false) 1 Tryd.underlying44 hi0 hz0 hz1 .i64 .i64 _ _ N rfl rfl rfl rfl (by rw [hz2]; omega) (by unfold maxLen; omega) (Nat.le_refl _) ?_; intro w1 ho1 hg1; have hB1 : Below w.heap.size w w1 := (Below.refl _ _).grown hg1 (Nat.le_refl _) (fun j e => (by cases e)))) | fail)
  have HO1 : Hid (w1.ownsRow w.heap.size 4 1 (.slice (some ⟨w.heap.size, 0, none⟩) N N) N (cellB ((orL a b).take 0) ++ List.replicate (N - 0) (.bool false))) := by
    rw [HMC.out] at ho1
    show w1.ownsRow _ _ _ _ _ _
    simpa [cellB] using ho1
  clear ho1 hg1
  go_loopw [6] (fun x wr => ∃ k : Nat, k ≤ N ∧ x = .int .i64 (k : Int) ∧ Hid (wr.ownsRow w.heap.size 4 1 (.slice (some ⟨w.heap.size, 0, none⟩) N N) N (cellB ((orL a b).take k) ++ List.replicate (N - k) (.bool false))) ∧ Hid (Below w.heap.size w wr)) (fun x _ => N - (intOf x).toNat)
  case atStart => exact ⟨0, Nat.zero_le _, rfl, HO1, hB1⟩
  case round =>
    obtain ⟨k, hk, rfl, HO, HBr⟩ := hrel
    by_cases hlt : k < N
    · have hk0 : (0 : Int) ≤ (k : Int) := by omega
      have hk1 : (k : Int) < (N : Int) := by omega
      have hka : k < a.length := by rw [← HN.out.1]; exact hlt
      have hkb : k < b.length := by rw [← HN.out.2]; exact hlt
      have hol : (orL a b).length = N := by rw [orL_len (by rw [← HN.out.1, ← HN.out.2]), ← HN.out.1]
      obtain ⟨ba, hba⟩ : ∃ x, x = a[k] := ⟨_, rfl⟩
      obtain ⟨bb, hbb⟩ : ∃ x, x = b[k] := ⟨_, rfl⟩
      obtain ⟨ga, oa, rfl, hga, c0⟩ : ∃ g off, xa = some ⟨g, off, none⟩ ∧ g < w.heap.size ∧ w.cell? ⟨g, off + k, none⟩ = some (.bool ba) := by
        obtain ⟨a', c', e1, _, h⟩ := HA.out
        obtain ⟨g, off, r1, r2, r3⟩ := h k hka
        have e3 : xa = a' ∧ N = a.length ∧ ca = c' := by simpa using e1
        exact ⟨g, off, by rw [e3.1]; exact r1, r2, by rw [hba]; exact r3⟩
      obtain ⟨gb, ob, rfl, hgb, d0⟩ : ∃ g off, xb = some ⟨g, off, none⟩ ∧ g < w.heap.size ∧ w.cell? ⟨g, off + k, none⟩ = some (.bool bb) := by
        obtain ⟨a', c', e1, _, h⟩ := HB.out
        obtain ⟨g, off, r1, r2, r3⟩ := h k hkb
        have e3 : xb = a' ∧ N = b.length ∧ cb = c' := by simpa using e1
        exact ⟨g, off, by rw [e3.1]; exact r1, r2, by rw [hbb]; exact r3⟩
      have c1 : wr.cell? ⟨ga, oa + k, none⟩ = some (.bool ba) := (HBr.out.cell (p := ⟨ga, _, none⟩) hga).trans c0
      have d1 : wr.cell? ⟨gb, ob + k, none⟩ = some (.bool bb) := (HBr.out.cell (p := ⟨gb, _, none⟩) hgb).trans d0
      have q1 : wr.cell? ⟨w.heap.size, k, none⟩ = some (.bool false) := by
        have hlk : (cellB ((orL a b).take k)).length = k := by simp [cellB]; omega
        rw [(own_at HO.out hlt).1, List.getElem?_append_right (by omega), hlk, Nat.sub_self, List.getElem?_replicate, if_pos (by omega)]
      have q2 : wr.frozen? ⟨w.heap.size, k, none⟩ = false := (own_at HO.out hlt).2
      have HSET : Hid (∀ v : Bool, v = (ba || bb) → (wr.setCell ⟨w.heap.size, k, none⟩ (.bool v)).ownsRow w.heap.size 4 1 (.slice (some ⟨w.heap.size, 0, none⟩) N N) N (cellB ((orL a b).take (k + 1)) ++ List.replicate (N - (k + 1)) (.bool false))) := fun v hv => by
        have := own_set (i := k) HO.out (.bool v)
        have e1 : (orL a b).take (k + 1) = (orL a b).take k ++ [v] := by
          rw [List.take_add_one, List.getElem?_eq_getElem (by omega)]
          simp [orL, hv, hba, hbb]
        have e : (cellB ((orL a b).take k) ++ List.replicate (N - k) (Value.bool false)).set k (.bool v) = cellB ((orL a b).take (k + 1)) ++ List.replicate (N - (k + 1)) (Value.bool false) := by
          rw [e1]
          have hlk : (cellB ((orL a b).take k)).length = k := by simp [cellB]; omega
          rw [List.set_append_right _ _ (by omega), hlk, Nat.sub_self, show N - k = (N - (k + 1)) + 1 by omega, List.replicate_succ, List.set_cons_zero]
          simp [cellB]
        rw [e] at this
        exact this
      clear c0 d0 hba hbb
      cases ba with
      | true =>
        have HS1 : Hid _ := HSET.out true rfl
        go_wp2
        go_roundw
        case rel => exact ⟨k + 1, by omega, by go_num, HS1, HBr.out.setCell (Nat.le_refl _) _⟩
        case measure => simp [intOf]; omega
      | false =>
        have HS1 : Hid _ := HSET.out bb rfl
        go_wp2
        go_roundw
        case rel => exact ⟨k + 1, by omega, by go_num, HS1, HBr.out.setCell (Nat.le_refl _) _⟩
        case measure => simp [intOf]; omega
    · obtain rfl : k = N := by omega
      go_wp2
      go_ret
      have := HO.out
      have hol : (orL a b).length = k := by rw [orL_len (by rw [← HN.out.1, ← HN.out.2]), ← HN.out.1]
      rw [Nat.sub_self, List.replicate_zero, List.append_nil, List.take_of_length_le (by omega)] at this
      refine ⟨_, rfl, bls_of_row (base := w.heap.size) ?_, HBr.out⟩
      rw [hol]; exact this

/-- What the document tells of an expression whose parts do what H says. -/
def Leads (R : Nat → Nat → Prop) (bs bs' : List Bool) : Prop := bs'.length = bs.length ∧ ∀ p, hB bs' p ↔ ∃ q, hB bs q ∧ R q p
def PlN (R : Nat → Nat → Prop) : Nat → Nat → Nat → Prop
  | 0, _, _ => False
  | k + 1, q, p => R q p ∨ ∃ m, PlN R k q m ∧ R m p
theorem PlN.up {R : Nat → Nat → Prop} : ∀ {k q p : Nat}, PlN R k q p → PlN R (k + 1) q p
  | 0, q, p, h => by cases h
  | k + 1, q, p, h => h.imp id (fun ⟨m, a, b⟩ => ⟨m, a.up, b⟩)
theorem PlN.le {R : Nat → Nat → Prop} {k j q p : Nat} (h : PlN R k q p) (hj : k ≤ j) : PlN R j q p := by
  induction hj with
  | refl => exact h
  | step _ ih => exact ih.up
theorem PlN.pl {R : Nat → Nat → Prop} : ∀ {k q p : Nat}, PlN R k q p → Pl R q p
  | 0, q, p, h => by cases h
  | k + 1, q, p, h => h.elim .one (fun ⟨m, a, b⟩ => .more a.pl b)
theorem pl_plN {R : Nat → Nat → Prop} (hf : ∀ q p, R q p → q ≤ p) {q p : Nat} (h : Pl R q p) : PlN R (p - q + 1) q p := by
  induction h using Pl.ind with
  | one a => exact (show PlN R 1 _ _ from .inl a).le (by omega)
  | more k a ih =>
    rename_i m p
    have h1 := k.le hf
    have h2 := hf _ _ a
    by_cases e : m = p
    · subst e; exact ih
    · exact (show PlN R ((m - q + 1) + 1) q p from .inr ⟨m, ih, a⟩).le (by omega)
theorem plN_step {R : Nat → Nat → Prop} {k q p : Nat} : PlN R (k + 2) q p ↔ PlN R (k + 1) q p ∨ ∃ m, PlN R (k + 1) q m ∧ R m p := by
  constructor
  · rintro (a | ⟨m, a, b⟩)
    · exact .inl (.inl a)
    · exact .inr ⟨m, a, b⟩
  · rintro (a | ⟨m, a, b⟩)
    · exact a.up
    · exact .inr ⟨m, a, b⟩
theorem relC_snoc (ws : List Nat) : ∀ (l : List Nd) (x : Nd) (q p : Nat), relC ws (l ++ [x]) q p ↔ ∃ m, relC ws l q m ∧ relN ws x m p
  | [], x, q, p => by
    rw [List.nil_append, relC, relC]
    show (∃ m, relN ws x q m ∧ p = m) ↔ (∃ m, m = q ∧ relN ws x m p)
    constructor
    · rintro ⟨m, h, rfl⟩; exact ⟨q, rfl, h⟩
    · rintro ⟨m, rfl, h⟩; exact ⟨p, h, rfl⟩
  | y :: l, x, q, p => by
    rw [List.cons_append, relC, relC]
    show (∃ m, relN ws y q m ∧ relC ws (l ++ [x]) m p) ↔ (∃ m, (∃ k, relN ws y q k ∧ relC ws l k m) ∧ relN ws x m p)
    constructor
    · rintro ⟨m, h1, h2⟩
      obtain ⟨k, h3, h4⟩ := (relC_snoc ws l x m p).1 h2
      exact ⟨k, ⟨m, h1, h3⟩, h4⟩
    · rintro ⟨m, ⟨k, h1, h2⟩, h3⟩
      exact ⟨k, h1, (relC_snoc ws l x k p).2 ⟨m, h2, h3⟩⟩
end Go.Proofs.YtehkaiohmcenbaaDoor
