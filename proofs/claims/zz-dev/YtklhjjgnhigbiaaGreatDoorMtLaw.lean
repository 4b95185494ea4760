/-
  What the statements of layer 10 share.
-/
import Derived.Test.YtklhjjgnhigbiaaGreatDoorMtFew
namespace Go.Proofs.YtklhjjgnhigbiaaGreatDoor
open Go.RowKit Go.Shelf
set_option linter.unusedVariables false

/-- An expression in a variable of its own. -/
def Box (w : World) (b : Nat) (k s : Int) (z : Value) : Prop := w.heap[b]? = some (.cells #[.int .i64 k, .int .i64 s, z] 24 (0, 0))
theorem Box.c0 {w : World} {b : Nat} {k s : Int} {z : Value} (h : Box w b k s z) : w.cell? ⟨b, 0, none⟩ = some (.int .i64 k) := cell_in h 0
theorem Box.c1 {w : World} {b : Nat} {k s : Int} {z : Value} (h : Box w b k s z) : w.cell? ⟨b, 1, none⟩ = some (.int .i64 s) := cell_in h 1
theorem Box.c2 {w : World} {b : Nat} {k s : Int} {z : Value} (h : Box w b k s z) : w.cell? ⟨b, 2, none⟩ = some z := cell_in h 2
theorem Box.lt {w : World} {b : Nat} {k s : Int} {z : Value} (h : Box w b k s z) : b < w.heap.size := lt_of_heap h
theorem Box.below {w w' : World} {b : Nat} {k s : Int} {z : Value} (h : Box w b k s z) (hb : Below w.heap.size w w') : Box w' b k s z := (hb.block b h.lt).trans h
theorem box_new (w : World) (k s : Int) (z : Value) : Box (w.alloc (.cells #[.int .i64 k, .int .i64 s, z] 24)) w.heap.size k s z := heap_new' _ _
theorem kdx_below {w W : World} {z : Value} {l : List Nd} (h : KdX (fun k => k < w.heap.size) w z l) (hb : Below w.heap.size w W) : KdX (fun k => k < W.heap.size) W z l := h.to (fun k hk => ⟨hb.block k hk, by have := hb.size; omega⟩)
theorem wrd_below {w W : World} {v : Value} {ws : List Nat} (h : WrdAt w.heap.size w v ws) (hb : Below w.heap.size w W) : WrdAt W.heap.size W v ws := h.to (fun k hk => hb.block k hk) hb.size
/-- Several expressions in a row that was just built. -/
theorem kdx_built {w : World} {l : List (Nd × Value)} {g c : Nat} (h : w.heap[g]? = some (.cells (cellsNs l).toArray 24 (0, 0))) (hc : l.length ≤ c) (hk : ∀ x ∈ l, KdX (fun k => k < w.heap.size) w x.2 x.1.kids) : KdX (fun k => k < w.heap.size) w (.slice (some ⟨g, 0, none⟩) l.length c) (l.map Prod.fst) :=
  kids_of_block h rfl hc (lt_of_heap h) hk
theorem dp_built {d : Nat} {l : List Nd} (hl : l.length ≤ 1000) (h : ∀ x ∈ l, Dp d x.kids) : Dp (d + 1) l := ⟨hl, h⟩
theorem alloc2 {w W : World} {o1 o2 : Obj} (h : W = (w.alloc o1).alloc o2) : W.heap[w.heap.size]? = some o1 ∧ W.heap[w.heap.size + 1]? = some o2 ∧ Below w.heap.size w W ∧ W.heap.size = w.heap.size + 2 := by
  subst h
  refine ⟨?_, ?_, ((Below.refl _ _).alloc (Nat.le_refl _) _).alloc (by simp) _, by simp⟩
  · rw [Below.heap_alloc _ _ _ (by simp)]; exact heap_new' _ _
  · have := heap_new' (w.alloc o1) o2
    rwa [World.size_alloc] at this
theorem alloc3 {w W : World} {o1 o2 o3 : Obj} (h : W = ((w.alloc o1).alloc o2).alloc o3) : W.heap[w.heap.size]? = some o1 ∧ W.heap[w.heap.size + 1]? = some o2 ∧ W.heap[w.heap.size + 2]? = some o3 ∧ Below w.heap.size w W ∧ W.heap.size = w.heap.size + 3 := by
  obtain ⟨V, hV⟩ : ∃ V, V = (w.alloc o1).alloc o2 := ⟨_, rfl⟩
  rw [← hV] at h
  obtain ⟨a1, a2, a3, a4⟩ := alloc2 hV
  have b3 : Below V.heap.size V W := by rw [h]; exact below_alloc _ _
  have b1 : W.heap[V.heap.size]? = some o3 := by rw [h]; exact heap_new' _ _
  rw [a4] at b1
  exact ⟨(b3.block _ (by omega)).trans a1, (b3.block _ (by omega)).trans a2, b1, a3.trans (b3.mono (by omega)), by rw [h]; simp; omega⟩
theorem alloc4 {w W : World} {o1 o2 o3 o4 : Obj} (h : W = (((w.alloc o1).alloc o2).alloc o3).alloc o4) : W.heap[w.heap.size]? = some o1 ∧ W.heap[w.heap.size + 1]? = some o2 ∧ W.heap[w.heap.size + 2]? = some o3 ∧ W.heap[w.heap.size + 3]? = some o4 ∧ Below w.heap.size w W ∧ W.heap.size = w.heap.size + 4 := by
  obtain ⟨V, hV⟩ : ∃ V, V = (w.alloc o1).alloc o2 := ⟨_, rfl⟩
  rw [← hV] at h
  obtain ⟨a1, a2, a3, a4⟩ := alloc2 hV
  obtain ⟨b1, b2, b3, b4⟩ := alloc2 h
  rw [a4] at b1 b2
  exact ⟨(b3.block _ (by omega)).trans a1, (b3.block _ (by omega)).trans a2, b1, b2, a3.trans (b3.mono (by omega)), by omega⟩
theorem below_drew1 {w w' : World} (h : Below (w.drewN 1).heap.size (w.drewN 1) w') : Below w.heap.size w w' := below_after (below_drewN' (Below.refl _ _) 1) h

/-- The first signs of a word, and those behind them. -/
theorem wrd_take {w : World} {B : Nat} {wa : Option Addr} {wl wc : Nat} {ws : List Nat} (h : WrdAt B w (.slice wa wl wc) ws) (hl : wl = ws.length) {i : Nat} (hi : i ≤ wl) : WrdAt B w (.slice wa i wc) (ws.take i) := by
  obtain ⟨a, c, e, hc, hx⟩ := h
  obtain ⟨rfl, _, rfl⟩ : wa = a ∧ wl = ws.length ∧ wc = c := by simpa using e
  have hle : (ws.take i).length = i := by rw [List.length_take]; omega
  refine ⟨wa, wc, by rw [hle], by omega, fun j hj => ?_⟩
  obtain ⟨h1, g, off, r1, r2, r3⟩ := hx j (by omega)
  have eg : (ws.take i)[j] = ws[j]'(by omega) := by simp
  rw [eg]
  exact ⟨h1, g, off, r1, r2, r3⟩
def dropA (wa : Option Addr) (wc i : Nat) : Option Addr := match wa with
  | none => none
  | some a => if wc = i then some a else some (a.add i)
theorem wrd_drop {w : World} {B : Nat} {wa : Option Addr} {wl wc : Nat} {ws : List Nat} (h : WrdAt B w (.slice wa wl wc) ws) (hl : wl = ws.length) {i : Nat} (hi : i ≤ wl) : WrdAt B w (.slice (dropA wa wc i) (wl - i) (wc - i)) (ws.drop i) := by
  obtain ⟨a, c, e, hc, hx⟩ := h
  obtain ⟨rfl, _, rfl⟩ : wa = a ∧ wl = ws.length ∧ wc = c := by simpa using e
  have hle : (ws.drop i).length = wl - i := by rw [List.length_drop]; omega
  refine ⟨_, wc - i, by rw [hle], by omega, fun j hj => ?_⟩
  rw [hle] at hj
  obtain ⟨h1, g', off', r1, r2, r3⟩ := hx (i + j) (by omega)
  subst r1
  have eg : (ws.drop i)[j]'(by omega) = ws[i + j]'(by omega) := by simp
  rw [eg]
  refine ⟨h1, g', off' + i, ?_, r2, by rw [Nat.add_assoc]; exact r3⟩
  show (if wc = i then _ else _) = _
  rw [if_neg (by omega), addr_add]

/-- Parted ahead of i, into words of both. -/
def AnyQ (ws : List Nat) (a b : Nd) (v : Bool) (i : Nat) : Prop := v = true ↔ ∃ m, m < i ∧ wholeP (ws.take m) a ∧ wholeP (ws.drop m) b
theorem anyQ_zero (ws : List Nat) (a b : Nd) : AnyQ ws a b false 0 := ⟨fun h => (by cases h), fun ⟨m, h, _⟩ => (by omega)⟩
theorem AnyQ.yes {ws : List Nat} {a b : Nd} {i : Nat} (h : AnyQ ws a b true i) : AnyQ ws a b true (i + 1) := ⟨fun _ => (by
  obtain ⟨m, h1, h2⟩ := h.1 rfl
  exact ⟨m, by omega, h2⟩), fun _ => rfl⟩
theorem AnyQ.no {ws : List Nat} {a b : Nd} {i : Nat} (h : AnyQ ws a b false i) (hx : false = wholeB (ws.take i) a) : AnyQ ws a b false (i + 1) := ⟨fun h => (by cases h), fun ⟨m, h1, h2, h3⟩ => (by
  by_cases e : m < i
  · exact h.2 ⟨m, e, h2, h3⟩
  · obtain rfl : m = i := by omega
    have := wholeB_iff.2 h2
    rw [← hx] at this; cases this)⟩
theorem AnyQ.call {ws : List Nat} {a b : Nd} {i : Nat} {y : Bool} (h : AnyQ ws a b false i) (hx : true = wholeB (ws.take i) a) (hy : y = wholeB (ws.drop i) b) : AnyQ ws a b y (i + 1) := ⟨fun e => ⟨i, by omega, wholeB_iff.1 hx.symm, wholeB_iff.1 (by rw [← hy]; exact e)⟩, fun ⟨m, h1, h2, h3⟩ => (by
  by_cases e : m < i
  · have := h.2 ⟨m, e, h2, h3⟩
    cases this
  · obtain rfl : m = i := by omega
    rw [hy]; exact wholeB_iff.2 h3)⟩
theorem AnyQ.done {ws : List Nat} {a b : Nd} {v : Bool} (h : AnyQ ws a b v (ws.length + 1)) : wholeB ws ⟨0, 0, [a, b]⟩ = v := by
  rw [Bool.eq_iff_iff, wholeB_iff, parts_cat]
  unfold AnyQ at h
  rw [h]
  exact ⟨fun ⟨i, hi, h2⟩ => ⟨i, by omega, h2⟩, fun ⟨i, hi, h2⟩ => ⟨i, by omega, h2⟩⟩
theorem alt_both (ws : List Nat) (a b : Nd) : wholeB ws ⟨2, 0, [a, b]⟩ = ((rightN a && rightN b) && (wholeB ws a || wholeB ws b)) := by
  rw [Bool.eq_iff_iff, wholeB_iff, whole_alt]
  simp only [List.mem_cons, List.not_mem_nil, or_false, forall_eq_or_imp, forall_eq, exists_eq_or_imp, exists_eq_left, Bool.and_eq_true, Bool.or_eq_true, wholeB_iff]

/-- The order of what an alternative has, and how often. -/
theorem alts_same (ws : List Nat) (a b : Nd) : wholeB ws ⟨2, 0, [a, b]⟩ = wholeB ws ⟨2, 0, [b, a, b]⟩ := by
  rw [Bool.eq_iff_iff, wholeB_iff, wholeB_iff, whole_alt, whole_alt]
  simp only [List.mem_cons, List.not_mem_nil, or_false, forall_eq_or_imp, forall_eq, exists_eq_or_imp, exists_eq_left]
  constructor
  · rintro ⟨⟨h1, h2⟩, h3 | h3⟩
    · exact ⟨⟨h2, h1, h2⟩, .inr (.inl h3)⟩
    · exact ⟨⟨h2, h1, h2⟩, .inl h3⟩
  · rintro ⟨⟨h1, h2, h3⟩, h4 | h4 | h4⟩
    · exact ⟨⟨h2, h1⟩, .inr h4⟩
    · exact ⟨⟨h2, h1⟩, .inl h4⟩
    · exact ⟨⟨h2, h1⟩, .inr h4⟩
theorem none_whole {ws : List Nat} (h : ∀ q, bitW ws 7 q = false) : wholeB ws ⟨1, 7, []⟩ = false := by
  cases hb : wholeB ws ⟨1, 7, []⟩ with
  | false => rfl
  | true =>
    rw [wholeB_iff] at hb
    have := ((rel_set _ _ _ _ _).1 hb.2).2
    rw [h] at this; cases this
theorem alts_none {ws : List Nat} (a : Nd) (h : ∀ q, bitW ws 7 q = false) : wholeB ws ⟨2, 0, [a, ⟨1, 7, []⟩]⟩ = wholeB ws a := by
  rw [Bool.eq_iff_iff, wholeB_iff, wholeB_iff, whole_alt]
  have hn : ¬ wholeP ws ⟨1, 7, []⟩ := fun hp => by
    have := none_whole h
    rw [wholeB_iff.2 hp] at this; cases this
  have hr : rightN ⟨1, 7, []⟩ = true := by simp [rightN_mk, rightL, mayK]
  simp only [List.mem_cons, List.not_mem_nil, or_false, forall_eq_or_imp, forall_eq, exists_eq_or_imp, exists_eq_left, hn, hr, and_true]
  exact ⟨fun h => h.2, fun h => ⟨h.1, h⟩⟩
end Go.Proofs.YtklhjjgnhigbiaaGreatDoor
