/-
  Memory of states: numbers, rows of numbers, Booleans, and what keeps them. (Out of the texts of stages 10 to 12, by ext.py.)
-/
import Derived.Test.YtleafbbcgebmpaaDoorRows
import Derived.Below
import Derived.Deep.RegionLaw
import Derived.Deep.CutRange
import Derived.Shelf.Abstract
import Derived.WalkKit
import Derived.WalkSpells
import Derived.OwnWalk
import Derived.Outline
import Derived.Deep.RegionHeld3
import Derived.Laws.AppendOwnNone
import Derived.Maps.AppendAt
import Derived.Deep.AppendLies
import Derived.Laws.Rows
import Derived.BigQuiet
import Derived.Lib.OwnBridge
import Derived.Laws.Bits64b
import Derived.Lib.AppendZeros
import Derived.Lib.SliceRun
import Derived.Laws.ResultCell
import Derived.Maps.OwnSet
import Derived.Maps.Views
namespace Go.Proofs.YtleafbbcgebmpaaDoor
open Go.RowKit
set_option linter.unusedVariables false

theorem below_alloc (w : World) (o : Obj) : Below w.heap.size w (w.alloc o) := (Below.refl _ _).alloc (Nat.le_refl _) o
theorem below_after {a b c : World} (h : Below a.heap.size a b) (k : Below b.heap.size b c) : Below a.heap.size a c := h.trans (k.mono h.size)
theorem heap_new' (w : World) (o : Obj) : (w.alloc o).heap[w.heap.size]? = some o := by
  show (w.heap.push o)[w.heap.size]? = _
  simp
theorem below_drewN' {B : Nat} {a w : World} (h : Below B a w) : ∀ k, Below B a (w.drewN k)
  | 0 => h
  | k + 1 => (below_drewN' h k).drew
theorem add_lit' (g j : Nat) : (⟨g, 0, none⟩ : Addr).add j = ⟨g, 0 + j, none⟩ := by unfold Addr.add; split <;> simp_all
theorem addr_add (g off j : Nat) : (⟨g, off, none⟩ : Addr).add j = ⟨g, off + j, none⟩ := by unfold Addr.add; split <;> simp_all
theorem cell_some_lt {w : World} {a : Addr} {v : Value} (h : w.cell? a = some v) : a.block < w.heap.size := by
  rcases Nat.lt_or_ge a.block w.heap.size with q | q
  · exact q
  · simp [World.cell?, Array.getElem?_eq_none q] at h
theorem cell_in {w : World} {b : Nat} {cs : Array Value} {t : TypeId} {fr : Nat × Nat} (h : w.heap[b]? = some (.cells cs t fr)) (i : Nat) : w.cell? ⟨b, i, none⟩ = cs[i]? := by
  simp [World.cell?, h]
theorem lt_of_heap {w : World} {b : Nat} {o : Obj} (h : w.heap[b]? = some o) : b < w.heap.size := (Array.getElem?_eq_some_iff.1 h).1
theorem ownsRow_below {w w' : World} {base e size n : Nat} {v : Value} {xs : List Value} (h : w.ownsRow base e size v n xs) (hb : Below w.heap.size w w') : w'.ownsRow base e size v n xs :=
  World.ownsRow.kept (row := none) h ⟨hb.os, hb.tape, hb.output, hb.size, fun k hk _ => hb.block k hk⟩ (by cases v.ownBlock <;> simp)
theorem info_parts {t : TypeId} {z : Value} {s b : Nat} (h : (Tryd.prog.info? t).map (fun i => (i.zero, i.size, i.bytes)) = some (some z, s, b)) : ∃ i, Tryd.prog.info? t = some i ∧ i.zero = some z ∧ i.size = s ∧ i.bytes = b := by
  cases hi : Tryd.prog.info? t with
  | none => rw [hi] at h; cases h
  | some i =>
    rw [hi] at h
    simp only [Option.map_some, Option.some.injEq, Prod.mk.injEq] at h
    exact ⟨i, rfl, h.1, h.2.1, h.2.2⟩
theorem Tryd.infoInt : (Tryd.prog.info? 3).map (fun i => (i.zero, i.size, i.bytes)) = some (some (.int .i64 0), 1, 8) := by kernel_rfl
/-- What is appended: nothing, of a nil slice; or the cells news. -/
def SrcIs (w : World) (x : Value) (m size : Nat) (news : List Value) : Prop :=
  (x = .slice none 0 0 ∧ m = 0 ∧ news = []) ∨ ∃ ad c, x = .slice (some ad) m c ∧ news.length = m * size ∧ (∀ j u, news[j]? = some u → w.cell? (ad.add j) = some u) ∧ ∀ u ∈ news, u.oneCell' = true
theorem wpList_append_src {P : Program} (w : World) {ops : Array Oper} {rest : List Oper} {o : Oper} {a : Act} {Q : Exit → Act → World → Prop} (hgd : o.guard = none) (s x : Operand) (t : TypeId)
    (ho : o.op = .call { callee := .builtin .append, args := #[s, x], argTypes := #[t, t] })
    (base : Nat) (e : TypeId) (i : TypeInfo) (z : Value) (size bytes : Nat) (ht : P.underlying t = some (.slice e)) (hi : P.info? e = some i) (hz : i.zero = some z)
    (hsize : i.size = size) (hby : i.bytes = bytes) (hzs : z.cells.size = size) (hsz : 0 < size)
    (v : Value) (n : Nat) (xs : List Value) (hs : a.eval s = v) (hown : w.ownsRow base e size v n xs) (y : Value) (hx : a.eval x = y)
    (m : Nat) (news : List Value) (hsrc : SrcIs w y m size news) (h63 : n + m ≤ maxLen) (hbytes : (n + m) * bytes ≤ 140737488355328) (hbase : base ≤ w.heap.size)
    (h : ∀ v' w', w'.ownsRow base e size v' (n + m) (xs ++ news) → w.grownBy w' v.ownBlock → wpList P ops Q rest (a.put o.dst v') w') : wpList P ops Q (o :: rest) a w := by
  subst hx
  rcases hsrc with ⟨hx, rfl, rfl⟩ | ⟨ad, c, hx, hl, hc, h1⟩
  · refine wpList_append_own_none hgd s x t ho base e i size ht hi v n xs hs hown hx ?_
    refine h v w (by simpa using hown) ⟨rfl, rfl, rfl, Nat.le_refl _, fun _ _ _ => rfl⟩
  · exact wpList_append_own w hgd s x t ho base e i z size bytes ht hi hz hsize hby hzs hsz v n xs hs hown ad m c news hx hl hc h1 h63 hbytes hbase fun v' w' h2 h3 _ => h v' w' h2 h3
/-- Places as cells. -/
def cellP (l : List Nat) : List Value := l.map fun (n : Nat) => Value.int .i64 (n : Int)
theorem cellP_snoc (l : List Nat) (x : Nat) : cellP (l ++ [x]) = cellP l ++ [.int .i64 (x : Int)] := by simp [cellP]
theorem cellP_append (a b : List Nat) : cellP (a ++ b) = cellP a ++ cellP b := by simp [cellP]
theorem cellP_length (a : List Nat) : (cellP a).length = a.length := by simp [cellP]
theorem cellP_one (l : List Nat) : ∀ u ∈ cellP l, u.oneCell' = true := fun u hu => by
  obtain ⟨n, _, rfl⟩ := List.mem_map.1 hu
  rfl
/-- The slice value v holds the places l, in a block from B on, or in an old one. -/
def PlcAt (b0 B : Nat) (w : World) (v : Value) (l : List Nat) : Prop :=
  ∃ a cap, v = .slice a l.length cap ∧ l.length ≤ cap ∧ (a = none → cap = 0) ∧ ∀ i, (h : i < l.length) → ∃ g off, a = some ⟨g, off, none⟩ ∧ (g < b0 ∨ B ≤ g) ∧ g < w.heap.size ∧ w.cell? ⟨g, off + i, none⟩ = some (.int .i64 (l[i] : Int))
theorem PlcAt.nil (b0 B : Nat) (w : World) : PlcAt b0 B w (.slice none 0 0) [] := ⟨none, 0, rfl, Nat.le_refl _, fun _ => rfl, fun i h => (by cases h)⟩
theorem PlcAt.to {b0 B : Nat} {w w' : World} {v : Value} {l : List Nat} (h : PlcAt b0 B w v l) (hq : ∀ k, (k < b0 ∨ B ≤ k) → k < w.heap.size → w'.heap[k]? = w.heap[k]?) (hs : w.heap.size ≤ w'.heap.size) : PlcAt b0 B w' v l := by
  obtain ⟨a, cap, rfl, hc, hn, hi⟩ := h
  refine ⟨a, cap, rfl, hc, hn, fun i hlt => ?_⟩
  obtain ⟨g, off, rfl, hg, hg2, h0⟩ := hi i hlt
  exact ⟨g, off, rfl, hg, Nat.lt_of_lt_of_le hg2 hs, (World.cell?_of_block (a := ⟨g, _, none⟩) (hq g hg hg2)).trans h0⟩
theorem PlcAt.below {b0 B : Nat} {w w' : World} {v : Value} {l : List Nat} (h : PlcAt b0 B w v l) (hb : Below w.heap.size w w') : PlcAt b0 B w' v l := h.to (fun k _ hk => hb.block k hk) hb.size
theorem PlcAt.less {b0 B C : Nat} {w : World} {v : Value} {l : List Nat} (h : PlcAt b0 B w v l) (hc : C ≤ B) : PlcAt b0 C w v l := by
  obtain ⟨a, cap, rfl, hc', hn, hi⟩ := h
  refine ⟨a, cap, rfl, hc', hn, fun i hlt => ?_⟩
  obtain ⟨g, off, rfl, hg, hg2, h0⟩ := hi i hlt
  exact ⟨g, off, rfl, hg.imp id (Nat.le_trans hc), hg2, h0⟩
theorem PlcAt.src {b0 B : Nat} {w : World} {v : Value} {l : List Nat} (h : PlcAt b0 B w v l) : SrcIs w v l.length 1 (cellP l) := by
  obtain ⟨a, cap, rfl, hc, hn, hi⟩ := h
  cases a with
  | none =>
    have h0 : l = [] := by
      cases l with
      | nil => rfl
      | cons x l => obtain ⟨g, off, e, _⟩ := hi 0 (by simp); cases e
    subst h0
    exact .inl ⟨by rw [hn rfl]; rfl, rfl, rfl⟩
  | some ad =>
    refine .inr ⟨ad, cap, rfl, by rw [cellP_length, Nat.mul_one], fun j u hj => ?_, cellP_one l⟩
    have hlt : j < l.length := by
      have := (List.getElem?_eq_some_iff.1 hj).1
      rwa [cellP_length] at this
    obtain ⟨g', off', e, _, _, hcell⟩ := hi j hlt
    cases e
    rw [addr_add, hcell]
    simp only [cellP, List.getElem?_map, List.getElem?_eq_getElem hlt, Option.map_some] at hj
    exact hj
theorem plc_of_row {w : World} {b0 B base : Nat} {v : Value} {l : List Nat} (h : w.ownsRow base 3 1 v l.length (cellP l)) (hB : B ≤ base) : PlcAt b0 B w v l := by
  rcases h.2 with ⟨rfl, h0⟩ | ⟨g, cap, cur, rfl, hb, hg, hc, hm, hs, ht⟩
  · obtain rfl : l = [] := List.length_eq_zero_iff.1 h0
    exact PlcAt.nil _ _ _
  · refine ⟨_, cap, rfl, hc, fun e => (by cases e), fun i hi => ⟨g, 0, rfl, .inr (Nat.le_trans hB hb), lt_of_heap hg, ?_⟩⟩
    have := h.cells (g := g) rfl i (.int .i64 (l[i] : Int)) (by simp [cellP, hi])
    rw [add_lit'] at this
    exact this
/-- What lies outside lo .. hi stays. -/
def FrI (lo hi : Nat) (w w' : World) : Prop := Below lo w w' ∧ ∀ k, hi ≤ k → k < w.heap.size → w'.heap[k]? = w.heap[k]?
theorem FrI.of {lo hi : Nat} {w w' : World} (h : Below w.heap.size w w') (hl : lo ≤ w.heap.size) : FrI lo hi w w' := ⟨h.mono hl, fun k _ hk => h.block k hk⟩
theorem own_set {w : World} {base e G n C i : Nat} {xs : List Value} (h : w.ownsRow base e 1 (.slice (some ⟨G, 0, none⟩) n C) n xs) (u : Value) : (w.setCell ⟨G, i, none⟩ u).ownsRow base e 1 (.slice (some ⟨G, 0, none⟩) n C) n (xs.set i u) := by
  have hl := h.1
  rcases h.2 with ⟨e0, _⟩ | ⟨g', cap', cur, e0, hb, hg, hc, hm, hs, ht⟩
  · cases e0
  · obtain ⟨rfl, rfl⟩ : G = g' ∧ C = cap' := by simpa using e0
    refine ⟨by simpa using hl, .inr ⟨G, C, cur.setIfInBounds i u, rfl, hb, ?_, hc, hm, by simpa using hs, ?_⟩⟩
    · simp [World.setCell, Array.getElem?_modify, hg]
    · rw [show (cur.setIfInBounds i u).toList = cur.toList.set i u by simp, List.take_set, ht]
theorem own_at {w : World} {base e G n C : Nat} {xs : List Value} (h : w.ownsRow base e 1 (.slice (some ⟨G, 0, none⟩) n C) n xs) {i : Nat} (hi : i < n) : w.cell? ⟨G, i, none⟩ = xs[i]? ∧ w.frozen? ⟨G, i, none⟩ = false := by
  rcases h.2 with ⟨e0, _⟩ | ⟨g', cap', cur, e0, hb, hg, hc, hm, hs, ht⟩
  · cases e0
  · obtain ⟨rfl, rfl⟩ : G = g' ∧ C = cap' := by simpa using e0
    refine ⟨?_, by simp [World.frozen?, hg]⟩
    rw [cell_in hg, ← ht, List.getElem?_take, if_pos (by omega), Array.getElem?_toList]
theorem alloc2 {w W : World} {o1 o2 : Obj} (h : W = (w.alloc o1).alloc o2) : W.heap[w.heap.size]? = some o1 ∧ W.heap[w.heap.size + 1]? = some o2 ∧ Below w.heap.size w W ∧ W.heap.size = w.heap.size + 2 := by
  subst h
  refine ⟨?_, ?_, ((Below.refl _ _).alloc (Nat.le_refl _) _).alloc (by simp) _, by simp⟩
  · rw [Below.heap_alloc _ _ _ (by simp)]; exact heap_new' _ _
  · have := heap_new' (w.alloc o1) o2
    rwa [World.size_alloc] at this
theorem alloc3 {w W : World} {o1 o2 o3 : Obj} (h : W = ((w.alloc o1).alloc o2).alloc o3) : W.heap[w.heap.size]? = some o1 ∧ W.heap[w.heap.size + 1]? = some o2 ∧ W.heap[w.heap.size + 2]? = some o3 ∧ Below w.heap.size w W ∧ W.heap.size = w.heap.size + 3 := by
  obtain ⟨V, hV⟩ : ∃ V, V = (w.alloc o1).alloc o2 := ⟨_, rfl⟩
  rw [← hV] at h
  obtain ⟨a1, a2, a3, a4⟩ := alloc2 hV
  have b3 : Below V.heap.size V W := by rw [h]; exact below_alloc _ _
  have b1 : W.heap[V.heap.size]? = some o3 := by rw [h]; exact heap_new' _ _
  rw [a4] at b1
  exact ⟨(b3.block _ (by omega)).trans a1, (b3.block _ (by omega)).trans a2, b1, a3.trans (b3.mono (by omega)), by rw [h]; simp; omega⟩
theorem heap_setN {w : World} {b i : Nat} {cs : Array Value} {t : TypeId} {fr : Nat × Nat} (h : w.heap[b]? = some (.cells cs t fr)) (v : Value) : (w.setCell ⟨b, i, none⟩ v).heap[b]? = some (.cells (cs.setIfInBounds i v) t fr) := by
  simp [World.setCell]
  rw [Array.getElem?_modify, if_pos rfl, h]
  rfl
/-- The slice value v holds the places l, in a block of numbers from hi on. -/
def LstAt (hi : Nat) (w : World) (v : Value) (l : List Nat) : Prop :=
  ∃ a cap, v = .slice a l.length cap ∧ l.length ≤ cap ∧ (a = none → cap = 0) ∧ (0 < l.length → ∃ g off cs fr, a = some ⟨g, off, none⟩ ∧ hi ≤ g ∧ w.heap[g]? = some (.cells cs 3 fr) ∧ ∀ i, (h : i < l.length) → cs[off + i]? = some (.int .i64 (l[i] : Int)))
theorem LstAt.plc {hi : Nat} {w : World} {v : Value} {l : List Nat} (h : LstAt hi w v l) : PlcAt 0 hi w v l := by
  obtain ⟨a, cap, rfl, hc, hn, hx⟩ := h
  refine ⟨a, cap, rfl, hc, hn, fun i hi' => ?_⟩
  obtain ⟨g, off, cs, fr, rfl, hg, hw, hcs⟩ := hx (by omega)
  exact ⟨g, off, rfl, .inr hg, lt_of_heap hw, (cell_in hw _).trans (hcs i hi')⟩
theorem LstAt.slice {hi : Nat} {w : World} {v : Value} {l : List Nat} (h : LstAt hi w v l) : ∃ a cap, v = .slice a l.length cap := by
  obtain ⟨a, cap, e, _⟩ := h; exact ⟨a, cap, e⟩
theorem LstAt.to {hi : Nat} {w w' : World} {v : Value} {l : List Nat} (h : LstAt hi w v l) (hq : ∀ g cs fr, hi ≤ g → w.heap[g]? = some (.cells cs 3 fr) → w'.heap[g]? = w.heap[g]?) : LstAt hi w' v l := by
  obtain ⟨a, cap, rfl, hc, hn, hx⟩ := h
  refine ⟨a, cap, rfl, hc, hn, fun h0 => ?_⟩
  obtain ⟨g, off, cs, fr, rfl, hg, hw, hcs⟩ := hx h0
  exact ⟨g, off, cs, fr, rfl, hg, (hq g cs fr hg hw).trans hw, hcs⟩
theorem LstAt.below {hi : Nat} {w w' : World} {v : Value} {l : List Nat} (h : LstAt hi w v l) (hb : Below w.heap.size w w') : LstAt hi w' v l := h.to (fun g cs fr hg hw => hb.block g (lt_of_heap hw))
theorem LstAt.nil (hi : Nat) (w : World) : LstAt hi w (.slice none 0 0) [] := ⟨none, 0, rfl, Nat.le_refl _, fun _ => rfl, fun h => absurd h (by simp)⟩
theorem lst_of_row {w : World} {base hi : Nat} {v : Value} {l : List Nat} (h : w.ownsRow base 3 1 v l.length (cellP l)) (hB : hi ≤ base) : LstAt hi w v l := by
  rcases h.2 with ⟨rfl, h0⟩ | ⟨g, cap, cur, rfl, hb, hg, hc, hm, hs, ht⟩
  · obtain rfl : l = [] := List.length_eq_zero_iff.1 h0
    exact LstAt.nil _ _
  · refine ⟨_, cap, rfl, hc, fun e => (by cases e), fun _ => ⟨g, 0, cur, (0, 0), rfl, Nat.le_trans hB hb, hg, fun i hi => ?_⟩⟩
    have := h.cells (g := g) rfl i (.int .i64 (l[i] : Int)) (by simp [cellP, hi])
    rw [add_lit', cell_in hg] at this
    exact this
theorem lst_one {hi : Nat} (w : World) (x : Nat) (h : hi ≤ w.heap.size) : LstAt hi (w.alloc (.cells #[.int .i64 (x : Int)] 3)) (.slice (some ⟨w.heap.size, 0, none⟩) 1 1) [x] := ⟨_, 1, rfl, Nat.le_refl _, fun e => (by cases e), fun _ => ⟨w.heap.size, 0, _, _, rfl, h, heap_new' _ _, fun i hi => by
  have h0 : i = 0 := by simpa using hi
  subst h0; rfl⟩⟩
def cellI (l : List Int) : List Value := l.map fun n => Value.int .i64 n
theorem own_any {w : World} {base e size n : Nat} {v : Value} {xs : List Value} (h : w.ownsRow base e size v n xs) : ∃ a m c, v = .slice a m c := by
  rcases h.2 with ⟨rfl, _⟩ | ⟨g, cap, cur, rfl, _⟩
  · exact ⟨_, _, _, rfl⟩
  · exact ⟨_, _, _, rfl⟩
/-- Only the block b was written. -/
structure OnlyB (b : Nat) (w w' : World) : Prop where
  os : w'.os = w.os
  tape : w'.tape = w.tape
  output : w'.output = w.output
  size : w'.heap.size = w.heap.size
  block : ∀ k, k ≠ b → w'.heap[k]? = w.heap[k]?
theorem OnlyB.refl (b : Nat) (w : World) : OnlyB b w w := ⟨rfl, rfl, rfl, rfl, fun _ _ => rfl⟩
theorem OnlyB.set {b : Nat} {w w' : World} (h : OnlyB b w w') (i : Nat) (v : Value) : OnlyB b w (w'.setCell ⟨b, i, none⟩ v) := by
  have e : (w'.setCell ⟨b, i, none⟩ v).heap.size = w'.heap.size := by simp [World.setCell]
  exact ⟨h.os, h.tape, h.output, e.trans h.size, fun k hk => (Below.heap_setCell _ _ _ _ hk).trans (h.block k hk)⟩
theorem OnlyB.drew {b : Nat} {w w' : World} (h : OnlyB b w w') : OnlyB b w w'.drew := ⟨h.os, h.tape, h.output, h.size, h.block⟩
theorem LstAt.only {hi b : Nat} {w w' : World} {v : Value} {l : List Nat} {cs : Array Value} {t : TypeId} {fr : Nat × Nat} (h : LstAt hi w v l) (hb : OnlyB b w w') (hbb : w.heap[b]? = some (.cells cs t fr)) (ht : t ≠ 3) : LstAt hi w' v l :=
  h.to (fun g cs' fr' _ hw => hb.block g (fun e => by
    subst e
    rw [hbb] at hw
    injection hw with hw
    injection hw with _ hw _
    exact ht hw))
theorem LstAt.any {hi : Nat} {w : World} {v : Value} {l : List Nat} (h : LstAt hi w v l) : ∃ a n c, v = .slice a n c := by
  obtain ⟨a, cap, e, _⟩ := h; exact ⟨a, _, cap, e⟩
def IntsAt (w : World) (v : Value) (l : List Int) : Prop :=
  ∃ a cap, v = .slice a l.length cap ∧ l.length ≤ cap ∧ (a = none → cap = 0) ∧ ∀ i, (h : i < l.length) → ∃ g off, a = some ⟨g, off, none⟩ ∧ g < w.heap.size ∧ w.cell? ⟨g, off + i, none⟩ = some (.int .i64 l[i])
theorem IntsAt.below {w w' : World} {v : Value} {l : List Int} (h : IntsAt w v l) (hb : Below w.heap.size w w') : IntsAt w' v l := by
  obtain ⟨a, cap, rfl, hc, hn, hx⟩ := h
  refine ⟨a, cap, rfl, hc, hn, fun i hi => ?_⟩
  obtain ⟨g, off, rfl, hg, h0⟩ := hx i hi
  exact ⟨g, off, rfl, Nat.lt_of_lt_of_le hg hb.size, (hb.cell (p := ⟨g, _, none⟩) hg).trans h0⟩
theorem IntsAt.nil (w : World) : IntsAt w (.slice none 0 0) [] := ⟨none, 0, rfl, Nat.le_refl _, fun _ => rfl, fun i h => (by cases h)⟩
theorem IntsAt.slice {w : World} {v : Value} {l : List Int} (h : IntsAt w v l) : ∃ a cap, v = .slice a l.length cap ∧ l.length ≤ cap := by
  obtain ⟨a, cap, e, hc, _⟩ := h; exact ⟨a, cap, e, hc⟩
theorem IntsAt.at {w : World} {a : Option Addr} {len cap : Nat} {l : List Int} (h : IntsAt w (.slice a len cap) l) {j : Nat} (hj : j < l.length) : ∃ ga oa, a = some ⟨ga, oa, none⟩ ∧ ga < w.heap.size ∧ w.cell? ⟨ga, oa + j, none⟩ = some (.int .i64 l[j]) := by
  obtain ⟨a', c', e1, _, _, hx⟩ := h
  obtain ⟨g, off, e2, h1, h2⟩ := hx j hj
  exact ⟨g, off, by simp at e1; rw [e1.1]; exact e2, h1, h2⟩
theorem results_cell_tmp_row {P : Program} {fn : Func} {p u : Tmp} {ty : TypeId} (h : fn.results = #[.cell p ty, .tmp u]) (tmps : Array Value) (w : World) (g : Nat) (t : TypeId) (cs : Array Value) (fr : Nat × Nat) (d : TypeDesc)
    (hp : tmps.getD p undef = .pointer (some ⟨g, 0, none⟩)) (hg : w.heap[g]? = some (.cells cs t fr))
    (hu : P.underlying ty = some d) (hd : (match d with | .struct _ | .array _ _ => true | _ => false) = true) (hi : (P.info? ty).map (·.size) = some cs.size) :
    (results fn tmps).run P w = .ok (.tuple #[.agg cs, tmps.getD u undef]) w := by
  rw [results_cell_tmp h, hp]
  simp [asAddr, run_loadVar_row w g t ty cs fr d hg hu hd hi]
theorem own_blk {w w' : World} {base e size n : Nat} {v : Value} {xs : List Value} (h : w.ownsRow base e size v n xs) (hb : ∀ k, v.ownBlock = some k → w'.heap[k]? = w.heap[k]?) : w'.ownsRow base e size v n xs := by
  refine ⟨h.1, ?_⟩
  rcases h.2 with ⟨h1, h2⟩ | ⟨g, cap, cur, rfl, h2, h3, h4⟩
  · exact .inl ⟨h1, h2⟩
  · exact .inr ⟨g, cap, cur, rfl, h2, (hb g rfl).trans h3, h4⟩
theorem own_typed {w : World} {base e size n k : Nat} {v : Value} {xs : List Value} (h : w.ownsRow base e size v n xs) (hk : v.ownBlock = some k) : ∃ cs, w.heap[k]? = some (.cells cs e (0, 0)) := by
  rcases h.2 with ⟨rfl, _⟩ | ⟨g, cap, cur, rfl, h2, h3, h4⟩
  · cases hk
  · have h6 : g = k := by injection hk
    subst h6
    exact ⟨cur, h3⟩
theorem below_drw {w w' : World} (h : Below w.drew.heap.size w.drew w') : Below w.heap.size w w' := ((Below.refl _ _).drew).trans h
def upI (l : List Nat) : List Int := l.map fun (x : Nat) => (x : Int)
theorem PlcAt.ints {b0 B : Nat} {w : World} {v : Value} {l : List Nat} (h : PlcAt b0 B w v l) : IntsAt w v (upI l) := by
  obtain ⟨a, cap, rfl, hc, hn, hx⟩ := h
  refine ⟨a, cap, by simp [upI], by simpa [upI] using hc, hn, fun i hi => ?_⟩
  have hi' : i < l.length := by simpa [upI] using hi
  obtain ⟨g, off, h1, h2, h3, h4⟩ := hx i hi'
  exact ⟨g, off, h1, h3, by simpa [upI] using h4⟩
theorem drewN_heap (w : World) : ∀ k, (w.drewN k).heap = w.heap
  | 0 => rfl
  | k + 1 => drewN_heap w.drew k
theorem IntsAt.drewN {w : World} {v : Value} {l : List Int} (h : IntsAt w v l) (k : Nat) : IntsAt (w.drewN k) v l := h.below (below_drewN' (Below.refl _ _) k)
theorem own_base {w : World} {base b e size n : Nat} {v : Value} {xs : List Value} (h : w.ownsRow base e size v n xs) (hb : b ≤ base) : w.ownsRow b e size v n xs := by
  refine ⟨h.1, ?_⟩
  rcases h.2 with ⟨h1, h2⟩ | ⟨g, cap, cur, h1, h2, h3⟩
  · exact .inl ⟨h1, h2⟩
  · exact .inr ⟨g, cap, cur, h1, Nat.le_trans hb h2, h3⟩
theorem own_slice' {w : World} {base e size n : Nat} {v : Value} {xs : List Value} (h : w.ownsRow base e size v n xs) : ∃ a m c, v = .slice a m c := by
  rcases h.2 with ⟨e, _⟩ | ⟨g, c, cur, e, _⟩
  · exact ⟨_, _, _, e⟩
  · exact ⟨_, _, _, e⟩
theorem Tryd.infoLs12 : (Tryd.prog.info? 33).map (fun i => (i.zero, i.size, i.bytes)) = some (some (.slice none 0 0), 1, 24) := by kernel_rfl
theorem Tryd.infoBool12 : (Tryd.prog.info? 4).map (fun i => (i.zero, i.size, i.bytes)) = some (some (.bool false), 1, 1) := by kernel_rfl
def cellBo (l : List Bool) : List Value := l.map Value.bool
/-- The slice value v holds the Booleans l. -/
def BolAt (w : World) (v : Value) (l : List Bool) : Prop :=
  ∃ a cap, v = .slice a l.length cap ∧ l.length ≤ cap ∧ (a = none → cap = 0) ∧ ∀ i, (h : i < l.length) → ∃ g off, a = some ⟨g, off, none⟩ ∧ g < w.heap.size ∧ w.cell? ⟨g, off + i, none⟩ = some (.bool l[i])
theorem BolAt.below {w w' : World} {v : Value} {l : List Bool} (h : BolAt w v l) (hb : Below w.heap.size w w') : BolAt w' v l := by
  obtain ⟨a, cap, rfl, hc, hn, hx⟩ := h
  refine ⟨a, cap, rfl, hc, hn, fun i hi => ?_⟩
  obtain ⟨g, off, rfl, hg, h0⟩ := hx i hi
  exact ⟨g, off, rfl, Nat.lt_of_lt_of_le hg hb.size, (hb.cell (p := ⟨g, _, none⟩) hg).trans h0⟩
theorem BolAt.nil (w : World) : BolAt w (.slice none 0 0) [] := ⟨none, 0, rfl, Nat.le_refl _, fun _ => rfl, fun i h => (by cases h)⟩
theorem bol_of_row {w : World} {base : Nat} {v : Value} {l : List Bool} (h : w.ownsRow base 4 1 v l.length (cellBo l)) : BolAt w v l := by
  rcases h.2 with ⟨rfl, h0⟩ | ⟨g, cap, cur, rfl, hb, hg, hc, hm, hs, ht⟩
  · obtain rfl : l = [] := List.length_eq_zero_iff.1 h0
    exact BolAt.nil _
  · refine ⟨_, cap, rfl, hc, fun e => (by cases e), fun i hi => ⟨g, 0, rfl, lt_of_heap hg, ?_⟩⟩
    have := h.cells (g := g) rfl i (.bool l[i]) (by simp [cellBo, hi])
    rw [add_lit'] at this
    exact this
/-- States in memory. -/
def DfaAt (w : World) (dv : Value) (N : List (List Int)) (F : List Bool) : Prop :=
  ∃ nv fv, dv = .agg #[nv, fv] ∧ (∃ a cap, nv = .slice a N.length cap ∧ N.length ≤ cap ∧ (a = none → cap = 0) ∧ ∀ i, (h : i < N.length) → ∃ g off x, a = some ⟨g, off, none⟩ ∧ g < w.heap.size ∧ w.cell? ⟨g, off + i, none⟩ = some x ∧ IntsAt w x N[i]) ∧ BolAt w fv F
theorem DfaAt.below {w w' : World} {dv : Value} {N : List (List Int)} {F : List Bool} (h : DfaAt w dv N F) (hb : Below w.heap.size w w') : DfaAt w' dv N F := by
  obtain ⟨nv, fv, rfl, ⟨a, cap, rfl, hc, hn, hx⟩, h2⟩ := h
  refine ⟨_, _, rfl, ⟨a, cap, rfl, hc, hn, fun i hi => ?_⟩, h2.below hb⟩
  obtain ⟨g, off, x, e, hg, h0, h1⟩ := hx i hi
  exact ⟨g, off, x, e, Nat.lt_of_lt_of_le hg hb.size, (hb.cell (p := ⟨g, _, none⟩) hg).trans h0, h1.below hb⟩
def intsL (N : List (List Nat)) : List (List Int) := N.map upI
theorem dfaZ (w : World) : DfaAt w (.agg #[.slice none 0 0, .slice none 0 0]) [] [] := ⟨_, _, rfl, ⟨none, 0, rfl, Nat.le_refl _, fun _ => rfl, fun i h => (by cases h)⟩, BolAt.nil _⟩
theorem dfa_of_rows {w : World} {base b2 : Nat} {nv fv : Value} {ns : List Value} {N : List (List Nat)} {F : List Bool} (hl : ns.length = N.length) (hn : w.ownsRow base 33 1 nv N.length ns) (hx : ∀ i, (h1 : i < ns.length) → (h2 : i < N.length) → LstAt b2 w ns[i] N[i]) (hf : w.ownsRow base 4 1 fv F.length (cellBo F)) : DfaAt w (.agg #[nv, fv]) (intsL N) F := by
  have hIl : (intsL N).length = N.length := by simp [intsL]
  refine ⟨_, _, rfl, ?_, bol_of_row hf⟩
  rcases hn.2 with ⟨rfl, h0⟩ | ⟨g, cap, cur, rfl, hb, hg, hc, hm, hs, ht⟩
  · have : N = [] := List.length_eq_zero_iff.1 h0
    subst this
    exact ⟨none, 0, rfl, Nat.le_refl _, fun _ => rfl, fun i h => (by cases h)⟩
  · refine ⟨_, cap, by rw [hIl], by omega, fun e => (by cases e), fun i hi => ⟨g, 0, ns[i]'(by omega), rfl, lt_of_heap hg, ?_, ?_⟩⟩
    · have := hn.cells (g := g) rfl i (ns[i]'(by omega)) (by rw [List.getElem?_eq_getElem])
      rw [add_lit'] at this
      exact this
    · have := (hx i (by omega) (by omega)).plc.ints
      have e : (intsL N)[i] = upI (N[i]'(by omega)) := by simp [intsL]
      rw [e]
      exact this
/-- States in a variable. -/
def DBox (w : World) (b : Nat) (nv fv : Value) : Prop := w.heap[b]? = some (.cells #[nv, fv] 25 (0, 0))
section
variable {w w' : World} {b : Nat} {nv fv : Value}
theorem DBox.c0 (h : DBox w b nv fv) : w.cell? ⟨b, 0, none⟩ = some nv := cell_in h 0
end
section
variable {w w' : World} {b : Nat} {nv fv : Value}
theorem DBox.c1 (h : DBox w b nv fv) : w.cell? ⟨b, 1, none⟩ = some fv := cell_in h 1
end
section
variable {w w' : World} {b : Nat} {nv fv : Value}
theorem DBox.nf (h : DBox w b nv fv) (i : Nat) : w.frozen? ⟨b, i, none⟩ = false := by
  unfold DBox at h
  simp [World.frozen?, h]
end
section
variable {w w' : World} {b : Nat} {nv fv : Value}
theorem DBox.lt (h : DBox w b nv fv) : b < w.heap.size := lt_of_heap h
end
section
variable {w w' : World} {b : Nat} {nv fv : Value}
theorem DBox.s0 (h : DBox w b nv fv) (v : Value) : DBox (w.setCell ⟨b, 0, none⟩ v) b v fv := by
  have := heap_setN (i := 0) h v; simpa [DBox] using this
end
section
variable {w w' : World} {b : Nat} {nv fv : Value}
theorem DBox.s1 (h : DBox w b nv fv) (v : Value) : DBox (w.setCell ⟨b, 1, none⟩ v) b nv v := by
  have := heap_setN (i := 1) h v; simpa [DBox] using this
end
section
variable {w w' : World} {b : Nat} {nv fv : Value}
theorem DBox.below (h : DBox w b nv fv) (hb : Below w.heap.size w w') : DBox w' b nv fv := (hb.block b h.lt).trans h
end
theorem LstAt.blk {hi : Nat} {w w' : World} {v : Value} {l : List Nat} (h : LstAt hi w v l) (hk : ∀ (k : Nat) (cs : Array Value) (fr : Nat × Nat), v.ownBlock = some k → w.heap[k]? = some (.cells cs 3 fr) → w'.heap[k]? = w.heap[k]?) : LstAt hi w' v l := by
  obtain ⟨a, c, e, hc, hn, hx⟩ := h
  refine ⟨a, c, e, hc, hn, fun h0 => ?_⟩
  obtain ⟨g, off, cs', fr', e2, q1, q2, q3⟩ := hx h0
  exact ⟨g, off, cs', fr', e2, q1, (hk g cs' fr' (by rw [e, e2]; rfl) q2).trans q2, q3⟩
theorem typ_ne {w : World} {k : Nat} {c1 c2 : Array Value} {t1 t2 : TypeId} {f1 f2 : Nat × Nat} (h1 : w.heap[k]? = some (.cells c1 t1 f1)) (h2 : w.heap[k]? = some (.cells c2 t2 f2)) : t1 = t2 := by
  rw [h1] at h2
  injection h2 with h2
  injection h2 with _ h2 _
theorem drewN_add' (b a : Nat) (w : World) : (w.drewN a).drewN b = w.drewN (a + b) := by simp [World.drewN, Nat.add_assoc]
theorem upI_inj {a b : List Nat} (h : upI a = upI b) : a = b := by
  unfold upI at h
  refine List.map_inj_right (fun x y e => ?_) |>.1 h
  exact Int.ofNat.inj e
def inB (c x : Int) : Bool := decide (0 ≤ x) && decide (x < c)
theorem inB_iff {c x : Int} : inB c x = true ↔ 0 ≤ x ∧ x < c := by simp [inB]
/-- States that may be. -/
def rightD (N : List (List Int)) (F : List Bool) : Bool :=
  decide (1 ≤ N.length) && decide (N.length ≤ 5000) && decide (F.length = N.length) && decide (1 ≤ (N.getD 0 []).length) && decide ((N.getD 0 []).length ≤ 200) && N.all (fun r => decide (r.length = (N.getD 0 []).length) && r.all (inB N.length))
theorem rightD_iff {N : List (List Int)} {F : List Bool} : rightD N F = true ↔ (1 ≤ N.length ∧ N.length ≤ 5000 ∧ F.length = N.length ∧ 1 ≤ (N.getD 0 []).length ∧ (N.getD 0 []).length ≤ 200 ∧ ∀ i, (h : i < N.length) → N[i].length = (N.getD 0 []).length ∧ N[i].all (inB N.length) = true) := by
  unfold rightD
  simp only [Bool.and_eq_true, decide_eq_true_eq, List.all_eq_true, and_assoc]
  constructor
  · rintro ⟨h1, h2, h3, h4, h5, h6⟩
    exact ⟨h1, h2, h3, h4, h5, fun i hi => h6 _ (List.getElem_mem hi)⟩
  · rintro ⟨h1, h2, h3, h4, h5, h6⟩
    refine ⟨h1, h2, h3, h4, h5, fun r hr => ?_⟩
    obtain ⟨i, hi, rfl⟩ := List.mem_iff_getElem.1 hr
    exact h6 i hi
theorem rightD_not {N : List (List Int)} {F : List Bool} (h : ¬ (1 ≤ N.length ∧ N.length ≤ 5000 ∧ F.length = N.length ∧ 1 ≤ (N.getD 0 []).length ∧ (N.getD 0 []).length ≤ 200 ∧ ∀ i, (h : i < N.length) → N[i].length = (N.getD 0 []).length ∧ N[i].all (inB N.length) = true)) : rightD N F = false := by
  rw [Bool.eq_false_iff]
  exact fun q => h (rightD_iff.1 q)
/-- The state behind a class, and behind classes. -/
def stepD (N : List (List Int)) (a c : Int) : Int := (N.getD a.toNat []).getD c.toNat 0
def runD (N : List (List Int)) (a : Int) (cs : List Int) : Int := cs.foldl (stepD N) a
def runOk (N : List (List Int)) (F : List Bool) (a : Int) (cs : List Int) : Bool := rightD N F && inB N.length a && cs.all (inB (N.getD 0 []).length)
def runV (N : List (List Int)) (F : List Bool) (a : Int) (cs : List Int) : Int := if runOk N F a cs = true then runD N a cs else 0
def runE (N : List (List Int)) (F : List Bool) (a : Int) (cs : List Int) : Int := if runOk N F a cs = true then 0 else 1
theorem step_inB {N : List (List Int)} {F : List Bool} (h : rightD N F = true) {a c : Int} (ha : inB N.length a = true) (hc : inB (N.getD 0 []).length c = true) : inB N.length (stepD N a c) = true := by
  obtain ⟨h1, h2, h3, h4, h5, h6⟩ := rightD_iff.1 h
  obtain ⟨a0, a1⟩ := inB_iff.1 ha
  obtain ⟨c0, c1⟩ := inB_iff.1 hc
  have hi : a.toNat < N.length := by omega
  obtain ⟨h7, h8⟩ := h6 _ hi
  have e : N.getD a.toNat [] = N[a.toNat] := by rw [List.getD_eq_getElem?_getD, List.getElem?_eq_getElem hi]; rfl
  have hj : c.toNat < N[a.toNat].length := by omega
  unfold stepD
  rw [e, List.getD_eq_getElem?_getD, List.getElem?_eq_getElem hj]
  exact List.all_eq_true.1 h8 _ (List.getElem_mem hj)
theorem run_inB {N : List (List Int)} {F : List Bool} (h : rightD N F = true) : ∀ (cs : List Int) (a : Int), inB N.length a = true → cs.all (inB (N.getD 0 []).length) = true → inB N.length (runD N a cs) = true
  | [], a, ha, _ => ha
  | c :: cs, a, ha, hc => by
    rw [List.all_cons, Bool.and_eq_true] at hc
    exact run_inB h cs _ (step_inB h ha hc.1) hc.2
theorem run_take {N : List (List Int)} {a : Int} {cs : List Int} {k : Nat} (h : k < cs.length) : runD N a (cs.take (k + 1)) = stepD N (runD N a (cs.take k)) cs[k] := by
  unfold runD
  rw [List.take_add_one, List.getElem?_eq_getElem h, List.foldl_append]
  rfl
theorem all_take {p : Int → Bool} {cs : List Int} (h : cs.all p = true) (k : Nat) : (cs.take k).all p = true := List.all_eq_true.2 (fun x hx => List.all_eq_true.1 h x (List.mem_of_mem_take hx))
theorem own_empty12 (w : World) (base e size : Nat) (hb : base ≤ w.heap.size) : (w.alloc (.cells #[] e)).ownsRow base e size (.slice (some ⟨w.heap.size, 0, none⟩) 0 0) 0 [] :=
  ⟨by simp, .inr ⟨w.heap.size, 0, #[], rfl, hb, heap_new' w _, Nat.le_refl _, by unfold maxLen; omega, by simp, by simp⟩⟩
theorem wp_append_src12 {P : Program} (w : World) {o : Oper} {a : Act} {K : Act → World → Prop} {Q : Exit → Act → World → Prop} (s x : Operand) (t : TypeId)
    (ho : o.op = .call { callee := .builtin .append, args := #[s, x], argTypes := #[t, t] })
    (base : Nat) (e : TypeId) (i : TypeInfo) (z : Value) (size bytes : Nat) (ht : P.underlying t = some (.slice e)) (hi : P.info? e = some i) (hz : i.zero = some z)
    (hsize : i.size = size) (hby : i.bytes = bytes) (hzs : z.cells.size = size) (hsz : 0 < size)
    (v : Value) (n : Nat) (xs : List Value) (hs : a.eval s = v) (hown : w.ownsRow base e size v n xs) (y : Value) (hx : a.eval x = y)
    (m : Nat) (news : List Value) (hsrc : SrcIs w y m size news) (h63 : n + m ≤ maxLen) (hbytes : (n + m) * bytes ≤ 140737488355328) (hbase : base ≤ w.heap.size)
    (h : ∀ v' w', w'.ownsRow base e size v' (n + m) (xs ++ news) → w.grownBy w' v.ownBlock → K (a.put o.dst v') w') : o.wp P a w K Q := by
  subst hx
  rcases hsrc with ⟨hx, rfl, rfl⟩ | ⟨ad, c, hx, hl, hc, h1⟩
  · have hrun := run_append_owned_none (P := P) (w := w) base t o.type e i size ht hi v n xs hown
    have h2 := h v w (by simpa using hown) ⟨rfl, rfl, rfl, Nat.le_refl _, fun _ _ _ => rfl⟩
    unfold Oper.wp
    simp [execOp, ho, resolve, invoke, builtin, hs, hx, hrun, Result.andThen]
    exact h2
  · exact wp_append_own w s x t ho base e i z size bytes ht hi hz hsize hby hzs hsz v n xs hs hown ad m c news hx hl hc h1 h63 hbytes hbase (fun v' w' h2 h3 _ => h v' w' h2 h3)
/-- As an operation of a region that draws its order. -/
theorem step_append_src12 {P : Program} (w : World) {ops : Array Oper} {o : Oper} {a : Act} {K : Act → World → Prop} {Q : Exit → Act → World → Prop} {E : Prop} (hgd : o.guard = none) (s x : Operand) (t : TypeId)
    (ho : o.op = .call { callee := .builtin .append, args := #[s, x], argTypes := #[t, t] })
    (base : Nat) (e : TypeId) (i : TypeInfo) (z : Value) (size bytes : Nat) (ht : P.underlying t = some (.slice e)) (hi : P.info? e = some i) (hz : i.zero = some z)
    (hsize : i.size = size) (hby : i.bytes = bytes) (hzs : z.cells.size = size) (hsz : 0 < size)
    (v : Value) (n : Nat) (xs : List Value) (hs : a.eval s = v) (hown : w.ownsRow base e size v n xs) (y : Value) (hx : a.eval x = y)
    (m : Nat) (news : List Value) (hsrc : SrcIs w y m size news) (h63 : n + m ≤ maxLen) (hbytes : (n + m) * bytes ≤ 140737488355328) (hbase : base ≤ w.heap.size)
    (h : ∀ v' w', w'.ownsRow base e size v' (n + m) (xs ++ news) → w.grownBy w' v.ownBlock → K (a.put o.dst v') w') : if Region.wanted o (yielded ops a.tmps) = true then Oper.wp P o a w K Q else E := by
  have hw : Region.wanted o (yielded ops a.tmps) = true := by simp [Region.wanted, hgd]
  rw [if_pos hw]
  exact wp_append_src12 w s x t ho base e i z size bytes ht hi hz hsize hby hzs hsz v n xs hs hown y hx m news hsrc h63 hbytes hbase h
theorem cellI_one (l : List Int) : ∀ u ∈ cellI l, u.oneCell' = true := fun u hu => by
  obtain ⟨n, _, rfl⟩ := List.mem_map.1 hu
  rfl
theorem IntsAt.src {w : World} {v : Value} {l : List Int} (h : IntsAt w v l) : SrcIs w v l.length 1 (cellI l) := by
  obtain ⟨a, cap, rfl, hc, hn, hi⟩ := h
  cases a with
  | none =>
    have h0 : l = [] := by
      cases l with
      | nil => rfl
      | cons x l => obtain ⟨g, off, e, _⟩ := hi 0 (by simp); cases e
    subst h0
    exact .inl ⟨by rw [hn rfl]; rfl, rfl, rfl⟩
  | some ad =>
    refine .inr ⟨ad, cap, rfl, by simp [cellI], fun j u hj => ?_, cellI_one l⟩
    have hlt : j < l.length := by
      have := (List.getElem?_eq_some_iff.1 hj).1
      simpa [cellI] using this
    obtain ⟨g', off', e, _, hcell⟩ := hi j hlt
    cases e
    rw [addr_add, hcell]
    simp only [cellI, List.getElem?_map, List.getElem?_eq_getElem hlt, Option.map_some] at hj
    exact hj
/-- Behind two such. -/
theorem ints_of_row {w : World} {base : Nat} {v : Value} {l : List Int} (h : w.ownsRow base 3 1 v l.length (cellI l)) : IntsAt w v l := by
  rcases h.2 with ⟨rfl, h0⟩ | ⟨g, cap, cur, rfl, hb, hg, hc, hm, hs, ht⟩
  · obtain rfl : l = [] := List.length_eq_zero_iff.1 h0
    exact IntsAt.nil _
  · refine ⟨_, cap, rfl, hc, fun e => (by cases e), fun i hi => ⟨g, 0, rfl, lt_of_heap hg, ?_⟩⟩
    have := h.cells (g := g) rfl i (.int .i64 l[i]) (by simp [cellI, hi])
    rw [add_lit'] at this
    exact this
theorem two_ints {w : World} {base : Nat} {v : Value} {a b : List Int} (h : w.ownsRow base 3 1 v (0 + a.length + b.length) ([] ++ cellI a ++ cellI b)) : IntsAt w v (a ++ b) := by
  refine ints_of_row (base := base) ?_
  have e : cellI (a ++ b) = cellI a ++ cellI b := by simp [cellI]
  rw [List.nil_append, Nat.zero_add] at h
  rw [e, List.length_append]
  exact h
/-- Running through both lists, and through one behind the other. -/
theorem run_app (N : List (List Int)) (x : Int) (a b : List Int) : runD N x (a ++ b) = runD N (runD N x a) b := by
  unfold runD; rw [List.foldl_append]
theorem parts_run (N : List (List Int)) (F : List Bool) (a b : List Int) :
    (runE N F 0 (a ++ b) = 1 ∧ runE N F 0 a = 1) ∨ (runE N F 0 (a ++ b) = 1 ∧ runE N F 0 a = 0 ∧ runE N F (runV N F 0 a) b = 1) ∨ (runE N F 0 (a ++ b) = 0 ∧ runE N F 0 a = 0 ∧ runE N F (runV N F 0 a) b = 0 ∧ runV N F 0 (a ++ b) = runV N F (runV N F 0 a) b) := by
  have hE : ∀ x l, runE N F x l = if runOk N F x l = true then 0 else 1 := fun _ _ => rfl
  have hV : ∀ x l, runV N F x l = if runOk N F x l = true then runD N x l else 0 := fun _ _ => rfl
  have hall : (a ++ b).all (inB (N.getD 0 []).length) = (a.all (inB (N.getD 0 []).length) && b.all (inB (N.getD 0 []).length)) := List.all_append
  cases h1 : runOk N F 0 a with
  | false =>
    left
    have h0 : runOk N F 0 (a ++ b) = false := by
      unfold runOk at h1 ⊢
      rw [hall]
      revert h1
      cases rightD N F <;> cases inB N.length 0 <;> cases a.all (inB (N.getD 0 []).length) <;> simp
    rw [hE, hE, h0, h1]
    exact ⟨rfl, rfl⟩
  | true =>
    right
    have h1' := h1
    unfold runOk at h1
    rw [Bool.and_eq_true, Bool.and_eq_true] at h1
    obtain ⟨⟨r, i⟩, al⟩ := h1
    have hv : runV N F 0 a = runD N 0 a := by rw [hV, if_pos h1']
    have hin : inB N.length (runD N 0 a) = true := run_inB r a 0 i al
    cases hb : b.all (inB (N.getD 0 []).length) with
    | false =>
      left
      have h0 : runOk N F 0 (a ++ b) = false := by unfold runOk; rw [hall, hb]; simp
      have h2 : runOk N F (runV N F 0 a) b = false := by unfold runOk; rw [hb]; simp
      rw [hE, hE, hE, h0, h1', h2]
      exact ⟨rfl, rfl, rfl⟩
    | true =>
      right
      have h0 : runOk N F 0 (a ++ b) = true := by unfold runOk; rw [hall, hb, r, i, al]; rfl
      have h2 : runOk N F (runV N F 0 a) b = true := by unfold runOk; rw [hb, r, hv, hin]; rfl
      rw [hE, hE, hE, h0, h1', h2]
      refine ⟨rfl, rfl, rfl, ?_⟩
      rw [hV _ b, if_pos h2, hV _ (a ++ b), if_pos h0, hv, run_app]
theorem dfa_parts {w : World} {dv : Value} {N : List (List Int)} {F : List Bool} (h : DfaAt w dv N F) : ∃ na nc fa fc, dv = .agg #[.slice na N.length nc, .slice fa F.length fc] ∧ N.length ≤ nc ∧ F.length ≤ fc ∧
    (∀ i, (h : i < N.length) → ∃ g off x, na = some ⟨g, off, none⟩ ∧ g < w.heap.size ∧ w.cell? ⟨g, off + i, none⟩ = some x ∧ IntsAt w x N[i]) ∧ (∀ i, (h : i < F.length) → ∃ g off, fa = some ⟨g, off, none⟩ ∧ g < w.heap.size ∧ w.cell? ⟨g, off + i, none⟩ = some (.bool F[i])) := by
  obtain ⟨nv, fv, rfl, ⟨a, cap, rfl, hc, hn, hx⟩, fa, fc, rfl, hfc, hf0, hfx⟩ := h
  exact ⟨a, cap, fa, fc, rfl, hc, hfc, hx, hfx⟩
end Go.Proofs.YtleafbbcgebmpaaDoor
