/-
  Memory of the matcher: places, words, expressions, what a step may write.
-/
import Derived.Test.YtehkaiohmcenbaaDoorMtMath
import Derived.Test.YtehkaiohmcenbaaDoorRows
import Derived.WalkKit
import Derived.WalkSpells
import Derived.OwnWalk
import Derived.Outline
import Derived.Deep.RegionHeld3
import Derived.Laws.AppendOwnNone
import Derived.Maps.AppendAt
import Derived.Deep.AppendLies
import Derived.Laws.Rows
import Derived.BigQuiet
import Derived.Lib.OwnBridge
import Derived.Laws.Bits64b
namespace Go.Proofs.YtehkaiohmcenbaaDoor
open Go.RowKit
set_option linter.unusedVariables false

theorem below_alloc (w : World) (o : Obj) : Below w.heap.size w (w.alloc o) := (Below.refl _ _).alloc (Nat.le_refl _) o
theorem below_after {a b c : World} (h : Below a.heap.size a b) (k : Below b.heap.size b c) : Below a.heap.size a c := h.trans (k.mono h.size)
theorem heap_new' (w : World) (o : Obj) : (w.alloc o).heap[w.heap.size]? = some o := by
  show (w.heap.push o)[w.heap.size]? = _
  simp
theorem below_drewN' {B : Nat} {a w : World} (h : Below B a w) : ∀ k, Below B a (w.drewN k)
  | 0 => h
  | k + 1 => (below_drewN' h k).drew
theorem add_lit' (g j : Nat) : (⟨g, 0, none⟩ : Addr).add j = ⟨g, 0 + j, none⟩ := by unfold Addr.add; split <;> simp_all
theorem addr_add (g off j : Nat) : (⟨g, off, none⟩ : Addr).add j = ⟨g, off + j, none⟩ := by unfold Addr.add; split <;> simp_all
theorem cell_some_lt {w : World} {a : Addr} {v : Value} (h : w.cell? a = some v) : a.block < w.heap.size := by
  rcases Nat.lt_or_ge a.block w.heap.size with q | q
  · exact q
  · simp [World.cell?, Array.getElem?_eq_none q] at h
theorem cell_in {w : World} {b : Nat} {cs : Array Value} {t : TypeId} {fr : Nat × Nat} (h : w.heap[b]? = some (.cells cs t fr)) (i : Nat) : w.cell? ⟨b, i, none⟩ = cs[i]? := by
  simp [World.cell?, h]
theorem lt_of_heap {w : World} {b : Nat} {o : Obj} (h : w.heap[b]? = some o) : b < w.heap.size := (Array.getElem?_eq_some_iff.1 h).1
theorem ownsRow_below {w w' : World} {base e size n : Nat} {v : Value} {xs : List Value} (h : w.ownsRow base e size v n xs) (hb : Below w.heap.size w w') : w'.ownsRow base e size v n xs :=
  World.ownsRow.kept (row := none) h ⟨hb.os, hb.tape, hb.output, hb.size, fun k hk _ => hb.block k hk⟩ (by cases v.ownBlock <;> simp)
theorem info_parts {t : TypeId} {z : Value} {s b : Nat} (h : (Tryd.prog.info? t).map (fun i => (i.zero, i.size, i.bytes)) = some (some z, s, b)) : ∃ i, Tryd.prog.info? t = some i ∧ i.zero = some z ∧ i.size = s ∧ i.bytes = b := by
  cases hi : Tryd.prog.info? t with
  | none => rw [hi] at h; cases h
  | some i =>
    rw [hi] at h
    simp only [Option.map_some, Option.some.injEq, Prod.mk.injEq] at h
    exact ⟨i, rfl, h.1, h.2.1, h.2.2⟩
theorem Tryd.infoInt : (Tryd.prog.info? 3).map (fun i => (i.zero, i.size, i.bytes)) = some (some (.int .i64 0), 1, 8) := by kernel_rfl

/-- What is appended: nothing, of a nil slice; or the cells news. -/
def SrcIs (w : World) (x : Value) (m size : Nat) (news : List Value) : Prop :=
  (x = .slice none 0 0 ∧ m = 0 ∧ news = []) ∨ ∃ ad c, x = .slice (some ad) m c ∧ news.length = m * size ∧ (∀ j u, news[j]? = some u → w.cell? (ad.add j) = some u) ∧ ∀ u ∈ news, u.oneCell' = true
theorem wpList_append_src {P : Program} (w : World) {ops : Array Oper} {rest : List Oper} {o : Oper} {a : Act} {Q : Exit → Act → World → Prop} (hgd : o.guard = none) (s x : Operand) (t : TypeId)
    (ho : o.op = .call { callee := .builtin .append, args := #[s, x], argTypes := #[t, t] })
    (base : Nat) (e : TypeId) (i : TypeInfo) (z : Value) (size bytes : Nat) (ht : P.underlying t = some (.slice e)) (hi : P.info? e = some i) (hz : i.zero = some z)
    (hsize : i.size = size) (hby : i.bytes = bytes) (hzs : z.cells.size = size) (hsz : 0 < size)
    (v : Value) (n : Nat) (xs : List Value) (hs : a.eval s = v) (hown : w.ownsRow base e size v n xs) (y : Value) (hx : a.eval x = y)
    (m : Nat) (news : List Value) (hsrc : SrcIs w y m size news) (h63 : n + m ≤ maxLen) (hbytes : (n + m) * bytes ≤ 140737488355328) (hbase : base ≤ w.heap.size)
    (h : ∀ v' w', w'.ownsRow base e size v' (n + m) (xs ++ news) → w.grownBy w' v.ownBlock → wpList P ops Q rest (a.put o.dst v') w') : wpList P ops Q (o :: rest) a w := by
  subst hx
  rcases hsrc with ⟨hx, rfl, rfl⟩ | ⟨ad, c, hx, hl, hc, h1⟩
  · refine wpList_append_own_none hgd s x t ho base e i size ht hi v n xs hs hown hx ?_
    refine h v w (by simpa using hown) ⟨rfl, rfl, rfl, Nat.le_refl _, fun _ _ _ => rfl⟩
  · exact wpList_append_own w hgd s x t ho base e i z size bytes ht hi hz hsize hby hzs hsz v n xs hs hown ad m c news hx hl hc h1 h63 hbytes hbase fun v' w' h2 h3 _ => h v' w' h2 h3

/-- Places as cells. -/
def cellP (l : List Nat) : List Value := l.map fun (n : Nat) => Value.int .i64 (n : Int)
theorem cellP_snoc (l : List Nat) (x : Nat) : cellP (l ++ [x]) = cellP l ++ [.int .i64 (x : Int)] := by simp [cellP]
theorem cellP_append (a b : List Nat) : cellP (a ++ b) = cellP a ++ cellP b := by simp [cellP]
theorem cellP_length (a : List Nat) : (cellP a).length = a.length := by simp [cellP]
theorem cellP_one (l : List Nat) : ∀ u ∈ cellP l, u.oneCell' = true := fun u hu => by
  obtain ⟨n, _, rfl⟩ := List.mem_map.1 hu
  rfl
/-- The slice value v holds the places l, in a block from B on, or in an old one. -/
def PlcAt (b0 B : Nat) (w : World) (v : Value) (l : List Nat) : Prop :=
  ∃ a cap, v = .slice a l.length cap ∧ l.length ≤ cap ∧ (a = none → cap = 0) ∧ ∀ i, (h : i < l.length) → ∃ g off, a = some ⟨g, off, none⟩ ∧ (g < b0 ∨ B ≤ g) ∧ g < w.heap.size ∧ w.cell? ⟨g, off + i, none⟩ = some (.int .i64 (l[i] : Int))
theorem PlcAt.nil (b0 B : Nat) (w : World) : PlcAt b0 B w (.slice none 0 0) [] := ⟨none, 0, rfl, Nat.le_refl _, fun _ => rfl, fun i h => (by cases h)⟩
theorem PlcAt.to {b0 B : Nat} {w w' : World} {v : Value} {l : List Nat} (h : PlcAt b0 B w v l) (hq : ∀ k, (k < b0 ∨ B ≤ k) → k < w.heap.size → w'.heap[k]? = w.heap[k]?) (hs : w.heap.size ≤ w'.heap.size) : PlcAt b0 B w' v l := by
  obtain ⟨a, cap, rfl, hc, hn, hi⟩ := h
  refine ⟨a, cap, rfl, hc, hn, fun i hlt => ?_⟩
  obtain ⟨g, off, rfl, hg, hg2, h0⟩ := hi i hlt
  exact ⟨g, off, rfl, hg, Nat.lt_of_lt_of_le hg2 hs, (World.cell?_of_block (a := ⟨g, _, none⟩) (hq g hg hg2)).trans h0⟩
theorem PlcAt.below {b0 B : Nat} {w w' : World} {v : Value} {l : List Nat} (h : PlcAt b0 B w v l) (hb : Below w.heap.size w w') : PlcAt b0 B w' v l := h.to (fun k _ hk => hb.block k hk) hb.size
theorem PlcAt.less {b0 B C : Nat} {w : World} {v : Value} {l : List Nat} (h : PlcAt b0 B w v l) (hc : C ≤ B) : PlcAt b0 C w v l := by
  obtain ⟨a, cap, rfl, hc', hn, hi⟩ := h
  refine ⟨a, cap, rfl, hc', hn, fun i hlt => ?_⟩
  obtain ⟨g, off, rfl, hg, hg2, h0⟩ := hi i hlt
  exact ⟨g, off, rfl, hg.imp id (Nat.le_trans hc), hg2, h0⟩
theorem PlcAt.src {b0 B : Nat} {w : World} {v : Value} {l : List Nat} (h : PlcAt b0 B w v l) : SrcIs w v l.length 1 (cellP l) := by
  obtain ⟨a, cap, rfl, hc, hn, hi⟩ := h
  cases a with
  | none =>
    have h0 : l = [] := by
      cases l with
      | nil => rfl
      | cons x l => obtain ⟨g, off, e, _⟩ := hi 0 (by simp); cases e
    subst h0
    exact .inl ⟨by rw [hn rfl]; rfl, rfl, rfl⟩
  | some ad =>
    refine .inr ⟨ad, cap, rfl, by rw [cellP_length, Nat.mul_one], fun j u hj => ?_, cellP_one l⟩
    have hlt : j < l.length := by
      have := (List.getElem?_eq_some_iff.1 hj).1
      rwa [cellP_length] at this
    obtain ⟨g', off', e, _, _, hcell⟩ := hi j hlt
    cases e
    rw [addr_add, hcell]
    simp only [cellP, List.getElem?_map, List.getElem?_eq_getElem hlt, Option.map_some] at hj
    exact hj
theorem plc_of_row {w : World} {b0 B base : Nat} {v : Value} {l : List Nat} (h : w.ownsRow base 3 1 v l.length (cellP l)) (hB : B ≤ base) : PlcAt b0 B w v l := by
  rcases h.2 with ⟨rfl, h0⟩ | ⟨g, cap, cur, rfl, hb, hg, hc, hm, hs, ht⟩
  · obtain rfl : l = [] := List.length_eq_zero_iff.1 h0
    exact PlcAt.nil _ _ _
  · refine ⟨_, cap, rfl, hc, fun e => (by cases e), fun i hi => ⟨g, 0, rfl, .inr (Nat.le_trans hB hb), lt_of_heap hg, ?_⟩⟩
    have := h.cells (g := g) rfl i (.int .i64 (l[i] : Int)) (by simp [cellP, hi])
    rw [add_lit'] at this
    exact this

/-- Rising, none past L. -/
def Ris (L : Nat) (l : List Nat) : Prop := l.Pairwise (· < ·) ∧ ∀ x ∈ l, x ≤ L
theorem ris_len : ∀ (l : List Nat) (a L : Nat), l.Pairwise (· < ·) → (∀ x ∈ l, a ≤ x ∧ x ≤ L) → a ≤ L + 1 → l.length + a ≤ L + 1
  | [], a, L, _, _, h => by simpa using h
  | x :: l, a, L, hp, h, _ => by
    rw [List.pairwise_cons] at hp
    have hx := h x (by simp)
    have := ris_len l (x + 1) L hp.2 (fun y hy => ⟨hp.1 y hy, (h y (by simp [hy])).2⟩) (by omega)
    simp; omega
theorem Ris.len {L : Nat} {l : List Nat} (h : Ris L l) : l.length ≤ L + 1 := by
  have := ris_len l 0 L h.1 (fun x hx => ⟨Nat.zero_le _, h.2 x hx⟩) (by omega)
  omega
theorem Ris.nil (L : Nat) : Ris L [] := ⟨List.Pairwise.nil, fun x hx => (by cases hx)⟩
theorem Ris.sub {L : Nat} {l k : List Nat} (h : Ris L l) (hs : k.Sublist l) : Ris L k := ⟨h.1.sublist hs, fun x hx => h.2 x (hs.subset hx)⟩

/-- What lies outside lo .. hi stays. -/
def FrI (lo hi : Nat) (w w' : World) : Prop := Below lo w w' ∧ ∀ k, hi ≤ k → k < w.heap.size → w'.heap[k]? = w.heap[k]?
theorem FrI.refl (lo hi : Nat) (w : World) : FrI lo hi w w := ⟨Below.refl _ _, fun _ _ _ => rfl⟩
theorem FrI.trans {lo hi : Nat} {a b c : World} (h : FrI lo hi a b) (k : FrI lo hi b c) : FrI lo hi a c :=
  ⟨h.1.trans k.1, fun i h1 h2 => (k.2 i h1 (Nat.lt_of_lt_of_le h2 h.1.size)).trans (h.2 i h1 h2)⟩
theorem FrI.wide {lo hi lo' hi' : Nat} {w w' : World} (h : FrI lo hi w w') (h1 : lo' ≤ lo) (h2 : hi ≤ hi') : FrI lo' hi' w w' := ⟨h.1.mono h1, fun k hk => h.2 k (Nat.le_trans h2 hk)⟩
theorem FrI.of {lo hi : Nat} {w w' : World} (h : Below w.heap.size w w') (hl : lo ≤ w.heap.size) : FrI lo hi w w' := ⟨h.mono hl, fun k _ hk => h.block k hk⟩
theorem FrI.size {lo hi : Nat} {w w' : World} (h : FrI lo hi w w') : w.heap.size ≤ w'.heap.size := h.1.size
theorem FrI.block {lo hi : Nat} {w w' : World} (h : FrI lo hi w w') {k : Nat} (hk : k < lo ∨ (hi ≤ k ∧ k < w.heap.size)) : w'.heap[k]? = w.heap[k]? := hk.elim (h.1.block k) (fun q => h.2 k q.1 q.2)
theorem PlcAt.fr {b0 B lo hi : Nat} {w w' : World} {v : Value} {l : List Nat} (h : PlcAt b0 B w v l) (hf : FrI lo hi w w') (hb : hi ≤ B) (h0 : b0 ≤ lo) : PlcAt b0 B w' v l := h.to (fun k h1 h2 => hf.block (h1.elim (fun q => .inl (Nat.lt_of_lt_of_le q h0)) (fun q => .inr ⟨Nat.le_trans hb q, h2⟩))) hf.size

/-- The slice value v holds the word ws, in a block below B. -/
def WrdAt (B : Nat) (w : World) (v : Value) (ws : List Nat) : Prop :=
  ∃ a cap, v = .slice a ws.length cap ∧ ws.length ≤ cap ∧ ∀ i, (h : i < ws.length) → ws[i] < 18446744073709551616 ∧ ∃ g off, a = some ⟨g, off, none⟩ ∧ g < B ∧ w.cell? ⟨g, off + i, none⟩ = some (.int .u64 (ws[i] : Int))
theorem WrdAt.to {B C : Nat} {w w' : World} {v : Value} {ws : List Nat} (h : WrdAt B w v ws) (hq : ∀ k, k < B → w'.heap[k]? = w.heap[k]?) (hC : B ≤ C) : WrdAt C w' v ws := by
  obtain ⟨a, cap, rfl, hc, hi⟩ := h
  refine ⟨a, cap, rfl, hc, fun i hlt => ?_⟩
  obtain ⟨h64, g, off, rfl, hg, h0⟩ := hi i hlt
  exact ⟨h64, g, off, rfl, Nat.lt_of_lt_of_le hg hC, (World.cell?_of_block (a := ⟨g, _, none⟩) (hq g hg)).trans h0⟩

/-- The slice value z holds the parts l, and all that these have, in blocks that Q lets. -/
def KidS (Q : Nat → Prop) (w : World) : Nat → Value → List Nd → Prop
  | 0, z, l => l = [] ∧ ∃ a cap, z = .slice a 0 cap
  | f + 1, z, l => ∃ a cap, z = .slice a l.length cap ∧ l.length ≤ cap ∧ ∀ i, (h : i < l.length) → ∃ g off z', a = some ⟨g, off, none⟩ ∧ Q g ∧ w.cell? ⟨g, off + i * 3, none⟩ = some (.int .i64 l[i].k) ∧ w.cell? ⟨g, off + i * 3 + 1, none⟩ = some (.int .i64 l[i].s) ∧ w.cell? ⟨g, off + i * 3 + 2, none⟩ = some z' ∧ KidS Q w f z' l[i].kids
theorem KidS.up {Q : Nat → Prop} {w : World} : ∀ {f : Nat} {z : Value} {l : List Nd}, KidS Q w f z l → KidS Q w (f + 1) z l
  | 0, z, l, ⟨h, a, cap, e⟩ => by
    subst h
    exact ⟨a, cap, e, Nat.zero_le _, fun i h => (by cases h)⟩
  | f + 1, z, l, ⟨a, cap, e, hc, hi⟩ => ⟨a, cap, e, hc, fun i h => by
    obtain ⟨g, off, z', h1, h2, h3, h4, h5, h6⟩ := hi i h
    exact ⟨g, off, z', h1, h2, h3, h4, h5, h6.up⟩⟩
theorem KidS.le {Q : Nat → Prop} {w : World} {z : Value} {l : List Nd} {f : Nat} (h : KidS Q w f z l) : ∀ k, KidS Q w (f + k) z l
  | 0 => h
  | k + 1 => (KidS.le h k).up
theorem KidS.to {Q Q' : Nat → Prop} {w w' : World} (hq : ∀ k, Q k → w'.heap[k]? = w.heap[k]? ∧ Q' k) : ∀ {f : Nat} {z : Value} {l : List Nd}, KidS Q w f z l → KidS Q' w' f z l
  | 0, z, l, h => h
  | f + 1, z, l, ⟨a, cap, e, hc, hi⟩ => ⟨a, cap, e, hc, fun i h => by
    obtain ⟨g, off, z', h1, h2, h3, h4, h5, h6⟩ := hi i h
    obtain ⟨hb, hg⟩ := hq g h2
    exact ⟨g, off, z', h1, hg, (World.cell?_of_block (a := ⟨g, _, none⟩) hb).trans h3, (World.cell?_of_block (a := ⟨g, _, none⟩) hb).trans h4, (World.cell?_of_block (a := ⟨g, _, none⟩) hb).trans h5, h6.to hq⟩⟩
/-- .. however deep. -/
def KdX (Q : Nat → Prop) (w : World) (z : Value) (l : List Nd) : Prop := ∃ f, KidS Q w f z l
theorem KdX.to {Q Q' : Nat → Prop} {w w' : World} {z : Value} {l : List Nd} (h : KdX Q w z l) (hq : ∀ k, Q k → w'.heap[k]? = w.heap[k]? ∧ Q' k) : KdX Q' w' z l := by
  obtain ⟨f, h⟩ := h; exact ⟨f, h.to hq⟩
theorem KdX.nil (Q : Nat → Prop) (w : World) : KdX Q w (.slice none 0 0) [] := ⟨0, rfl, _, _, rfl⟩
theorem KdX.slice {Q : Nat → Prop} {w : World} {z : Value} {l : List Nd} (h : KdX Q w z l) : ∃ a cap, z = .slice a l.length cap ∧ (l.length ≤ cap ∨ l = []) := by
  obtain ⟨f, h⟩ := h
  cases f with
  | zero => obtain ⟨rfl, a, cap, e⟩ := h; exact ⟨a, cap, e, .inr rfl⟩
  | succ f => obtain ⟨a, cap, e, hc, _⟩ := h; exact ⟨a, cap, e, .inl hc⟩
theorem KdX.at {Q : Nat → Prop} {w : World} {z : Value} {l : List Nd} (h : KdX Q w z l) (i : Nat) (hi : i < l.length) : ∃ g off cap z', z = .slice (some ⟨g, off, none⟩) l.length cap ∧ l.length ≤ cap ∧ Q g ∧ w.cell? ⟨g, off + i * 3, none⟩ = some (.int .i64 l[i].k) ∧ w.cell? ⟨g, off + i * 3 + 1, none⟩ = some (.int .i64 l[i].s) ∧ w.cell? ⟨g, off + i * 3 + 2, none⟩ = some z' ∧ KdX Q w z' l[i].kids := by
  obtain ⟨f, h⟩ := h
  cases f with
  | zero => obtain ⟨rfl, _⟩ := h; cases hi
  | succ f =>
    obtain ⟨a, cap, rfl, hc, hx⟩ := h
    obtain ⟨g, off, z', rfl, h2, h3, h4, h5, h6⟩ := hx i hi
    exact ⟨g, off, cap, z', rfl, hc, h2, h3, h4, h5, f, h6⟩

/-- An expression as it is handed on, and its cells. -/
def ndV (n : Nd) (z : Value) : Value := .agg #[.int .i64 n.k, .int .i64 n.s, z]
def cellsN (x : Nd × Value) : List Value := [.int .i64 x.1.k, .int .i64 x.1.s, x.2]
def cellsNs (l : List (Nd × Value)) : List Value := l.flatMap cellsN
theorem cellsNs_snoc (l : List (Nd × Value)) (x : Nd × Value) : cellsNs (l ++ [x]) = cellsNs l ++ cellsN x := by simp [cellsNs]
theorem cellsNs_length : ∀ (l : List (Nd × Value)), (cellsNs l).length = l.length * 3
  | [] => rfl
  | x :: l => by
    have e : cellsNs (x :: l) = cellsN x ++ cellsNs l := rfl
    rw [e, List.length_append, cellsNs_length l]
    simp [cellsN]; omega
theorem cellsNs_at : ∀ (l : List (Nd × Value)) (i j : Nat) (h : i < l.length), j < 3 → (cellsNs l)[i * 3 + j]? = (cellsN l[i])[j]?
  | u :: us, 0, j, h, hj => by
    have e : cellsNs (u :: us) = cellsN u ++ cellsNs us := rfl
    rw [e, Nat.zero_mul, Nat.zero_add, List.getElem?_append_left (by simpa [cellsN] using hj)]
    rfl
  | u :: us, i + 1, j, h, hj => by
    have e : cellsNs (u :: us) = cellsN u ++ cellsNs us := rfl
    rw [e, List.getElem?_append_right (by simp [cellsN]; omega)]
    have e2 : (i + 1) * 3 + j - (cellsN u).length = i * 3 + j := by simp [cellsN]; omega
    rw [e2, cellsNs_at us i j (by simpa using h) hj]
    rfl
/-- Parts that are told one by one. -/
def KidsX (Q : Nat → Prop) (w : World) (l : List (Nd × Value)) : Prop := ∀ x ∈ l, KdX Q w x.2 x.1.kids
theorem KidsX.to {Q Q' : Nat → Prop} {w w' : World} {l : List (Nd × Value)} (h : KidsX Q w l) (hq : ∀ k, Q k → w'.heap[k]? = w.heap[k]? ∧ Q' k) : KidsX Q' w' l := fun x hx => (h x hx).to hq
theorem kids_fuel {Q : Nat → Prop} {w : World} : ∀ {l : List (Nd × Value)}, KidsX Q w l → ∃ f, ∀ x ∈ l, KidS Q w f x.2 x.1.kids
  | [], _ => ⟨0, fun x h => (by cases h)⟩
  | y :: l, h => by
    obtain ⟨f, hf⟩ := kids_fuel (l := l) (fun x hx => h x (by simp [hx]))
    obtain ⟨g, hg⟩ := h y (by simp)
    refine ⟨f + g, fun x hx => ?_⟩
    rcases List.mem_cons.1 hx with rfl | hx
    · rw [Nat.add_comm]; exact hg.le f
    · exact (hf x hx).le g
theorem kids_of_row {Q : Nat → Prop} {w : World} {base : Nat} {v : Value} {l : List (Nd × Value)} (h : w.ownsRow base 24 3 v l.length (cellsNs l)) (hk : KidsX Q w l) (hq : ∀ g, v.ownBlock = some g → Q g) : KdX Q w v (l.map Prod.fst) := by
  obtain ⟨f, hf⟩ := kids_fuel hk
  rcases h.2 with ⟨rfl, h0⟩ | ⟨g, cap, cur, rfl, hb, hg, hc, hm, hs, ht⟩
  · obtain rfl : l = [] := List.length_eq_zero_iff.1 h0
    exact KdX.nil _ _
  · have key : ∀ i j x, i < l.length → (cellsNs l)[i * 3 + j]? = some x → w.cell? ⟨g, 0 + i * 3 + j, none⟩ = some x := fun i j x hi hx => by
      have := h.cells (g := g) rfl (i * 3 + j) x hx
      rw [add_lit'] at this
      rw [Nat.add_assoc]
      exact this
    refine ⟨f + 1, some ⟨g, 0, none⟩, cap, by simp, by simpa using hc, fun i hi => ?_⟩
    have hi' : i < l.length := by simpa using hi
    have el : (l.map Prod.fst)[i] = l[i].1 := by simp
    rw [el]
    exact ⟨g, 0, l[i].2, rfl, hq g rfl, key i 0 _ hi' (by rw [cellsNs_at l i 0 hi' (by omega)]; rfl), key i 1 _ hi' (by rw [cellsNs_at l i 1 hi' (by omega)]; rfl), key i 2 _ hi' (by rw [cellsNs_at l i 2 hi' (by omega)]; rfl), hf _ (List.getElem_mem hi')⟩
theorem kidS_nil (Q : Nat → Prop) (w : World) (f : Nat) (a : Option Addr) (cap : Nat) : KidS Q w f (.slice a 0 cap) [] := by
  cases f with
  | zero => exact ⟨rfl, a, cap, rfl⟩
  | succ f => exact ⟨a, cap, rfl, Nat.zero_le _, fun i h => (by cases h)⟩
theorem KidS.slice {Q : Nat → Prop} {w : World} {f : Nat} {z : Value} {l : List Nd} (h : KidS Q w f z l) : ∃ a cap, z = .slice a l.length cap := by
  cases f with
  | zero => obtain ⟨rfl, a, cap, e⟩ := h; exact ⟨a, cap, e⟩
  | succ f => obtain ⟨a, cap, e, hc, _⟩ := h; exact ⟨a, cap, e⟩
end Go.Proofs.YtehkaiohmcenbaaDoor
