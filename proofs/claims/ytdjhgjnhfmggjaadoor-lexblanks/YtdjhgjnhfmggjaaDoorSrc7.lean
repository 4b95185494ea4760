/-
  What is appended: bytes that came in, one byte.
-/
import Derived.Test.YtdjhgjnhfmggjaaDoorAw7
import Derived.Laws.AppendOwnNone
namespace Go.Proofs.YtdjhgjnhfmggjaaDoor
open Go.RowKit S1
set_option linter.unusedVariables false

theorem cell_some_lt {w : World} {a : Addr} {v : Value} (h : w.cell? a = some v) : a.block < w.heap.size := by
  rcases Nat.lt_or_ge a.block w.heap.size with q | q
  · exact q
  · simp [World.cell?, Array.getElem?_eq_none q] at h

/-- What is appended: nothing, of a nil slice; or the cells news. -/
def SrcIs (w : World) (x : Value) (m : Nat) (news : List Value) : Prop :=
  (x = .slice none 0 0 ∧ m = 0 ∧ news = []) ∨ ∃ ad c, x = .slice (some ad) m c ∧ news.length = m ∧ (∀ j u, news[j]? = some u → w.cell? (ad.add j) = some u) ∧ ∀ u ∈ news, u.oneCell' = true

theorem SrcIs.below {w w' : World} {x : Value} {m : Nat} {news : List Value} (h : SrcIs w x m news) (hb : Below w.heap.size w w') : SrcIs w' x m news := by
  rcases h with h | ⟨ad, c, e, hl, hc, h1⟩
  · exact .inl h
  · refine .inr ⟨ad, c, e, hl, fun j u hj => ?_, h1⟩
    have := hc j u hj
    rw [hb.cell (cell_some_lt this)]
    exact this

theorem wpList_append_src {P : Program} (w : World) {ops : Array Oper} {rest : List Oper} {o : Oper} {a : Act} {Q : Exit → Act → World → Prop} (hgd : o.guard = none) (s x : Operand) (t : TypeId)
    (ho : o.op = .call { callee := .builtin .append, args := #[s, x], argTypes := #[t, t] })
    (base : Nat) (e : TypeId) (i : TypeInfo) (z : Value) (bytes : Nat) (ht : P.underlying t = some (.slice e)) (hi : P.info? e = some i) (hz : i.zero = some z)
    (hsize : i.size = 1) (hby : i.bytes = bytes) (hzs : z.cells.size = 1)
    (v : Value) (n : Nat) (xs : List Value) (hs : a.eval s = v) (hown : w.ownsRow base e 1 v n xs) (y : Value) (hx : a.eval x = y)
    (m : Nat) (news : List Value) (hsrc : SrcIs w y m news) (h63 : n + m ≤ maxLen) (hbytes : (n + m) * bytes ≤ 140737488355328) (hbase : base ≤ w.heap.size)
    (h : ∀ v' w', w'.ownsRow base e 1 v' (n + m) (xs ++ news) → w.grownBy w' v.ownBlock → wpList P ops Q rest (a.put o.dst v') w') : wpList P ops Q (o :: rest) a w := by
  subst hx
  rcases hsrc with ⟨hx, rfl, rfl⟩ | ⟨ad, c, hx, hl, hc, h1⟩
  · refine wpList_append_own_none hgd s x t ho base e i 1 ht hi v n xs hs hown hx ?_
    refine h v w (by simpa using hown) ⟨rfl, rfl, rfl, Nat.le_refl _, fun _ _ _ => rfl⟩
  · exact wpList_append_own w hgd s x t ho base e i z 1 bytes ht hi hz hsize hby hzs (by decide) v n xs hs hown ad m c news hx (by simpa using hl) hc h1 h63 hbytes hbase fun v' w' h2 h3 _ => h v' w' h2 h3

theorem Tryd.infoByte : (Tryd.prog.info? 5).map (fun i => (i.zero, i.size, i.bytes)) = some (some (.int .u8 0), 1, 1) := by kernel_rfl
theorem one_ints (k : IntKind) (l : List Int) : ∀ u ∈ l.map (Value.int k), u.oneCell' = true := fun u hu => by
  obtain ⟨n, _, rfl⟩ := List.mem_map.1 hu
  rfl
theorem addr_add (g off j : Nat) : (⟨g, off, none⟩ : Addr).add j = ⟨g, off + j, none⟩ := by unfold Addr.add; split <;> simp_all

theorem src_of_bytes {w : World} {a : Option Addr} {cap : Nat} {l : List Int} (h : BytesAt w.heap.size w (.slice a l.length cap) l) (hn : a = none → cap = 0) : SrcIs w (.slice a l.length cap) l.length (l.map (Value.int .u8)) := by
  rcases h with ⟨a', c', e, rfl⟩ | ⟨g, off, c', e, hc, hg, hcell⟩
  · rcases a with _ | a
    · rw [hn rfl]
      exact .inl ⟨rfl, rfl, rfl⟩
    · exact .inr ⟨a, cap, rfl, rfl, fun j u hj => by simp at hj, fun u hu => by cases hu⟩
  · simp at e
    obtain ⟨rfl, rfl⟩ := e
    refine .inr ⟨_, cap, rfl, by simp, fun j u hj => ?_, one_ints _ _⟩
    have hlt : j < l.length := by
      rcases Nat.lt_or_ge j l.length with q | q
      · exact q
      · rw [List.getElem?_eq_none (by simp; omega)] at hj; cases hj
    rw [addr_add, hcell j hlt]
    simp only [List.getElem?_map, List.getElem?_eq_getElem hlt, Option.map_some, Option.some.injEq] at hj
    simp [List.getElem?_eq_getElem hlt, hj]

theorem owns_empty (w : World) (base e : Nat) (hb : base ≤ w.heap.size) : (w.alloc (.cells #[] e)).ownsRow base e 1 (.slice (some ⟨w.heap.size, 0, none⟩) 0 0) 0 [] :=
  ⟨rfl, .inr ⟨w.heap.size, 0, #[], rfl, hb, heap_new' w _, Nat.le_refl _, by unfold maxLen; omega, rfl, rfl⟩⟩

theorem src_byte (w : World) (n : Int) : SrcIs (w.alloc (.cells #[.int .u8 n] 5)) (.slice (some ⟨w.heap.size, 0, none⟩) 1 1) 1 [.int .u8 n] :=
  .inr ⟨_, 1, rfl, rfl, World.news_of_block (heap_new' w _), by simp [Value.oneCell']⟩

theorem bytes_of_row {w : World} {base : Nat} {v : Value} {l : List Int} (h : w.ownsRow base 5 1 v l.length (l.map (Value.int .u8))) : ∃ a cap, v = .slice a l.length cap ∧ BytesAt w.heap.size w v l := by
  rcases h.2 with ⟨rfl, h0⟩ | ⟨g, cap, cur, rfl, hb, hg, hc, hm, hs, ht⟩
  · obtain rfl : l = [] := List.length_eq_zero_iff.1 h0
    exact ⟨none, 0, rfl, .inl ⟨none, 0, rfl, rfl⟩⟩
  · refine ⟨_, cap, rfl, .inr ⟨g, 0, cap, rfl, hc, (Array.getElem?_eq_some_iff.1 hg).1, fun j hj => ?_⟩⟩
    have := World.ownsRow.cells h (g := g) rfl j (.int .u8 (l[j]?.getD 0)) (by simp [hj])
    rw [addr_add] at this
    exact this
end Go.Proofs.YtdjhgjnhfmggjaaDoor
