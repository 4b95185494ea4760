/-
  Append of an argument's ints.
-/
import Derived.Test.YtpmlbdfdiebkcabDoorAw6
namespace Go.Proofs.YtpmlbdfdiebkcabDoor
open Go.RowKit
set_option linter.unusedVariables false

theorem wpList_append_src {P : Program} (w : World) {ops : Array Oper} {rest : List Oper} {o : Oper} {a : Act} {Q : Exit → Act → World → Prop} (hgd : o.guard = none) (s x : Operand) (t : TypeId)
    (ho : o.op = .call { callee := .builtin .append, args := #[s, x], argTypes := #[t, t] })
    (base : Nat) (e : TypeId) (i : TypeInfo) (z : Value) (size bytes : Nat) (ht : P.underlying t = some (.slice e)) (hi : P.info? e = some i) (hz : i.zero = some z)
    (hsize : i.size = size) (hby : i.bytes = bytes) (hzs : z.cells.size = size) (hsz : 0 < size)
    (v : Value) (n : Nat) (xs : List Value) (hs : a.eval s = v) (hown : w.ownsRow base e size v n xs) (y : Value) (hx : a.eval x = y)
    (m : Nat) (news : List Value) (hsrc : SrcIs w y m size news) (h63 : n + m ≤ maxLen) (hbytes : (n + m) * bytes ≤ 140737488355328) (hbase : base ≤ w.heap.size)
    (h : ∀ v' w', w'.ownsRow base e size v' (n + m) (xs ++ news) → w.grownBy w' v.ownBlock → wpList P ops Q rest (a.put o.dst v') w') : wpList P ops Q (o :: rest) a w := by
  subst hx
  rcases hsrc with ⟨hx, rfl, rfl⟩ | ⟨ad, c, hx, hl, hc, h1⟩
  · refine wpList_append_own_none hgd s x t ho base e i size ht hi v n xs hs hown hx ?_
    refine h v w (by simpa using hown) ⟨rfl, rfl, rfl, Nat.le_refl _, fun _ _ _ => rfl⟩
  · exact wpList_append_own w hgd s x t ho base e i z size bytes ht hi hz hsize hby hzs hsz v n xs hs hown ad m c news hx hl hc h1 h63 hbytes hbase fun v' w' h2 h3 _ => h v' w' h2 h3
/-- Ints as cells. -/
def cellI (l : List Int) : List Value := l.map (Value.int .i64)
theorem cellI_append (a b : List Int) : cellI (a ++ b) = cellI a ++ cellI b := by simp [cellI]
theorem cellI_length (a : List Int) : (cellI a).length = a.length := by simp [cellI]
theorem row_ints {w : World} {base : Nat} {v : Value} {zs : List Int} (h : w.ownsRow base 3 1 v zs.length (cellI zs)) : IntsAt w.heap.size w v zs := ints_of_row h
theorem src_of_ints {n : Nat} {w : World} {v : Value} {l : List Int} (h : IntsAt n w v l) (h0 : 0 < l.length) : SrcIs w v l.length 1 (cellI l) := by
  obtain ⟨a, cap, rfl, hc, hi⟩ := h
  obtain ⟨g, off, rfl, hg, _⟩ := hi 0 h0
  refine .inr ⟨⟨g, off, none⟩, cap, rfl, by rw [cellI_length, Nat.mul_one], fun j u hj => ?_, fun u hu => ?_⟩
  · have hlt : j < l.length := by
      have := (List.getElem?_eq_some_iff.1 hj).1
      rwa [cellI_length] at this
    obtain ⟨g', off', e, _, hcell⟩ := hi j hlt
    obtain ⟨rfl, rfl⟩ : g = g' ∧ off = off' := by cases e; exact ⟨rfl, rfl⟩
    rw [addr_add, hcell]
    simp only [cellI, List.getElem?_map, List.getElem?_eq_getElem hlt, Option.map_some] at hj
    exact hj
  · obtain ⟨x, _, rfl⟩ := List.mem_map.1 hu
    rfl
end Go.Proofs.YtpmlbdfdiebkcabDoor
