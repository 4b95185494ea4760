/-
  Plain mathematics of draft.put: block by block an entry's value is laid in. The builtins max and min, at ints, in one word.
-/
import Derived.Test.YtmknifnhcgdkaaaX23
namespace Go.Proofs.Ytmknifnhcgdkaaa.S3
open Go.RowKit
set_option linter.unusedVariables false

/-- The draft tells the blocks of f. -/
def Says (f : Int → Int) (like : List Nat) (bl : List (List Int)) : Prop := like.length = 4352 ∧ ∀ i, i < 4352 → ∃ k, like[i]? = some k ∧ bl[k]? = some (blkF f i)
/-- The values with an entry laid in up to a block. -/
def upTo (f : Int → Int) (p : Pp) (k : Nat) (r : Int) : Int := if hasP p r = true ∧ r < 256 * (k : Int) then p.v else f r
def withP (f : Int → Int) (p : Pp) (r : Int) : Int := if hasP p r = true then p.v else f r

theorem blkF_get (f : Int → Int) (k i : Nat) (h : i < 256) : (blkF f k)[i]? = some (f ((k * 256 + i : Nat) : Int)) := by
  unfold blkF
  rw [List.getElem?_map, List.getElem?_range h]
  rfl
theorem says_set {f g : Int → Int} {like : List Nat} {bl t : List (List Int)} {k m : Nat} (h : Says f like bl) (hk : k < 4352) (hm : (bl ++ t)[m]? = some (blkF g k)) (hne : ∀ i, i < 4352 → i ≠ k → blkF g i = blkF f i) : Says g (like.set k m) (bl ++ t) := by
  refine ⟨by rw [List.length_set]; exact h.1, fun i hi => ?_⟩
  by_cases q : k = i
  · subst q
    refine ⟨m, ?_, hm⟩
    rw [List.getElem?_set_self (by rw [h.1]; exact hk)]
  · obtain ⟨x, h1, h2⟩ := h.2 i hi
    refine ⟨x, by rw [List.getElem?_set_ne q]; exact h1, ?_⟩
    rw [List.getElem?_append_left (List.getElem?_eq_some_iff.1 h2).1, h2, hne i hi (fun e => q e.symm)]
theorem upTo_other (f : Int → Int) (p : Pp) (k i : Nat) (h : i ≠ k) : blkF (upTo f p (k + 1)) i = blkF (upTo f p k) i := by
  refine blkF_congr (fun r a b => ?_)
  unfold upTo
  have : (r < 256 * ((k + 1 : Nat) : Int)) ↔ (r < 256 * (k : Int)) := by omega
  simp only [this]
theorem upTo_start {f : Int → Int} {p : Pp} {k : Nat} (h : 256 * (k : Int) ≤ p.lo) (i : Nat) : blkF (upTo f p k) i = blkF f i := by
  refine blkF_congr (fun r a b => ?_)
  unfold upTo
  rw [if_neg]
  rintro ⟨q, z⟩
  have := hasP_iff.1 q
  omega
theorem upTo_end {f : Int → Int} {p : Pp} {k : Nat} (h : p.hi < 256 * (k : Int)) (i : Nat) : blkF (upTo f p k) i = blkF (withP f p) i := by
  refine blkF_congr (fun r a b => ?_)
  unfold upTo withP
  by_cases q : hasP p r = true
  · have := hasP_iff.1 q
    rw [if_pos ⟨q, by omega⟩, if_pos q]
  · rw [if_neg (fun z => q z.1), if_neg q]
theorem says_congr {f g : Int → Int} {like : List Nat} {bl : List (List Int)} (h : Says f like bl) (e : ∀ i, i < 4352 → blkF g i = blkF f i) : Says g like bl :=
  ⟨h.1, fun i hi => by rw [e i hi]; exact h.2 i hi⟩
/-- A block that the entry has whole. -/
theorem upTo_whole {f : Int → Int} {p : Pp} {k : Nat} (h1 : p.lo ≤ 256 * (k : Int)) (h2 : 256 * (k : Int) + 255 ≤ p.hi) : blkF (upTo f p (k + 1)) k = fillTo zeroB 0 256 p.v := by
  apply List.ext_getElem
  · rw [blkF_length, fillTo_length, zeroB_length]
  · intro i a b
    have hi : i < 256 := by rw [blkF_length] at a; exact a
    simp only [blkF, fillTo, List.getElem_map, List.getElem_range]
    rw [if_pos (by omega)]
    unfold upTo
    rw [if_pos ⟨hasP_iff.2 ⟨by omega, by omega⟩, by omega⟩]
/-- A block that the entry has in part. -/
theorem upTo_part {f : Int → Int} {p : Pp} {k lo hi : Nat} (h0 : (lo : Int) = max (p.lo - 256 * k) 0) (h1 : (hi : Int) = min (p.hi - 256 * k) 255) : fillTo (blkF (upTo f p k) k) lo ((hi : Int) + 1) p.v = blkF (upTo f p (k + 1)) k := by
  apply List.ext_getElem
  · rw [fillTo_length, blkF_length, blkF_length]
  · intro i a b
    have hi' : i < 256 := by rw [blkF_length] at b; exact b
    simp only [fillTo, List.getElem_map, List.getElem_range]
    rw [blkF_get _ _ _ hi']
    simp only [blkF, List.getElem_map, List.getElem_range, Option.getD_some]
    unfold upTo
    by_cases q : (lo : Int) ≤ (i : Int) ∧ (i : Int) < (hi : Int) + 1
    · rw [if_pos q, if_pos ⟨hasP_iff.2 ⟨by omega, by omega⟩, by omega⟩]
    · rw [if_neg q, if_neg (fun z => by omega), if_neg (fun z => by have := hasP_iff.1 z.1; omega)]
theorem isB_fill {b : List Int} {lo k v : Int} (h : IsB b) (hv : 0 ≤ v ∧ v ≤ 255) : IsB (fillTo b lo k v) := by
  refine ⟨by rw [fillTo_length]; exact h.1, fun x hx => ?_⟩
  obtain ⟨i, hi, rfl⟩ := List.mem_map.1 hx
  have hi' := List.mem_range.1 hi
  split
  · exact hv
  · rw [List.getElem?_eq_getElem hi']
    exact h.2 _ (List.getElem_mem hi')
theorem idx_get {bl : List (List Int)} {b : List Int} (h : b ∈ bl) : bl[bl.idxOf b]? = some b := by
  rw [List.getElem?_eq_getElem (List.idxOf_lt_length_of_mem h)]
  congr 1
  exact List.getElem_idxOf _
theorem addF_get (bl : List (List Int)) (b : List Int) : (addF bl b)[(addF bl b).idxOf b]? = some b := idx_get (addF_mem.2 (.inr rfl))
theorem DrAt.below {n : Nat} {w w' : World} {gd : Nat} {like : List Nat} {bl : List (List Int)} (h : DrAt n w gd like bl) (hb : Below w.heap.size w w') : DrAt n w' gd like bl := by
  obtain ⟨gm, v, D, h1, h2, h3, h4, h5, h6, h7, h8, h9⟩ := h
  exact ⟨gm, v, D, h1, h2, h3, h4, h5, (hb.block gd (heap_lt h6)).trans h6, ownsRow_below h7 hb, ownsMap_below h8 hb, h9⟩
/-- A store into 'like'. -/
theorem DrAt.setLike {n : Nat} {w : World} {gd : Nat} {like : List Nat} {bl : List (List Int)} (h : DrAt n w gd like bl) {i : Nat} (hi : i < 4352) (k : Nat) : DrAt n (w.setCell ⟨gd, i, none⟩ (.int .i64 (k : Int))) gd (like.set i k) bl := by
  obtain ⟨gm, v, D, h1, h2, h3, h4, h5, h6, h7, h8, h9⟩ := h
  refine ⟨gm, v, D, h1, h2, by rw [List.length_set]; exact h3, h4, h5, heap_set_row h6 (drCells_setLike (by omega)), ?_, h8.setCell (map_ne h8 h6) _, h9⟩
  have e2 := own_ne h7 h6 (by decide)
  have hsc : w.grownBy (w.setCell ⟨gd, i, none⟩ (.int .i64 (k : Int))) (some gd) := ⟨rfl, rfl, rfl, by simp [World.setCell], fun k hk hne => heap_setCell_other _ _ _ _ (fun e => hne (by rw [e]))⟩
  exact h7.kept hsc (.inr e2)
/-- What the draft's cells hold. -/
theorem DrAt.cells {n : Nat} {w : World} {gd : Nat} {like : List Nat} {bl : List (List Int)} (h : DrAt n w gd like bl) : n ≤ gd ∧ gd < w.heap.size ∧ ∃ a cap, w.cell? ⟨gd, 4352, none⟩ = some (.slice a bl.length cap) ∧ (∀ (i k : Nat), like[i]? = some k → w.cell? ⟨gd, i, none⟩ = some (.int .i64 (k : Int))) ∧ (∀ i, i < 4352 → w.frozen? ⟨gd, i, none⟩ = false) ∧
    ∀ (k : Nat) (b : List Int), bl[k]? = some b → ∃ g, a = some ⟨g, 0, none⟩ ∧ g < w.heap.size ∧ w.rangeAt g (k * 256) (i8 b) := by
  obtain ⟨gm, v, D, h1, h2, h3, h4, h5, h6, h7, h8, h9⟩ := h
  obtain ⟨a, cap, rfl⟩ := slice_of_row h7
  refine ⟨h1, heap_lt h6, a, cap, cell_row h6 (drCells_at h3).1, fun i k hi => ?_, fun i hi => frozen_of_row _ _ _ _ _ h6, fun k b hb => ?_⟩
  · obtain ⟨hlt, e⟩ := List.getElem?_eq_some_iff.1 hi
    have := drCells_like (v := .slice a bl.length cap) (gm := gm) hlt
    rw [e] at this
    exact cell_row h6 this
  · obtain ⟨hlt, e⟩ := List.getElem?_eq_some_iff.1 hb
    rcases h7.2 with ⟨q, h0⟩ | ⟨g, cap', cur, q, _, hgg, _⟩
    · omega
    · have ha : a = some ⟨g, 0, none⟩ := by simpa using (by simpa using q : _ ∧ _).1
      refine ⟨g, ha, heap_lt hgg, fun j u hj => ?_⟩
      have hj' : (cellsBl bl)[k * 256 + j]? = some u := cellsBl_at (isB_even h5) hlt (by rw [e]; exact hj)
      have := h7.cells (g := g) (by rw [ha]; rfl) (k * 256 + j) u hj'
      rw [Addr.add_mid, Nat.zero_add] at this
      exact this
end Go.Proofs.Ytmknifnhcgdkaaa.S3

namespace Go.Proofs.Ytmknifnhcgdkaaa.S3
open Go.RowKit
set_option linter.unusedVariables false
theorem wpList_max {P : Program} {w : World} {ops : Array Oper} {rest : List Oper} {o : Oper} {a : Act} {Q : Exit → Act → World → Prop} (hgd : o.guard = none) (x y : Operand) (t : TypeId)
    (ho : o.op = .call { callee := .builtin .max, args := #[x, y], argTypes := #[t, t] }) (m n r : Int) (hx : a.eval x = .int .i64 m) (hy : a.eval y = .int .i64 n) (hr : r = max m n)
    (h : wpList P ops Q rest (a.put o.dst (.int .i64 r)) w) : wpList P ops Q (o :: rest) a w := by
  refine wpList_plain hgd fun _ hK => ?_
  have h2 := hK _ _ h
  have e : (if m < n then n else m) = r := by rw [hr]; split <;> omega
  have hrun : ∀ ty, (Builtin.max_ #[t, t] ty #[.int .i64 m, .int .i64 n]).run P w = .ok (.int .i64 r) w := fun ty => by
    rw [← e]
    simp [Builtin.max_, Builtin.max2]
  unfold Oper.wp execOp
  simp only [ho, resolve, invoke, builtin, Sem.run_bind, Sem.run_pure, Result.andThen_ok, List.map_toArray, List.map_cons, List.map_nil, hx, hy, hrun]
  exact h2
theorem wpList_min {P : Program} {w : World} {ops : Array Oper} {rest : List Oper} {o : Oper} {a : Act} {Q : Exit → Act → World → Prop} (hgd : o.guard = none) (x y : Operand) (t : TypeId)
    (ho : o.op = .call { callee := .builtin .min, args := #[x, y], argTypes := #[t, t] }) (m n r : Int) (hx : a.eval x = .int .i64 m) (hy : a.eval y = .int .i64 n) (hr : r = min m n)
    (h : wpList P ops Q rest (a.put o.dst (.int .i64 r)) w) : wpList P ops Q (o :: rest) a w := by
  refine wpList_plain hgd fun _ hK => ?_
  have h2 := hK _ _ h
  have e : (if n < m then n else m) = r := by rw [hr]; split <;> omega
  have hrun : ∀ ty, (Builtin.min_ #[t, t] ty #[.int .i64 m, .int .i64 n]).run P w = .ok (.int .i64 r) w := fun ty => by
    rw [← e]
    simp [Builtin.min_, Builtin.min2]
  unfold Oper.wp execOp
  simp only [ho, resolve, invoke, builtin, Sem.run_bind, Sem.run_pure, Result.andThen_ok, List.map_toArray, List.map_cons, List.map_nil, hx, hy, hrun]
  exact h2
/-- An element of an array that is a value. -/
theorem run_index_at {P : Program} {t e : TypeId} {n i : Nat} {cs : Array Value} {u : Value} {q : IntKind} (ht : P.underlying t = some (.array n e)) (he : P.underlying e = some (.int q)) (hs : (P.info? e).map (·.size) = some 1) (hi : i < n) (hu : cs[i]? = some u) (h1 : u.oneCell' = true) (w : World) :
    (Instr.index t (.agg cs) (.int .i64 (i : Int))).run P w = .ok u w := by
  have hc : 0 ≤ (i : Int) ∧ (i : Int) < (n : Int) := by omega
  have hlt : i < cs.size := (Array.getElem?_eq_some_iff.1 hu).1
  cases hq : P.info? e with
  | none => simp [hq] at hs
  | some j =>
    have hj : j.size = 1 := by simpa [hq] using hs
    simp [Instr.index, asIntOf, run_underlying ht, sizeOf, typeInfo, hq, hj, hi, part, isAgg, run_underlying he, hu, Result.andThen]
end Go.Proofs.Ytmknifnhcgdkaaa.S3
