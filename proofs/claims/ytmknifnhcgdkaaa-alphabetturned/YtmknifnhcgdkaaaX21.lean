/-
  Whole values laid into new memory: a slice of one array; a struct with one field.
-/
import Derived.Test.YtmknifnhcgdkaaaX20
namespace Go.Proofs.Ytmknifnhcgdkaaa.S3
open Go.RowKit
set_option linter.unusedVariables false

theorem set_fold (off : Nat) : ∀ (l : List Value) (k : Nat) (A : Array Value), ((l.zipIdx k).foldl (fun (cs : Array Value) (p : Value × Nat) => cs.setIfInBounds (off + p.2) p.1) A).size = A.size ∧
    ∀ i, ((l.zipIdx k).foldl (fun (cs : Array Value) (p : Value × Nat) => cs.setIfInBounds (off + p.2) p.1) A)[i]? = if off + k ≤ i ∧ i < off + k + l.length ∧ i < A.size then l[i - (off + k)]? else A[i]?
  | [], k, A => by
    refine ⟨rfl, fun i => ?_⟩
    rw [if_neg (by simp; omega)]
    rfl
  | x :: l, k, A => by
    obtain ⟨h1, h2⟩ := set_fold off l (k + 1) (A.setIfInBounds (off + k) x)
    rw [List.zipIdx_cons, List.foldl_cons]
    refine ⟨by rw [h1]; simp, fun i => ?_⟩
    rw [h2 i]
    simp only [Array.size_setIfInBounds, List.length_cons]
    by_cases q : i = off + k
    · subst q
      rw [if_neg (by omega)]
      by_cases q2 : off + k < A.size
      · rw [if_pos (by omega), Array.getElem?_setIfInBounds_self_of_lt q2]
        simp
      · rw [if_neg (by omega), Array.getElem?_eq_none (by simp; omega), Array.getElem?_eq_none (by omega)]
    · by_cases q2 : off + (k + 1) ≤ i ∧ i < off + (k + 1) + l.length ∧ i < A.size
      · rw [if_pos q2, if_pos (by omega)]
        have e : i - (off + k) = (i - (off + (k + 1))) + 1 := by omega
        rw [e, List.getElem?_cons_succ]
      · rw [if_neg q2, if_neg (by omega), Array.getElem?_setIfInBounds_ne (by omega)]

theorem fill_whole (cs A : Array Value) (h : A.size = cs.size) : cs.zipIdx.foldl (fun (c : Array Value) (p : Value × Nat) => c.setIfInBounds (0 + p.2) p.1) A = cs := by
  obtain ⟨l⟩ := cs
  have h0 := set_fold 0 l 0 A
  have e : (⟨l⟩ : Array Value).zipIdx.foldl (fun (c : Array Value) (p : Value × Nat) => c.setIfInBounds (0 + p.2) p.1) A = (l.zipIdx 0).foldl (fun (c : Array Value) (p : Value × Nat) => c.setIfInBounds (0 + p.2) p.1) A := by
    simp
  rw [e]
  apply Array.ext_getElem?
  intro i
  rw [h0.2 i]
  have hs : A.size = l.length := h
  by_cases q : i < A.size
  · rw [if_pos (by omega)]
    simp
  · rw [if_neg (by omega), Array.getElem?_eq_none (by omega), Array.getElem?_eq_none (by simp; omega)]

/-- A slice of one array. -/
theorem run_buildSlice_one {P : Program} (w : World) {t e : TypeId} {i : TypeInfo} (cs z : Array Value) (ht : P.underlying t = some (.slice e)) (hi : P.info? e = some i) (hs : i.size = cs.size) (hz : i.zero = some (.agg z)) (hzs : z.size = cs.size) (h0 : 0 < cs.size) (hb : cs.size ≤ 16777216) :
    (Instr.buildSlice t 1 #[(0, .agg cs)]).run P w = .ok (.slice (some ⟨w.heap.size, 0, none⟩) 1 1) (w.alloc (.cells cs e)) := by
  have h1 : ¬ (i.size > 16777216) := by omega
  have h2 : i.size ≠ 0 := by omega
  have hmap : ((Array.range i.size).map (fun x => z[x % z.size]!)).size = cs.size := by simp [hs]
  have hf := fill_whole cs ((Array.range i.size).map (fun x => z[x % z.size]!)) hmap
  have hfill : Instr.fill (fun k => some (k * i.size, i.size)) ((Array.range i.size).map (fun x => z[x % z.size]!)) [(0, Value.agg cs)] = some cs := by
    unfold Instr.fill
    simp only [Nat.zero_mul, Value.cells]
    rw [if_neg (by simp [hs])]
    unfold Instr.fill
    congr 1
  simp [Instr.buildSlice, run_underlying ht, sizeOf, typeInfo, zeroValue, hi, hz, h2, Value.cells, Result.andThen, hfill, newRow, Nat.one_mul]
  omega
theorem wp_mapUpdate_run {P : Program} {o : Oper} {a : Act} {w w' : World} {K : Act → World → Prop} {Q : Exit → Act → World → Prop} (t : TypeId) (m x v : Operand) (ho : o.op = .mapUpdate t m x v) (mv key val : Value)
    (hm : a.eval m = mv) (hx : a.eval x = key) (hv : a.eval v = val) (hrun : (Instr.mapUpdate t mv key val).run P w = .ok () w') (h : K (a.put o.dst undef) w') : o.wp P a w K Q := by
  unfold Oper.wp
  simp [execOp, ho, hm, hx, hv, hrun, Result.andThen]
  exact h
theorem wp_buildSlice_run {P : Program} {o : Oper} {a : Act} {w w' : World} {K : Act → World → Prop} {Q : Exit → Act → World → Prop} (t : TypeId) (x : Operand) (ho : o.op = .buildSlice t 1 #[(0, x)]) (xv res : Value)
    (hx : a.eval x = xv) (hrun : (Instr.buildSlice t 1 #[(0, xv)]).run P w = .ok res w') (h : K (a.put o.dst res) w') : o.wp P a w K Q := by
  unfold Oper.wp
  simp [execOp, ho, hx, hrun, Result.andThen]
  exact h
end Go.Proofs.Ytmknifnhcgdkaaa.S3
