/-
  The builtins max and min, at ints, in one word.
-/
import Derived.Test.YtmknifnhcgdkaaaX22
namespace Go.Proofs.Ytmknifnhcgdkaaa.S3
open Go.RowKit
set_option linter.unusedVariables false
theorem wpList_max {P : Program} {w : World} {ops : Array Oper} {rest : List Oper} {o : Oper} {a : Act} {Q : Exit → Act → World → Prop} (hgd : o.guard = none) (x y : Operand) (t : TypeId)
    (ho : o.op = .call { callee := .builtin .max, args := #[x, y], argTypes := #[t, t] }) (m n r : Int) (hx : a.eval x = .int .i64 m) (hy : a.eval y = .int .i64 n) (hr : r = max m n)
    (h : wpList P ops Q rest (a.put o.dst (.int .i64 r)) w) : wpList P ops Q (o :: rest) a w := by
  refine wpList_plain hgd fun _ hK => ?_
  have h2 := hK _ _ h
  have e : (if m < n then n else m) = r := by rw [hr]; split <;> omega
  have hrun : ∀ ty, (Builtin.max_ #[t, t] ty #[.int .i64 m, .int .i64 n]).run P w = .ok (.int .i64 r) w := fun ty => by
    rw [← e]
    simp [Builtin.max_, Builtin.max2]
  unfold Oper.wp execOp
  simp only [ho, resolve, invoke, builtin, Sem.run_bind, Sem.run_pure, Result.andThen_ok, List.map_toArray, List.map_cons, List.map_nil, hx, hy, hrun]
  exact h2
theorem wpList_min {P : Program} {w : World} {ops : Array Oper} {rest : List Oper} {o : Oper} {a : Act} {Q : Exit → Act → World → Prop} (hgd : o.guard = none) (x y : Operand) (t : TypeId)
    (ho : o.op = .call { callee := .builtin .min, args := #[x, y], argTypes := #[t, t] }) (m n r : Int) (hx : a.eval x = .int .i64 m) (hy : a.eval y = .int .i64 n) (hr : r = min m n)
    (h : wpList P ops Q rest (a.put o.dst (.int .i64 r)) w) : wpList P ops Q (o :: rest) a w := by
  refine wpList_plain hgd fun _ hK => ?_
  have h2 := hK _ _ h
  have e : (if n < m then n else m) = r := by rw [hr]; split <;> omega
  have hrun : ∀ ty, (Builtin.min_ #[t, t] ty #[.int .i64 m, .int .i64 n]).run P w = .ok (.int .i64 r) w := fun ty => by
    rw [← e]
    simp [Builtin.min_, Builtin.min2]
  unfold Oper.wp execOp
  simp only [ho, resolve, invoke, builtin, Sem.run_bind, Sem.run_pure, Result.andThen_ok, List.map_toArray, List.map_cons, List.map_nil, hx, hy, hrun]
  exact h2
/-- An element of an array that is a value. -/
theorem run_index_at {P : Program} {t e : TypeId} {n i : Nat} {cs : Array Value} {u : Value} {q : IntKind} (ht : P.underlying t = some (.array n e)) (he : P.underlying e = some (.int q)) (hs : (P.info? e).map (·.size) = some 1) (hi : i < n) (hu : cs[i]? = some u) (h1 : u.oneCell' = true) (w : World) :
    (Instr.index t (.agg cs) (.int .i64 (i : Int))).run P w = .ok u w := by
  have hc : 0 ≤ (i : Int) ∧ (i : Int) < (n : Int) := by omega
  have hlt : i < cs.size := (Array.getElem?_eq_some_iff.1 hu).1
  cases hq : P.info? e with
  | none => simp [hq] at hs
  | some j =>
    have hj : j.size = 1 := by simpa [hq] using hs
    simp [Instr.index, asIntOf, run_underlying ht, sizeOf, typeInfo, hq, hj, hi, part, isAgg, run_underlying he, hu, Result.andThen]
end Go.Proofs.Ytmknifnhcgdkaaa.S3
