/-
  trie.Load: the trie that bytes are.
-/
import Derived.Test.YtmknifnhcgdkaaaX37
import Derived.Test.YtmknifnhcgdkaaaX34
namespace Go.Proofs.Ytmknifnhcgdkaaa.S3
open Go.RowKit
set_option linter.unusedVariables false

def okLb (l : List Int) : Bool := decide (l ≠ []) && decide (l.length = 4353 + 256 * cntL l) && decide (cntFrom 0 (likeL l) = some (cntL l : Int)) && decide ((firstsOf (firstL l)).length = cntL l)
theorem okLb_iff {l : List Int} : okLb l = true ↔ okL l := by
  unfold okLb okL lenL
  simp [and_assoc]
def errL (l : List Int) : Int := if okLb l = true then 0 else 2

theorem wpList_make_full {P : Program} (w : World) {ops : Array Oper} {rest : List Oper} {o : Oper} {a : Act} {Q : Exit → Act → World → Prop} (hgd : o.guard = none) (x y : Operand) (t : TypeId) (hop : o.op = Op.makeSlice t x y)
    (e : TypeId) (i : TypeInfo) (z : Value) (h1 : P.underlying t = some (.slice e)) (h2 : P.info? e = some i) (h3 : i.zero = some z) (n : Nat) (hx : a.eval x = .int .i64 (n : Int)) (hy : a.eval y = .int .i64 (n : Int)) (b2 : i.bytes * n ≤ 281474976710656) (b3 : n ≤ maxLen)
    (h : wpList P ops Q rest (a.put o.dst (.slice (some ⟨w.heap.size, 0, none⟩) n n)) (w.alloc (.cells (madeCells z.cells (n * i.size)) e))) : wpList P ops Q (o :: rest) a w := by
  refine wpList_plain hgd fun K hK' => ?_
  have hrun := run_make (P := P) w t e i z h1 h2 h3 .i64 .i64 (n : Int) (n : Int) (by omega) (by omega) (by
    have : ((i.bytes * n : Nat) : Int) ≤ 281474976710656 := by omega
    simpa using this) (by unfold maxLen at b3; omega)
  simp only [Int.toNat_natCast] at hrun
  have h2 := hK' _ _ h
  unfold Oper.wp
  simp [execOp, hop, hx, hy, hrun, Result.andThen]
  exact h2
theorem wp_copy_run {P : Program} {o : Oper} {a : Act} {w w' : World} {K : Act → World → Prop} {Q : Exit → Act → World → Prop} (x y : Operand) (dT sT : TypeId) (ho : o.op = .call { callee := .builtin .copy, args := #[x, y], argTypes := #[dT, sT] }) (xv yv res : Value)
    (hx : a.eval x = xv) (hy : a.eval y = yv) (hrun : ∀ ty, (Builtin.copy_ #[dT, sT] ty #[xv, yv]).run P w = .ok res w') (h : K (a.put o.dst res) w') : o.wp P a w K Q := by
  have hr := hrun o.type
  unfold Oper.wp
  simp [execOp, ho, resolve, invoke, builtin, hx, hy, hr, Result.andThen]
  exact h
def zeros8 : List Int := List.replicate 4352 0
theorem zeros8_length : zeros8.length = 4352 := by unfold zeros8; rw [List.length_replicate]
theorem trCells_zeros (v : Value) : trCells zeros8 v = List.replicate 4352 (Value.int .u8 0) ++ [v] := by unfold trCells zeros8 i8; rw [List.map_replicate]

end Go.Proofs.Ytmknifnhcgdkaaa.S3
