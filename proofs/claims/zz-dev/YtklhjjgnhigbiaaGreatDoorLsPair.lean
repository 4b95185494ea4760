/-
  Pairs of states as the keys of a map, and how they were met.
-/
import Derived.Test.YtklhjjgnhigbiaaGreatDoorLsRev
import Derived.DeepKeys4
import Derived.MapViews
import Derived.Carry
namespace Go.Proofs.YtklhjjgnhigbiaaGreatDoor
open Go.RowKit Go.Shelf
set_option linter.unusedVariables false

theorem Tryz.undInt13 : Tryz.prog.underlying 3 = some (.int .i64) := by kernel_rfl
theorem Tryz.laidOut13 : laidOutB Tryz.prog = true := by kernel_rfl
theorem Tryz.cellsInt13 : Tryz.prog.cellsOf 3 = 1 := by kernel_rfl
def prV (a b : Nat) : Value := .agg #[.int .i64 (a : Int), .int .i64 (b : Int)]
def stV (a b c : Nat) : Value := .agg #[.int .i64 (a : Int), .int .i64 (b : Int), .int .i64 (c : Int)]
def klP (a b : Nat) : Lit := .string (keyBytes [.int .i64 (a : Int), .int .i64 (b : Int)])
def stD (a b c : Nat) : DataW Unit := .agg [.lit (.int .i64 (a : Int)), .lit (.int .i64 (b : Int)), .lit (.int .i64 (c : Int))]
def stR : Value → Option (DataW Unit × List MemPlace)
  | .agg cs => match cs.toList with
    | [.int .i64 a, .int .i64 b, .int .i64 c] => some (.agg [.lit (.int .i64 a), .lit (.int .i64 b), .lit (.int .i64 c)], [])
    | _ => none
  | _ => none
theorem stR_mk (a b c : Nat) : stR (stV a b c) = some (stD a b c, []) := rfl
theorem stR_inv {v : Value} {a b c : Nat} {ps : List MemPlace} (h : stR v = some (stD a b c, ps)) : v = stV a b c := by
  unfold stR at h
  split at h
  · rename_i cs
    split at h
    · rename_i x y z e
      simp only [stD, Option.some.injEq, Prod.mk.injEq, DataW.agg.injEq, List.cons.injEq, DataW.lit.injEq, Lit.int.injEq, true_and, and_true] at h
      obtain ⟨⟨rfl, rfl, rfl⟩, _⟩ := h
      show Value.agg cs = Value.agg _
      congr 1
      exact Array.toList_inj.1 e
    · cases h
  · cases h
theorem wf_nat {a : Nat} (h : a ≤ 1000000) : (Lit.int .i64 (a : Int)).wf = true := WalkArith.wf_i64 (by omega)
/-- The map knows how pairs were met. -/
def KnP (D : DataW Unit) (Q : List Ent) : Prop := ∀ e ∈ Q, ∀ u c, e.w = u ++ [c] → ∃ e' ∈ Q, e'.w = u ∧ D.atKey (klP e.a e.b) (stD 0 0 0) = stD e'.a e'.b c
def lenV : Value → Nat
  | .slice _ n _ => n
  | _ => 0

end Go.Proofs.YtklhjjgnhigbiaaGreatDoor
