/-
  trie.Trie.counted, unlike.
-/
import Derived.Test.YtmhligcmcfikfaaDoorLoadMath
namespace Go.Proofs.YtmhligcmcfikfaaDoor
open Go.RowKit
set_option linter.unusedVariables false

theorem Tryd.undL8 : Tryd.prog.underlying 94 = some (.array 4352 5) := by kernel_rfl


/-- len in a region that draws its order. -/
theorem yields_len {P : Program} {ops : Array Oper} {S : World → Prop} {op : Oper} {a : Act} (hw : Region.wanted op (yielded ops a.tmps) = true) {t : TypeId} {m : Operand} (ho : op.op = .call { callee := .builtin .len, args := #[m], argTypes := #[t] }) {mv res : Value}
    (hm : a.eval m = mv) (hS : ∀ w, S w → ∀ ty, (Builtin.len_ #[t] ty #[mv]).run P w = .ok res w) : YieldsIf P ops S op res a :=
  .inl ⟨hw, fun w hw' => by
    have h := hS w hw' op.type
    unfold execOp
    simp [ho, resolve, invoke, builtin, hm, h, Result.andThen]⟩
/-- What the map of unlike says. -/
def Kn (D : DataW Unit) (F : List (List Int)) : Prop := ∀ b, IsB b → (Maps.has D (kB b) = true ↔ b ∈ F)
theorem kn_put {D : DataW Unit} {F : List (List Int)} {b : List Int} (d : DataW Unit) (hD : Maps.IsMap D) (h : Kn D F) (hb : IsB b) : Kn (D.put (kB b) d) (F ++ [b]) := fun x hx => by
  by_cases e : x = b
  · subst e
    simp [Maps.has_put_same hD (kB_key _)]
  · have hne : kB x ≠ kB b := fun q => e (Tryd.kB_inj hx hb q)
    rw [Maps.has_put_other hne, h x hx]
    simp [e]

end Go.Proofs.YtmhligcmcfikfaaDoor
