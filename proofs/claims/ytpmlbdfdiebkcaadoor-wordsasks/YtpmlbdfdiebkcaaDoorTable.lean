/-
  Functions that are one composite: their operations run as a program does, and the kernel checks it.
-/
import Derived.Test.YtpmlbdfdiebkcaaDoorReg2
namespace Go.Proofs.YtpmlbdfdiebkcaaDoor
open Go.RowKit
set_option linter.unusedVariables false

/-- What functions without arguments answer, and the world behind. -/
abbrev Tab := FuncId → Option (World → Value × World)
def TabOk (P : Program) (T : Tab) : Prop := ∀ f g, T f = some g → ∀ w, Calls P f #[] w fun e w' => e = .returned (g w).1 ∧ w' = (g w).2
/-- Operations, one behind the other: each tells a value, or calls a function of the table. -/
def qrun (P : Program) (T : Tab) : List Oper → Act → World → Option (Act × World)
  | [], a, w => some (a, w)
  | o :: rest, a, w =>
    match o.guard with
    | none =>
      match (execOp a.eval o).run P w with
      | .ok (.value v) w' => qrun P T rest (a.put o.dst v) w'
      | .ok (.enter f args) w' =>
        if args.size = 0 then
          match T f with
          | some g => qrun P T rest (a.put o.dst (g w').1) (g w').2
          | none => none
        else none
      | _ => none
    | some _ => none
theorem qrun_sound {P : Program} {T : Tab} (hT : TabOk P T) {ops : Array Oper} {Q : Exit → Act → World → Prop} : ∀ {l : List Oper} {a : Act} {w : World} {a' : Act} {w' : World}, qrun P T l a w = some (a', w') → Q .normal a' w' → wpList P ops Q l a w
  | [], a, w, a', w', h, hQ => by
    obtain ⟨rfl, rfl⟩ : a = a' ∧ w = w' := by simpa [qrun] using h
    exact hQ
  | o :: rest, a, w, a', w', h, hQ => by
    unfold qrun at h
    cases hg : o.guard with
    | some x => rw [hg] at h; cases h
    | none =>
      rw [hg] at h
      refine wpList_plain hg (fun K hK => ?_)
      unfold Oper.wp
      cases hr : (execOp a.eval o).run P w with
      | ok n w1 =>
        rw [hr] at h
        cases n with
        | value v => exact hK _ _ (qrun_sound hT h hQ)
        | enter f args =>
          simp only at h
          by_cases hz : args.size = 0
          · rw [if_pos hz] at h
            obtain rfl : args = #[] := Array.eq_empty_of_size_eq_zero hz
            cases hf : T f with
            | none => rw [hf] at h; cases h
            | some g =>
              rw [hf] at h
              show Calls P f #[] w1 _
              refine (hT f g hf w1).mono ?_
              rintro e w2 ⟨rfl, rfl⟩
              exact hK _ _ (qrun_sound hT h hQ)
          · rw [if_neg hz] at h; cases h
        | _ => cases h
      | _ => rw [hr] at h; cases h
/-- A function whose body is two regions and a return. -/
theorem calls_table {P : Program} {T : Tab} (hT : TabOk P T) {f : FuncId} {fn : Func} {id0 id : Nat} {ops0 ops : Array Oper} {t : Tmp} {w w' : World} {v : Value} (hf : P.funcs[f]? = some fn) (hb : fn.body = some ((Code.region id0 ops0 false).seq ((Code.region id ops false).seq Code.ret))) (hr : fn.results = #[.tmp t])
    (h : ((qrun P T ops0.toList { tmps := #[] ++ Array.replicate (fn.ntmps - 0) undef, defers := [] } w).bind fun y => qrun P T ops.toList y.1 y.2).map (fun x => (x.1.tmps.getD t undef, x.1.defers.isEmpty, x.2)) = some (v, true, w')) :
    Calls P f #[] w fun e w'' => e = .returned v ∧ w'' = w' := by
  refine calls_of_wp hf hb (wp_seq (wp_region_list ?_))
  cases hq : qrun P T ops0.toList { tmps := #[] ++ Array.replicate (fn.ntmps - 0) undef, defers := [] } w with
  | none => rw [hq] at h; cases h
  | some y =>
    obtain ⟨a0, w0⟩ := y
    rw [hq] at h
    refine qrun_sound hT hq ?_
    refine wp_seq (wp_region_list ?_)
    cases hq2 : qrun P T ops.toList a0 w0 with
    | none => simp [hq2] at h
    | some x =>
      obtain ⟨a1, w1⟩ := x
      obtain ⟨h1, h2, h3⟩ : a1.tmps.getD t undef = v ∧ a1.defers.isEmpty = true ∧ w1 = w' := by simpa [hq2] using h
      refine qrun_sound hT hq2 ?_
      refine wp_ret (bodyPost_ret (results_tmp hr _ _ _) (List.isEmpty_iff.1 h2) ?_)
      exact ⟨by rw [h1], h3⟩
end Go.Proofs.YtpmlbdfdiebkcaaDoor
