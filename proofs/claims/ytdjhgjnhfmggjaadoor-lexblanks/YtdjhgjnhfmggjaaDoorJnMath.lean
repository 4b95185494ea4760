/-
  Plain mathematics: tokens of texts that are put one behind the other.
-/
import Derived.Test.YtdjhgjnhfmggjaaDoorPlMath
namespace Go.Proofs.YtdjhgjnhfmggjaaDoor
open Go.RowKit S1
set_option linter.unusedVariables false

/-- Units, and tokens, that begin d bytes later. -/
def shU (d : Nat) (u : U) : U := ⟨u.r, u.p + d, u.w, u.bad⟩
def shT (d : Nat) (t : Tok) : Tok := ⟨t.k, t.p + d, t.t, t.s⟩
theorem fit_sh (p : Int → Bool) (d : Nat) (u : U) : fitU p (shU d u) = fitU p u := rfl

/-- Signs taken off a text that goes on. -/
theorem sgn_app {p : Int → Bool} {us r : List U} {x : Int} (vs : List U) (h : sgn p us = (some x, r)) : sgn p (us ++ vs) = (some x, r ++ vs) := by
  obtain ⟨u, rfl, hf, hx⟩ := sgn_some h
  rw [List.cons_append, sgn_cons, if_pos hf, hx]
theorem sgn_app_none {p : Int → Bool} {u : U} {t r : List U} (vs : List U) (h : sgn p (u :: t) = (none, r)) : sgn p (u :: t ++ vs) = (none, u :: t ++ vs) := by
  obtain ⟨_, e | ⟨u', t', e, hf⟩⟩ := sgn_none h
  · cases e
  · injection e with e1 e2
    rw [List.cons_append, sgn_cons, if_neg (by rw [e1, hf]; decide)]
theorem figs_app : ∀ (n : Nat) (us vs : List U), figsD n us ≠ [] → figsD n (us ++ vs) = figsD n us ++ vs ∧ figsL n (us ++ vs) = figsL n us
  | 0, us, vs, h => ⟨rfl, rfl⟩
  | n + 1, [], vs, h => absurd rfl h
  | n + 1, u :: t, vs, h => by
    by_cases q : fitU figR u = true
    · have e1 : figsD (n + 1) (u :: t) = figsD n t := by simp [figsD, q]
      rw [e1] at h
      obtain ⟨i1, i2⟩ := figs_app n t vs h
      refine ⟨?_, ?_⟩
      · simp [figsD, q, i1]
      · simp [figsL, q, i2]
    · simp [figsD, figsL, q]
theorem numL_app {us r : List U} {x : Int} (vs : List U) (h : numL us = (some x, r)) : numL (us ++ vs) = (some x, r ++ vs) := by
  have hne : figsD 6 us ≠ [] := by
    intro e
    unfold numL at h
    rw [e] at h
    split at h
    · cases h
    · simp [sgn] at h
  obtain ⟨i1, i2⟩ := figs_app 6 us vs hne
  unfold numL at h ⊢
  rw [i1, i2]
  split at h
  · cases h
  · rename_i q
    rw [if_neg q]
    cases h1 : sgn (isC 125) (figsD 6 us) with
    | mk o s => cases o with
      | none => rw [h1] at h; cases h
      | some y =>
        rw [h1] at h
        rw [sgn_app vs h1]
        simp only [Prod.mk.injEq] at h ⊢
        exact ⟨h.1, by rw [h.2]⟩
theorem letL_app {us r : List U} {x : Int} (vs : List U) (h : letL us = (some x, r)) : letL (us ++ vs) = (some x, r ++ vs) := by
  cases us with
  | nil => simp [letL, sgn] at h
  | cons u t =>
    cases h1 : sgn (isC 92) (u :: t) with
    | mk o1 a => cases o1 with
      | none =>
        rw [letL_a h1] at h
        rw [letL_a (sgn_app_none vs h1)]
        exact sgn_app vs h
      | some y =>
        cases h2 : sgn (isC 120) a with
        | mk o2 b => cases o2 with
          | none =>
            rw [letL_b h1 h2] at h
            have h1' := sgn_app vs h1
            cases a with
            | nil => simp [sgn] at h
            | cons u2 t2 =>
              rw [letL_b h1' (sgn_app_none vs h2)]
              exact sgn_app vs h
          | some z => cases h3 : sgn (isC 123) b with
            | mk o3 c => cases o3 with
              | none => rw [letL_c h1 h2 h3] at h; cases h
              | some w =>
                rw [letL_d h1 h2 h3] at h
                rw [letL_d (sgn_app vs h1) (sgn_app vs h2) (sgn_app vs h3)]
                exact numL_app vs h
/-- An entry behind which something stands is the same, whatever stands behind that. -/
theorem entL_app {us r : List U} {x : Rg} (vs : List U) (hr : r ≠ []) (h : entL us = (some x, r)) : entL (us ++ vs) = (some x, r ++ vs) := by
  cases h1 : letL us with
  | mk o1 a => cases o1 with
    | none => rw [entL_a h1] at h; cases h
    | some lo => cases h2 : sgn (isC 45) a with
      | mk o2 b => cases o2 with
        | none =>
          rw [entL_b h1 h2] at h
          obtain ⟨e1, e2⟩ := Prod.mk.inj h
          subst e2
          cases a with
          | nil => exact absurd rfl hr
          | cons u t => rw [entL_b (letL_app vs h1) (sgn_app_none vs h2), e1]
        | some y => cases h3 : letL b with
          | mk o3 c => cases o3 with
            | none => rw [entL_c h1 h2 h3] at h; cases h
            | some hi =>
              rw [entL_d h1 h2 h3] at h
              obtain ⟨e1, e2⟩ := Prod.mk.inj h
              rw [entL_d (letL_app vs h1) (sgn_app vs h2) (letL_app vs h3), e1, e2]
theorem setF_app {n m : Nat} : ∀ {k j : Nat} {us r : List U} {acc l : List Rg} (vs : List U), us.length < k → (us ++ vs).length < j → setF n k us acc = SR.good l r → setF m j (us ++ vs) acc = SR.good l (r ++ vs)
  | 0, j, us, r, acc, l, vs, hk, hj, h => by omega
  | k + 1, 0, us, r, acc, l, vs, hk, hj, h => by omega
  | k + 1, j + 1, us, r, acc, l, vs, hk, hj, h => by
    cases h1 : sgn (isC 93) us with
    | mk o s => cases o with
      | some y =>
        rw [setF_end h1] at h
        obtain ⟨e1, e2⟩ := Prod.mk.inj (Sum.inr.inj h)
        rw [setF_end (sgn_app vs h1), e1, e2]
      | none => cases h2 : entL us with
        | mk o2 r2 => cases o2 with
          | none => rw [setF_stuck h1 h2] at h; cases h
          | some e =>
            cases h3 : (decide (e.hi < e.lo) || decide (1114111 < e.hi)) with
            | true => rw [setF_arg h1 h2 h3] at h; cases h
            | false =>
              rw [setF_on h1 h2 h3] at h
              have hl2 := entL_len h2
              have hr2 : r2 ≠ [] := by
                intro e0
                subst e0
                cases k with
                | zero => cases h
                | succ k =>
                  have := setF_len h
                  simp at this
              cases us with
              | nil => simp at hl2
              | cons u t =>
                rw [setF_on (sgn_app_none vs h1) (entL_app vs hr2 h2) h3]
                refine setF_app vs (by omega) ?_ h
                simp only [List.length_append, List.length_cons] at hj hl2 ⊢
                omega
end Go.Proofs.YtdjhgjnhfmggjaaDoor
