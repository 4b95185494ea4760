/-
  Plain mathematics: a text's tokens cut apart, and put together again with blanks between.
-/
import Derived.Test.YtdjhgjnhfmggjaaDoorJnMath2
namespace Go.Proofs.YtdjhgjnhfmggjaaDoor
open Go.RowKit S1
set_option linter.unusedVariables false

/-- Units, and tokens, moved. -/
def mvU (g : Nat → Nat) (u : U) : U := ⟨u.r, g u.p, u.w, u.bad⟩
def mvT (g : Nat → Nat) (t : Tok) : Tok := ⟨t.k, g t.p, t.t, t.s⟩
theorem fit_mv (p : Int → Bool) (g : Nat → Nat) (u : U) : fitU p (mvU g u) = fitU p u := rfl

theorem sgn_mv (p : Int → Bool) (g : Nat → Nat) (us : List U) : sgn p (us.map (mvU g)) = ((sgn p us).1, (sgn p us).2.map (mvU g)) := by
  cases us with
  | nil => rfl
  | cons u t =>
    rw [List.map_cons, sgn_cons, sgn_cons, fit_mv]
    split <;> rfl
theorem figs_mv (g : Nat → Nat) : ∀ (n : Nat) (us : List U), figsD n (us.map (mvU g)) = (figsD n us).map (mvU g) ∧ figsL n (us.map (mvU g)) = figsL n us
  | 0, us => ⟨rfl, rfl⟩
  | n + 1, [] => ⟨rfl, rfl⟩
  | n + 1, u :: t => by
    obtain ⟨i1, i2⟩ := figs_mv g n t
    by_cases q : fitU figR u = true
    · have q' : fitU figR (mvU g u) = true := q
      refine ⟨?_, ?_⟩
      · simp only [List.map_cons, figsD, q, q', if_true, i1]
      · simp only [List.map_cons, figsL, q, q', if_true, i2]
        rfl
    · have q' : ¬ fitU figR (mvU g u) = true := q
      refine ⟨?_, ?_⟩
      · simp only [List.map_cons, figsD, q, q']
        rfl
      · simp only [List.map_cons, figsL, q, q']
        rfl
theorem numL_mv (g : Nat → Nat) (us : List U) : numL (us.map (mvU g)) = ((numL us).1, (numL us).2.map (mvU g)) := by
  obtain ⟨i1, i2⟩ := figs_mv g 6 us
  unfold numL
  rw [i1, i2, sgn_mv]
  split
  · rfl
  · cases h : sgn (isC 125) (figsD 6 us) with
    | mk o r => cases o <;> rfl
theorem letL_mv (g : Nat → Nat) (us : List U) : letL (us.map (mvU g)) = ((letL us).1, (letL us).2.map (mvU g)) := by
  unfold letL
  rw [sgn_mv]
  cases h : sgn (isC 92) us with
  | mk o a => cases o with
    | none => exact sgn_mv plainR g us
    | some x =>
      simp only
      rw [sgn_mv]
      cases h2 : sgn (isC 120) a with
      | mk o2 b => cases o2 with
        | none => exact sgn_mv guardR g a
        | some y =>
          simp only
          rw [sgn_mv]
          cases h3 : sgn (isC 123) b with
          | mk o3 c => cases o3 with
            | none => rfl
            | some z => exact numL_mv g c
theorem entL_mv (g : Nat → Nat) (us : List U) : entL (us.map (mvU g)) = ((entL us).1, (entL us).2.map (mvU g)) := by
  unfold entL
  rw [letL_mv]
  cases h : letL us with
  | mk o a => cases o with
    | none => rfl
    | some lo =>
      simp only
      rw [sgn_mv]
      cases h2 : sgn (isC 45) a with
      | mk o2 b => cases o2 with
        | none => rfl
        | some x =>
          simp only
          rw [letL_mv]
          cases h3 : letL b with
          | mk o3 c => cases o3 <;> rfl
theorem setF_mv {n m : Nat} (g : Nat → Nat) : ∀ {k : Nat} {us r : List U} {acc l : List Rg}, setF n k us acc = SR.good l r → setF m k (us.map (mvU g)) acc = SR.good l (r.map (mvU g))
  | 0, us, r, acc, l, h => by cases h
  | k + 1, us, r, acc, l, h => by
    have s1 := sgn_mv (isC 93) g us
    have s2 := entL_mv g us
    cases h1 : sgn (isC 93) us with
    | mk o s =>
      rw [h1] at s1
      cases o with
      | some y =>
        rw [setF_end h1] at h
        obtain ⟨e1, e2⟩ := Prod.mk.inj (Sum.inr.inj h)
        rw [setF_end s1, e1, e2]
      | none => cases h2 : entL us with
        | mk o2 r2 =>
          rw [h2] at s2
          cases o2 with
          | none => rw [setF_stuck h1 h2] at h; cases h
          | some e =>
            cases h3 : (decide (e.hi < e.lo) || decide (1114111 < e.hi)) with
            | true => rw [setF_arg h1 h2 h3] at h; cases h
            | false =>
              rw [setF_on h1 h2 h3] at h
              rw [setF_on s1 s2 h3]
              exact setF_mv g h
theorem blankL_mv (g : Nat → Nat) : ∀ (b : Bool) (us : List U), blankL b (us.map (mvU g)) = (blankL b us).map (mvU g)
  | _, [] => by simp [blankL]
  | true, u :: t => by
    simp only [List.map_cons, blankL, mvU]
    have i1 := blankL_mv g true t
    have i2 := blankL_mv g false t
    repeat' split
    all_goals first | rfl | assumption | simp_all [mvU]
  | false, u :: t => by
    simp only [List.map_cons, blankL, mvU]
    have i1 := blankL_mv g true t
    have i2 := blankL_mv g false t
    repeat' split
    all_goals first | rfl | assumption | simp_all [mvU]
theorem while_mv (p : Int → Bool) (g : Nat → Nat) : ∀ (t : List U), (t.map (mvU g)).takeWhile (fitU p) = (t.takeWhile (fitU p)).map (mvU g) ∧ (t.map (mvU g)).dropWhile (fitU p) = (t.dropWhile (fitU p)).map (mvU g)
  | [] => ⟨rfl, rfl⟩
  | u :: t => by
    obtain ⟨i1, i2⟩ := while_mv p g t
    by_cases q : fitU p u = true
    · simp [fit_mv, q, i1, i2]
    · simp [fit_mv, q]
theorem tokO_mv {n : Nat} (g : Nat → Nat) {us r : List U} {t : Tok} (h : tokO n us = OR.good t r) : tokO (g n) (us.map (mvU g)) = OR.good (mvT g t) (r.map (mvU g)) := by
  cases us with
  | nil =>
    have h' : OR.good ⟨4, n, [], []⟩ [] = OR.good t r := h
    obtain ⟨e1, e2⟩ := Prod.mk.inj (Sum.inr.inj h')
    rw [← e1, ← e2]; rfl
  | cons u t' =>
    rw [List.map_cons, tokO_cons, fit_mv, fit_mv, fit_mv]
    rw [tokO_cons] at h
    obtain ⟨w1, w2⟩ := while_mv nameR g t'
    split at h
    · rename_i q
      obtain ⟨e1, e2⟩ := Prod.mk.inj (Sum.inr.inj h)
      rw [if_pos q, w1, w2, ← e1, ← e2]
      simp [mvT, mvU]
    · rename_i q
      rw [if_neg q]
      split at h
      · rename_i q2
        obtain ⟨e1, e2⟩ := Prod.mk.inj (Sum.inr.inj h)
        rw [if_pos q2, ← e1, ← e2]; rfl
      · rename_i q2
        rw [if_neg q2]
        split at h
        · rename_i q3
          rw [if_pos q3]
          cases h1 : setF n (t'.length + 1) t' [] with
          | inl x => rw [h1] at h; cases h
          | inr x =>
            obtain ⟨l, s⟩ := x
            rw [h1] at h
            obtain ⟨e1, e2⟩ := Prod.mk.inj (Sum.inr.inj h)
            rw [List.length_map, setF_mv (m := g n) g h1, ← e1, ← e2]; rfl
        · cases h
theorem toksF_mv {n : Nat} (g : Nat → Nat) : ∀ {k : Nat} {us : List U} {l : List Tok}, toksF n k us [] = TR.good l → toksF (g n) k (us.map (mvU g)) [] = TR.good (l.map (mvT g))
  | 0, us, l, h => by cases h
  | k + 1, us, l, h => by
    obtain ⟨t, r, h1, h2⟩ := toksF_cons h
    have h3 := tokO_mv g h1
    rw [← blankL_mv] at h3
    rcases h2 with ⟨h4, rfl⟩ | ⟨h4, l', rfl, h5⟩
    · rw [toksF_end h3 (show (mvT g t).k = 4 from h4)]; rfl
    · rw [toksF_on h3 (show (mvT g t).k ≠ 4 from h4), toksF_app, toksF_mv g h5]; rfl

/-- What is read off a text hangs on what was read alone. -/
theorem figs_cut : ∀ (n : Nat) (us : List U) (u : U) (q : List U), figsD n us = u :: q → ∃ T, us = T ++ u :: q ∧ ∀ q', figsD n (T ++ u :: q') = u :: q' ∧ figsL n (T ++ u :: q') = figsL n us
  | 0, us, u, q, h => ⟨[], h, fun q' => ⟨rfl, rfl⟩⟩
  | n + 1, [], u, q, h => by cases h
  | n + 1, v :: t, u, q, h => by
    by_cases f : fitU figR v = true
    · have e1 : figsD (n + 1) (v :: t) = figsD n t := by simp [figsD, f]
      rw [e1] at h
      obtain ⟨T, e, hT⟩ := figs_cut n t u q h
      refine ⟨v :: T, by rw [e]; rfl, fun q' => ?_⟩
      obtain ⟨i1, i2⟩ := hT q'
      constructor
      · simp [figsD, f, i1]
      · simp [figsL, f, i2]
    · have e1 : figsD (n + 1) (v :: t) = v :: t := by simp [figsD, f]
      rw [e1] at h
      obtain ⟨e2, e3⟩ := List.cons.inj h
      subst e2
      subst e3
      refine ⟨[], rfl, fun q' => ?_⟩
      constructor
      · simp [figsD, f]
      · simp [figsL, f]
theorem numL_cut {us r : List U} {x : Int} (h : numL us = (some x, r)) : ∃ T, us = T ++ r ∧ ∀ r', numL (T ++ r') = (some x, r') := by
  unfold numL at h
  split at h
  · cases h
  · rename_i q
    cases h1 : sgn (isC 125) (figsD 6 us) with
    | mk o s => cases o with
      | none => rw [h1] at h; cases h
      | some y =>
        rw [h1] at h
        obtain ⟨e1, e2⟩ := Prod.mk.inj h
        obtain ⟨u, e3, hf, hu⟩ := sgn_some h1
        obtain ⟨T, e4, hT⟩ := figs_cut 6 us u s e3
        have e2' : s = r := e2
        subst e2'
        refine ⟨T ++ [u], by rw [e4]; simp, fun r' => ?_⟩
        obtain ⟨i1, i2⟩ := hT r'
        rw [List.append_assoc, List.singleton_append]
        unfold numL
        rw [i1, i2, if_neg q, sgn_cons, if_pos hf]
        exact Prod.ext e1 rfl
theorem letL_cut {us r : List U} {x : Int} (h : letL us = (some x, r)) : ∃ T, us = T ++ r ∧ ∀ r', letL (T ++ r') = (some x, r') := by
  cases us with
  | nil => simp [letL, sgn] at h
  | cons u t =>
    cases h1 : sgn (isC 92) (u :: t) with
    | mk o1 a => cases o1 with
      | none =>
        rw [letL_a h1] at h
        obtain ⟨u', e, hf, hu⟩ := sgn_some h
        obtain ⟨rfl, rfl⟩ := List.cons.inj e
        refine ⟨[u], rfl, fun r' => ?_⟩
        obtain ⟨_, e | ⟨v, t', e, hv⟩⟩ := sgn_none h1
        · cases e
        · obtain ⟨rfl, rfl⟩ := List.cons.inj e
          have : sgn (isC 92) (u :: r') = (none, u :: r') := by rw [sgn_cons, if_neg (by rw [hv]; decide)]
          rw [List.singleton_append, letL_a this, sgn_cons, if_pos hf, hu]
      | some y =>
        obtain ⟨u', e, hf, hu⟩ := sgn_some h1
        obtain ⟨rfl, rfl⟩ := List.cons.inj e
        have g1 : ∀ z, sgn (isC 92) (u :: z) = (some u.r, z) := fun z => by rw [sgn_cons, if_pos hf]
        cases h2 : sgn (isC 120) t with
        | mk o2 b => cases o2 with
          | none =>
            rw [letL_b h1 h2] at h
            obtain ⟨u2, e, hf2, hu2⟩ := sgn_some h
            subst e
            refine ⟨[u, u2], rfl, fun r' => ?_⟩
            obtain ⟨_, e | ⟨v, t', e, hv⟩⟩ := sgn_none h2
            · cases e
            · obtain ⟨rfl, rfl⟩ := List.cons.inj e
              have : sgn (isC 120) (u2 :: r') = (none, u2 :: r') := by rw [sgn_cons, if_neg (by rw [hv]; decide)]
              show letL (u :: (u2 :: r')) = _
              rw [letL_b (g1 _) this, sgn_cons, if_pos hf2, hu2]
          | some z =>
            obtain ⟨u2, e, hf2, hu2⟩ := sgn_some h2
            subst e
            cases h3 : sgn (isC 123) b with
            | mk o3 c => cases o3 with
              | none => rw [letL_c h1 h2 h3] at h; cases h
              | some w =>
                obtain ⟨u3, e, hf3, hu3⟩ := sgn_some h3
                subst e
                rw [letL_d h1 h2 h3] at h
                obtain ⟨T, e4, hT⟩ := numL_cut h
                subst e4
                refine ⟨u :: u2 :: u3 :: T, rfl, fun r' => ?_⟩
                show letL (u :: (u2 :: (u3 :: (T ++ r')))) = _
                rw [letL_d (g1 _) (show sgn (isC 120) (u2 :: (u3 :: (T ++ r'))) = (some u2.r, u3 :: (T ++ r')) by rw [sgn_cons, if_pos hf2]) (show sgn (isC 123) (u3 :: (T ++ r')) = (some u3.r, T ++ r') by rw [sgn_cons, if_pos hf3])]
                exact hT r'
theorem entL_cut {us q : List U} {u : U} {x : Rg} (h : entL us = (some x, u :: q)) : ∃ T, us = T ++ u :: q ∧ ∀ q', entL (T ++ u :: q') = (some x, u :: q') := by
  cases h1 : letL us with
  | mk o1 a => cases o1 with
    | none => rw [entL_a h1] at h; cases h
    | some lo =>
      obtain ⟨T, e, hT⟩ := letL_cut h1
      cases h2 : sgn (isC 45) a with
      | mk o2 b => cases o2 with
        | none =>
          rw [entL_b h1 h2] at h
          obtain ⟨e1, e2⟩ := Prod.mk.inj h
          subst e2
          refine ⟨T, e, fun q' => ?_⟩
          obtain ⟨_, e3 | ⟨v, t', e3, hv⟩⟩ := sgn_none h2
          · cases e3
          · obtain ⟨rfl, rfl⟩ := List.cons.inj e3
            rw [entL_b (hT _) (show sgn (isC 45) (u :: q') = (none, u :: q') by rw [sgn_cons, if_neg (by rw [hv]; decide)]), e1]
        | some y =>
          obtain ⟨m, e3, hf, hm⟩ := sgn_some h2
          subst e3
          cases h3 : letL b with
          | mk o3 c => cases o3 with
            | none => rw [entL_c h1 h2 h3] at h; cases h
            | some hi =>
              rw [entL_d h1 h2 h3] at h
              obtain ⟨e1, e2⟩ := Prod.mk.inj h
              subst e2
              obtain ⟨T2, e4, hT2⟩ := letL_cut h3
              subst e4
              refine ⟨T ++ m :: T2, by rw [e]; simp, fun q' => ?_⟩
              have := hT (m :: (T2 ++ u :: q'))
              rw [List.append_assoc, List.cons_append]
              rw [entL_d this (show sgn (isC 45) (m :: (T2 ++ u :: q')) = (some m.r, T2 ++ u :: q') by rw [sgn_cons, if_pos hf]) (hT2 (u :: q')), e1]
theorem setF_cut {n : Nat} : ∀ {k : Nat} {us r : List U} {acc l : List Rg}, setF n k us acc = SR.good l r → ∃ T, us = T ++ r ∧ T ≠ [] ∧ ∀ m j r', (T ++ r').length < j → setF m j (T ++ r') acc = SR.good l r'
  | 0, us, r, acc, l, h => by cases h
  | k + 1, us, r, acc, l, h => by
    cases h1 : sgn (isC 93) us with
    | mk o s => cases o with
      | some y =>
        rw [setF_end h1] at h
        obtain ⟨e1, e2⟩ := Prod.mk.inj (Sum.inr.inj h)
        obtain ⟨u, e3, hf, hu⟩ := sgn_some h1
        subst e1
        subst e2
        subst e3
        refine ⟨[u], rfl, by simp, fun m j r' hj => ?_⟩
        cases j with
        | zero => omega
        | succ j => exact setF_end (show sgn (isC 93) (u :: r') = (some u.r, r') by rw [sgn_cons, if_pos hf])
      | none => cases h2 : entL us with
        | mk o2 r2 => cases o2 with
          | none => rw [setF_stuck h1 h2] at h; cases h
          | some e =>
            cases h3 : (decide (e.hi < e.lo) || decide (1114111 < e.hi)) with
            | true => rw [setF_arg h1 h2 h3] at h; cases h
            | false =>
              rw [setF_on h1 h2 h3] at h
              obtain ⟨T2, e4, hne, hT2⟩ := setF_cut h
              subst e4
              cases T2 with
              | nil => exact absurd rfl hne
              | cons v T2 =>
                obtain ⟨T, e5, hT⟩ := entL_cut h2
                have hl := entL_len h2
                rw [e5] at hl
                have hT0 : T ≠ [] := by
                  intro e0
                  rw [e0] at hl
                  simp at hl
                refine ⟨T ++ v :: T2, by rw [e5]; simp, by simp, fun m j r' hj => ?_⟩
                cases j with
                | zero => omega
                | succ j =>
                  have i1 := hT (T2 ++ r')
                  have i0 : sgn (isC 93) (T ++ v :: (T2 ++ r')) = (none, T ++ v :: (T2 ++ r')) := by
                    cases T with
                    | nil => exact absurd rfl hT0
                    | cons u T =>
                      obtain ⟨_, e6 | ⟨u', t', e6, hv⟩⟩ := sgn_none h1
                      · rw [e5] at e6; cases e6
                      · rw [e5] at e6
                        obtain ⟨rfl, _⟩ := List.cons.inj e6
                        rw [List.cons_append, sgn_cons, if_neg (by rw [hv]; decide)]
                  rw [List.append_assoc, List.cons_append]
                  rw [setF_on i0 i1 h3]
                  refine hT2 m j r' ?_
                  have : 0 < T.length := List.length_pos_iff.2 hT0
                  simp only [List.length_append, List.length_cons] at hj ⊢
                  omega
theorem while_cut (p : U → Bool) (r' : List U) (hr : ∀ v vs, r' = v :: vs → p v = false) : ∀ (t : List U), (t.takeWhile p ++ r').takeWhile p = t.takeWhile p ∧ (t.takeWhile p ++ r').dropWhile p = r'
  | [] => by
    cases r' with
    | nil => simp
    | cons v vs => simp [hr v vs rfl]
  | u :: t => by
    obtain ⟨i1, i2⟩ := while_cut p r' hr t
    by_cases q : p u = true
    · simp [q, i1, i2]
    · have q' : p u = false := by simpa using q
      cases r' with
      | nil => simp [q']
      | cons v vs => simp [q', hr v vs rfl]
/-- A token hangs on its own units alone, where no letter of a name stands behind it. -/
theorem tokO_cut {n : Nat} {u : U} {t' r : List U} {t : Tok} (h : tokO n (u :: t') = OR.good t r) : ∃ T, t' = T ++ r ∧ t.p = u.p ∧ t.k ≠ 4 ∧ (∀ z, blankL false (u :: z) = u :: z) ∧ ∀ m r', (∀ v vs, r' = v :: vs → fitU nameR v = false) → tokO m (u :: (T ++ r')) = OR.good t r' := by
  rw [tokO_cons] at h
  split at h
  · rename_i q
    obtain ⟨e1, e2⟩ := Prod.mk.inj (Sum.inr.inj h)
    subst e1
    subst e2
    refine ⟨t'.takeWhile (fitU nameR), (List.takeWhile_append_dropWhile).symm, rfl, show (1 : Int) ≠ 4 by decide, fun z => ?_, fun m r' hr => ?_⟩
    · simp [fitU, nameB] at q
      have h1 : u.r ≠ 35 := by omega
      have h2 : blankR u.r = false := by simp [blankR]; omega
      simp [blankL, q.1, h1, h2]
    · obtain ⟨w1, w2⟩ := while_cut (fitU nameR) r' hr t'
      rw [tokO_cons, if_pos q, w1, w2]
  · rename_i q
    split at h
    · rename_i q2
      obtain ⟨e1, e2⟩ := Prod.mk.inj (Sum.inr.inj h)
      subst e1
      subst e2
      refine ⟨[], rfl, rfl, show (2 : Int) ≠ 4 by decide, fun z => ?_, fun m r' hr => ?_⟩
      · have q3 := q2
        simp [fitU, tokR] at q3
        have h1 : u.r ≠ 35 := by omega
        have h2 : blankR u.r = false := by simp [blankR]; omega
        simp [blankL, q3.1, h1, h2]
      · rw [tokO_cons, if_neg q, if_pos q2]; rfl
    · rename_i q2
      split at h
      · rename_i q3
        cases h1 : setF n (t'.length + 1) t' [] with
        | inl x => rw [h1] at h; cases h
        | inr x =>
          obtain ⟨l, s⟩ := x
          rw [h1] at h
          obtain ⟨e1, e2⟩ := Prod.mk.inj (Sum.inr.inj h)
          have e2' : s = r := e2
          subst e1
          subst e2'
          obtain ⟨T, e4, hne, hT⟩ := setF_cut h1
          refine ⟨T, e4, rfl, show (3 : Int) ≠ 4 by decide, fun z => ?_, fun m r' hr => ?_⟩
          · have q4 := q3
            simp [fitU, isC] at q4
            simp [blankL, q4.1, q4.2, blankR]
          · rw [tokO_cons, if_neg q, if_neg q2, if_pos q3, hT m _ r' (by omega)]
            rfl
      · cases h
/-- Blanks are what is left of nothing. -/
theorem blank_cut : ∀ (b : Bool) (us : List U), ∃ x, us = x ++ blankL b us ∧ blankL b x = []
  | b, [] => ⟨[], by cases b <;> rfl, by cases b <;> rfl⟩
  | true, u :: t => by
    obtain ⟨x1, e1, h1⟩ := blank_cut true t
    obtain ⟨x2, e2, h2⟩ := blank_cut false t
    simp only [blankL]
    split
    · exact ⟨[], rfl, rfl⟩
    · rename_i q
      split
      · rename_i q2
        exact ⟨u :: x2, by rw [List.cons_append, ← e2], by simp [blankL, q, q2, h2]⟩
      · rename_i q2
        exact ⟨u :: x1, by rw [List.cons_append, ← e1], by simp [blankL, q, q2, h1]⟩
  | false, u :: t => by
    obtain ⟨x1, e1, h1⟩ := blank_cut true t
    obtain ⟨x2, e2, h2⟩ := blank_cut false t
    simp only [blankL]
    split
    · exact ⟨[], rfl, rfl⟩
    · rename_i q
      split
      · rename_i q2
        exact ⟨u :: x1, by rw [List.cons_append, ← e1], by simp [blankL, q, q2, h1]⟩
      · rename_i q2
        split
        · rename_i q3
          exact ⟨u :: x2, by rw [List.cons_append, ← e2], by simp [blankL, q, q2, q3, h2]⟩
        · exact ⟨[], rfl, rfl⟩

/-- The units S are the token t and blanks behind it. -/
def SegOK (t : Tok) (S : List U) : Prop := ∃ n u T q, S = u :: (T ++ q) ∧ tokO n (u :: T) = OR.good t [] ∧ blankL false q = []
theorem SegOK.mv {t : Tok} {S : List U} (g : Nat → Nat) (h : SegOK t S) : SegOK (mvT g t) (S.map (mvU g)) := by
  obtain ⟨n, u, T, q, rfl, h1, h2⟩ := h
  refine ⟨g n, mvU g u, T.map (mvU g), q.map (mvU g), by simp, ?_, by rw [blankL_mv, h2]; rfl⟩
  have := tokO_mv g h1
  simpa using this
theorem SegOK.at {t : Tok} {S : List U} (h : SegOK t S) : t.k ≠ 4 ∧ ∃ u z, S = u :: z ∧ t.p = u.p := by
  obtain ⟨n, u, T, q, rfl, h1, h2⟩ := h
  obtain ⟨T', e, h3, h4, h5, h6⟩ := tokO_cut h1
  exact ⟨h4, u, _, rfl, h3⟩
/-- A text with tokens, cut apart. -/
theorem toks_parts {n : Nat} : ∀ {k : Nat} {us : List U} {L : List Tok}, toksF n k us [] = TR.good L → ∃ (pre : List U) (ps : List (Tok × List U)), us = pre ++ (ps.map Prod.snd).flatten ∧ blankL false pre = [] ∧ L = ps.map Prod.fst ++ [⟨4, n, [], []⟩] ∧ ∀ x ∈ ps, SegOK x.1 x.2
  | 0, us, L, h => by cases h
  | k + 1, us, L, h => by
    obtain ⟨t, r, h1, h2⟩ := toksF_cons h
    obtain ⟨x, ex, hx⟩ := blank_cut false us
    cases hq : blankL false us with
    | nil =>
      rw [hq] at h1 ex
      have h' : OR.good ⟨4, n, [], []⟩ [] = OR.good t r := h1
      obtain ⟨e1, e2⟩ := Prod.mk.inj (Sum.inr.inj h')
      rcases h2 with ⟨_, rfl⟩ | ⟨h4, _⟩
      · refine ⟨us, [], by simp, by rw [hq], by rw [← e1]; rfl, fun x hx => by cases hx⟩
      · rw [← e1] at h4; exact absurd rfl h4
    | cons u t' =>
      rw [hq] at h1 ex
      obtain ⟨T, e3, h3, h4, h5, h6⟩ := tokO_cut h1
      rcases h2 with ⟨h4', _⟩ | ⟨_, l2, rfl, h7⟩
      · exact absurd h4' h4
      · obtain ⟨pre, ps, e8, h8, e9, h9⟩ := toks_parts h7
        refine ⟨x, (t, u :: (T ++ pre)) :: ps, ?_, hx, by rw [e9]; rfl, fun y hy => ?_⟩
        · rw [ex, e3, e8]
          simp
        · rcases List.mem_cons.1 hy with rfl | hy
          · refine ⟨n, u, T, pre, rfl, ?_, h8⟩
            have := h6 n [] (fun v vs h => by cases h)
            simpa using this
          · exact h9 y hy
/-- What stands behind such units, with a line's end between. -/
theorem seg_toks {t : Tok} {S : List U} (h : SegOK t S) (N p : Nat) (vs : List U) {j : Nat} (hj : (S ++ lfU p :: vs).length < j) : toksF N j (S ++ lfU p :: vs) [] = preT [t] (toksF N (vs.length + 1) vs []) := by
  obtain ⟨n, u, T, q, rfl, h1, h2⟩ := h
  obtain ⟨T', e, h3, h4, h5, h6⟩ := tokO_cut h1
  rw [List.append_nil] at e
  subst e
  have hh : ∀ v ws, q ++ lfU p :: vs = v :: ws → fitU nameR v = false := by
    intro v ws hv
    cases q with
    | nil =>
      obtain ⟨rfl, _⟩ := List.cons.inj hv
      rfl
    | cons a q =>
      obtain ⟨rfl, _⟩ := List.cons.inj hv
      simp only [blankL] at h2
      split at h2
      · cases h2
      · split at h2
        · rename_i e
          simp [fitU, nameR, nameB, decB, e]
        · split at h2
          · rename_i e
            simp [blankR] at e
            simp [fitU, nameR, nameB, decB]
            omega
          · cases h2
  have h7 := h6 N (q ++ lfU p :: vs) hh
  have h8 : u :: (T ++ q) ++ lfU p :: vs = u :: (T ++ (q ++ lfU p :: vs)) := by simp
  rw [h8] at hj ⊢
  have h9 : tokO N (blankL false (u :: (T ++ (q ++ lfU p :: vs)))) = OR.good t (q ++ lfU p :: vs) := by rw [h5]; exact h7
  simp only [List.length_append, List.length_cons] at hj
  cases j with
  | zero => omega
  | succ j =>
    rw [toksF_on h9 h4, toksF_app]
    cases j with
    | zero => omega
    | succ j =>
      rw [List.nil_append, toksF_blank j [] ((blank_app false q (lfU p :: vs)).2 p vs rfl h2), toksF_fuel (j := vs.length + 1) (by omega) (by omega)]
/-- Blanks that may stand ahead of whatever. -/
def BlkU (B : List U) : Prop := ∀ z, blankL false (B ++ z) = blankL false z
theorem BlkU.nil : BlkU [] := fun z => rfl
theorem BlkU.one {u : U} (hb : u.bad = false) (hr : blankR u.r = true) : BlkU [u] := fun z => by
  have h1 : u.r ≠ 35 := by intro e; rw [e] at hr; exact absurd hr (by decide)
  simp [blankL, hb, hr, h1]
theorem BlkU.app {A B : List U} (ha : BlkU A) (hb : BlkU B) : BlkU (A ++ B) := fun z => by rw [List.append_assoc, ha, hb]
theorem BlkU.all : ∀ {B : List U}, (∀ u ∈ B, u.bad = false ∧ blankR u.r = true) → BlkU B
  | [], _ => BlkU.nil
  | u :: t, h => BlkU.app (A := [u]) (BlkU.one (h u (List.mem_cons_self)).1 (h u (List.mem_cons_self)).2) (BlkU.all fun v hv => h v (List.mem_cons_of_mem _ hv))
/-- A run of units within a stretch. -/
theorem run_slice {b : List Int} {a e : Nat} (hae : a ≤ e) (he : e ≤ b.length) : ∀ {us : List U} {p q : Nat}, Run b p us q → a ≤ p → q ≤ e → Run ((b.take e).drop a) (p - a) (us.map (mvU (· - a))) (q - a)
  | [], p, q, h, hp, hq => by
    have h' : p = q := h
    show p - a = q - a
    rw [h']
  | u :: us, p, q, h, hp, hq => by
    obtain ⟨h1, h2, h3⟩ := h
    have hw := unitAt_w h1
    have hle := (Run.le h3 (by rw [h2]; exact hw.2.2)).1
    have hpe : p + u.w ≤ e := by omega
    have hpe' : p < e := by rw [h2] at hpe; omega
    have hu : unitAt ((b.take e).drop a) (p - a) = mvU (· - a) u := by
      have e1 : unitAt (b.take e) p = unitAt b p := unitAt_take hpe' he (by rw [← h2]; exact hpe)
      have e2 : ((b.take e).drop a).drop (p - a) = (b.take e).drop p := by rw [List.drop_drop]; congr 1; omega
      rw [h2, ← e1]
      unfold unitAt mvU
      rw [e2]
    refine ⟨by simp only [List.length_drop, List.length_take]; omega, hu.symm, ?_⟩
    have := run_slice hae he h3 (by omega) hq
    rw [show p - a + (mvU (· - a) u).w = p + u.w - a by show p - a + u.w = _; omega]
    exact this
end Go.Proofs.YtdjhgjnhfmggjaaDoor
