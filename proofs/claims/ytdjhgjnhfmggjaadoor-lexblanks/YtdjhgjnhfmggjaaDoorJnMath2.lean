/-
  Plain mathematics: tokens of two texts with a line's end between; and of a text that begins later.
-/
import Derived.Test.YtdjhgjnhfmggjaaDoorJnMath
import Derived.Test.YtdjhgjnhfmggjaaDoorAw7
import Derived.Test.YtdjhgjnhfmggjaaDoorS1CutMath
namespace Go.Proofs.YtdjhgjnhfmggjaaDoor
open Go.RowKit S1
set_option linter.unusedVariables false

theorem unitAt_app {a c : List Int} {p : Nat} (hp : p < a.length) (hb : (unitAt a p).bad = false) : unitAt (a ++ c) p = unitAt a p := by
  have hl : 1 ≤ (a.drop p).length := by rw [List.length_drop]; omega
  have hb' : (unD (a.drop p)).bad = false := hb
  obtain ⟨e, hr, hlen⟩ := unD_ok hl hb'
  have e2 : (a ++ c).drop p = encR (unD (a.drop p)).r ++ ((a.drop p).drop (unD (a.drop p)).w ++ c) := by
    rw [List.drop_append_of_le_length (by omega), ← List.append_assoc, ← e]
  unfold unitAt
  rw [e2, unD_enc _ hr]
  cases hu : unD (a.drop p) with
  | mk r w b => rw [hu] at hb' hlen; simp only at hb' hlen ⊢; rw [hlen, hb']
theorem run_app {a c : List Int} : ∀ {us : List U} {p q : Nat}, Run a p us q → (∀ u ∈ us, u.bad = false) → Run (a ++ c) p us q
  | [], p, q, h, _ => h
  | u :: us, p, q, h, hg => by
    have hu := hg u (by simp)
    rw [h.2.1] at hu
    refine ⟨by rw [List.length_append]; have := h.1; omega, by rw [unitAt_app h.1 hu]; exact h.2.1, run_app h.2.2 (fun v hv => hg v (by simp [hv]))⟩
theorem run_cat {z : List Int} : ∀ {us vs : List U} {p q e : Nat}, Run z p us q → Run z q vs e → Run z p (us ++ vs) e
  | [], vs, p, q, e, h, k => by
    have h' : p = q := h
    rw [h']; exact k
  | u :: us, vs, p, q, e, h, k => ⟨h.1, h.2.1, run_cat h.2.2 k⟩
theorem run_shift {a b : List Int} : ∀ {vs : List U} {p : Nat}, Run b p vs b.length → Run (a ++ b) (p + a.length) (vs.map (shU a.length)) (a ++ b).length
  | [], p, h => by
    have h' : p = b.length := h
    show _ = _
    rw [h', List.length_append]; omega
  | u :: vs, p, h => by
    have e : unitAt (a ++ b) (p + a.length) = shU a.length (unitAt b p) := by
      unfold unitAt shU
      rw [show (a ++ b).drop (p + a.length) = b.drop p by rw [Nat.add_comm, ← List.drop_drop, List.drop_left]]
    refine ⟨by rw [List.length_append]; have := h.1; omega, by rw [e, ← h.2.1], ?_⟩
    have := run_shift (a := a) h.2.2
    have ew : (shU a.length u).w = u.w := rfl
    rw [ew, show p + a.length + u.w = p + u.w + a.length by omega]
    exact this
/-- The units of two texts with a line's end between. -/
theorem run_lines {a b : List Int} {us vs : List U} (ha : Run a 0 us a.length) (hg : ∀ u ∈ us, u.bad = false) (hb : Run b 0 vs b.length) : Run (a ++ 10 :: b) 0 (us ++ ⟨10, a.length, 1, false⟩ :: vs.map (shU (a.length + 1))) (a ++ 10 :: b).length := by
  refine run_cat (run_app ha hg) ⟨by simp, ?_, ?_⟩
  · unfold unitAt
    rw [List.drop_left, unD_asc 10 b (by omega) (by omega)]
  · have := run_shift (a := a ++ [10]) hb
    simp only [List.append_assoc, List.singleton_append, List.length_append, List.length_singleton, Nat.zero_add] at this ⊢
    exact this

/-- What shifts. -/
theorem sgn_sh (p : Int → Bool) (d : Nat) (us : List U) : sgn p (us.map (shU d)) = ((sgn p us).1, (sgn p us).2.map (shU d)) := by
  cases us with
  | nil => rfl
  | cons u t =>
    rw [List.map_cons, sgn_cons, sgn_cons, fit_sh]
    split <;> rfl
theorem figs_sh (d : Nat) : ∀ (n : Nat) (us : List U), figsD n (us.map (shU d)) = (figsD n us).map (shU d) ∧ figsL n (us.map (shU d)) = figsL n us
  | 0, us => ⟨rfl, rfl⟩
  | n + 1, [] => ⟨rfl, rfl⟩
  | n + 1, u :: t => by
    obtain ⟨i1, i2⟩ := figs_sh d n t
    by_cases q : fitU figR u = true
    · have q' : fitU figR (shU d u) = true := q
      refine ⟨?_, ?_⟩
      · simp only [List.map_cons, figsD, q, q', if_true, i1]
      · simp only [List.map_cons, figsL, q, q', if_true, i2]
        rfl
    · have q' : ¬ fitU figR (shU d u) = true := q
      refine ⟨?_, ?_⟩
      · simp only [List.map_cons, figsD, q, q']
        rfl
      · simp only [List.map_cons, figsL, q, q']
        rfl
theorem numL_sh (d : Nat) (us : List U) : numL (us.map (shU d)) = ((numL us).1, (numL us).2.map (shU d)) := by
  obtain ⟨i1, i2⟩ := figs_sh d 6 us
  unfold numL
  rw [i1, i2, sgn_sh]
  split
  · rfl
  · cases h : sgn (isC 125) (figsD 6 us) with
    | mk o r => cases o <;> rfl
theorem letL_sh (d : Nat) (us : List U) : letL (us.map (shU d)) = ((letL us).1, (letL us).2.map (shU d)) := by
  unfold letL
  rw [sgn_sh]
  cases h : sgn (isC 92) us with
  | mk o a => cases o with
    | none => exact sgn_sh plainR d us
    | some x =>
      simp only
      rw [sgn_sh]
      cases h2 : sgn (isC 120) a with
      | mk o2 b => cases o2 with
        | none => exact sgn_sh guardR d a
        | some y =>
          simp only
          rw [sgn_sh]
          cases h3 : sgn (isC 123) b with
          | mk o3 c => cases o3 with
            | none => rfl
            | some z => exact numL_sh d c
theorem entL_sh (d : Nat) (us : List U) : entL (us.map (shU d)) = ((entL us).1, (entL us).2.map (shU d)) := by
  unfold entL
  rw [letL_sh]
  cases h : letL us with
  | mk o a => cases o with
    | none => rfl
    | some lo =>
      simp only
      rw [sgn_sh]
      cases h2 : sgn (isC 45) a with
      | mk o2 b => cases o2 with
        | none => rfl
        | some x =>
          simp only
          rw [letL_sh]
          cases h3 : letL b with
          | mk o3 c => cases o3 <;> rfl
theorem setF_sh {n m : Nat} (d : Nat) : ∀ {k : Nat} {us r : List U} {acc l : List Rg}, setF n k us acc = SR.good l r → setF m k (us.map (shU d)) acc = SR.good l (r.map (shU d))
  | 0, us, r, acc, l, h => by cases h
  | k + 1, us, r, acc, l, h => by
    have s1 := sgn_sh (isC 93) d us
    have s2 := entL_sh d us
    cases h1 : sgn (isC 93) us with
    | mk o s =>
      rw [h1] at s1
      cases o with
      | some y =>
        rw [setF_end h1] at h
        obtain ⟨e1, e2⟩ := Prod.mk.inj (Sum.inr.inj h)
        rw [setF_end s1, e1, e2]
      | none => cases h2 : entL us with
        | mk o2 r2 =>
          rw [h2] at s2
          cases o2 with
          | none => rw [setF_stuck h1 h2] at h; cases h
          | some e =>
            cases h3 : (decide (e.hi < e.lo) || decide (1114111 < e.hi)) with
            | true => rw [setF_arg h1 h2 h3] at h; cases h
            | false =>
              rw [setF_on h1 h2 h3] at h
              rw [setF_on s1 s2 h3]
              exact setF_sh d h
theorem blankL_sh (d : Nat) : ∀ (b : Bool) (us : List U), blankL b (us.map (shU d)) = (blankL b us).map (shU d)
  | _, [] => by simp [blankL]
  | true, u :: t => by
    simp only [List.map_cons, blankL, shU]
    have i1 := blankL_sh d true t
    have i2 := blankL_sh d false t
    repeat' split
    all_goals first | rfl | assumption | simp_all [shU]
  | false, u :: t => by
    simp only [List.map_cons, blankL, shU]
    have i1 := blankL_sh d true t
    have i2 := blankL_sh d false t
    repeat' split
    all_goals first | rfl | assumption | simp_all [shU]
theorem while_sh (p : Int → Bool) (d : Nat) : ∀ (t : List U), (t.map (shU d)).takeWhile (fitU p) = (t.takeWhile (fitU p)).map (shU d) ∧ (t.map (shU d)).dropWhile (fitU p) = (t.dropWhile (fitU p)).map (shU d)
  | [] => ⟨rfl, rfl⟩
  | u :: t => by
    obtain ⟨i1, i2⟩ := while_sh p d t
    by_cases q : fitU p u = true
    · simp [fit_sh, q, i1, i2]
    · simp [fit_sh, q]
theorem tokO_sh {n : Nat} (d : Nat) {us r : List U} {t : Tok} (h : tokO n us = OR.good t r) : tokO (n + d) (us.map (shU d)) = OR.good (shT d t) (r.map (shU d)) := by
  cases us with
  | nil =>
    have h' : OR.good ⟨4, n, [], []⟩ [] = OR.good t r := h
    obtain ⟨e1, e2⟩ := Prod.mk.inj (Sum.inr.inj h')
    rw [← e1, ← e2]; rfl
  | cons u t' =>
    rw [List.map_cons, tokO_cons, fit_sh, fit_sh, fit_sh]
    rw [tokO_cons] at h
    obtain ⟨w1, w2⟩ := while_sh nameR d t'
    split at h
    · rename_i q
      obtain ⟨e1, e2⟩ := Prod.mk.inj (Sum.inr.inj h)
      rw [if_pos q, w1, w2, ← e1, ← e2]
      simp [shT, shU]
    · rename_i q
      rw [if_neg q]
      split at h
      · rename_i q2
        obtain ⟨e1, e2⟩ := Prod.mk.inj (Sum.inr.inj h)
        rw [if_pos q2, ← e1, ← e2]; rfl
      · rename_i q2
        rw [if_neg q2]
        split at h
        · rename_i q3
          rw [if_pos q3]
          cases h1 : setF n (t'.length + 1) t' [] with
          | inl x => rw [h1] at h; cases h
          | inr x =>
            obtain ⟨l, s⟩ := x
            rw [h1] at h
            obtain ⟨e1, e2⟩ := Prod.mk.inj (Sum.inr.inj h)
            rw [List.length_map, setF_sh (m := n + d) d h1, ← e1, ← e2]; rfl
        · cases h
theorem toksF_sh {n : Nat} (d : Nat) : ∀ {k : Nat} {us : List U} {l : List Tok}, toksF n k us [] = TR.good l → toksF (n + d) k (us.map (shU d)) [] = TR.good (l.map (shT d))
  | 0, us, l, h => by cases h
  | k + 1, us, l, h => by
    obtain ⟨t, r, h1, h2⟩ := toksF_cons h
    have h3 := tokO_sh d h1
    rw [← blankL_sh] at h3
    rcases h2 with ⟨h4, rfl⟩ | ⟨h4, l', rfl, h5⟩
    · rw [toksF_end h3 (show (shT d t).k = 4 from h4)]; rfl
    · rw [toksF_on h3 (show (shT d t).k ≠ 4 from h4), toksF_app, toksF_sh d h5]; rfl

/-- A line's end. -/
def lfU (p : Nat) : U := ⟨10, p, 1, false⟩
theorem blank_app : ∀ (b : Bool) (us ws : List U), (∀ v vs, blankL b us = v :: vs → blankL b (us ++ ws) = v :: vs ++ ws) ∧ (∀ p vs, ws = lfU p :: vs → blankL b us = [] → blankL b (us ++ ws) = blankL false vs)
  | b, [], ws => by
    refine ⟨fun v vs h => (by simp [blankL] at h), fun p vs hw _ => ?_⟩
    rw [List.nil_append, hw]
    cases b <;> simp [blankL, lfU, blankR]
  | true, u :: t, ws => by
    have i1 := blank_app true t ws
    have i2 := blank_app false t ws
    simp only [List.cons_append, blankL]
    split
    · exact ⟨fun v vs h => (by obtain ⟨e1, e2⟩ := List.cons.inj h; rw [e1, e2]), fun p vs hw h => (by cases h)⟩
    · split
      · exact i2
      · exact i1
  | false, u :: t, ws => by
    have i1 := blank_app true t ws
    have i2 := blank_app false t ws
    simp only [List.cons_append, blankL]
    split
    · exact ⟨fun v vs h => (by obtain ⟨e1, e2⟩ := List.cons.inj h; rw [e1, e2]), fun p vs hw h => (by cases h)⟩
    · split
      · exact i1
      · split
        · exact i2
        · exact ⟨fun v vs h => (by obtain ⟨e1, e2⟩ := List.cons.inj h; rw [e1, e2]), fun p vs hw h => (by cases h)⟩
theorem while_lf (p : Nat) (vs : List U) : ∀ (t : List U), (t ++ lfU p :: vs).takeWhile (fitU nameR) = t.takeWhile (fitU nameR) ∧ (t ++ lfU p :: vs).dropWhile (fitU nameR) = t.dropWhile (fitU nameR) ++ lfU p :: vs
  | [] => by
    have : fitU nameR (lfU p) = false := rfl
    simp [this]
  | u :: t => by
    obtain ⟨i1, i2⟩ := while_lf p vs t
    by_cases q : fitU nameR u = true
    · simp [q, i1, i2]
    · simp [q]
theorem tokO_lf {n m p : Nat} {u : U} {t' r : List U} {t : Tok} (vs : List U) (h : tokO n (u :: t') = OR.good t r) : tokO m (u :: t' ++ lfU p :: vs) = OR.good t (r ++ lfU p :: vs) := by
  rw [List.cons_append, tokO_cons]
  rw [tokO_cons] at h
  obtain ⟨w1, w2⟩ := while_lf p vs t'
  split at h
  · rename_i q
    obtain ⟨e1, e2⟩ := Prod.mk.inj (Sum.inr.inj h)
    rw [if_pos q, w1, w2, ← e1, ← e2]
  · rename_i q
    rw [if_neg q]
    split at h
    · rename_i q2
      obtain ⟨e1, e2⟩ := Prod.mk.inj (Sum.inr.inj h)
      rw [if_pos q2, ← e1, ← e2]
    · rename_i q2
      rw [if_neg q2]
      split at h
      · rename_i q3
        rw [if_pos q3]
        cases h1 : setF n (t'.length + 1) t' [] with
        | inl x => rw [h1] at h; cases h
        | inr x =>
          obtain ⟨l, s⟩ := x
          rw [h1] at h
          obtain ⟨e1, e2⟩ := Prod.mk.inj (Sum.inr.inj h)
          rw [setF_app (m := m) (j := (t' ++ lfU p :: vs).length + 1) (lfU p :: vs) (by omega) (by omega) h1, ← e1, ← e2]
          rfl
      · cases h
theorem toksF_blank {n : Nat} (k : Nat) {us vs : List U} (acc : List Tok) (h : blankL false us = blankL false vs) : toksF n (k + 1) us acc = toksF n (k + 1) vs acc := by
  rw [toksF, toksF, h]
/-- More fuel turns nothing. -/
theorem toksF_fuel {n : Nat} : ∀ {k j : Nat} {us : List U} {acc : List Tok}, us.length < k → us.length < j → toksF n k us acc = toksF n j us acc
  | 0, j, us, acc, h, h2 => by omega
  | k + 1, 0, us, acc, h, h2 => by omega
  | k + 1, j + 1, us, acc, h, h2 => by
    have hbl := blankL_le false us
    cases h1 : tokO n (blankL false us) with
    | inl x => obtain ⟨b, y⟩ := x; rw [toksF_bad h1, toksF_bad h1]
    | inr x =>
      obtain ⟨t, r⟩ := x
      rcases tokO_len h1 with ⟨h4, _⟩ | ⟨h4, hlt⟩
      · rw [toksF_end h1 h4, toksF_end h1 h4]
      · rw [toksF_on h1 h4, toksF_on h1 h4]
        exact toksF_fuel (by omega) (by omega)
/-- THE TOKENS OF TWO TEXTS, WITH A LINE'S END BETWEEN. -/
theorem toksF_lines {n m p : Nat} {vs : List U} : ∀ {k j : Nat} {us : List U} {l : List Tok}, us.length < k → (us ++ lfU p :: vs).length < j → toksF n k us [] = TR.good l → ∃ l', l = l' ++ [⟨4, n, [], []⟩] ∧ toksF m j (us ++ lfU p :: vs) [] = preT l' (toksF m (vs.length + 1) vs [])
  | 0, j, us, l, hk, hj, h => by omega
  | k + 1, 0, us, l, hk, hj, h => by omega
  | k + 1, j + 1, us, l, hk, hj, h => by
    obtain ⟨t, r, h1, h2⟩ := toksF_cons h
    have hb := blank_app false us (lfU p :: vs)
    have hbl := blankL_le false us
    simp only [List.length_append, List.length_cons] at hj
    cases hq : blankL false us with
    | nil =>
      rw [hq] at h1
      have h' : OR.good ⟨4, n, [], []⟩ [] = OR.good t r := h1
      obtain ⟨e1, e2⟩ := Prod.mk.inj (Sum.inr.inj h')
      rcases h2 with ⟨_, rfl⟩ | ⟨h4, _⟩
      · refine ⟨[], by rw [← e1]; rfl, ?_⟩
        rw [toksF_blank j [] (hb.2 p vs rfl hq), toksF_fuel (j := vs.length + 1) (by omega) (by omega)]
        cases toksF m (vs.length + 1) vs [] <;> simp [preT]
      · rw [← e1] at h4; exact absurd rfl h4
    | cons u t' =>
      rw [hq] at h1
      have h3 := tokO_lf (m := m) (p := p) vs h1
      rw [← hb.1 u t' hq] at h3
      rcases tokO_len h1 with ⟨_, e, _⟩ | ⟨h4, hlt⟩
      · cases e
      · rcases h2 with ⟨h4', _⟩ | ⟨_, l2, rfl, h5⟩
        · exact absurd h4' h4
        · rw [hq] at hbl
          obtain ⟨l', e1, e2⟩ := toksF_lines (p := p) (vs := vs) (k := k) (j := j) (us := r) (by omega) (by simp only [List.length_append, List.length_cons]; omega) h5
          refine ⟨t :: l', by rw [e1]; rfl, ?_⟩
          rw [toksF_on h3 h4, toksF_app, e2, preT_preT]
          rfl
/-- What has tokens has no bad unit. -/
theorem sgn_good {p : Int → Bool} {us r : List U} {x : Int} (h : sgn p us = (some x, r)) (hr : ∀ u ∈ r, u.bad = false) : ∀ u ∈ us, u.bad = false := by
  obtain ⟨u, rfl, hf, _⟩ := sgn_some h
  intro v hv
  rcases List.mem_cons.1 hv with rfl | hv
  · simp [fitU] at hf; exact hf.1
  · exact hr v hv
theorem numL_good {us r : List U} {x : Int} (h : numL us = (some x, r)) (hr : ∀ u ∈ r, u.bad = false) : ∀ u ∈ us, u.bad = false := by
  obtain ⟨a, ea, _, hf, _⟩ := figs_split 6 us
  unfold numL at h
  split at h
  · cases h
  · cases h1 : sgn (isC 125) (figsD 6 us) with
    | mk o s => cases o with
      | none => rw [h1] at h; cases h
      | some y =>
        rw [h1] at h
        obtain ⟨_, e⟩ := Prod.mk.inj h
        rw [← e] at hr
        have := sgn_good h1 hr
        intro v hv
        rw [ea] at hv
        rcases List.mem_append.1 hv with hv | hv
        · have := hf v hv; simp [fitU] at this; exact this.1
        · exact this v hv
theorem letL_good {us r : List U} {x : Int} (h : letL us = (some x, r)) (hr : ∀ u ∈ r, u.bad = false) : ∀ u ∈ us, u.bad = false := by
  cases h1 : sgn (isC 92) us with
  | mk o1 a => cases o1 with
    | none => rw [letL_a h1] at h; exact sgn_good h hr
    | some y => cases h2 : sgn (isC 120) a with
      | mk o2 b => cases o2 with
        | none => rw [letL_b h1 h2] at h; exact sgn_good h1 (sgn_good h hr)
        | some z => cases h3 : sgn (isC 123) b with
          | mk o3 c => cases o3 with
            | none => rw [letL_c h1 h2 h3] at h; cases h
            | some w => rw [letL_d h1 h2 h3] at h; exact sgn_good h1 (sgn_good h2 (sgn_good h3 (numL_good h hr)))
theorem entL_good {us r : List U} {x : Rg} (h : entL us = (some x, r)) (hr : ∀ u ∈ r, u.bad = false) : ∀ u ∈ us, u.bad = false := by
  cases h1 : letL us with
  | mk o1 a => cases o1 with
    | none => rw [entL_a h1] at h; cases h
    | some lo => cases h2 : sgn (isC 45) a with
      | mk o2 b => cases o2 with
        | none =>
          rw [entL_b h1 h2] at h
          obtain ⟨_, e⟩ := Prod.mk.inj h
          rw [← e] at hr
          exact letL_good h1 hr
        | some y => cases h3 : letL b with
          | mk o3 c => cases o3 with
            | none => rw [entL_c h1 h2 h3] at h; cases h
            | some hi =>
              rw [entL_d h1 h2 h3] at h
              obtain ⟨_, e⟩ := Prod.mk.inj h
              rw [← e] at hr
              exact letL_good h1 (sgn_good h2 (letL_good h3 hr))
theorem setF_good {n : Nat} : ∀ {k : Nat} {us r : List U} {acc l : List Rg}, setF n k us acc = SR.good l r → (∀ u ∈ r, u.bad = false) → ∀ u ∈ us, u.bad = false
  | 0, us, r, acc, l, h, hr => by cases h
  | k + 1, us, r, acc, l, h, hr => by
    cases h1 : sgn (isC 93) us with
    | mk o s => cases o with
      | some y =>
        rw [setF_end h1] at h
        obtain ⟨_, e⟩ := Prod.mk.inj (Sum.inr.inj h)
        rw [← e] at hr
        exact sgn_good h1 hr
      | none => cases h2 : entL us with
        | mk o2 r2 => cases o2 with
          | none => rw [setF_stuck h1 h2] at h; cases h
          | some e =>
            cases h3 : (decide (e.hi < e.lo) || decide (1114111 < e.hi)) with
            | true => rw [setF_arg h1 h2 h3] at h; cases h
            | false => rw [setF_on h1 h2 h3] at h; exact entL_good h2 (setF_good h hr)
theorem blankL_good : ∀ (b : Bool) (us : List U), (∀ u ∈ blankL b us, u.bad = false) → ∀ u ∈ us, u.bad = false
  | _, [], h => fun u hu => by cases hu
  | true, u :: t, h => by
    cases hb : u.bad with
    | true => simp [blankL, hb] at h
    | false =>
      have i1 := blankL_good true t
      have i2 := blankL_good false t
      simp only [blankL, hb, Bool.false_eq_true, if_false] at h
      intro v hv
      rcases List.mem_cons.1 hv with rfl | hv
      · exact hb
      · split at h
        · exact i2 h v hv
        · exact i1 h v hv
  | false, u :: t, h => by
    cases hb : u.bad with
    | true => simp [blankL, hb] at h
    | false =>
      have i1 := blankL_good true t
      have i2 := blankL_good false t
      simp only [blankL, hb, Bool.false_eq_true, if_false] at h
      intro v hv
      rcases List.mem_cons.1 hv with rfl | hv
      · exact hb
      · split at h
        · exact i1 h v hv
        · split at h
          · exact i2 h v hv
          · exact h v (by simp [hv])
theorem tokO_good {n : Nat} {us r : List U} {t : Tok} (h : tokO n us = OR.good t r) (hr : ∀ u ∈ r, u.bad = false) : ∀ u ∈ us, u.bad = false := by
  cases us with
  | nil => intro u hu; cases hu
  | cons u t' =>
    rw [tokO_cons] at h
    split at h
    · rename_i q
      obtain ⟨_, e⟩ := Prod.mk.inj (Sum.inr.inj h)
      intro v hv
      rcases List.mem_cons.1 hv with rfl | hv
      · exact (fit_name q).1
      · rw [take_drop_while (fitU nameR) t'] at hv
        rcases List.mem_append.1 hv with hv | hv
        · exact (fit_inName (takeWhile_all _ _ v hv)).1
        · exact hr v (by rw [← e]; exact hv)
    · split at h
      · rename_i q
        obtain ⟨_, e⟩ := Prod.mk.inj (Sum.inr.inj h)
        intro v hv
        rcases List.mem_cons.1 hv with rfl | hv
        · exact (fit_tok q).1
        · exact hr v (by rw [← e]; exact hv)
      · split at h
        · rename_i q
          cases h1 : setF n (t'.length + 1) t' [] with
          | inl x => rw [h1] at h; cases h
          | inr x =>
            obtain ⟨l, s⟩ := x
            rw [h1] at h
            obtain ⟨_, e⟩ := Prod.mk.inj (Sum.inr.inj h)
            intro v hv
            rcases List.mem_cons.1 hv with rfl | hv
            · simp [fitU] at q; exact q.1
            · exact setF_good h1 (by rw [e]; exact hr) v hv
        · cases h
theorem toksF_good {n : Nat} : ∀ {k : Nat} {us : List U} {l : List Tok}, toksF n k us [] = TR.good l → ∀ u ∈ us, u.bad = false
  | 0, us, l, h => by cases h
  | k + 1, us, l, h => by
    obtain ⟨t, r, h1, h2⟩ := toksF_cons h
    apply blankL_good false us
    rcases h2 with ⟨h4, rfl⟩ | ⟨h4, l', rfl, h5⟩
    · rcases tokO_len h1 with ⟨_, e, _⟩ | ⟨h4', _⟩
      · rw [e]; intro u hu; cases hu
      · exact absurd h4 h4'
    · exact tokO_good h1 (toksF_good h5)
end Go.Proofs.YtdjhgjnhfmggjaaDoor
