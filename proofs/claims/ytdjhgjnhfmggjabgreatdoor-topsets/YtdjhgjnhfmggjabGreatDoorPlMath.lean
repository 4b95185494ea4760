/-
  Plain mathematics: where tokens stand, and where an error is told.
-/
import Derived.Test.YtdjhgjnhfmggjabGreatDoorToks
namespace Go.Proofs.YtdjhgjnhfmggjabGreatDoor
open Go.RowKit S1
set_option linter.unusedVariables false

theorem run_suffix_at {zs : List Int} : ∀ {us r : List U} {p : Nat}, Run zs p us zs.length → r <:+ us → p ≤ atL zs.length r
  | us, r, p, h, hs => by
    rcases List.suffix_cons_iff.1 (show r <:+ (⟨0, 0, 0, false⟩ : U) :: us from hs.trans (List.suffix_cons _ _)) with e | hs'
    · -- r is longer than us: impossible
      have := hs.length_le
      rw [e] at this
      simp at this
      omega
    · match us, h, hs' with
      | [], h, hs' =>
        have e := List.suffix_nil.1 hs'
        rw [e]
        exact Nat.le_of_eq (show p = zs.length from h)
      | u :: t, h, hs' =>
        rcases List.suffix_cons_iff.1 hs' with e | hs2
        · rw [e]; show p ≤ u.p; rw [h.2.1]; exact Nat.le_refl _
        · have := run_suffix_at h.2.2 hs2
          omega
theorem runs_at_mono {zs : List Int} {us r : List U} (h : Runs zs us) (hs : r <:+ us) : atL zs.length us ≤ atL zs.length r := by
  obtain ⟨p, h⟩ := h
  rw [run_at h]
  exact run_suffix_at h hs
theorem runs_at_strict {zs : List Int} {u : U} {t r : List U} (h : Runs zs (u :: t)) (hs : r <:+ t) : u.p + 1 ≤ atL zs.length r ∧ u.p < zs.length := by
  obtain ⟨p, h⟩ := h
  have h1 := run_suffix_at h.2.2 hs
  have hw := unitAt_w h.1
  rw [← h.2.1] at hw
  have hp : u.p = p := by rw [h.2.1]; rfl
  have := h.1
  omega

/-- Where an error may be told. -/
def BadAt (n a : Nat) (x : Int) : Prop := a ≤ n ∧ (x = 7 → a = n) ∧ (x = 6 → a < n) ∧ x ≠ 0
theorem stuck_at {zs : List Int} {us : List U} (h : Runs zs us) : BadAt zs.length (atL zs.length us) (stuckE us) := by
  match us, h with
  | [], h => exact ⟨Nat.le_refl _, fun _ => rfl, fun e => by simp [stuckE] at e, by simp [stuckE]⟩
  | u :: t, h =>
    have := runs_at_strict h (List.suffix_refl t)
    exact ⟨by show u.p ≤ _; omega, fun e => by simp [stuckE] at e, fun _ => this.2, by simp [stuckE]⟩
theorem setF_at {zs : List Int} : ∀ {k : Nat} {us : List U} {acc : List Rg} {a : Nat} {x : Int}, us.length < k → Runs zs us → setF zs.length k us acc = SR.bad a x → BadAt zs.length a x
  | 0, us, acc, a, x, hk, hr, h => by omega
  | k + 1, us, acc, a, x, hk, hr, h => by
    cases h1 : sgn (isC 93) us with
    | mk o s => cases o with
      | some y => rw [setF_end h1] at h; cases h
      | none => cases h2 : entL us with
        | mk o2 r2 =>
          have hsf := entL_suffix us
          rw [h2] at hsf
          cases o2 with
          | none =>
            rw [setF_stuck h1 h2] at h
            obtain ⟨e1, e2⟩ := Prod.mk.inj (Sum.inl.inj h)
            rw [← e1, ← e2]
            exact stuck_at (hr.of_suffix hsf)
          | some e =>
            have hlen := entL_len h2
            cases h3 : (decide (e.hi < e.lo) || decide (1114111 < e.hi)) with
            | true =>
              rw [setF_arg h1 h2 h3] at h
              obtain ⟨e1, e2⟩ := Prod.mk.inj (Sum.inl.inj h)
              rw [← e1, ← e2]
              exact ⟨hr.at_le, fun e => (by cases e), fun e => (by cases e), by decide⟩
            | false => rw [setF_on h1 h2 h3] at h; exact setF_at (us := r2) (by omega) (hr.of_suffix hsf) h
theorem tokO_at {zs : List Int} {us : List U} {a : Nat} {x : Int} (hr : Runs zs us) (h : tokO zs.length us = OR.bad a x) : BadAt zs.length a x := by
  match us, hr, h with
  | [], hr, h => cases h
  | u :: t, hr, h =>
    have hst := runs_at_strict hr (List.suffix_refl t)
    rw [tokO_cons] at h
    split at h
    · cases h
    · split at h
      · cases h
      · split at h
        · cases h1 : setF zs.length (t.length + 1) t [] with
          | inl x =>
            obtain ⟨b, y⟩ := x
            rw [h1] at h
            obtain ⟨e1, e2⟩ := Prod.mk.inj (Sum.inl.inj h)
            rw [← e1, ← e2]
            exact setF_at (by omega) hr.tail h1
          | inr x => rw [h1] at h; cases h
        · obtain ⟨e1, e2⟩ := Prod.mk.inj (Sum.inl.inj h)
          rw [← e1, ← e2]
          exact ⟨by omega, fun e => (by cases e), fun _ => hst.2, by decide⟩
theorem toksF_at {zs : List Int} : ∀ {k : Nat} {us : List U} {acc : List Tok} {a : Nat} {x : Int}, us.length < k → Runs zs us → toksF zs.length k us acc = TR.bad a x → BadAt zs.length a x
  | 0, us, acc, a, x, hk, hr, h => by omega
  | k + 1, us, acc, a, x, hk, hr, h => by
    have hr1 := hr.of_suffix (blankL_suffix false us)
    have hbl := blankL_le false us
    cases h1 : tokO zs.length (blankL false us) with
    | inl x =>
      obtain ⟨b, y⟩ := x
      rw [toksF_bad h1] at h
      obtain ⟨e1, e2⟩ := Prod.mk.inj (Sum.inl.inj h)
      rw [← e1, ← e2]
      exact tokO_at hr1 h1
    | inr x =>
      obtain ⟨t, r⟩ := x
      rcases tokO_len h1 with ⟨h4, _⟩ | ⟨h4, hlt⟩
      · rw [toksF_end h1 h4] at h; cases h
      · rw [toksF_on h1 h4] at h
        exact toksF_at (by omega) (hr1.of_suffix (tokO_suffix h1)) h

/-- Tokens stand where they begin, from the place a on. -/
def Placed (zs : List Int) : Nat → List Tok → Prop
  | _, [] => False
  | a, t :: ts => a ≤ t.p ∧ t.p + t.t.length ≤ zs.length ∧ cutZ zs t.p (t.p + t.t.length) = t.t ∧ (t.k = 3 → zs[t.p]? = some 91) ∧ ((t.k = 4 ∧ ts = [] ∧ t.p = zs.length) ∨ (t.k ≠ 4 ∧ ts ≠ [] ∧ Placed zs (t.p + max t.t.length 1) ts))

/-- Tokens put ahead. -/
def preT (acc : List Tok) : TR → TR
  | .inl x => .inl x
  | .inr l => .inr (acc ++ l)
theorem preT_preT (a b : List Tok) (x : TR) : preT a (preT b x) = preT (a ++ b) x := by
  cases x <;> simp [preT]
theorem toksF_app {n : Nat} : ∀ (k : Nat) (us : List U) (acc : List Tok), toksF n k us acc = preT acc (toksF n k us [])
  | 0, us, acc => rfl
  | k + 1, us, acc => by
    cases h1 : tokO n (blankL false us) with
    | inl x => obtain ⟨b, y⟩ := x; rw [toksF_bad h1, toksF_bad h1]; rfl
    | inr x =>
      obtain ⟨t, r⟩ := x
      by_cases h4 : t.k = 4
      · rw [toksF_end h1 h4, toksF_end h1 h4]; rfl
      · rw [toksF_on h1 h4, toksF_on h1 h4, toksF_app k r (acc ++ [t]), toksF_app k r ([] ++ [t]), preT_preT]
        rfl
/-- The first token, and the others. -/
theorem toksF_cons {n k : Nat} {us : List U} {l : List Tok} (h : toksF n (k + 1) us [] = TR.good l) : ∃ t r, tokO n (blankL false us) = OR.good t r ∧ ((t.k = 4 ∧ l = [t]) ∨ (t.k ≠ 4 ∧ ∃ l', l = t :: l' ∧ toksF n k r [] = TR.good l')) := by
  cases h1 : tokO n (blankL false us) with
  | inl x => obtain ⟨b, y⟩ := x; rw [toksF_bad h1] at h; cases h
  | inr x =>
    obtain ⟨t, r⟩ := x
    refine ⟨t, r, rfl, ?_⟩
    by_cases h4 : t.k = 4
    · rw [toksF_end h1 h4] at h
      have e := Sum.inr.inj h
      exact .inl ⟨h4, e.symm⟩
    · rw [toksF_on h1 h4, toksF_app] at h
      cases h2 : toksF n k r [] with
      | inl x => rw [h2] at h; cases h
      | inr l' =>
        rw [h2] at h
        have h := Sum.inr.inj h
        exact .inr ⟨h4, l', h.symm, rfl⟩
theorem toksF_nonempty {n : Nat} : ∀ {k : Nat} {us : List U} {l : List Tok}, toksF n k us [] = TR.good l → l ≠ []
  | 0, us, l, h => by cases h
  | k + 1, us, l, h => by
    obtain ⟨t, r, _, ⟨_, e⟩ | ⟨_, l', e, _⟩⟩ := toksF_cons h
    · rw [e]; simp
    · rw [e]; simp

/-- A token stands where it begins; what is left begins behind it. -/
theorem tokO_placed {zs : List Int} {us r : List U} {t : Tok} (hr : Runs zs us) (h : tokO zs.length us = OR.good t r) : t.p = atL zs.length us ∧ t.p + t.t.length ≤ zs.length ∧ cutZ zs t.p (t.p + t.t.length) = t.t ∧ (t.k = 3 → zs[t.p]? = some 91) ∧ (t.k = 4 ∧ t.p = zs.length ∨ t.k ≠ 4 ∧ t.p + max t.t.length 1 ≤ atL zs.length r) := by
  match us, hr, h with
  | [], hr, h =>
    obtain ⟨e1, e2⟩ := Prod.mk.inj (Sum.inr.inj h)
    rw [← e1]
    exact ⟨rfl, Nat.le_refl _, by simp [cutZ], fun e => (by cases e), .inl ⟨rfl, rfl⟩⟩
  | u :: t', hr, h =>
    have hst := runs_at_strict hr (List.suffix_refl t')
    rw [tokO_cons] at h
    split at h
    · rename_i q
      obtain ⟨e1, e2⟩ := Prod.mk.inj (Sum.inr.inj h)
      have hsp : u :: t' = (u :: t'.takeWhile (fitU nameR)) ++ t'.dropWhile (fitU nameR) := by rw [List.cons_append, ← take_drop_while]
      have hcut := runs_cut (a := u :: t'.takeWhile (fitU nameR)) (b := t'.dropWhile (fitU nameR)) (by rw [← hsp]; exact hr) (fun v hv => by
        rcases List.mem_cons.1 hv with rfl | hv
        · exact fit_name q
        · exact fit_inName (takeWhile_all _ _ v hv))
      have hln := congrArg List.length hcut.1
      have hle := (hr.of_suffix (show t'.dropWhile (fitU nameR) <:+ u :: t' from (List.dropWhile_suffix _).trans (List.suffix_cons _ _))).at_le
      rw [cutZ_length hle] at hln
      rw [← hsp] at hcut hln
      have hat : atL zs.length (u :: t') = u.p := rfl
      rw [hat] at hcut hln
      rw [← e1, ← e2]
      simp only [List.length_map, List.length_cons, List.map_cons] at hln ⊢
      have hq : u.p + ((t'.takeWhile (fitU nameR)).length + 1) = atL zs.length (t'.dropWhile (fitU nameR)) := by omega
      refine ⟨rfl, by omega, by rw [hq]; simpa using hcut.1, fun e => (by cases e), .inr ⟨by decide, by omega⟩⟩
    · split at h
      · rename_i q
        obtain ⟨e1, e2⟩ := Prod.mk.inj (Sum.inr.inj h)
        have hcut := runs_cut (a := [u]) (b := t') hr (fun v hv => by
          obtain rfl : v = u := by simpa using hv
          exact fit_tok q)
        have hle := hr.tail.at_le
        have hln := congrArg List.length hcut.1
        rw [cutZ_length hle] at hln
        have hat : atL zs.length ([u] ++ t') = u.p := rfl
        rw [hat] at hcut hln
        rw [← e1, ← e2]
        simp only [List.length_map, List.length_singleton] at hln ⊢
        have hq : u.p + 1 = atL zs.length t' := by omega
        refine ⟨rfl, by omega, by rw [hq]; simpa using hcut.1, fun e => (by cases e), .inr ⟨by decide, by omega⟩⟩
      · split at h
        · rename_i q
          cases h1 : setF zs.length (t'.length + 1) t' [] with
          | inl x => rw [h1] at h; cases h
          | inr x =>
            obtain ⟨l, s⟩ := x
            rw [h1] at h
            obtain ⟨e1, e2⟩ := Prod.mk.inj (Sum.inr.inj h)
            rw [← e1, ← e2]
            have hs2 := runs_at_strict hr (setF_suffix h1)
            obtain ⟨p, hr'⟩ := hr
            have hu : u.bad = false ∧ u.r = 91 := by simp [fitU, isC] at q; exact q
            obtain ⟨_, hp, hzz⟩ := unit_ascii hr'.1 hr'.2.1 hu.1 (by omega)
            refine ⟨rfl, by simp; omega, by simp [cutZ], fun _ => ?_,   .inr ⟨(by decide : (3 : Int) ≠ 4), by simpa using hs2.1⟩⟩
            show zs[u.p]? = some 91
            rw [hp, hzz, hu.2]
        · cases h
theorem toksF_placed {zs : List Int} : ∀ {k : Nat} {us : List U} {l : List Tok} {a : Nat}, Runs zs us → a ≤ atL zs.length us → toksF zs.length k us [] = TR.good l → Placed zs a l
  | 0, us, l, a, hr, ha, h => by cases h
  | k + 1, us, l, a, hr, ha, h => by
    obtain ⟨t, r, h1, h2⟩ := toksF_cons h
    have hsf := blankL_suffix false us
    have hr1 := hr.of_suffix hsf
    have hm := runs_at_mono hr hsf
    obtain ⟨p1, p2, p3, p4, p5⟩ := tokO_placed hr1 h1
    rcases h2 with ⟨h4, rfl⟩ | ⟨h4, l', rfl, h5⟩
    · refine ⟨by omega, p2, p3, p4, .inl ⟨h4, rfl, ?_⟩⟩
      rcases p5 with q | q
      · exact q.2
      · exact absurd h4 q.1
    · refine ⟨by omega, p2, p3, p4, .inr ⟨h4, toksF_nonempty h5, ?_⟩⟩
      rcases p5 with q | q
      · exact absurd q.1 h4
      · exact toksF_placed (hr1.of_suffix (tokO_suffix h1)) q.2 h5
theorem Placed.ne {zs : List Int} {a : Nat} {l : List Tok} (h : Placed zs a l) : l ≠ [] := by
  cases l with
  | nil => exact h.elim
  | cons t ts => simp
theorem Placed.last {zs : List Int} : ∀ {l : List Tok} {a : Nat}, Placed zs a l → ∀ (hl : l.length - 1 < l.length), (l[l.length - 1]).p = zs.length
  | [], a, h, hl => h.elim
  | t :: ts, a, h, hl => by
    rcases h.2.2.2.2 with ⟨_, rfl, e⟩ | ⟨_, hne, h2⟩
    · exact e
    · have hp : 0 < ts.length := by cases ts with
        | nil => exact absurd rfl hne
        | cons x y => simp
      have := Placed.last h2 (by omega)
      have e : (t :: ts).length - 1 = (ts.length - 1) + 1 := by simp; omega
      simp only [e, List.getElem_cons_succ]
      exact this
/-- The token at a place, and what is known of the others. -/
theorem Placed.drop {zs : List Int} : ∀ {l : List Tok} {a k : Nat}, Placed zs a l → k < l.length → ∃ b, Placed zs b (l.drop k) ∧ a ≤ b
  | l, a, 0, h, hk => ⟨a, by simpa using h, Nat.le_refl _⟩
  | [], a, k + 1, h, hk => by simp at hk
  | t :: ts, a, k + 1, h, hk => by
    rcases h.2.2.2.2 with ⟨_, rfl, e⟩ | ⟨_, hne, h2⟩
    · simp at hk
    · obtain ⟨b, h3, h4⟩ := Placed.drop h2 (by simpa using hk)
      exact ⟨b, by simpa using h3, by have := h.1; omega⟩
end Go.Proofs.YtdjhgjnhfmggjabGreatDoor
