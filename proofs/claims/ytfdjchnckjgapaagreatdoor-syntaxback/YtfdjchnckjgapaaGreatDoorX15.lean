/-
  Plain mathematics: where tokens stand, and where an error is told. Plain mathematics: the text of a set is one token, that tells the set.
-/
import Derived.Test.YtfdjchnckjgapaaGreatDoorX14
import Derived.Test.YtfdjchnckjgapaaGreatDoorX09
namespace Go.Proofs.YtfdjchnckjgapaaGreatDoor
open Go.RowKit S1
set_option linter.unusedVariables false

theorem run_suffix_at {zs : List Int} : ∀ {us r : List U} {p : Nat}, Run zs p us zs.length → r <:+ us → p ≤ atL zs.length r
  | us, r, p, h, hs => by
    rcases List.suffix_cons_iff.1 (show r <:+ (⟨0, 0, 0, false⟩ : U) :: us from hs.trans (List.suffix_cons _ _)) with e | hs'
    · -- r is longer than us: impossible
      have := hs.length_le
      rw [e] at this
      simp at this
      omega
    · match us, h, hs' with
      | [], h, hs' =>
        have e := List.suffix_nil.1 hs'
        rw [e]
        exact Nat.le_of_eq (show p = zs.length from h)
      | u :: t, h, hs' =>
        rcases List.suffix_cons_iff.1 hs' with e | hs2
        · rw [e]; show p ≤ u.p; rw [h.2.1]; exact Nat.le_refl _
        · have := run_suffix_at h.2.2 hs2
          omega
theorem runs_at_mono {zs : List Int} {us r : List U} (h : Runs zs us) (hs : r <:+ us) : atL zs.length us ≤ atL zs.length r := by
  obtain ⟨p, h⟩ := h
  rw [run_at h]
  exact run_suffix_at h hs
theorem runs_at_strict {zs : List Int} {u : U} {t r : List U} (h : Runs zs (u :: t)) (hs : r <:+ t) : u.p + 1 ≤ atL zs.length r ∧ u.p < zs.length := by
  obtain ⟨p, h⟩ := h
  have h1 := run_suffix_at h.2.2 hs
  have hw := unitAt_w h.1
  rw [← h.2.1] at hw
  have hp : u.p = p := by rw [h.2.1]; rfl
  have := h.1
  omega

/-- Where an error may be told. -/
def BadAt (n a : Nat) (x : Int) : Prop := a ≤ n ∧ (x = 7 → a = n) ∧ (x = 6 → a < n) ∧ x ≠ 0
theorem stuck_at {zs : List Int} {us : List U} (h : Runs zs us) : BadAt zs.length (atL zs.length us) (stuckE us) := by
  match us, h with
  | [], h => exact ⟨Nat.le_refl _, fun _ => rfl, fun e => by simp [stuckE] at e, by simp [stuckE]⟩
  | u :: t, h =>
    have := runs_at_strict h (List.suffix_refl t)
    exact ⟨by show u.p ≤ _; omega, fun e => by simp [stuckE] at e, fun _ => this.2, by simp [stuckE]⟩
theorem setF_at {zs : List Int} : ∀ {k : Nat} {us : List U} {acc : List Rg} {a : Nat} {x : Int}, us.length < k → Runs zs us → setF zs.length k us acc = SR.bad a x → BadAt zs.length a x
  | 0, us, acc, a, x, hk, hr, h => by omega
  | k + 1, us, acc, a, x, hk, hr, h => by
    cases h1 : sgn (isC 93) us with
    | mk o s => cases o with
      | some y => rw [setF_end h1] at h; cases h
      | none => cases h2 : entL us with
        | mk o2 r2 =>
          have hsf := entL_suffix us
          rw [h2] at hsf
          cases o2 with
          | none =>
            rw [setF_stuck h1 h2] at h
            obtain ⟨e1, e2⟩ := Prod.mk.inj (Sum.inl.inj h)
            rw [← e1, ← e2]
            exact stuck_at (hr.of_suffix hsf)
          | some e =>
            have hlen := entL_len h2
            cases h3 : (decide (e.hi < e.lo) || decide (1114111 < e.hi)) with
            | true =>
              rw [setF_arg h1 h2 h3] at h
              obtain ⟨e1, e2⟩ := Prod.mk.inj (Sum.inl.inj h)
              rw [← e1, ← e2]
              exact ⟨hr.at_le, fun e => (by cases e), fun e => (by cases e), by decide⟩
            | false => rw [setF_on h1 h2 h3] at h; exact setF_at (us := r2) (by omega) (hr.of_suffix hsf) h
theorem tokO_at {zs : List Int} {us : List U} {a : Nat} {x : Int} (hr : Runs zs us) (h : tokO zs.length us = OR.bad a x) : BadAt zs.length a x := by
  match us, hr, h with
  | [], hr, h => cases h
  | u :: t, hr, h =>
    have hst := runs_at_strict hr (List.suffix_refl t)
    rw [tokO_cons] at h
    split at h
    · cases h
    · split at h
      · cases h
      · split at h
        · cases h1 : setF zs.length (t.length + 1) t [] with
          | inl x =>
            obtain ⟨b, y⟩ := x
            rw [h1] at h
            obtain ⟨e1, e2⟩ := Prod.mk.inj (Sum.inl.inj h)
            rw [← e1, ← e2]
            exact setF_at (by omega) hr.tail h1
          | inr x => rw [h1] at h; cases h
        · obtain ⟨e1, e2⟩ := Prod.mk.inj (Sum.inl.inj h)
          rw [← e1, ← e2]
          exact ⟨by omega, fun e => (by cases e), fun _ => hst.2, by decide⟩
theorem toksF_at {zs : List Int} : ∀ {k : Nat} {us : List U} {acc : List Tok} {a : Nat} {x : Int}, us.length < k → Runs zs us → toksF zs.length k us acc = TR.bad a x → BadAt zs.length a x
  | 0, us, acc, a, x, hk, hr, h => by omega
  | k + 1, us, acc, a, x, hk, hr, h => by
    have hr1 := hr.of_suffix (blankL_suffix false us)
    have hbl := blankL_le false us
    cases h1 : tokO zs.length (blankL false us) with
    | inl x =>
      obtain ⟨b, y⟩ := x
      rw [toksF_bad h1] at h
      obtain ⟨e1, e2⟩ := Prod.mk.inj (Sum.inl.inj h)
      rw [← e1, ← e2]
      exact tokO_at hr1 h1
    | inr x =>
      obtain ⟨t, r⟩ := x
      rcases tokO_len h1 with ⟨h4, _⟩ | ⟨h4, hlt⟩
      · rw [toksF_end h1 h4] at h; cases h
      · rw [toksF_on h1 h4] at h
        exact toksF_at (by omega) (hr1.of_suffix (tokO_suffix h1)) h

/-- Tokens stand where they begin, from the place a on. -/
def Placed (zs : List Int) : Nat → List Tok → Prop
  | _, [] => False
  | a, t :: ts => a ≤ t.p ∧ t.p + t.t.length ≤ zs.length ∧ cutZ zs t.p (t.p + t.t.length) = t.t ∧ (t.k = 3 → zs[t.p]? = some 91) ∧ ((t.k = 4 ∧ ts = [] ∧ t.p = zs.length) ∨ (t.k ≠ 4 ∧ ts ≠ [] ∧ Placed zs (t.p + max t.t.length 1) ts))

/-- Tokens put ahead. -/
def preT (acc : List Tok) : TR → TR
  | .inl x => .inl x
  | .inr l => .inr (acc ++ l)
theorem preT_preT (a b : List Tok) (x : TR) : preT a (preT b x) = preT (a ++ b) x := by
  cases x <;> simp [preT]
theorem toksF_app {n : Nat} : ∀ (k : Nat) (us : List U) (acc : List Tok), toksF n k us acc = preT acc (toksF n k us [])
  | 0, us, acc => rfl
  | k + 1, us, acc => by
    cases h1 : tokO n (blankL false us) with
    | inl x => obtain ⟨b, y⟩ := x; rw [toksF_bad h1, toksF_bad h1]; rfl
    | inr x =>
      obtain ⟨t, r⟩ := x
      by_cases h4 : t.k = 4
      · rw [toksF_end h1 h4, toksF_end h1 h4]; rfl
      · rw [toksF_on h1 h4, toksF_on h1 h4, toksF_app k r (acc ++ [t]), toksF_app k r ([] ++ [t]), preT_preT]
        rfl
/-- The first token, and the others. -/
theorem toksF_cons {n k : Nat} {us : List U} {l : List Tok} (h : toksF n (k + 1) us [] = TR.good l) : ∃ t r, tokO n (blankL false us) = OR.good t r ∧ ((t.k = 4 ∧ l = [t]) ∨ (t.k ≠ 4 ∧ ∃ l', l = t :: l' ∧ toksF n k r [] = TR.good l')) := by
  cases h1 : tokO n (blankL false us) with
  | inl x => obtain ⟨b, y⟩ := x; rw [toksF_bad h1] at h; cases h
  | inr x =>
    obtain ⟨t, r⟩ := x
    refine ⟨t, r, rfl, ?_⟩
    by_cases h4 : t.k = 4
    · rw [toksF_end h1 h4] at h
      have e := Sum.inr.inj h
      exact .inl ⟨h4, e.symm⟩
    · rw [toksF_on h1 h4, toksF_app] at h
      cases h2 : toksF n k r [] with
      | inl x => rw [h2] at h; cases h
      | inr l' =>
        rw [h2] at h
        have h := Sum.inr.inj h
        exact .inr ⟨h4, l', h.symm, rfl⟩
theorem toksF_nonempty {n : Nat} : ∀ {k : Nat} {us : List U} {l : List Tok}, toksF n k us [] = TR.good l → l ≠ []
  | 0, us, l, h => by cases h
  | k + 1, us, l, h => by
    obtain ⟨t, r, _, ⟨_, e⟩ | ⟨_, l', e, _⟩⟩ := toksF_cons h
    · rw [e]; simp
    · rw [e]; simp

/-- A token stands where it begins; what is left begins behind it. -/
theorem tokO_placed {zs : List Int} {us r : List U} {t : Tok} (hr : Runs zs us) (h : tokO zs.length us = OR.good t r) : t.p = atL zs.length us ∧ t.p + t.t.length ≤ zs.length ∧ cutZ zs t.p (t.p + t.t.length) = t.t ∧ (t.k = 3 → zs[t.p]? = some 91) ∧ (t.k = 4 ∧ t.p = zs.length ∨ t.k ≠ 4 ∧ t.p + max t.t.length 1 ≤ atL zs.length r) := by
  match us, hr, h with
  | [], hr, h =>
    obtain ⟨e1, e2⟩ := Prod.mk.inj (Sum.inr.inj h)
    rw [← e1]
    exact ⟨rfl, Nat.le_refl _, by simp [cutZ], fun e => (by cases e), .inl ⟨rfl, rfl⟩⟩
  | u :: t', hr, h =>
    have hst := runs_at_strict hr (List.suffix_refl t')
    rw [tokO_cons] at h
    split at h
    · rename_i q
      obtain ⟨e1, e2⟩ := Prod.mk.inj (Sum.inr.inj h)
      have hsp : u :: t' = (u :: t'.takeWhile (fitU nameR)) ++ t'.dropWhile (fitU nameR) := by rw [List.cons_append, ← take_drop_while]
      have hcut := runs_cut (a := u :: t'.takeWhile (fitU nameR)) (b := t'.dropWhile (fitU nameR)) (by rw [← hsp]; exact hr) (fun v hv => by
        rcases List.mem_cons.1 hv with rfl | hv
        · exact fit_name q
        · exact fit_inName (takeWhile_all _ _ v hv))
      have hln := congrArg List.length hcut.1
      have hle := (hr.of_suffix (show t'.dropWhile (fitU nameR) <:+ u :: t' from (List.dropWhile_suffix _).trans (List.suffix_cons _ _))).at_le
      rw [cutZ_length hle] at hln
      rw [← hsp] at hcut hln
      have hat : atL zs.length (u :: t') = u.p := rfl
      rw [hat] at hcut hln
      rw [← e1, ← e2]
      simp only [List.length_map, List.length_cons, List.map_cons] at hln ⊢
      have hq : u.p + ((t'.takeWhile (fitU nameR)).length + 1) = atL zs.length (t'.dropWhile (fitU nameR)) := by omega
      refine ⟨rfl, by omega, by rw [hq]; simpa using hcut.1, fun e => (by cases e), .inr ⟨by decide, by omega⟩⟩
    · split at h
      · rename_i q
        obtain ⟨e1, e2⟩ := Prod.mk.inj (Sum.inr.inj h)
        have hcut := runs_cut (a := [u]) (b := t') hr (fun v hv => by
          obtain rfl : v = u := by simpa using hv
          exact fit_tok q)
        have hle := hr.tail.at_le
        have hln := congrArg List.length hcut.1
        rw [cutZ_length hle] at hln
        have hat : atL zs.length ([u] ++ t') = u.p := rfl
        rw [hat] at hcut hln
        rw [← e1, ← e2]
        simp only [List.length_map, List.length_singleton] at hln ⊢
        have hq : u.p + 1 = atL zs.length t' := by omega
        refine ⟨rfl, by omega, by rw [hq]; simpa using hcut.1, fun e => (by cases e), .inr ⟨by decide, by omega⟩⟩
      · split at h
        · rename_i q
          cases h1 : setF zs.length (t'.length + 1) t' [] with
          | inl x => rw [h1] at h; cases h
          | inr x =>
            obtain ⟨l, s⟩ := x
            rw [h1] at h
            obtain ⟨e1, e2⟩ := Prod.mk.inj (Sum.inr.inj h)
            rw [← e1, ← e2]
            have hs2 := runs_at_strict hr (setF_suffix h1)
            obtain ⟨p, hr'⟩ := hr
            have hu : u.bad = false ∧ u.r = 91 := by simp [fitU, isC] at q; exact q
            obtain ⟨_, hp, hzz⟩ := unit_ascii hr'.1 hr'.2.1 hu.1 (by omega)
            refine ⟨rfl, by simp; omega, by simp [cutZ], fun _ => ?_,   .inr ⟨(by decide : (3 : Int) ≠ 4), by simpa using hs2.1⟩⟩
            show zs[u.p]? = some 91
            rw [hp, hzz, hu.2]
        · cases h
theorem toksF_placed {zs : List Int} : ∀ {k : Nat} {us : List U} {l : List Tok} {a : Nat}, Runs zs us → a ≤ atL zs.length us → toksF zs.length k us [] = TR.good l → Placed zs a l
  | 0, us, l, a, hr, ha, h => by cases h
  | k + 1, us, l, a, hr, ha, h => by
    obtain ⟨t, r, h1, h2⟩ := toksF_cons h
    have hsf := blankL_suffix false us
    have hr1 := hr.of_suffix hsf
    have hm := runs_at_mono hr hsf
    obtain ⟨p1, p2, p3, p4, p5⟩ := tokO_placed hr1 h1
    rcases h2 with ⟨h4, rfl⟩ | ⟨h4, l', rfl, h5⟩
    · refine ⟨by omega, p2, p3, p4, .inl ⟨h4, rfl, ?_⟩⟩
      rcases p5 with q | q
      · exact q.2
      · exact absurd h4 q.1
    · refine ⟨by omega, p2, p3, p4, .inr ⟨h4, toksF_nonempty h5, ?_⟩⟩
      rcases p5 with q | q
      · exact absurd q.1 h4
      · exact toksF_placed (hr1.of_suffix (tokO_suffix h1)) q.2 h5
theorem Placed.ne {zs : List Int} {a : Nat} {l : List Tok} (h : Placed zs a l) : l ≠ [] := by
  cases l with
  | nil => exact h.elim
  | cons t ts => simp
theorem Placed.last {zs : List Int} : ∀ {l : List Tok} {a : Nat}, Placed zs a l → ∀ (hl : l.length - 1 < l.length), (l[l.length - 1]).p = zs.length
  | [], a, h, hl => h.elim
  | t :: ts, a, h, hl => by
    rcases h.2.2.2.2 with ⟨_, rfl, e⟩ | ⟨_, hne, h2⟩
    · exact e
    · have hp : 0 < ts.length := by cases ts with
        | nil => exact absurd rfl hne
        | cons x y => simp
      have := Placed.last h2 (by omega)
      have e : (t :: ts).length - 1 = (ts.length - 1) + 1 := by simp; omega
      simp only [e, List.getElem_cons_succ]
      exact this
/-- The token at a place, and what is known of the others. -/
theorem Placed.drop {zs : List Int} : ∀ {l : List Tok} {a k : Nat}, Placed zs a l → k < l.length → ∃ b, Placed zs b (l.drop k) ∧ a ≤ b
  | l, a, 0, h, hk => ⟨a, by simpa using h, Nat.le_refl _⟩
  | [], a, k + 1, h, hk => by simp at hk
  | t :: ts, a, k + 1, h, hk => by
    rcases h.2.2.2.2 with ⟨_, rfl, e⟩ | ⟨_, hne, h2⟩
    · simp at hk
    · obtain ⟨b, h3, h4⟩ := Placed.drop h2 (by simpa using hk)
      exact ⟨b, by simpa using h3, by have := h.1; omega⟩
end Go.Proofs.YtfdjchnckjgapaaGreatDoor

namespace Go.Proofs.YtfdjchnckjgapaaGreatDoor
open Go.RowKit Go.Shelf S1
set_option linter.unusedVariables false

theorem ascU_append : ∀ (p : Nat) (a b : List Int), ascU p (a ++ b) = ascU p a ++ ascU (p + a.length) b
  | p, [], b => rfl
  | p, c :: a, b => by
    show _ :: ascU (p + 1) (a ++ b) = _ :: (ascU (p + 1) a ++ _)
    rw [ascU_append (p + 1) a b]
    simp [Nat.add_assoc, Nat.add_comm 1]
theorem ascU_cons (p : Nat) (c : Int) (t : List Int) : ascU p (c :: t) = ⟨c, p, 1, false⟩ :: ascU (p + 1) t := rfl
theorem ascU_len : ∀ (p : Nat) (t : List Int), (ascU p t).length = t.length
  | _, [] => rfl
  | p, c :: t => by rw [ascU_cons, List.length_cons, List.length_cons, ascU_len (p + 1) t]
theorem sgn_asc (q : Int → Bool) (p : Nat) (c : Int) (t : List Int) : sgn q (ascU p (c :: t)) = if q c = true then (some c, ascU (p + 1) t) else (none, ascU p (c :: t)) := by
  rw [ascU_cons, sgn_cons]
  simp [fitU]
theorem upC_fig (d : Nat) (h : d < 16) : figR (upC d) = true ∧ figV (upC d) = (d : Int) := by
  have key : ∀ d : Fin 16, figR (upC d.val) = true ∧ figV (upC d.val) = (d.val : Int) := by decide
  exact key ⟨d, h⟩
theorem figs_asc (rest : List Int) : ∀ (k p : Nat) (ds : List Nat), ds.length ≤ k → (∀ d ∈ ds, d < 16) →
    figsL k (ascU p (ds.map upC ++ 125 :: rest)) = ds.map upC ∧ figsD k (ascU p (ds.map upC ++ 125 :: rest)) = ascU (p + ds.length) (125 :: rest)
  | 0, p, [], _, _ => ⟨rfl, rfl⟩
  | 0, p, d :: ds, h, _ => by simp at h
  | k + 1, p, [], _, _ => by
    have hf : fitU figR ⟨125, p, 1, false⟩ = false := rfl
    constructor
    · show (if fitU figR ⟨125, p, 1, false⟩ = true then _ else _) = _; rw [hf]; rfl
    · show (if fitU figR ⟨125, p, 1, false⟩ = true then _ else _) = _; rw [hf]; rfl
  | k + 1, p, d :: ds, h, hd => by
    have hf : fitU figR ⟨upC d, p, 1, false⟩ = true := by simp [fitU, (upC_fig d (hd d (by simp))).1]
    obtain ⟨i1, i2⟩ := figs_asc rest k (p + 1) ds (by simpa using h) (fun x hx => hd x (by simp [hx]))
    constructor
    · show (if fitU figR ⟨upC d, p, 1, false⟩ = true then _ else _) = _
      rw [if_pos hf]
      exact congrArg (upC d :: ·) i1
    · show (if fitU figR ⟨upC d, p, 1, false⟩ = true then _ else _) = _
      rw [if_pos hf, List.length_cons, show p + (ds.length + 1) = p + 1 + ds.length by omega]
      exact i2
theorem hexV_last (l : List Int) (c : Int) : hexV (l ++ [c]) = hexV l * 16 + figV c := by simp [hexV]
theorem hexV_dig : ∀ (k n : Nat), n < 16 ^ k → hexV ((digF k n).map upC) = (n : Int)
  | 0, n, h => by simp at h; subst h; rfl
  | k + 1, n, h => by
    by_cases q : n < 16
    · rw [digF_small q]
      show (0 : Int) * 16 + figV (upC n) = _
      rw [(upC_fig n q).2]; omega
    · rw [digF_great (by omega), List.map_append]
      show hexV (_ ++ [upC (n % 16)]) = _
      rw [hexV_last, hexV_dig k (n / 16) (by rw [Nat.pow_succ] at h; omega), (upC_fig (n % 16) (by omega)).2]
      omega
theorem digF_ne (k n : Nat) : digF (k + 1) n ≠ [] := by
  by_cases q : n < 16
  · rw [digF_small q]; simp
  · rw [digF_great (by omega)]; simp
theorem letL_br (p n : Nat) (hn : n < 16 ^ 6) (rest : List Int) : letL (ascU p (brL n ++ rest)) = (some (n : Int), ascU (p + (brL n).length) rest) := by
  have e : brL n ++ rest = 92 :: 120 :: 123 :: ((digL n).map upC ++ 125 :: rest) := by simp [brL]
  rw [e]
  have h1 : sgn (isC 92) (ascU p (92 :: 120 :: 123 :: ((digL n).map upC ++ 125 :: rest))) = (some 92, ascU (p + 1) (120 :: 123 :: ((digL n).map upC ++ 125 :: rest))) := by rw [sgn_asc]; rfl
  have h2 : sgn (isC 120) (ascU (p + 1) (120 :: 123 :: ((digL n).map upC ++ 125 :: rest))) = (some 120, ascU (p + 1 + 1) (123 :: ((digL n).map upC ++ 125 :: rest))) := by rw [sgn_asc]; rfl
  have h3 : sgn (isC 123) (ascU (p + 1 + 1) (123 :: ((digL n).map upC ++ 125 :: rest))) = (some 123, ascU (p + 1 + 1 + 1) ((digL n).map upC ++ 125 :: rest)) := by rw [sgn_asc]; rfl
  rw [letL_d h1 h2 h3]
  obtain ⟨f1, f2⟩ := figs_asc rest 6 (p + 1 + 1 + 1) (digL n) (digF_len 6 n) (digL_lt n)
  unfold numL
  rw [f1, f2, if_neg (by
    have := digF_ne 5 n
    cases hq : digL n with
    | nil => exact absurd hq this
    | cons a b => simp), sgn_asc, if_pos (by decide)]
  simp only
  rw [show hexV ((digL n).map upC) = (n : Int) from hexV_dig 6 n hn]
  congr 2
  simp [brL]; omega
theorem entL_rg (p : Nat) (r : Rg) (h0 : 0 ≤ r.lo) (h1 : r.lo ≤ r.hi) (h2 : r.hi ≤ 1114111) (c : Int) (hc : c ≠ 45) (rest : List Int) : entL (ascU p (rgL r ++ c :: rest)) = (some r, ascU (p + (rgL r).length) (c :: rest)) := by
  have h66 : (16 ^ 6 : Nat) = 16777216 := by decide
  have elo : ((r.lo.toNat : Nat) : Int) = r.lo := by omega
  have ehi : ((r.hi.toNat : Nat) : Int) = r.hi := by omega
  by_cases q : r.hi = r.lo
  · have e : rgL r = brL r.lo.toNat := by unfold rgL; rw [if_pos q, List.append_nil]
    rw [e]
    have hl := letL_br p r.lo.toNat (by omega) (c :: rest)
    have hs : sgn (isC 45) (ascU (p + (brL r.lo.toNat).length) (c :: rest)) = (none, ascU (p + (brL r.lo.toNat).length) (c :: rest)) := by
      rw [sgn_asc, if_neg (by simp [isC, hc])]
    rw [entL_b hl hs, elo]
    cases r; simp only at q ⊢; rw [q]
  · have e : rgL r ++ c :: rest = brL r.lo.toNat ++ (45 :: (brL r.hi.toNat ++ c :: rest)) := by unfold rgL; rw [if_neg q]; simp
    have el : (rgL r).length = (brL r.lo.toNat).length + 1 + (brL r.hi.toNat).length := by unfold rgL; rw [if_neg q]; simp; omega
    rw [e]
    have hl := letL_br p r.lo.toNat (by omega) (45 :: (brL r.hi.toNat ++ c :: rest))
    have hs : sgn (isC 45) (ascU (p + (brL r.lo.toNat).length) (45 :: (brL r.hi.toNat ++ c :: rest))) = (some 45, ascU (p + (brL r.lo.toNat).length + 1) (brL r.hi.toNat ++ c :: rest)) := by rw [sgn_asc]; rfl
    have hl2 := letL_br (p + (brL r.lo.toNat).length + 1) r.hi.toNat (by omega) (c :: rest)
    rw [entL_d hl hs hl2, elo, ehi, el]
    congr 2
    omega
theorem setF_set (n : Nat) : ∀ (l : List Rg) (k p : Nat) (acc : List Rg), Fits l → l.length < k → setF n k (ascU p (setLs l ++ [93])) acc = SR.good (acc ++ l) []
  | [], k, p, acc, _, hk => by
    obtain ⟨j, rfl⟩ : ∃ j, k = j + 1 := ⟨k - 1, by simp at hk; omega⟩
    have hs : sgn (isC 93) (ascU p (setLs [] ++ [93])) = (some 93, []) := rfl
    rw [setF_end hs, List.append_nil]
  | r :: l, k, p, acc, hf, hk => by
    obtain ⟨j, rfl⟩ : ∃ j, k = j + 1 := ⟨k - 1, by simp at hk; omega⟩
    obtain ⟨h0, h1, h2⟩ := hf r (by simp)
    have e : setLs (r :: l) ++ [93] = rgL r ++ (setLs l ++ [93]) := by simp [setLs]
    have hd : ∃ t, rgL r = 92 :: t := ⟨_, by unfold rgL brL; rfl⟩
    obtain ⟨t, ht⟩ := hd
    have hc : ∃ c rest, setLs l ++ [93] = c :: rest ∧ c ≠ 45 := by
      cases l with
      | nil => exact ⟨93, [], rfl, by decide⟩
      | cons r2 l2 =>
        refine ⟨92, _, by show (rgL r2 ++ setLs l2) ++ [93] = _; unfold rgL brL; rfl, by decide⟩
    obtain ⟨c, rest, hcr, hc45⟩ := hc
    have hs : sgn (isC 93) (ascU p (setLs (r :: l) ++ [93])) = (none, ascU p (setLs (r :: l) ++ [93])) := by
      rw [e, ht]
      show sgn (isC 93) (ascU p (92 :: (t ++ _))) = _
      rw [sgn_asc, if_neg (by decide)]
      rfl
    have hen : entL (ascU p (setLs (r :: l) ++ [93])) = (some r, ascU (p + (rgL r).length) (setLs l ++ [93])) := by
      rw [e, hcr]
      exact entL_rg p r h0 h1 h2 c hc45 rest
    rw [setF_on hs hen (by simp; omega), setF_set n l j _ (acc ++ [r]) (fun x hx => hf x (by simp [hx])) (by simpa using hk)]
    simp
theorem toks_set (l : List Rg) (hf : Fits l) : toksL (setL l).length (ascU 0 (setL l)) = TR.good [⟨3, 0, [], l⟩, ⟨4, (setL l).length, [], []⟩] := by
  have hu : ascU 0 (setL l) = ⟨91, 0, 1, false⟩ :: ascU 1 (setLs l ++ [93]) := rfl
  have hb : blankL false (ascU 0 (setL l)) = ascU 0 (setL l) := by rw [hu]; simp [blankL, blankR]
  have hlen : l.length < (ascU 1 (setLs l ++ [93])).length + 1 := by
    rw [ascU_len]
    have : ∀ l : List Rg, l.length ≤ (setLs l).length := fun l => by
      induction l with
      | nil => simp
      | cons r l ih =>
        show _ ≤ (rgL r ++ setLs l).length
        have : 1 ≤ (rgL r).length := by unfold rgL brL; simp
        simp; omega
    have := this l
    simp; omega
  have ht : tokO (setL l).length (blankL false (ascU 0 (setL l))) = OR.good ⟨3, 0, [], l⟩ [] := by
    rw [hb, hu, tokO_cons, if_neg (by decide), if_neg (by decide), if_pos (by decide), setF_set _ l _ 1 [] hf hlen]
    rfl
  unfold toksL
  rw [toksF_on ht (by exact (by decide : (3 : Int) ≠ 4)), ascU_len]
  have hsl : (setL l).length = (setLs l ++ [93]).length + 1 := by simp [setL]
  have ht2 : tokO (setL l).length (blankL false []) = OR.good ⟨4, (setL l).length, [], []⟩ [] := rfl
  obtain ⟨m, hm⟩ : ∃ m, (setL l).length = m + 1 := ⟨_, hsl⟩
  rw [hm] at ht2 ⊢
  exact toksF_end (acc := [⟨3, 0, [], l⟩]) ht2 rfl
theorem setL_run (l : List Rg) : Run (setL l) 0 (ascU 0 (setL l)) (setL l).length := run_ascii (fun c hc => by have := setL_byt l c hc; omega)
end Go.Proofs.YtfdjchnckjgapaaGreatDoor
