/-
  Expressions that were parsed have few parts; texts have few tokens. Plain mathematics. Plain mathematics: where tokens stand, and where an error is told. Plain mathematics of the document's lexing, beside LxMath: no program is named here.
-/
import Derived.Test.YtghogepkmdilaaaGreatDoorX32
import Derived.Test.YtghogepkmdilaaaGreatDoorX31
namespace Go.Proofs.YtghogepkmdilaaaGreatDoor
open Go.RowKit Go.Shelf S1
set_option linter.unusedVariables false

/-- So deep, no expression has many parts. -/
def Wid : Nat → List Nd → Prop
  | 0, _ => True
  | f + 1, l => l.length ≤ 70000 ∧ ∀ x ∈ l, Wid f x.kids
def WdN (n : Nd) : Prop := ∀ f, Wid f n.kids
theorem wdN_of {k s : Int} {l : List Nd} (h : l.length ≤ 70000) (hl : ∀ x ∈ l, WdN x) : WdN ⟨k, s, l⟩ := fun f => by
  cases f with
  | zero => trivial
  | succ f => exact ⟨h, fun x hx => hl x hx f⟩
theorem joinN_wd {k : Int} : ∀ {l : List Nd}, l.length ≤ 70000 → (∀ x ∈ l, WdN x) → WdN (joinN k l)
  | [], h, hl => wdN_of h hl
  | [x], h, hl => hl x (by simp)
  | x :: y :: l, h, hl => wdN_of h hl
theorem signF_wd : ∀ (f c : Nat) (n : Nd) (ts : List Tok) (st : Sts) {m : Nd} {r : List Tok} {st' : Sts}, WdN n → signF f c n ts st = .inr (m, r, st') → WdN m
  | 0, c, n, ts, st, m, r, st', hn, h => by cases h; exact hn
  | f + 1, c, n, ts, st, m, r, st', hn, h => by
    unfold signF at h
    split at h
    · cases h; exact hn
    · split at h
      · cases h
      · exact signF_wd f (c + 1) _ _ _ (wdN_of (by simp) (fun x hx => by
          obtain rfl : x = n := by simpa using hx
          exact hn)) h
/-- p tells expressions of few parts. -/
def PWd (p : List Tok → Sts → NR Nd) : Prop := ∀ ts st n r st', ts.length ≤ 69990 → p ts st = .inr (n, r, st') → WdN n ∧ r.length ≤ ts.length
theorem nleft_len {α : Type} {ts : List Tok} {q : NR α} {n : α} {r : List Tok} {st' : Sts} (h : NLeft ts q) (e : q = .inr (n, r, st')) : r.length ≤ ts.length := by
  subst e; exact h.1
theorem signedM_wd {p : List Tok → Sts → NR Nd} (hp : PWd p) : PWd (signedM p) := fun ts st n r st' hl h => by
  unfold signedM at h
  split at h
  · cases h
  · rename_i m r1 st1 he
    obtain ⟨h1, h2⟩ := hp _ _ _ _ _ hl he
    exact ⟨signF_wd 4 _ m r1 st1 h1 h, Nat.le_trans (nleft_len (signF_left 4 (cntN 4 m) m r1 st1) h) h2⟩
theorem catF_wd {p : List Tok → Sts → NR Nd} (hp : PWd p) : ∀ (f : Nat) (acc : List Nd) (ts : List Tok) (st : Sts) {l : List Nd} {r : List Tok} {st' : Sts}, ts.length ≤ 69990 → (∀ x ∈ acc, WdN x) → catF p f acc ts st = .inr (l, r, st') → (∀ x ∈ l, WdN x) ∧ l.length ≤ acc.length + f ∧ r.length ≤ ts.length
  | 0, acc, ts, st, l, r, st', hl, ha, h => by cases h; exact ⟨ha, Nat.le_refl _, Nat.le_refl _⟩
  | f + 1, acc, ts, st, l, r, st', hl, ha, h => by
    unfold catF at h
    split at h
    · split at h
      · cases h
      · rename_i n r1 st1 he
        obtain ⟨h1, h2⟩ := hp _ _ _ _ _ hl he
        obtain ⟨i1, i2, i3⟩ := catF_wd hp f _ _ _ (Nat.le_trans h2 hl) (fun x hx => by
          rcases List.mem_append.1 hx with q | q
          · exact ha x q
          · obtain rfl : x = n := by simpa using q
            exact h1) h
        refine ⟨i1, ?_, Nat.le_trans i3 h2⟩
        simp at i2; omega
    · cases h; exact ⟨ha, by omega, Nat.le_refl _⟩
theorem altF_wd {p : List Tok → Sts → NR Nd} (hp : PWd p) : ∀ (f : Nat) (acc : List Nd) (ts : List Tok) (st : Sts) {l : List Nd} {r : List Tok} {st' : Sts}, ts.length ≤ 69990 → (∀ x ∈ acc, WdN x) → altF p f acc ts st = .inr (l, r, st') → (∀ x ∈ l, WdN x) ∧ l.length ≤ acc.length + f ∧ r.length ≤ ts.length
  | 0, acc, ts, st, l, r, st', hl, ha, h => by cases h; exact ⟨ha, Nat.le_refl _, Nat.le_refl _⟩
  | f + 1, acc, ts, st, l, r, st', hl, ha, h => by
    unfold altF at h
    split at h
    · split at h
      · cases h
      · rename_i n r1 st1 he
        have ht : ts.tail.length ≤ ts.length := by simp
        obtain ⟨h1, h2⟩ := hp _ _ _ _ _ (Nat.le_trans ht hl) he
        obtain ⟨i1, i2, i3⟩ := altF_wd hp f _ _ _ (Nat.le_trans h2 (Nat.le_trans ht hl)) (fun x hx => by
          rcases List.mem_append.1 hx with q | q
          · exact ha x q
          · obtain rfl : x = n := by simpa using q
            exact h1) h
        refine ⟨i1, ?_, Nat.le_trans i3 (Nat.le_trans h2 ht)⟩
        simp at i2; omega
    · cases h; exact ⟨ha, by omega, Nat.le_refl _⟩
theorem catM_wd {p : List Tok → Sts → NR Nd} (hp : PWd p) : PWd (catM p) := fun ts st n r st' hl h => by
  unfold catM at h
  split at h
  · cases h
  · rename_i l r1 st1 he
    cases h
    obtain ⟨i1, i2, i3⟩ := catF_wd hp _ _ _ _ hl (fun x hx => (by cases hx)) he
    exact ⟨joinN_wd (by simp at i2; omega) i1, i3⟩
theorem regexG_wd {p : List Tok → Sts → NR Nd} (hp : PWd p) : PWd (regexG p) := fun ts st n r st' hl h => by
  unfold regexG at h
  split at h
  · cases h
  · rename_i m r1 st1 he
    obtain ⟨h1, h2⟩ := hp _ _ _ _ _ hl he
    split at h
    · cases h
    · rename_i l r2 st2 he2
      cases h
      obtain ⟨i1, i2, i3⟩ := altF_wd hp _ _ _ _ (Nat.le_trans h2 hl) (fun x hx => by
        obtain rfl : x = m := by simpa using hx
        exact h1) he2
      exact ⟨joinN_wd (by simp at i2; omega) i1, Nat.le_trans i3 h2⟩
theorem partM_wd {N : Nms} {f : Option (List Tok → Sts → NR Nd)} (hf : ∀ g, f = some g → PWd g) : PWd (partM N f) := fun ts st n r st' hl h => by
  have ht : ts.tail.length ≤ ts.length := by simp
  unfold partM at h
  split at h
  · split at h
    · cases h
    · rename_i g
      cases hq : g ts.tail st with
      | inl x => rw [hq] at h; cases h
      | inr x =>
        obtain ⟨m, r1, st1⟩ := x
        rw [hq] at h
        simp only [endN] at h
        split at h
        · cases h
          obtain ⟨h1, h2⟩ := hf g rfl _ _ _ _ _ (Nat.le_trans ht hl) hq
          refine ⟨h1, ?_⟩
          have : r1.tail.length ≤ r1.length := by simp
          omega
        · cases h
  · split at h
    · cases h
    · split at h
      · cases h
      · cases h
        exact ⟨wdN_of (by simp) (fun x hx => (by cases hx)), ht⟩
theorem regexM_wd (N : Nms) : ∀ (b : Nat), PWd (regexM N b)
  | 0 => regexG_wd (catM_wd (signedM_wd (partM_wd (fun g h => by cases h))))
  | b + 1 => regexG_wd (catM_wd (signedM_wd (partM_wd (fun g h => by cases h; exact regexM_wd N b))))
/-- A rule's expressions have few parts. -/
def WdR (x : Rl) : Prop := WdN x.l ∧ WdN x.r
theorem ruleM_wd {N : Nms} {ts : List Tok} {st : Sts} {x : Rl} {r : List Tok} {st' : Sts} (hl : ts.length ≤ 69990) (h : ruleM N ts st = .inr (x, r, st')) : WdR x := by
  have ht : ts.tail.length ≤ ts.length := by simp
  have key : ∀ {c : Int} {q : NR Nd} {n : Nd} {r : List Tok} {st' : Sts}, endN c q = .inr (n, r, st') → ∃ r0, q = .inr (n, r0, st') ∧ r.length ≤ r0.length := fun {c q n r st'} h => by
    match q, h with
    | .inr (n0, r0, st0), h =>
      simp only [endN] at h
      split at h
      · cases h; exact ⟨r0, rfl, by simp⟩
      · cases h
  unfold ruleM at h
  split at h
  · cases h
  · rename_i l r1 st1 he
    obtain ⟨r0, e0, hr0⟩ := key he
    obtain ⟨h1, h2⟩ := regexM_wd N 20 _ _ _ _ _ (Nat.le_trans ht hl) e0
    split at h
    · cases h
    · rename_i n r2 st2 he2
      obtain ⟨r3, e3, hr3⟩ := key he2
      obtain ⟨h3, h4⟩ := regexM_wd N 20 _ _ _ _ _ (by omega) e3
      cases h
      exact ⟨h1, h3⟩
theorem textF_wd : ∀ (f : Nat) (N : Nms) (rs : List Rl) (ts : List Tok) (st : Sts) {rs' : List Rl} {st' : Sts}, ts.length ≤ 69990 → (∀ x ∈ rs, WdR x) → textF f N rs ts st = .inr (rs', st') → ∀ x ∈ rs', WdR x
  | 0, N, rs, ts, st, rs', st', hl, ha, h => by cases h; exact ha
  | f + 1, N, rs, ts, st, rs', st', hl, ha, h => by
    have ht : ts.tail.length ≤ ts.length := by simp
    unfold textF at h
    split at h
    · cases h; exact ha
    · rename_i hk
      split at h
      · split at h
        · cases h
        · rename_i N' r hn
          exact textF_wd f N' rs r st (Nat.le_trans (nameM_left hn) (Nat.le_trans ht hl)) ha h
      · split at h
        · cases h
        · split at h
          · cases h
          · split at h
            · cases h
            · rename_i x r st1 hn
              refine textF_wd f N (rs ++ [x]) r st1 (Nat.le_trans (Nat.le_of_lt (ruleM_left hk hn)) hl) (fun y hy => ?_) h
              rcases List.mem_append.1 hy with q | q
              · exact ha y q
              · obtain rfl : y = x := by simpa using q
                exact ruleM_wd hl hn
theorem toksF_few {n : Nat} : ∀ {k : Nat} {us : List U} {acc l : List Tok}, toksF n k us acc = TR.good l → l.length ≤ acc.length + us.length + 1
  | 0, us, acc, l, h => by cases h
  | k + 1, us, acc, l, h => by
    have hbl := blankL_le false us
    cases h1 : tokO n (blankL false us) with
    | inl x => obtain ⟨a, e⟩ := x; rw [toksF_bad h1] at h; cases h
    | inr x =>
      obtain ⟨t, r⟩ := x
      have hlen := tokO_len h1
      by_cases h4 : t.k = 4
      · rw [toksF_end h1 h4] at h
        obtain rfl := Sum.inr.inj h
        simp
      · rw [toksF_on h1 h4] at h
        have h5 := toksF_few h
        have h6 : r.length < (blankL false us).length := by
          rcases hlen with ⟨q, _⟩ | ⟨_, q⟩
          · exact absurd q h4
          · exact q
        simp at h5; omega
theorem toks_few {zs : List Int} {us : List U} (hr : Run zs 0 us zs.length) {l : List Tok} (h : toksL zs.length us = TR.good l) : l.length ≤ zs.length + 1 := by
  have hlen := Run.le hr (Nat.zero_le _)
  have := toksF_few (show toksF zs.length (us.length + 1) us [] = TR.good l from h)
  simp at this
  omega
theorem parseL_wd {zs : List Int} {us : List U} (hr : Run zs 0 us zs.length) (hz : zs.length ≤ 65536) {rs : List Rl} {st : Sts} (h : parseL (toksL zs.length us) = .inr (rs, st)) : ∀ x ∈ rs, WdR x := by
  cases ht : toksL zs.length us with
  | inl e => rw [ht] at h; cases h
  | inr l =>
    have hc := toks_few hr ht
    rw [ht] at h
    unfold parseL at h
    simp only at h
    split at h
    · cases h
    · rename_i x hx
      obtain ⟨rs', st'⟩ := x
      cases h
      exact textF_wd _ _ _ _ _ (by simp; omega) (fun x hx => (by cases hx)) hx
end Go.Proofs.YtghogepkmdilaaaGreatDoor

namespace Go.Proofs.YtghogepkmdilaaaGreatDoor
open Go.RowKit S1
set_option linter.unusedVariables false

theorem run_suffix_at {zs : List Int} : ∀ {us r : List U} {p : Nat}, Run zs p us zs.length → r <:+ us → p ≤ atL zs.length r
  | us, r, p, h, hs => by
    rcases List.suffix_cons_iff.1 (show r <:+ (⟨0, 0, 0, false⟩ : U) :: us from hs.trans (List.suffix_cons _ _)) with e | hs'
    · -- r is longer than us: impossible
      have := hs.length_le
      rw [e] at this
      simp at this
      omega
    · match us, h, hs' with
      | [], h, hs' =>
        have e := List.suffix_nil.1 hs'
        rw [e]
        exact Nat.le_of_eq (show p = zs.length from h)
      | u :: t, h, hs' =>
        rcases List.suffix_cons_iff.1 hs' with e | hs2
        · rw [e]; show p ≤ u.p; rw [h.2.1]; exact Nat.le_refl _
        · have := run_suffix_at h.2.2 hs2
          omega
theorem runs_at_mono {zs : List Int} {us r : List U} (h : Runs zs us) (hs : r <:+ us) : atL zs.length us ≤ atL zs.length r := by
  obtain ⟨p, h⟩ := h
  rw [run_at h]
  exact run_suffix_at h hs
theorem runs_at_strict {zs : List Int} {u : U} {t r : List U} (h : Runs zs (u :: t)) (hs : r <:+ t) : u.p + 1 ≤ atL zs.length r ∧ u.p < zs.length := by
  obtain ⟨p, h⟩ := h
  have h1 := run_suffix_at h.2.2 hs
  have hw := unitAt_w h.1
  rw [← h.2.1] at hw
  have hp : u.p = p := by rw [h.2.1]; rfl
  have := h.1
  omega

/-- Where an error may be told. -/
def BadAt (n a : Nat) (x : Int) : Prop := a ≤ n ∧ (x = 7 → a = n) ∧ (x = 6 → a < n) ∧ x ≠ 0
theorem stuck_at {zs : List Int} {us : List U} (h : Runs zs us) : BadAt zs.length (atL zs.length us) (stuckE us) := by
  match us, h with
  | [], h => exact ⟨Nat.le_refl _, fun _ => rfl, fun e => by simp [stuckE] at e, by simp [stuckE]⟩
  | u :: t, h =>
    have := runs_at_strict h (List.suffix_refl t)
    exact ⟨by show u.p ≤ _; omega, fun e => by simp [stuckE] at e, fun _ => this.2, by simp [stuckE]⟩
theorem setF_at {zs : List Int} : ∀ {k : Nat} {us : List U} {acc : List Rg} {a : Nat} {x : Int}, us.length < k → Runs zs us → setF zs.length k us acc = SR.bad a x → BadAt zs.length a x
  | 0, us, acc, a, x, hk, hr, h => by omega
  | k + 1, us, acc, a, x, hk, hr, h => by
    cases h1 : sgn (isC 93) us with
    | mk o s => cases o with
      | some y => rw [setF_end h1] at h; cases h
      | none => cases h2 : entL us with
        | mk o2 r2 =>
          have hsf := entL_suffix us
          rw [h2] at hsf
          cases o2 with
          | none =>
            rw [setF_stuck h1 h2] at h
            obtain ⟨e1, e2⟩ := Prod.mk.inj (Sum.inl.inj h)
            rw [← e1, ← e2]
            exact stuck_at (hr.of_suffix hsf)
          | some e =>
            have hlen := entL_len h2
            cases h3 : (decide (e.hi < e.lo) || decide (1114111 < e.hi)) with
            | true =>
              rw [setF_arg h1 h2 h3] at h
              obtain ⟨e1, e2⟩ := Prod.mk.inj (Sum.inl.inj h)
              rw [← e1, ← e2]
              exact ⟨hr.at_le, fun e => (by cases e), fun e => (by cases e), by decide⟩
            | false => rw [setF_on h1 h2 h3] at h; exact setF_at (us := r2) (by omega) (hr.of_suffix hsf) h
theorem tokO_at {zs : List Int} {us : List U} {a : Nat} {x : Int} (hr : Runs zs us) (h : tokO zs.length us = OR.bad a x) : BadAt zs.length a x := by
  match us, hr, h with
  | [], hr, h => cases h
  | u :: t, hr, h =>
    have hst := runs_at_strict hr (List.suffix_refl t)
    rw [tokO_cons] at h
    split at h
    · cases h
    · split at h
      · cases h
      · split at h
        · cases h1 : setF zs.length (t.length + 1) t [] with
          | inl x =>
            obtain ⟨b, y⟩ := x
            rw [h1] at h
            obtain ⟨e1, e2⟩ := Prod.mk.inj (Sum.inl.inj h)
            rw [← e1, ← e2]
            exact setF_at (by omega) hr.tail h1
          | inr x => rw [h1] at h; cases h
        · obtain ⟨e1, e2⟩ := Prod.mk.inj (Sum.inl.inj h)
          rw [← e1, ← e2]
          exact ⟨by omega, fun e => (by cases e), fun _ => hst.2, by decide⟩
theorem toksF_at {zs : List Int} : ∀ {k : Nat} {us : List U} {acc : List Tok} {a : Nat} {x : Int}, us.length < k → Runs zs us → toksF zs.length k us acc = TR.bad a x → BadAt zs.length a x
  | 0, us, acc, a, x, hk, hr, h => by omega
  | k + 1, us, acc, a, x, hk, hr, h => by
    have hr1 := hr.of_suffix (blankL_suffix false us)
    have hbl := blankL_le false us
    cases h1 : tokO zs.length (blankL false us) with
    | inl x =>
      obtain ⟨b, y⟩ := x
      rw [toksF_bad h1] at h
      obtain ⟨e1, e2⟩ := Prod.mk.inj (Sum.inl.inj h)
      rw [← e1, ← e2]
      exact tokO_at hr1 h1
    | inr x =>
      obtain ⟨t, r⟩ := x
      rcases tokO_len h1 with ⟨h4, _⟩ | ⟨h4, hlt⟩
      · rw [toksF_end h1 h4] at h; cases h
      · rw [toksF_on h1 h4] at h
        exact toksF_at (by omega) (hr1.of_suffix (tokO_suffix h1)) h

/-- Tokens stand where they begin, from the place a on. -/
def Placed (zs : List Int) : Nat → List Tok → Prop
  | _, [] => False
  | a, t :: ts => a ≤ t.p ∧ t.p + t.t.length ≤ zs.length ∧ cutZ zs t.p (t.p + t.t.length) = t.t ∧ (t.k = 3 → zs[t.p]? = some 91) ∧ ((t.k = 4 ∧ ts = [] ∧ t.p = zs.length) ∨ (t.k ≠ 4 ∧ ts ≠ [] ∧ Placed zs (t.p + max t.t.length 1) ts))

/-- Tokens put ahead. -/
def preT (acc : List Tok) : TR → TR
  | .inl x => .inl x
  | .inr l => .inr (acc ++ l)
theorem preT_preT (a b : List Tok) (x : TR) : preT a (preT b x) = preT (a ++ b) x := by
  cases x <;> simp [preT]
theorem toksF_app {n : Nat} : ∀ (k : Nat) (us : List U) (acc : List Tok), toksF n k us acc = preT acc (toksF n k us [])
  | 0, us, acc => rfl
  | k + 1, us, acc => by
    cases h1 : tokO n (blankL false us) with
    | inl x => obtain ⟨b, y⟩ := x; rw [toksF_bad h1, toksF_bad h1]; rfl
    | inr x =>
      obtain ⟨t, r⟩ := x
      by_cases h4 : t.k = 4
      · rw [toksF_end h1 h4, toksF_end h1 h4]; rfl
      · rw [toksF_on h1 h4, toksF_on h1 h4, toksF_app k r (acc ++ [t]), toksF_app k r ([] ++ [t]), preT_preT]
        rfl
/-- The first token, and the others. -/
theorem toksF_cons {n k : Nat} {us : List U} {l : List Tok} (h : toksF n (k + 1) us [] = TR.good l) : ∃ t r, tokO n (blankL false us) = OR.good t r ∧ ((t.k = 4 ∧ l = [t]) ∨ (t.k ≠ 4 ∧ ∃ l', l = t :: l' ∧ toksF n k r [] = TR.good l')) := by
  cases h1 : tokO n (blankL false us) with
  | inl x => obtain ⟨b, y⟩ := x; rw [toksF_bad h1] at h; cases h
  | inr x =>
    obtain ⟨t, r⟩ := x
    refine ⟨t, r, rfl, ?_⟩
    by_cases h4 : t.k = 4
    · rw [toksF_end h1 h4] at h
      have e := Sum.inr.inj h
      exact .inl ⟨h4, e.symm⟩
    · rw [toksF_on h1 h4, toksF_app] at h
      cases h2 : toksF n k r [] with
      | inl x => rw [h2] at h; cases h
      | inr l' =>
        rw [h2] at h
        have h := Sum.inr.inj h
        exact .inr ⟨h4, l', h.symm, rfl⟩
theorem toksF_nonempty {n : Nat} : ∀ {k : Nat} {us : List U} {l : List Tok}, toksF n k us [] = TR.good l → l ≠ []
  | 0, us, l, h => by cases h
  | k + 1, us, l, h => by
    obtain ⟨t, r, _, ⟨_, e⟩ | ⟨_, l', e, _⟩⟩ := toksF_cons h
    · rw [e]; simp
    · rw [e]; simp

/-- A token stands where it begins; what is left begins behind it. -/
theorem tokO_placed {zs : List Int} {us r : List U} {t : Tok} (hr : Runs zs us) (h : tokO zs.length us = OR.good t r) : t.p = atL zs.length us ∧ t.p + t.t.length ≤ zs.length ∧ cutZ zs t.p (t.p + t.t.length) = t.t ∧ (t.k = 3 → zs[t.p]? = some 91) ∧ (t.k = 4 ∧ t.p = zs.length ∨ t.k ≠ 4 ∧ t.p + max t.t.length 1 ≤ atL zs.length r) := by
  match us, hr, h with
  | [], hr, h =>
    obtain ⟨e1, e2⟩ := Prod.mk.inj (Sum.inr.inj h)
    rw [← e1]
    exact ⟨rfl, Nat.le_refl _, by simp [cutZ], fun e => (by cases e), .inl ⟨rfl, rfl⟩⟩
  | u :: t', hr, h =>
    have hst := runs_at_strict hr (List.suffix_refl t')
    rw [tokO_cons] at h
    split at h
    · rename_i q
      obtain ⟨e1, e2⟩ := Prod.mk.inj (Sum.inr.inj h)
      have hsp : u :: t' = (u :: t'.takeWhile (fitU nameR)) ++ t'.dropWhile (fitU nameR) := by rw [List.cons_append, ← take_drop_while]
      have hcut := runs_cut (a := u :: t'.takeWhile (fitU nameR)) (b := t'.dropWhile (fitU nameR)) (by rw [← hsp]; exact hr) (fun v hv => by
        rcases List.mem_cons.1 hv with rfl | hv
        · exact fit_name q
        · exact fit_inName (takeWhile_all _ _ v hv))
      have hln := congrArg List.length hcut.1
      have hle := (hr.of_suffix (show t'.dropWhile (fitU nameR) <:+ u :: t' from (List.dropWhile_suffix _).trans (List.suffix_cons _ _))).at_le
      rw [cutZ_length hle] at hln
      rw [← hsp] at hcut hln
      have hat : atL zs.length (u :: t') = u.p := rfl
      rw [hat] at hcut hln
      rw [← e1, ← e2]
      simp only [List.length_map, List.length_cons, List.map_cons] at hln ⊢
      have hq : u.p + ((t'.takeWhile (fitU nameR)).length + 1) = atL zs.length (t'.dropWhile (fitU nameR)) := by omega
      refine ⟨rfl, by omega, by rw [hq]; simpa using hcut.1, fun e => (by cases e), .inr ⟨by decide, by omega⟩⟩
    · split at h
      · rename_i q
        obtain ⟨e1, e2⟩ := Prod.mk.inj (Sum.inr.inj h)
        have hcut := runs_cut (a := [u]) (b := t') hr (fun v hv => by
          obtain rfl : v = u := by simpa using hv
          exact fit_tok q)
        have hle := hr.tail.at_le
        have hln := congrArg List.length hcut.1
        rw [cutZ_length hle] at hln
        have hat : atL zs.length ([u] ++ t') = u.p := rfl
        rw [hat] at hcut hln
        rw [← e1, ← e2]
        simp only [List.length_map, List.length_singleton] at hln ⊢
        have hq : u.p + 1 = atL zs.length t' := by omega
        refine ⟨rfl, by omega, by rw [hq]; simpa using hcut.1, fun e => (by cases e), .inr ⟨by decide, by omega⟩⟩
      · split at h
        · rename_i q
          cases h1 : setF zs.length (t'.length + 1) t' [] with
          | inl x => rw [h1] at h; cases h
          | inr x =>
            obtain ⟨l, s⟩ := x
            rw [h1] at h
            obtain ⟨e1, e2⟩ := Prod.mk.inj (Sum.inr.inj h)
            rw [← e1, ← e2]
            have hs2 := runs_at_strict hr (setF_suffix h1)
            obtain ⟨p, hr'⟩ := hr
            have hu : u.bad = false ∧ u.r = 91 := by simp [fitU, isC] at q; exact q
            obtain ⟨_, hp, hzz⟩ := unit_ascii hr'.1 hr'.2.1 hu.1 (by omega)
            refine ⟨rfl, by simp; omega, by simp [cutZ], fun _ => ?_,   .inr ⟨(by decide : (3 : Int) ≠ 4), by simpa using hs2.1⟩⟩
            show zs[u.p]? = some 91
            rw [hp, hzz, hu.2]
        · cases h
theorem toksF_placed {zs : List Int} : ∀ {k : Nat} {us : List U} {l : List Tok} {a : Nat}, Runs zs us → a ≤ atL zs.length us → toksF zs.length k us [] = TR.good l → Placed zs a l
  | 0, us, l, a, hr, ha, h => by cases h
  | k + 1, us, l, a, hr, ha, h => by
    obtain ⟨t, r, h1, h2⟩ := toksF_cons h
    have hsf := blankL_suffix false us
    have hr1 := hr.of_suffix hsf
    have hm := runs_at_mono hr hsf
    obtain ⟨p1, p2, p3, p4, p5⟩ := tokO_placed hr1 h1
    rcases h2 with ⟨h4, rfl⟩ | ⟨h4, l', rfl, h5⟩
    · refine ⟨by omega, p2, p3, p4, .inl ⟨h4, rfl, ?_⟩⟩
      rcases p5 with q | q
      · exact q.2
      · exact absurd h4 q.1
    · refine ⟨by omega, p2, p3, p4, .inr ⟨h4, toksF_nonempty h5, ?_⟩⟩
      rcases p5 with q | q
      · exact absurd q.1 h4
      · exact toksF_placed (hr1.of_suffix (tokO_suffix h1)) q.2 h5
theorem Placed.ne {zs : List Int} {a : Nat} {l : List Tok} (h : Placed zs a l) : l ≠ [] := by
  cases l with
  | nil => exact h.elim
  | cons t ts => simp
theorem Placed.last {zs : List Int} : ∀ {l : List Tok} {a : Nat}, Placed zs a l → ∀ (hl : l.length - 1 < l.length), (l[l.length - 1]).p = zs.length
  | [], a, h, hl => h.elim
  | t :: ts, a, h, hl => by
    rcases h.2.2.2.2 with ⟨_, rfl, e⟩ | ⟨_, hne, h2⟩
    · exact e
    · have hp : 0 < ts.length := by cases ts with
        | nil => exact absurd rfl hne
        | cons x y => simp
      have := Placed.last h2 (by omega)
      have e : (t :: ts).length - 1 = (ts.length - 1) + 1 := by simp; omega
      simp only [e, List.getElem_cons_succ]
      exact this
/-- The token at a place, and what is known of the others. -/
theorem Placed.drop {zs : List Int} : ∀ {l : List Tok} {a k : Nat}, Placed zs a l → k < l.length → ∃ b, Placed zs b (l.drop k) ∧ a ≤ b
  | l, a, 0, h, hk => ⟨a, by simpa using h, Nat.le_refl _⟩
  | [], a, k + 1, h, hk => by simp at hk
  | t :: ts, a, k + 1, h, hk => by
    rcases h.2.2.2.2 with ⟨_, rfl, e⟩ | ⟨_, hne, h2⟩
    · simp at hk
    · obtain ⟨b, h3, h4⟩ := Placed.drop h2 (by simpa using hk)
      exact ⟨b, by simpa using h3, by have := h.1; omega⟩
end Go.Proofs.YtghogepkmdilaaaGreatDoor

namespace Go.Proofs.YtghogepkmdilaaaGreatDoor
open Go.RowKit S1
set_option linter.unusedVariables false

/-- A bad unit has the number 65533. -/
def Okay (us : List U) : Prop := ∀ u ∈ us, (u.bad = true → u.r = 65533) ∧ 0 ≤ u.r ∧ u.r ≤ 1114111
theorem Okay.of_run {zs : List Int} {us : List U} {p q : Nat} (h : Run zs p us q) : Okay us := fun u hu => ⟨run_bad h u hu, run_range h u hu⟩
theorem Okay.drop {us : List U} (h : Okay us) (k : Nat) : Okay (us.drop k) := fun u hu => h u (List.mem_of_mem_drop hu)
theorem Okay.suffix {us r : List U} (h : Okay us) (hs : r <:+ us) : Okay r := fun u hu => h u (hs.subset hu)
theorem fit_eq {u : U} (h : u.bad = true → u.r = 65533) {p : Int → Bool} (hp : p 65533 = false) : fitU p u = p u.r := by
  unfold fitU
  cases hb : u.bad with
  | true => rw [h hb, hp]; rfl
  | false => simp

/-- What a figure tells, or that it is none. -/
def figI (r : Int) : Int := if figR r = true then figV r else -1
theorem figI_yes {r : Int} (h : figR r = true) : figI r = figV r ∧ 0 ≤ figV r ∧ figV r ≤ 15 := by
  refine ⟨by unfold figI; rw [if_pos h], ?_⟩
  simp [figR, decB] at h
  unfold figV
  split <;> omega
theorem figI_no {r : Int} (h : figR r = false) : figI r = -1 := by unfold figI; rw [if_neg (by rw [h]; simp)]

/-- The number in braces, m of whose figures, that make n, are read. -/
def numS (m : Nat) (n : Int) (vs : List U) : Option Int × List U :=
  if (figsL (6 - m) vs).isEmpty = true ∧ m = 0 then (none, vs)
  else match sgn (isC 125) (figsD (6 - m) vs) with
    | (some _, r) => (some ((figsL (6 - m) vs).foldl (fun n c => n * 16 + figV c) n), r)
    | (none, r) => (none, r)
theorem numS_zero (us : List U) : numS 0 0 us = numL us := by
  unfold numS numL
  by_cases h : (figsL 6 us).isEmpty = true
  · rw [if_pos ⟨h, rfl⟩, if_pos h]
  · rw [if_neg (fun q => h q.1), if_neg h]; rfl
theorem numS_step {m : Nat} (hm : m < 6) (n : Int) {u : U} {t : List U} (hu : fitU figR u = true) : numS m n (u :: t) = numS (m + 1) (n * 16 + figV u.r) t := by
  obtain ⟨k, hk⟩ : ∃ k, 6 - m = k + 1 := ⟨5 - m, by omega⟩
  have hk2 : 6 - (m + 1) = k := by omega
  unfold numS
  rw [hk, hk2]
  have e1 : figsL (k + 1) (u :: t) = u.r :: figsL k t := by show (if fitU figR u = true then _ else _) = _; rw [if_pos hu]
  have e2 : figsD (k + 1) (u :: t) = figsD k t := by show (if fitU figR u = true then _ else _) = _; rw [if_pos hu]
  rw [e1, e2, if_neg (by simp), if_neg (by omega)]
  rfl
theorem numS_nil (m : Nat) (n : Int) : numS m n [] = (none, []) := by
  unfold numS
  have e1 : figsL (6 - m) [] = [] := by cases 6 - m <;> rfl
  have e2 : figsD (6 - m) [] = [] := by cases 6 - m <;> rfl
  rw [e1, e2]
  split
  · rfl
  · rfl
theorem figs_stop {m : Nat} {u : U} {t : List U} (h : fitU figR u = false ∨ 6 ≤ m) : figsL (6 - m) (u :: t) = [] ∧ figsD (6 - m) (u :: t) = u :: t := by
  rcases h with h | h
  · cases 6 - m with
    | zero => exact ⟨rfl, rfl⟩
    | succ k =>
      constructor
      · show (if fitU figR u = true then _ else _) = _; rw [if_neg (by rw [h]; simp)]
      · show (if fitU figR u = true then _ else _) = _; rw [if_neg (by rw [h]; simp)]
  · rw [show 6 - m = 0 by omega]; exact ⟨rfl, rfl⟩
theorem numS_end {m : Nat} {n : Int} {u : U} {t : List U} (h : fitU figR u = false ∨ 6 ≤ m) (h0 : 0 < m) (hu : fitU (isC 125) u = true) : numS m n (u :: t) = (some n, t) := by
  obtain ⟨e1, e2⟩ := figs_stop (t := t) h
  unfold numS
  rw [e1, e2, if_neg (by omega), sgn_cons, if_pos hu]
  rfl
theorem numS_stuck {m : Nat} {n : Int} {u : U} {t : List U} (h : fitU figR u = false ∨ 6 ≤ m) (hu : m = 0 ∨ fitU (isC 125) u = false) : numS m n (u :: t) = (none, u :: t) := by
  obtain ⟨e1, e2⟩ := figs_stop (t := t) h
  unfold numS
  rw [e1, e2]
  by_cases h0 : m = 0
  · rw [if_pos ⟨rfl, h0⟩]
  · rw [if_neg (fun q => h0 q.2), sgn_cons, if_neg (by rcases hu with q | q; · omega
                                                       · rw [q]; simp)]

/-- What is told of a letter. -/
def litE (n : Nat) (x : Option Int × List U) : Value := match x.1 with
  | some v => .tuple #[.int .i64 v, .int .i64 ((n - x.2.length : Nat) : Int), .int .i64 0]
  | none => .tuple #[.int .i64 0, .int .i64 ((n - x.2.length : Nat) : Int), .int .i64 (stuckE x.2)]
theorem litE_some {n j : Nat} {x : Int} {r : List U} (h : n - r.length = j) : litE n (some x, r) = .tuple #[.int .i64 x, .int .i64 (j : Int), .int .i64 0] := by unfold litE; rw [h]
theorem litE_none {n j : Nat} {r : List U} (h : n - r.length = j) : litE n (none, r) = .tuple #[.int .i64 0, .int .i64 (j : Int), .int .i64 (stuckE r)] := by unfold litE; rw [h]

theorem drop_len {us : List U} {k : Nat} (h : k ≤ us.length) : us.length - (us.drop k).length = k := by rw [List.length_drop]; omega
/-- A suffix is what is left behind a place. -/
theorem suffix_drop {us r : List U} {k : Nat} (h : r <:+ us.drop k) : us.drop (us.length - r.length) = r ∧ (k ≤ us.length → k ≤ us.length - r.length) ∧ us.length - r.length ≤ us.length := by
  have h2 : r <:+ us := h.trans (List.drop_suffix k us)
  obtain ⟨a, ha⟩ := h2
  have hl := h.length_le
  rw [List.length_drop] at hl
  refine ⟨?_, fun hk => by omega, by omega⟩
  rw [← ha]
  have : (a ++ r).length - r.length = a.length := by rw [List.length_append]; omega
  rw [this, List.drop_left]
end Go.Proofs.YtghogepkmdilaaaGreatDoor
