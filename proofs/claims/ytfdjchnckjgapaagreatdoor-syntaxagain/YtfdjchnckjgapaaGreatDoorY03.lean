/-
  Plain mathematics of lexing: what the units of a text are as tokens; no program is named here. Slices of ranges in memory: what a slice holds, and how it is kept. What utf.size and scansionref01.IsRune answer, for every number.
-/
import Derived.Test.YtfdjchnckjgapaaGreatDoorY00
import Derived.Test.YtfdjchnckjgapaaGreatDoorY02
import Derived.Test.YtfdjchnckjgapaaGreatDoorRows
import Derived.WalkKit
import Derived.WalkSpells
import Derived.OwnWalk
import Derived.Outline
import Derived.Maps.AppendAt
import Derived.Deep.RegionHeld3
import Derived.Deep.AppendLies
import Derived.Laws.Rows
import Derived.Laws.AppendOwnNone
import Derived.RangeFuncBox
import Derived.Deep.QuietTactic
namespace Go.Proofs.YtfdjchnckjgapaaGreatDoor
open Go.RowKit S1
set_option linter.unusedVariables false

/-- The rules for signs. -/
def isC (c : Int) (r : Int) : Bool := r == c
def nameB (r : Int) : Bool := decide (97 ≤ r) && decide (r ≤ 122)
def decB (r : Int) : Bool := decide (48 ≤ r) && decide (r ≤ 57)
def nameR (r : Int) : Bool := nameB r || decB r || r == 95
def figR (r : Int) : Bool := decB r || (decide (65 ≤ r) && decide (r ≤ 70))
def blankR (r : Int) : Bool := r == 32 || r == 9 || r == 13 || r == 10
def noteR (r : Int) : Bool := r != 10
def tokR (r : Int) : Bool := r == 61 || r == 59 || r == 47 || r == 124 || r == 42 || r == 43 || r == 63 || r == 40 || r == 41 || r == 46 || r == 126 || r == 38 || r == 45
def guardR (r : Int) : Bool := r == 91 || r == 93 || r == 45 || r == 92
def plainR (r : Int) : Bool := decide (32 ≤ r) && !guardR r

/-- A unit fits a rule: it is not bad, and its number fits. -/
def fitU (p : Int → Bool) (u : U) : Bool := !u.bad && p u.r

/-- The next sign, if it fits; and what is left. -/
def sgn (p : Int → Bool) : List U → Option Int × List U
  | [] => (none, [])
  | u :: t => if fitU p u = true then (some u.r, t) else (none, u :: t)

/-- What is left behind at most n figures, and these. -/
def figsD : Nat → List U → List U
  | 0, us => us
  | _ + 1, [] => []
  | n + 1, u :: t => if fitU figR u = true then figsD n t else u :: t
def figsL : Nat → List U → List Int
  | 0, _ => []
  | _ + 1, [] => []
  | n + 1, u :: t => if fitU figR u = true then u.r :: figsL n t else []

/-- What a figure tells; the number that figures are. -/
def figV (c : Int) : Int := if c ≤ 57 then c - 48 else c - 55
def hexV (l : List Int) : Int := l.foldl (fun n c => n * 16 + figV c) 0

def numL (us : List U) : Option Int × List U :=
  if (figsL 6 us).isEmpty = true then (none, us)
  else match sgn (isC 125) (figsD 6 us) with
    | (some _, r) => (some (hexV (figsL 6 us)), r)
    | (none, r) => (none, r)

def letL (us : List U) : Option Int × List U :=
  match sgn (isC 92) us with
  | (none, _) => sgn plainR us
  | (some _, a) => match sgn (isC 120) a with
    | (none, _) => sgn guardR a
    | (some _, b) => match sgn (isC 123) b with
      | (none, _) => (none, b)
      | (some _, c) => numL c

def entL (us : List U) : Option Rg × List U :=
  match letL us with
  | (none, r) => (none, r)
  | (some lo, r) => match sgn (isC 45) r with
    | (none, _) => (some ⟨lo, lo⟩, r)
    | (some _, a) => match letL a with
      | (none, b) => (none, b)
      | (some hi, b) => (some ⟨lo, hi⟩, b)

/-- Where the units begin, in a text of n bytes. -/
def atL (n : Nat) : List U → Nat
  | [] => n
  | u :: _ => u.p

/-- What stands there that does not fit: the end, or a sign. -/
def stuckE : List U → Int
  | [] => 7
  | _ :: _ => 6

/-- A set: an error and its place, or the entries and what is left. -/
abbrev SR := (Nat × Int) ⊕ (List Rg × List U)
abbrev SR.bad (a : Nat) (e : Int) : SR := Sum.inl (a, e)
abbrev SR.good (l : List Rg) (r : List U) : SR := Sum.inr (l, r)

/-- The set from behind its bracket on, with the entries that it has already. -/
def setF (n : Nat) : Nat → List U → List Rg → SR
  | 0, _, _ => SR.bad 0 0
  | k + 1, us, acc => match sgn (isC 93) us with
    | (some _, r) => SR.good acc r
    | (none, _) => match entL us with
      | (none, r) => SR.bad (atL n r) (stuckE r)
      | (some e, r) => if (decide (e.hi < e.lo) || decide (1114111 < e.hi)) = true then SR.bad (atL n us) 1 else setF n k r (acc ++ [e])

/-- What is left behind blanks and notes; b: within a note. -/
def blankL : Bool → List U → List U
  | _, [] => []
  | true, u :: t => if u.bad = true then u :: t else if u.r = 10 then blankL false t else blankL true t
  | false, u :: t => if u.bad = true then u :: t else if u.r = 35 then blankL true t else if blankR u.r = true then blankL false t else u :: t

structure Tok where
  k : Int
  p : Nat
  t : List Int
  s : List Rg

/-- A token: an error and its place, or the token and what is left. -/
abbrev OR := (Nat × Int) ⊕ (Tok × List U)
abbrev OR.bad (a : Nat) (e : Int) : OR := Sum.inl (a, e)
abbrev OR.good (t : Tok) (r : List U) : OR := Sum.inr (t, r)

def ofSet (p : Nat) : SR → OR
  | .inl (a, e) => OR.bad a e
  | .inr (l, r) => OR.good ⟨3, p, [], l⟩ r

/-- The token with which the units begin. -/
def tokO (n : Nat) : List U → OR
  | [] => OR.good ⟨4, n, [], []⟩ []
  | u :: t => if fitU nameB u = true then OR.good ⟨1, u.p, u.r :: (t.takeWhile (fitU nameR)).map U.r, []⟩ (t.dropWhile (fitU nameR))
    else if fitU tokR u = true then OR.good ⟨2, u.p, [u.r], []⟩ t
    else if fitU (isC 91) u = true then ofSet u.p (setF n (t.length + 1) t [])
    else OR.bad u.p 6

/-- Tokens: an error and its place, or all of them. -/
abbrev TR := (Nat × Int) ⊕ List Tok
abbrev TR.bad (a : Nat) (e : Int) : TR := Sum.inl (a, e)
abbrev TR.good (l : List Tok) : TR := Sum.inr l

def toksF (n : Nat) : Nat → List U → List Tok → TR
  | 0, _, _ => TR.bad 0 0
  | k + 1, us, acc => match tokO n (blankL false us) with
    | .inl (a, e) => TR.bad a e
    | .inr (t, r) => if t.k = 4 then TR.good (acc ++ [t]) else toksF n k r (acc ++ [t])

/-- The tokens of the units of a text of n bytes. -/
def toksL (n : Nat) (us : List U) : TR := toksF n (us.length + 1) us []

theorem sgn_cons (p : Int → Bool) (u : U) (t : List U) : sgn p (u :: t) = if fitU p u = true then (some u.r, t) else (none, u :: t) := rfl
theorem sgn_some {p : Int → Bool} {us r : List U} {x : Int} (h : sgn p us = (some x, r)) : ∃ u, us = u :: r ∧ fitU p u = true ∧ u.r = x := by
  match us with
  | [] => simp [sgn] at h
  | u :: t =>
    rw [sgn_cons] at h
    split at h
    · rename_i q
      simp only [Prod.mk.injEq, Option.some.injEq] at h
      exact ⟨u, by rw [h.2], q, h.1⟩
    · simp at h
theorem sgn_none {p : Int → Bool} {us r : List U} (h : sgn p us = (none, r)) : r = us ∧ (us = [] ∨ ∃ u t, us = u :: t ∧ fitU p u = false) := by
  match us with
  | [] => simp [sgn] at h; exact ⟨h.symm ▸ rfl, .inl rfl⟩
  | u :: t =>
    rw [sgn_cons] at h
    split at h
    · simp at h
    · rename_i q
      simp only [Prod.mk.injEq, true_and] at h
      exact ⟨h.symm, .inr ⟨u, t, rfl, by simpa using q⟩⟩
theorem sgn_len {p : Int → Bool} {us r : List U} {x : Int} (h : sgn p us = (some x, r)) : r.length + 1 = us.length := by
  obtain ⟨u, rfl, _⟩ := sgn_some h; rfl

theorem figsD_le : ∀ (n : Nat) (us : List U), (figsD n us).length ≤ us.length
  | 0, us => Nat.le_refl _
  | n + 1, [] => Nat.le_refl _
  | n + 1, u :: t => by
    unfold figsD
    split
    · have := figsD_le n t; simp only [List.length_cons]; omega
    · exact Nat.le_refl _

theorem numL_len {us r : List U} {x : Int} (h : numL us = (some x, r)) : r.length < us.length := by
  unfold numL at h
  split at h
  · simp at h
  · split at h
    · rename_i a b c
      have h2 := sgn_len c
      simp only [Prod.mk.injEq] at h
      have := figsD_le 6 us
      rw [← h.2]; omega
    · simp at h
theorem letL_len {us r : List U} {x : Int} (h : letL us = (some x, r)) : r.length < us.length := by
  unfold letL at h
  split at h
  · have := sgn_len h; omega
  · rename_i a c
    have h1 := sgn_len c
    split at h
    · have := sgn_len h; omega
    · rename_i a2 c2
      have h2 := sgn_len c2
      split at h
      · simp at h
      · rename_i a3 c3
        have h3 := sgn_len c3
        have := numL_len h
        omega
theorem entL_len {us r : List U} {x : Rg} (h : entL us = (some x, r)) : r.length < us.length := by
  unfold entL at h
  split at h
  · simp at h
  · rename_i lo a c
    have h1 := letL_len c
    split at h
    · simp only [Prod.mk.injEq] at h
      rw [← h.2]; exact h1
    · rename_i a2 c2
      have h2 := sgn_len c2
      split at h
      · simp at h
      · rename_i hi b c3
        have h3 := letL_len c3
        simp only [Prod.mk.injEq] at h
        rw [← h.2]; omega

/-- One round of a set. -/
theorem setF_end {n k : Nat} {us r : List U} {x : Int} {acc : List Rg} (h : sgn (isC 93) us = (some x, r)) : setF n (k + 1) us acc = SR.good acc r := by
  unfold setF; rw [h]
theorem setF_stuck {n k : Nat} {us r s : List U} {acc : List Rg} (h : sgn (isC 93) us = (none, s)) (h2 : entL us = (none, r)) : setF n (k + 1) us acc = SR.bad (atL n r) (stuckE r) := by
  unfold setF; rw [h]; simp only; rw [h2]
theorem setF_arg {n k : Nat} {us r s : List U} {acc : List Rg} {e : Rg} (h : sgn (isC 93) us = (none, s)) (h2 : entL us = (some e, r)) (h3 : (decide (e.hi < e.lo) || decide (1114111 < e.hi)) = true) : setF n (k + 1) us acc = SR.bad (atL n us) 1 := by
  unfold setF; rw [h]; simp only; rw [h2]; simp only; rw [if_pos h3]
theorem setF_on {n k : Nat} {us r s : List U} {acc : List Rg} {e : Rg} (h : sgn (isC 93) us = (none, s)) (h2 : entL us = (some e, r)) (h3 : (decide (e.hi < e.lo) || decide (1114111 < e.hi)) = false) : setF n (k + 1) us acc = setF n k r (acc ++ [e]) := by
  rw [setF]; rw [h]; simp only; rw [h2]; simp only; rw [h3]; simp

theorem setF_len {n : Nat} : ∀ {k : Nat} {us r : List U} {acc l : List Rg}, setF n k us acc = SR.good l r → r.length < us.length
  | 0, us, r, acc, l, h => by cases h
  | k + 1, us, r, acc, l, h => by
    cases h1 : sgn (isC 93) us with
    | mk o s => cases o with
      | some x => rw [setF_end h1] at h; obtain ⟨e1, e2⟩ := Prod.mk.inj (Sum.inr.inj h); have := sgn_len h1; rw [← e2]; omega
      | none => cases h2 : entL us with
        | mk o2 r2 => cases o2 with
          | none => rw [setF_stuck h1 h2] at h; cases h
          | some e =>
            cases h3 : (decide (e.hi < e.lo) || decide (1114111 < e.hi)) with
            | true => rw [setF_arg h1 h2 h3] at h; cases h
            | false => rw [setF_on h1 h2 h3] at h; have := setF_len h; have := entL_len h2; omega

theorem blankL_le : ∀ (b : Bool) (us : List U), (blankL b us).length ≤ us.length
  | _, [] => by simp [blankL]
  | true, u :: t => by
    unfold blankL
    have h1 := blankL_le true t
    have h2 := blankL_le false t
    repeat' split
    all_goals simp only [List.length_cons]
    all_goals omega
  | false, u :: t => by
    unfold blankL
    have h1 := blankL_le true t
    have h2 := blankL_le false t
    repeat' split
    all_goals simp only [List.length_cons]
    all_goals omega

theorem dropWhile_le (p : U → Bool) : ∀ (l : List U), (l.dropWhile p).length ≤ l.length
  | [] => by simp
  | u :: t => by
    simp only [List.dropWhile_cons]
    have := dropWhile_le p t
    split
    · simp only [List.length_cons]; omega
    · exact Nat.le_refl _

theorem tokO_cons (n : Nat) (u : U) (t : List U) : tokO n (u :: t) = if fitU nameB u = true then OR.good ⟨1, u.p, u.r :: (t.takeWhile (fitU nameR)).map U.r, []⟩ (t.dropWhile (fitU nameR))
    else if fitU tokR u = true then OR.good ⟨2, u.p, [u.r], []⟩ t
    else if fitU (isC 91) u = true then ofSet u.p (setF n (t.length + 1) t [])
    else OR.bad u.p 6 := rfl
theorem tokO_len {n : Nat} {us r : List U} {t : Tok} (h : tokO n us = OR.good t r) : (t.k = 4 ∧ us = [] ∧ t = ⟨4, n, [], []⟩) ∨ (t.k ≠ 4 ∧ r.length < us.length) := by
  match us with
  | [] =>
    left
    have h' : OR.good ⟨4, n, [], []⟩ [] = OR.good t r := h
    obtain ⟨e1, e2⟩ := Prod.mk.inj (Sum.inr.inj h')
    exact ⟨by rw [← e1], rfl, e1.symm⟩
  | u :: t' =>
    right
    rw [tokO_cons] at h
    split at h
    · obtain ⟨e1, e2⟩ := Prod.mk.inj (Sum.inr.inj h)
      refine ⟨by rw [← e1]; exact (by decide : (1 : Int) ≠ 4), ?_⟩
      rw [← e2]
      have := dropWhile_le (fitU nameR) t'
      simp only [List.length_cons]; omega
    · split at h
      · obtain ⟨e1, e2⟩ := Prod.mk.inj (Sum.inr.inj h)
        exact ⟨by rw [← e1]; exact (by decide : (2 : Int) ≠ 4), by rw [← e2]; simp⟩
      · split at h
        · cases h1 : setF n (t'.length + 1) t' [] with
          | inl x => rw [h1] at h; cases h
          | inr x =>
            obtain ⟨l, s⟩ := x
            rw [h1] at h
            have h := Prod.mk.inj (Sum.inr.inj h)
            have := setF_len h1
            exact ⟨by rw [← h.1]; exact (by decide : (3 : Int) ≠ 4), by rw [← h.2]; simp only [List.length_cons]; omega⟩
        · cases h

theorem toksF_bad {n k : Nat} {us : List U} {acc : List Tok} {a : Nat} {e : Int} (h : tokO n (blankL false us) = OR.bad a e) : toksF n (k + 1) us acc = TR.bad a e := by
  unfold toksF; rw [h]
theorem toksF_end {n k : Nat} {us r : List U} {acc : List Tok} {t : Tok} (h : tokO n (blankL false us) = OR.good t r) (h4 : t.k = 4) : toksF n (k + 1) us acc = TR.good (acc ++ [t]) := by
  unfold toksF; rw [h]; simp only; rw [if_pos h4]
theorem toksF_on {n k : Nat} {us r : List U} {acc : List Tok} {t : Tok} (h : tokO n (blankL false us) = OR.good t r) (h4 : t.k ≠ 4) : toksF n (k + 1) us acc = toksF n k r (acc ++ [t]) := by
  rw [toksF]; rw [h]; simp only; rw [if_neg h4]

/-- A unit of one byte: what is below 128, and not bad, is its byte. -/
theorem unit_ascii {zs : List Int} {p : Nat} (hp : p < zs.length) {u : U} (hu : u = unitAt zs p) (hb : u.bad = false) (hr : u.r < 128) : u.w = 1 ∧ u.p = p ∧ zs[p]? = some u.r := by
  have hl : 1 ≤ (zs.drop p).length := by rw [List.length_drop]; omega
  have e := unD_good hl (show (unD (zs.drop p)).bad = false by rw [hu] at hb; exact hb)
  have er : (unD (zs.drop p)).r = u.r := by rw [hu]; rfl
  have ew : (unD (zs.drop p)).w = u.w := by rw [hu]; rfl
  rw [er, ew] at e
  have e1 : encR u.r = [u.r] := by unfold encR; rw [if_pos hr]
  rw [e1] at e
  have hw : u.w = 1 := by
    have h5 := congrArg List.length e.2.1
    have h6 := e.2.2
    rw [List.length_take, List.length_singleton] at h5
    omega
  refine ⟨hw, by rw [hu]; rfl, ?_⟩
  have e2 := e.2.1
  rw [hw, List.drop_eq_getElem_cons hp, List.take_succ_cons] at e2
  injection e2 with e3 e4
  rw [List.getElem?_eq_getElem hp, e3]

theorem run_bad {zs : List Int} : ∀ {us : List U} {p q : Nat}, Run zs p us q → ∀ u ∈ us, u.bad = true → u.r = 65533
  | [], _, _, _, u, h, _ => by cases h
  | v :: us, p, q, hr, u, h, hb => by
    rcases List.mem_cons.1 h with e | e
    · rw [e, hr.2.1] at hb ⊢
      exact (unD_bad hb).1
    · exact run_bad hr.2.2 u e hb
theorem run_range {zs : List Int} : ∀ {us : List U} {p q : Nat}, Run zs p us q → ∀ u ∈ us, 0 ≤ u.r ∧ u.r ≤ 1114111
  | [], _, _, _, u, h => by cases h
  | v :: us, p, q, hr, u, h => by
    rcases List.mem_cons.1 h with e | e
    · rw [e, hr.2.1]; exact unitAt_r hr.1
    · exact run_range hr.2.2 u e
theorem run_at {zs : List Int} {us : List U} {p : Nat} (h : Run zs p us zs.length) : atL zs.length us = p := by
  match us, h with
  | [], h => exact (show p = zs.length from h).symm
  | u :: t, h => show u.p = p; rw [h.2.1]; rfl

/-- Signs of one byte each, taken off the units: their bytes. -/
theorem run_take {zs : List Int} : ∀ {a b : List U} {p q : Nat}, Run zs p (a ++ b) q → (∀ u ∈ a, u.bad = false ∧ u.r < 128) → Run zs (p + a.length) b q ∧ (zs.drop p).take a.length = a.map U.r ∧ p + a.length ≤ zs.length ∨ a = [] ∧ Run zs p b q
  | [], b, p, q, h, _ => .inr ⟨rfl, h⟩
  | u :: a, b, p, q, h, ha => by
    left
    have hu := ha u (by simp)
    obtain ⟨hw, hp, hz⟩ := unit_ascii h.1 h.2.1 hu.1 hu.2
    have h2 : Run zs (p + 1) (a ++ b) q := by have := h.2.2; rw [hw] at this; exact this
    obtain ⟨hlt, hzv⟩ := List.getElem?_eq_some_iff.1 hz
    rcases run_take h2 (fun v hv => ha v (by simp [hv])) with ⟨h3, h4, h5⟩ | ⟨rfl, h3⟩
    · refine ⟨by simp only [List.length_cons]; rw [show p + (a.length + 1) = p + 1 + a.length by omega]; exact h3, ?_, by simp only [List.length_cons]; omega⟩
      rw [List.drop_eq_getElem_cons hlt, List.length_cons, List.take_succ_cons, h4, hzv]
      rfl
    · refine ⟨by simpa using h3, ?_, by simp only [List.length_cons, List.length_nil]; omega⟩
      rw [List.drop_eq_getElem_cons hlt, hzv]
      simp
end Go.Proofs.YtfdjchnckjgapaaGreatDoor

namespace Go.Proofs.YtfdjchnckjgapaaGreatDoor
open Go.RowKit
set_option linter.unusedVariables false

/-- The cells of a range, and of ranges. -/
def cellsR (r : Rg) : List Value := [.int .i64 r.lo, .int .i64 r.hi]
def cellsRs (l : List Rg) : List Value := l.flatMap cellsR
theorem cellsRs_snoc (l : List Rg) (r : Rg) : cellsRs (l ++ [r]) = cellsRs l ++ cellsR r := by simp [cellsRs]
theorem cellsRs_append (l m : List Rg) : cellsRs (l ++ m) = cellsRs l ++ cellsRs m := by simp [cellsRs]
theorem cellsRs_length : ∀ (l : List Rg), (cellsRs l).length = l.length * 2
  | [] => rfl
  | r :: l => by
    have e : cellsRs (r :: l) = cellsR r ++ cellsRs l := rfl
    rw [e, List.length_append, cellsRs_length l]
    simp [cellsR]; omega
theorem cellsRs_at : ∀ (l : List Rg) (i j : Nat) (h : i < l.length), j < 2 → (cellsRs l)[i * 2 + j]? = (cellsR l[i])[j]?
  | u :: us, 0, j, h, hj => by
    have e : cellsRs (u :: us) = cellsR u ++ cellsRs us := rfl
    rw [e, Nat.zero_mul, Nat.zero_add, List.getElem?_append_left (by simpa [cellsR] using hj)]
    rfl
  | u :: us, i + 1, j, h, hj => by
    have e : cellsRs (u :: us) = cellsR u ++ cellsRs us := rfl
    rw [e, List.getElem?_append_right (by simp [cellsR]; omega)]
    have e2 : (i + 1) * 2 + j - (cellsR u).length = i * 2 + j := by simp [cellsR]; omega
    rw [e2, cellsRs_at us i j (by simpa using h) hj]
    rfl
theorem cellsRs_one (l : List Rg) : ∀ u ∈ cellsRs l, u.oneCell' = true := fun u hu => by
  obtain ⟨r, _, h⟩ := List.mem_flatMap.1 hu
  simp [cellsR] at h
  rcases h with rfl | rfl <;> rfl

/-- The slice value v holds the ranges l, in a block below n. -/
def RngAt (n : Nat) (w : World) (v : Value) (l : List Rg) : Prop :=
  ∃ a cap, v = .slice a l.length cap ∧ l.length ≤ cap ∧ ∀ i, (h : i < l.length) → ∃ g off, a = some ⟨g, off, none⟩ ∧ g < n ∧ w.cell? ⟨g, off + i * 2, none⟩ = some (.int .i64 l[i].lo) ∧ w.cell? ⟨g, off + i * 2 + 1, none⟩ = some (.int .i64 l[i].hi)
/-- The slice value v holds the ranges l. -/
abbrev RngIn (w : World) (v : Value) (l : List Rg) : Prop := RngAt w.heap.size w v l

theorem RngAt.below {n : Nat} {w w' : World} {v : Value} {l : List Rg} (h : RngAt n w v l) (hb : Below n w w') : RngAt n w' v l := by
  obtain ⟨a, cap, rfl, hc, hi⟩ := h
  refine ⟨a, cap, rfl, hc, fun i hlt => ?_⟩
  obtain ⟨g, off, rfl, hg, h0, h1⟩ := hi i hlt
  exact ⟨g, off, rfl, hg, (hb.cell (p := ⟨g, off + i * 2, none⟩) hg).trans h0, (hb.cell (p := ⟨g, off + i * 2 + 1, none⟩) hg).trans h1⟩
theorem RngAt.mono {n m : Nat} {w : World} {v : Value} {l : List Rg} (h : RngAt n w v l) (hm : n ≤ m) : RngAt m w v l := by
  obtain ⟨a, cap, rfl, hc, hi⟩ := h
  refine ⟨a, cap, rfl, hc, fun i hlt => ?_⟩
  obtain ⟨g, off, rfl, hg, h0, h1⟩ := hi i hlt
  exact ⟨g, off, rfl, by omega, h0, h1⟩

theorem add_lit' (g j : Nat) : (⟨g, 0, none⟩ : Addr).add j = ⟨g, 0 + j, none⟩ := by unfold Addr.add; split <;> simp_all

theorem rng_of_row {w : World} {base : Nat} {v : Value} {l : List Rg} (h : w.ownsRow base 94 2 v l.length (cellsRs l)) : RngIn w v l := by
  rcases h.2 with ⟨rfl, h0⟩ | ⟨g, cap, cur, rfl, hb, hg, hc, hm, hs, ht⟩
  · exact ⟨none, 0, by rw [h0], by omega, fun i hi => by omega⟩
  · refine ⟨_, cap, rfl, hc, fun i hi => ⟨g, 0, rfl, (Array.getElem?_eq_some_iff.1 hg).1, ?_, ?_⟩⟩
    · have hx := cellsRs_at l i 0 hi (by omega)
      have := h.cells (g := g) rfl (i * 2 + 0) (.int .i64 l[i].lo) (by rw [hx]; rfl)
      rw [add_lit'] at this
      exact this
    · have hx := cellsRs_at l i 1 hi (by omega)
      have := h.cells (g := g) rfl (i * 2 + 1) (.int .i64 l[i].hi) (by rw [hx]; rfl)
      rw [add_lit'] at this
      exact this

theorem RngIn.below {w w' : World} {v : Value} {l : List Rg} (h : RngIn w v l) (hb : Below w.heap.size w w') : RngIn w' v l := (RngAt.below h hb).mono hb.size
theorem RngAt.nil (n : Nat) (w : World) : RngAt n w (.slice none 0 0) [] := ⟨none, 0, rfl, Nat.le_refl _, fun i hi => by cases hi⟩
theorem RngAt.empty {n : Nat} {w : World} (a : Option Addr) (cap : Nat) : RngAt n w (.slice a 0 cap) [] := ⟨a, cap, rfl, Nat.zero_le _, fun i hi => by cases hi⟩

theorem RngAt.tail {n : Nat} {w : World} {g off cap : Nat} {r : Rg} {l : List Rg} (h : RngAt n w (.slice (some ⟨g, off, none⟩) (l.length + 1) cap) (r :: l)) : RngAt n w (.slice (some ⟨g, off + 2, none⟩) l.length (cap - 1)) l := by
  obtain ⟨a, c, e, hc, hi⟩ := h
  obtain ⟨rfl, _, rfl⟩ : some ⟨g, off, none⟩ = a ∧ l.length + 1 = (r :: l).length ∧ cap = c := by simpa using e
  refine ⟨_, _, rfl, by simp at hc; omega, fun i hlt => ?_⟩
  obtain ⟨g', off', e2, hg, h0, h1⟩ := hi (i + 1) (by simpa using hlt)
  obtain ⟨rfl, rfl⟩ : g = g' ∧ off = off' := by simpa using e2
  refine ⟨g, off + 2, rfl, hg, ?_, ?_⟩
  · have : off + 2 + i * 2 = off + (i + 1) * 2 := by omega
    rw [this]; simpa using h0
  · have : off + 2 + i * 2 + 1 = off + (i + 1) * 2 + 1 := by omega
    rw [this]; simpa using h1

theorem ownsRow_below {w w' : World} {base e size n : Nat} {v : Value} {xs : List Value} (h : w.ownsRow base e size v n xs) (hb : Below w.heap.size w w') : w'.ownsRow base e size v n xs :=
  World.ownsRow.kept (row := none) h ⟨hb.os, hb.tape, hb.output, hb.size, fun k hk _ => hb.block k hk⟩ (by cases v.ownBlock <;> simp)
theorem below_drewN' {B : Nat} {a w : World} (h : Below B a w) : ∀ k, Below B a (w.drewN k)
  | 0 => h
  | k + 1 => (below_drewN' h k).drew
theorem ownsRow_drewN {w : World} {base e size n : Nat} {v : Value} {xs : List Value} (h : w.ownsRow base e size v n xs) (k : Nat) : (w.drewN k).ownsRow base e size v n xs :=
  ownsRow_below h (below_drewN' (Below.refl _ _) k)
theorem heap_new' (w : World) (o : Obj) : (w.alloc o).heap[w.heap.size]? = some o := World.alloc_heap_new w o

/-- The last range of a row grows. -/
theorem own_grow {w : World} {base g cap : Nat} {ini : List Rg} {s : Rg} (h : w.ownsRow base 94 2 (.slice (some ⟨g, 0, none⟩) (ini ++ [s]).length cap) (ini ++ [s]).length (cellsRs (ini ++ [s]))) (hi : Int) :
    (w.setCell ⟨g, ini.length * 2 + 1, none⟩ (.int .i64 hi)).ownsRow base 94 2 (.slice (some ⟨g, 0, none⟩) (ini ++ [s]).length cap) (ini ++ [(⟨s.lo, hi⟩ : Rg)]).length (cellsRs (ini ++ [⟨s.lo, hi⟩])) := by
  have hl : (ini ++ [(⟨s.lo, hi⟩ : Rg)]).length = (ini ++ [s]).length := by simp
  refine ⟨by rw [cellsRs_length], .inr ?_⟩
  rcases h.2 with ⟨e, _⟩ | ⟨g', cap', cur, e, hb, hg, hc, hm, hs, ht⟩
  · cases e
  · obtain ⟨rfl, rfl⟩ : g = g' ∧ cap = cap' := by simpa using e
    refine ⟨g, cap, cur.setIfInBounds (ini.length * 2 + 1) (.int .i64 hi), by rw [hl], hb, heap_setCell_same _ _ _ _ _ _ hg, by rw [hl]; exact hc, hm, by simp [hs], ?_⟩
    rw [hl]
    have e1 : (cur.setIfInBounds (ini.length * 2 + 1) (.int .i64 hi)).toList = cur.toList.set (ini.length * 2 + 1) (.int .i64 hi) := by simp
    rw [e1, List.take_set, ht, cellsRs_snoc, cellsRs_snoc, List.set_append_right _ _ (by rw [cellsRs_length]; omega), cellsRs_length]
    have e2 : ini.length * 2 + 1 - ini.length * 2 = 1 := by omega
    rw [e2]
    rfl

theorem Tryz.infoRange : (Tryz.prog.info? 94).map (fun i => (i.zero, i.size, i.bytes)) = some (some (.agg #[.int .i64 0, .int .i64 0]), 2, 16) := by kernel_rfl
theorem Tryz.infoInt : (Tryz.prog.info? 3).map (fun i => (i.zero, i.size, i.bytes)) = some (some (.int .i64 0), 1, 8) := by kernel_rfl
end Go.Proofs.YtfdjchnckjgapaaGreatDoor

namespace Go.Proofs.YtfdjchnckjgapaaGreatDoor.S1
open Go.RowKit
set_option linter.unusedVariables false

theorem size_any (r : Int) (w : World) : Calls Tryz.prog 140 #[.int .i64 r] w fun e w' => e = .returned (.int .i64 (szR r)) ∧ w' = w := by
  by_cases h0 : r < 0
  · go_enter Tryz.func140, Tryz.ntmps140
    go_wp2
    go_ret
    exact ⟨by simp [szR, h0], rfl⟩
  by_cases h1 : 1114111 < r
  · go_enter Tryz.func140, Tryz.ntmps140
    go_wp2
    go_ret
    exact ⟨by simp [szR, h1], rfl⟩
  by_cases h2 : 55296 ≤ r ∧ r ≤ 57343
  · obtain ⟨h2, h3⟩ := h2
    go_enter Tryz.func140, Tryz.ntmps140
    go_wp2
    go_ret
    exact ⟨by simp [szR, h2, h3], rfl⟩
  have e : szR r = if r < 128 then 1 else if r < 2048 then 2 else if r < 65536 then 3 else 4 := by
    unfold szR; rw [if_neg h0, if_neg h1, if_neg h2]
  rw [e]
  clear e
  rcases (show r < 55296 ∨ 57343 < r by omega) with h3 | h3
  all_goals
    clear h2
    go_enter Tryz.func140, Tryz.ntmps140
    go_wp2
    all_goals
      go_ret
      refine ⟨?_, rfl⟩
      repeat' split
      all_goals first | rfl | omega

theorem isRune_any (r : Int) (w : World) : Calls Tryz.prog 148 #[.int .i64 r] w fun e w' => e = .returned (.bool (isR r)) ∧ w' = w := by
  have hd : isR r = decide (0 ≤ r ∧ r ≤ 1114111 ∧ (r < 55296 ∨ 57343 < r)) := rfl
  by_cases h0 : 0 ≤ r
  · by_cases h1 : r ≤ 1114111
    · by_cases h2 : r < 55296
      · have e : isR r = true := by rw [hd]; simp; omega
        rw [e]; clear hd e
        go_enter Tryz.func148, Tryz.ntmps148
        go_wp2
        all_goals
          go_ret
          exact ⟨rfl, rfl⟩
      · by_cases h3 : 57343 < r
        · have e : isR r = true := by rw [hd]; simp; omega
          rw [e]; clear hd e
          go_enter Tryz.func148, Tryz.ntmps148
          go_wp2
          all_goals
            go_ret
            exact ⟨rfl, rfl⟩
        · have e : isR r = false := by rw [hd]; simp; omega
          rw [e]; clear hd e
          go_enter Tryz.func148, Tryz.ntmps148
          go_wp2
          all_goals
            go_ret
            exact ⟨rfl, rfl⟩
    · have e : isR r = false := by rw [hd]; simp; omega
      rw [e]; clear hd e
      go_enter Tryz.func148, Tryz.ntmps148
      go_wp2
      all_goals
        go_ret
        exact ⟨rfl, rfl⟩
  · have e : isR r = false := by rw [hd]; simp; omega
    rw [e]; clear hd e
    go_enter Tryz.func148, Tryz.ntmps148
    go_wp2
    all_goals
      go_ret
      exact ⟨rfl, rfl⟩
end Go.Proofs.YtfdjchnckjgapaaGreatDoor.S1
