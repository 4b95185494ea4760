/-
  LxMath Rdr
-/
import Derived.Test.YtfdjchnckjgapaaGreatDoorX01
import Derived.Test.YtfdjchnckjgapaaGreatDoorX04
import Derived.Test.YtfdjchnckjgapaaGreatDoorX02
import Derived.Maps.RangeWalk
namespace Go.Proofs.YtfdjchnckjgapaaGreatDoor
open Go.RowKit S1
set_option linter.unusedVariables false
def isC (c : Int) (r : Int) : Bool := r == c
def nameB (r : Int) : Bool := decide (97 ≤ r) && decide (r ≤ 122)
def decB (r : Int) : Bool := decide (48 ≤ r) && decide (r ≤ 57)
def nameR (r : Int) : Bool := nameB r || decB r || r == 95
def figR (r : Int) : Bool := decB r || (decide (65 ≤ r) && decide (r ≤ 70))
def blankR (r : Int) : Bool := r == 32 || r == 9 || r == 13 || r == 10
def noteR (r : Int) : Bool := r != 10
def tokR (r : Int) : Bool := r == 61 || r == 59 || r == 47 || r == 124 || r == 42 || r == 43 || r == 63 || r == 40 || r == 41 || r == 46 || r == 126 || r == 38 || r == 45
def guardR (r : Int) : Bool := r == 91 || r == 93 || r == 45 || r == 92
def plainR (r : Int) : Bool := decide (32 ≤ r) && !guardR r
def fitU (p : Int → Bool) (u : U) : Bool := !u.bad && p u.r
def sgn (p : Int → Bool) : List U → Option Int × List U
  | [] => (none, [])
  | u :: t => if fitU p u = true then (some u.r, t) else (none, u :: t)
def figsD : Nat → List U → List U
  | 0, us => us
  | _ + 1, [] => []
  | n + 1, u :: t => if fitU figR u = true then figsD n t else u :: t
def figsL : Nat → List U → List Int
  | 0, _ => []
  | _ + 1, [] => []
  | n + 1, u :: t => if fitU figR u = true then u.r :: figsL n t else []
def figV (c : Int) : Int := if c ≤ 57 then c - 48 else c - 55
def hexV (l : List Int) : Int := l.foldl (fun n c => n * 16 + figV c) 0
def numL (us : List U) : Option Int × List U :=
  if (figsL 6 us).isEmpty = true then (none, us)
  else match sgn (isC 125) (figsD 6 us) with
    | (some _, r) => (some (hexV (figsL 6 us)), r)
    | (none, r) => (none, r)
def letL (us : List U) : Option Int × List U :=
  match sgn (isC 92) us with
  | (none, _) => sgn plainR us
  | (some _, a) => match sgn (isC 120) a with
    | (none, _) => sgn guardR a
    | (some _, b) => match sgn (isC 123) b with
      | (none, _) => (none, b)
      | (some _, c) => numL c
def entL (us : List U) : Option Rg × List U :=
  match letL us with
  | (none, r) => (none, r)
  | (some lo, r) => match sgn (isC 45) r with
    | (none, _) => (some ⟨lo, lo⟩, r)
    | (some _, a) => match letL a with
      | (none, b) => (none, b)
      | (some hi, b) => (some ⟨lo, hi⟩, b)
def atL (n : Nat) : List U → Nat
  | [] => n
  | u :: _ => u.p
def stuckE : List U → Int
  | [] => 7
  | _ :: _ => 6
abbrev SR := (Nat × Int) ⊕ (List Rg × List U)
abbrev SR.bad (a : Nat) (e : Int) : SR := Sum.inl (a, e)
abbrev SR.good (l : List Rg) (r : List U) : SR := Sum.inr (l, r)
def setF (n : Nat) : Nat → List U → List Rg → SR
  | 0, _, _ => SR.bad 0 0
  | k + 1, us, acc => match sgn (isC 93) us with
    | (some _, r) => SR.good acc r
    | (none, _) => match entL us with
      | (none, r) => SR.bad (atL n r) (stuckE r)
      | (some e, r) => if (decide (e.hi < e.lo) || decide (1114111 < e.hi)) = true then SR.bad (atL n us) 1 else setF n k r (acc ++ [e])
def blankL : Bool → List U → List U
  | _, [] => []
  | true, u :: t => if u.bad = true then u :: t else if u.r = 10 then blankL false t else blankL true t
  | false, u :: t => if u.bad = true then u :: t else if u.r = 35 then blankL true t else if blankR u.r = true then blankL false t else u :: t
structure Tok where
  k : Int
  p : Nat
  t : List Int
  s : List Rg
abbrev OR := (Nat × Int) ⊕ (Tok × List U)
abbrev OR.bad (a : Nat) (e : Int) : OR := Sum.inl (a, e)
abbrev OR.good (t : Tok) (r : List U) : OR := Sum.inr (t, r)
def ofSet (p : Nat) : SR → OR
  | .inl (a, e) => OR.bad a e
  | .inr (l, r) => OR.good ⟨3, p, [], l⟩ r
def tokO (n : Nat) : List U → OR
  | [] => OR.good ⟨4, n, [], []⟩ []
  | u :: t => if fitU nameB u = true then OR.good ⟨1, u.p, u.r :: (t.takeWhile (fitU nameR)).map U.r, []⟩ (t.dropWhile (fitU nameR))
    else if fitU tokR u = true then OR.good ⟨2, u.p, [u.r], []⟩ t
    else if fitU (isC 91) u = true then ofSet u.p (setF n (t.length + 1) t [])
    else OR.bad u.p 6
abbrev TR := (Nat × Int) ⊕ List Tok
abbrev TR.bad (a : Nat) (e : Int) : TR := Sum.inl (a, e)
abbrev TR.good (l : List Tok) : TR := Sum.inr l
def toksF (n : Nat) : Nat → List U → List Tok → TR
  | 0, _, _ => TR.bad 0 0
  | k + 1, us, acc => match tokO n (blankL false us) with
    | .inl (a, e) => TR.bad a e
    | .inr (t, r) => if t.k = 4 then TR.good (acc ++ [t]) else toksF n k r (acc ++ [t])
def toksL (n : Nat) (us : List U) : TR := toksF n (us.length + 1) us []
theorem sgn_cons (p : Int → Bool) (u : U) (t : List U) : sgn p (u :: t) = if fitU p u = true then (some u.r, t) else (none, u :: t) := rfl
theorem sgn_some {p : Int → Bool} {us r : List U} {x : Int} (h : sgn p us = (some x, r)) : ∃ u, us = u :: r ∧ fitU p u = true ∧ u.r = x := by
  match us with
  | [] => simp [sgn] at h
  | u :: t =>
    rw [sgn_cons] at h
    split at h
    · rename_i q
      simp only [Prod.mk.injEq, Option.some.injEq] at h
      exact ⟨u, by rw [h.2], q, h.1⟩
    · simp at h
theorem sgn_none {p : Int → Bool} {us r : List U} (h : sgn p us = (none, r)) : r = us ∧ (us = [] ∨ ∃ u t, us = u :: t ∧ fitU p u = false) := by
  match us with
  | [] => simp [sgn] at h; exact ⟨h.symm ▸ rfl, .inl rfl⟩
  | u :: t =>
    rw [sgn_cons] at h
    split at h
    · simp at h
    · rename_i q
      simp only [Prod.mk.injEq, true_and] at h
      exact ⟨h.symm, .inr ⟨u, t, rfl, by simpa using q⟩⟩
theorem sgn_len {p : Int → Bool} {us r : List U} {x : Int} (h : sgn p us = (some x, r)) : r.length + 1 = us.length := by
  obtain ⟨u, rfl, _⟩ := sgn_some h; rfl
theorem figsD_le : ∀ (n : Nat) (us : List U), (figsD n us).length ≤ us.length
  | 0, us => Nat.le_refl _
  | n + 1, [] => Nat.le_refl _
  | n + 1, u :: t => by
    unfold figsD
    split
    · have := figsD_le n t; simp only [List.length_cons]; omega
    · exact Nat.le_refl _
theorem numL_len {us r : List U} {x : Int} (h : numL us = (some x, r)) : r.length < us.length := by
  unfold numL at h
  split at h
  · simp at h
  · split at h
    · rename_i a b c
      have h2 := sgn_len c
      simp only [Prod.mk.injEq] at h
      have := figsD_le 6 us
      rw [← h.2]; omega
    · simp at h
theorem letL_len {us r : List U} {x : Int} (h : letL us = (some x, r)) : r.length < us.length := by
  unfold letL at h
  split at h
  · have := sgn_len h; omega
  · rename_i a c
    have h1 := sgn_len c
    split at h
    · have := sgn_len h; omega
    · rename_i a2 c2
      have h2 := sgn_len c2
      split at h
      · simp at h
      · rename_i a3 c3
        have h3 := sgn_len c3
        have := numL_len h
        omega
theorem entL_len {us r : List U} {x : Rg} (h : entL us = (some x, r)) : r.length < us.length := by
  unfold entL at h
  split at h
  · simp at h
  · rename_i lo a c
    have h1 := letL_len c
    split at h
    · simp only [Prod.mk.injEq] at h
      rw [← h.2]; exact h1
    · rename_i a2 c2
      have h2 := sgn_len c2
      split at h
      · simp at h
      · rename_i hi b c3
        have h3 := letL_len c3
        simp only [Prod.mk.injEq] at h
        rw [← h.2]; omega
theorem setF_end {n k : Nat} {us r : List U} {x : Int} {acc : List Rg} (h : sgn (isC 93) us = (some x, r)) : setF n (k + 1) us acc = SR.good acc r := by
  unfold setF; rw [h]
theorem setF_stuck {n k : Nat} {us r s : List U} {acc : List Rg} (h : sgn (isC 93) us = (none, s)) (h2 : entL us = (none, r)) : setF n (k + 1) us acc = SR.bad (atL n r) (stuckE r) := by
  unfold setF; rw [h]; simp only; rw [h2]
theorem setF_arg {n k : Nat} {us r s : List U} {acc : List Rg} {e : Rg} (h : sgn (isC 93) us = (none, s)) (h2 : entL us = (some e, r)) (h3 : (decide (e.hi < e.lo) || decide (1114111 < e.hi)) = true) : setF n (k + 1) us acc = SR.bad (atL n us) 1 := by
  unfold setF; rw [h]; simp only; rw [h2]; simp only; rw [if_pos h3]
theorem setF_on {n k : Nat} {us r s : List U} {acc : List Rg} {e : Rg} (h : sgn (isC 93) us = (none, s)) (h2 : entL us = (some e, r)) (h3 : (decide (e.hi < e.lo) || decide (1114111 < e.hi)) = false) : setF n (k + 1) us acc = setF n k r (acc ++ [e]) := by
  rw [setF]; rw [h]; simp only; rw [h2]; simp only; rw [h3]; simp
theorem setF_len {n : Nat} : ∀ {k : Nat} {us r : List U} {acc l : List Rg}, setF n k us acc = SR.good l r → r.length < us.length
  | 0, us, r, acc, l, h => by cases h
  | k + 1, us, r, acc, l, h => by
    cases h1 : sgn (isC 93) us with
    | mk o s => cases o with
      | some x => rw [setF_end h1] at h; obtain ⟨e1, e2⟩ := Prod.mk.inj (Sum.inr.inj h); have := sgn_len h1; rw [← e2]; omega
      | none => cases h2 : entL us with
        | mk o2 r2 => cases o2 with
          | none => rw [setF_stuck h1 h2] at h; cases h
          | some e =>
            cases h3 : (decide (e.hi < e.lo) || decide (1114111 < e.hi)) with
            | true => rw [setF_arg h1 h2 h3] at h; cases h
            | false => rw [setF_on h1 h2 h3] at h; have := setF_len h; have := entL_len h2; omega
theorem blankL_le : ∀ (b : Bool) (us : List U), (blankL b us).length ≤ us.length
  | _, [] => by simp [blankL]
  | true, u :: t => by
    unfold blankL
    have h1 := blankL_le true t
    have h2 := blankL_le false t
    repeat' split
    all_goals simp only [List.length_cons]
    all_goals omega
  | false, u :: t => by
    unfold blankL
    have h1 := blankL_le true t
    have h2 := blankL_le false t
    repeat' split
    all_goals simp only [List.length_cons]
    all_goals omega
theorem dropWhile_le (p : U → Bool) : ∀ (l : List U), (l.dropWhile p).length ≤ l.length
  | [] => by simp
  | u :: t => by
    simp only [List.dropWhile_cons]
    have := dropWhile_le p t
    split
    · simp only [List.length_cons]; omega
    · exact Nat.le_refl _
theorem tokO_cons (n : Nat) (u : U) (t : List U) : tokO n (u :: t) = if fitU nameB u = true then OR.good ⟨1, u.p, u.r :: (t.takeWhile (fitU nameR)).map U.r, []⟩ (t.dropWhile (fitU nameR))
    else if fitU tokR u = true then OR.good ⟨2, u.p, [u.r], []⟩ t
    else if fitU (isC 91) u = true then ofSet u.p (setF n (t.length + 1) t [])
    else OR.bad u.p 6 := rfl
theorem tokO_len {n : Nat} {us r : List U} {t : Tok} (h : tokO n us = OR.good t r) : (t.k = 4 ∧ us = [] ∧ t = ⟨4, n, [], []⟩) ∨ (t.k ≠ 4 ∧ r.length < us.length) := by
  match us with
  | [] =>
    left
    have h' : OR.good ⟨4, n, [], []⟩ [] = OR.good t r := h
    obtain ⟨e1, e2⟩ := Prod.mk.inj (Sum.inr.inj h')
    exact ⟨by rw [← e1], rfl, e1.symm⟩
  | u :: t' =>
    right
    rw [tokO_cons] at h
    split at h
    · obtain ⟨e1, e2⟩ := Prod.mk.inj (Sum.inr.inj h)
      refine ⟨by rw [← e1]; exact (by decide : (1 : Int) ≠ 4), ?_⟩
      rw [← e2]
      have := dropWhile_le (fitU nameR) t'
      simp only [List.length_cons]; omega
    · split at h
      · obtain ⟨e1, e2⟩ := Prod.mk.inj (Sum.inr.inj h)
        exact ⟨by rw [← e1]; exact (by decide : (2 : Int) ≠ 4), by rw [← e2]; simp⟩
      · split at h
        · cases h1 : setF n (t'.length + 1) t' [] with
          | inl x => rw [h1] at h; cases h
          | inr x =>
            obtain ⟨l, s⟩ := x
            rw [h1] at h
            have h := Prod.mk.inj (Sum.inr.inj h)
            have := setF_len h1
            exact ⟨by rw [← h.1]; exact (by decide : (3 : Int) ≠ 4), by rw [← h.2]; simp only [List.length_cons]; omega⟩
        · cases h
theorem toksF_bad {n k : Nat} {us : List U} {acc : List Tok} {a : Nat} {e : Int} (h : tokO n (blankL false us) = OR.bad a e) : toksF n (k + 1) us acc = TR.bad a e := by
  unfold toksF; rw [h]
theorem toksF_end {n k : Nat} {us r : List U} {acc : List Tok} {t : Tok} (h : tokO n (blankL false us) = OR.good t r) (h4 : t.k = 4) : toksF n (k + 1) us acc = TR.good (acc ++ [t]) := by
  unfold toksF; rw [h]; simp only; rw [if_pos h4]
theorem toksF_on {n k : Nat} {us r : List U} {acc : List Tok} {t : Tok} (h : tokO n (blankL false us) = OR.good t r) (h4 : t.k ≠ 4) : toksF n (k + 1) us acc = toksF n k r (acc ++ [t]) := by
  rw [toksF]; rw [h]; simp only; rw [if_neg h4]
theorem unit_ascii {zs : List Int} {p : Nat} (hp : p < zs.length) {u : U} (hu : u = unitAt zs p) (hb : u.bad = false) (hr : u.r < 128) : u.w = 1 ∧ u.p = p ∧ zs[p]? = some u.r := by
  have hl : 1 ≤ (zs.drop p).length := by rw [List.length_drop]; omega
  have e := unD_good hl (show (unD (zs.drop p)).bad = false by rw [hu] at hb; exact hb)
  have er : (unD (zs.drop p)).r = u.r := by rw [hu]; rfl
  have ew : (unD (zs.drop p)).w = u.w := by rw [hu]; rfl
  rw [er, ew] at e
  have e1 : encR u.r = [u.r] := by unfold encR; rw [if_pos hr]
  rw [e1] at e
  have hw : u.w = 1 := by
    have h5 := congrArg List.length e.2.1
    have h6 := e.2.2
    rw [List.length_take, List.length_singleton] at h5
    omega
  refine ⟨hw, by rw [hu]; rfl, ?_⟩
  have e2 := e.2.1
  rw [hw, List.drop_eq_getElem_cons hp, List.take_succ_cons] at e2
  injection e2 with e3 e4
  rw [List.getElem?_eq_getElem hp, e3]
theorem run_range {zs : List Int} : ∀ {us : List U} {p q : Nat}, Run zs p us q → ∀ u ∈ us, 0 ≤ u.r ∧ u.r ≤ 1114111
  | [], _, _, _, u, h => by cases h
  | v :: us, p, q, hr, u, h => by
    rcases List.mem_cons.1 h with e | e
    · rw [e, hr.2.1]; exact unitAt_r hr.1
    · exact run_range hr.2.2 u e
theorem run_at {zs : List Int} {us : List U} {p : Nat} (h : Run zs p us zs.length) : atL zs.length us = p := by
  match us, h with
  | [], h => exact (show p = zs.length from h).symm
  | u :: t, h => show u.p = p; rw [h.2.1]; rfl
theorem run_take {zs : List Int} : ∀ {a b : List U} {p q : Nat}, Run zs p (a ++ b) q → (∀ u ∈ a, u.bad = false ∧ u.r < 128) → Run zs (p + a.length) b q ∧ (zs.drop p).take a.length = a.map U.r ∧ p + a.length ≤ zs.length ∨ a = [] ∧ Run zs p b q
  | [], b, p, q, h, _ => .inr ⟨rfl, h⟩
  | u :: a, b, p, q, h, ha => by
    left
    have hu := ha u (by simp)
    obtain ⟨hw, hp, hz⟩ := unit_ascii h.1 h.2.1 hu.1 hu.2
    have h2 : Run zs (p + 1) (a ++ b) q := by have := h.2.2; rw [hw] at this; exact this
    obtain ⟨hlt, hzv⟩ := List.getElem?_eq_some_iff.1 hz
    rcases run_take h2 (fun v hv => ha v (by simp [hv])) with ⟨h3, h4, h5⟩ | ⟨rfl, h3⟩
    · refine ⟨by simp only [List.length_cons]; rw [show p + (a.length + 1) = p + 1 + a.length by omega]; exact h3, ?_, by simp only [List.length_cons]; omega⟩
      rw [List.drop_eq_getElem_cons hlt, List.length_cons, List.take_succ_cons, h4, hzv]
      rfl
    · refine ⟨by simpa using h3, ?_, by simp only [List.length_cons, List.length_nil]; omega⟩
      rw [List.drop_eq_getElem_cons hlt, hzv]
      simp
end Go.Proofs.YtfdjchnckjgapaaGreatDoor

namespace Go.Proofs.YtfdjchnckjgapaaGreatDoor
open Go.RowKit S1
set_option linter.unusedVariables false
def UniAt (R : Nat) (w : World) (v : Value) (us : List U) : Prop :=
  ∃ a cap, v = .slice a us.length cap ∧ us.length ≤ cap ∧ ∀ i, (h : i < us.length) → ∃ g off, a = some ⟨g, off, none⟩ ∧ g < R ∧
    w.cell? ⟨g, off + i * 4, none⟩ = some (.int .i64 us[i].r) ∧ w.cell? ⟨g, off + i * 4 + 1, none⟩ = some (.int .i64 (us[i].p : Int)) ∧ w.cell? ⟨g, off + i * 4 + 3, none⟩ = some (.bool us[i].bad)
def TxtAt (R : Nat) (w : World) (v : Value) (zs : List Int) : Prop :=
  ∃ a cap, v = .slice a zs.length cap ∧ zs.length ≤ cap ∧ ∀ i, (h : i < zs.length) → ∃ g off, a = some ⟨g, off, none⟩ ∧ g < R ∧ w.cell? ⟨g, off + i, none⟩ = some (.int .u8 zs[i])
theorem UniAt.grown {R : Nat} {w w' : World} {v : Value} {us : List U} (h : UniAt R w v us) (hg : w.grownBy w' (some R)) : UniAt R w' v us := by
  obtain ⟨a, cap, rfl, hc, hi⟩ := h
  refine ⟨a, cap, rfl, hc, fun i hlt => ?_⟩
  obtain ⟨g, off, rfl, hgl, h0, h1, h3⟩ := hi i hlt
  exact ⟨g, off, rfl, hgl, hg.cell h0 (by simp; omega), hg.cell h1 (by simp; omega), hg.cell h3 (by simp; omega)⟩
theorem TxtAt.grown {R : Nat} {w w' : World} {v : Value} {zs : List Int} (h : TxtAt R w v zs) (hg : w.grownBy w' (some R)) : TxtAt R w' v zs := by
  obtain ⟨a, cap, rfl, hc, hi⟩ := h
  refine ⟨a, cap, rfl, hc, fun i hlt => ?_⟩
  obtain ⟨g, off, rfl, hgl, h0⟩ := hi i hlt
  exact ⟨g, off, rfl, hgl, hg.cell h0 (by simp; omega)⟩
def SynV (w : World) : Prop := ∃ te pe, w.cell? ⟨7, 0, none⟩ = some (.iface te pe)
theorem SynV.lt {w : World} (h : SynV w) : 7 < w.heap.size := by
  obtain ⟨te, pe, h⟩ := h
  rcases Nat.lt_or_ge 7 w.heap.size with q | q
  · exact q
  · simp [World.cell?, Array.getElem?_eq_none q] at h
theorem SynV.grown {w w' : World} {row : Option Nat} (h : SynV w) (hg : w.grownBy w' row) (hr : some 7 ≠ row) : SynV w' := by
  obtain ⟨te, pe, h⟩ := h
  exact ⟨te, pe, hg.cell h hr⟩
def Rd (w : World) (R : Nat) (tv : Value) (us : List U) : Prop :=
  ∃ uv, w.cell? ⟨R, 0, none⟩ = some tv ∧ w.cell? ⟨R, 1, none⟩ = some uv ∧ w.frozen? ⟨R, 1, none⟩ = false ∧ R < w.heap.size ∧ (SynV w ∧ 7 < R) ∧ UniAt R w uv us
theorem Rd.kept {w w' : World} {R : Nat} {tv : Value} {us : List U} (h : Rd w R tv us) (hg : w.grownBy w' none) : Rd w' R tv us := by
  obtain ⟨uv, h0, h1, hf, hl, hsv, hu⟩ := h
  refine ⟨uv, hg.cell h0 (by simp), hg.cell h1 (by simp), ?_, Nat.lt_of_lt_of_le hl hg.size, ⟨hsv.1.grown hg (by simp), hsv.2⟩, hu.grown (hg.but _)⟩
  rw [← hf]
  exact World.frozen?_of_block (a := ⟨R, 1, none⟩) (hg.block R hl (by simp))
theorem Rd.alloc {w : World} {R : Nat} {tv : Value} {us : List U} (h : Rd w R tv us) (o : Obj) : Rd (w.alloc o) R tv us := h.kept (World.grownBy_alloc w o none)
theorem grownR_below {w w' : World} (h : Below w.heap.size w w') (row : Option Nat) : w.grownBy w' row := ⟨h.os, h.tape, h.output, h.size, fun k hk _ => h.block k hk⟩
theorem grownR_set (w : World) (R i : Nat) (v : Value) : w.grownBy (w.setCell ⟨R, i, none⟩ v) (some R) :=
  ⟨rfl, rfl, rfl, by simp [World.setCell], fun k _ hne => Below.heap_setCell w ⟨R, i, none⟩ v k (by simpa using hne)⟩
theorem grownR_drew {a w : World} {row : Option Nat} (h : a.grownBy w row) : a.grownBy w.drew row := ⟨h.os, h.tape, h.output, h.size, h.block⟩
theorem grownR_drewN {a w : World} {row : Option Nat} (h : a.grownBy w row) : ∀ k, a.grownBy (w.drewN k) row
  | 0 => h
  | k + 1 => grownR_drew (grownR_drewN h k)
theorem UniAt.tail {R : Nat} {w : World} {g off cap : Nat} {u : U} {t : List U} (h : UniAt R w (.slice (some ⟨g, off, none⟩) (t.length + 1) cap) (u :: t)) (a' : Option Addr) (ha : t.length ≠ 0 → a' = some ⟨g, off + 4, none⟩) : UniAt R w (.slice a' t.length (cap - 1)) t := by
  obtain ⟨a, c, e, hc, hi⟩ := h
  obtain ⟨rfl, _, rfl⟩ : some ⟨g, off, none⟩ = a ∧ t.length + 1 = (u :: t).length ∧ cap = c := by simpa using e
  refine ⟨a', _, rfl, by simp at hc; omega, fun i hlt => ?_⟩
  obtain ⟨g', off', e2, hg, h0, h1, h3⟩ := hi (i + 1) (by simpa using hlt)
  obtain ⟨rfl, rfl⟩ : g = g' ∧ off = off' := by simpa using e2
  have q : off + 4 + i * 4 = off + (i + 1) * 4 := by omega
  refine ⟨g, off + 4, ha (by omega), hg, ?_, ?_, ?_⟩
  · rw [q]; simpa using h0
  · rw [q]; simpa using h1
  · rw [q]; simpa using h3
theorem UniAt.tail' {R : Nat} {w : World} {g off cap : Nat} {u : U} {t : List U} (h : UniAt R w (.slice (some ⟨g, off, none⟩) (t.length + 1) cap) (u :: t)) (a' : Option Addr) (c' : Nat) (ha : t.length ≠ 0 → a' = some ⟨g, off + 4, none⟩ ∧ c' = cap - 1) : UniAt R w (.slice a' t.length c') t := by
  by_cases q : t.length = 0
  · exact ⟨a', c', rfl, by omega, fun i hi => by omega⟩
  · obtain ⟨e1, e2⟩ := ha q
    rw [e2]
    exact h.tail a' (fun _ => e1)
theorem Rd.took {w : World} {R : Nat} {tv : Value} {u : U} {t : List U} (h : Rd w R tv (u :: t)) (v : Value) (hv : UniAt R w v t) : Rd (w.setCell ⟨R, 1, none⟩ v) R tv t := by
  obtain ⟨uv, h0, h1, hf, hl, hsv, hu⟩ := h
  refine ⟨v, ?_, ?_, ?_, by simpa [World.setCell] using hl, ⟨hsv.1.grown (grownR_set w R 1 v) (by simp; omega), hsv.2⟩, hv.grown (grownR_set w R 1 v)⟩
  · exact (World.cell?_setCell_other w ⟨R, 1, none⟩ ⟨R, 0, none⟩ v (by simp)).trans h0
  · exact World.cell?_setCell_same' w ⟨R, 1, none⟩ v (by rw [h1]; rfl)
  · rw [World.frozen?_setCell]; exact hf
theorem Rd.set {w : World} {B R : Nat} {tv : Value} {us : List U} (h : Rd w R tv us) (hB : R < B) (i : Nat) (v : Value) : Rd (w.setCell ⟨B, i, none⟩ v) R tv us := by
  obtain ⟨uv, h0, h1, hf, hl, hsv, hu⟩ := h
  have hg := grownR_set w B i v
  refine ⟨uv, hg.cell h0 (by simp; omega), hg.cell h1 (by simp; omega), by rw [World.frozen?_setCell]; exact hf, by simpa [World.setCell] using hl, ⟨hsv.1.grown hg (by simp; omega), hsv.2⟩, ?_⟩
  obtain ⟨a, cap, rfl, hc, hi⟩ := hu
  refine ⟨a, cap, rfl, hc, fun j hlt => ?_⟩
  obtain ⟨g, off, rfl, hgl, d0, d1, d3⟩ := hi j hlt
  exact ⟨g, off, rfl, hgl, hg.cell d0 (by simp; omega), hg.cell d1 (by simp; omega), hg.cell d3 (by simp; omega)⟩
theorem TxtAt.set {w : World} {B R : Nat} {tv : Value} {zs : List Int} (h : TxtAt R w tv zs) (hB : R < B) (i : Nat) (v : Value) : TxtAt R (w.setCell ⟨B, i, none⟩ v) tv zs := by
  have hg := grownR_set w B i v
  obtain ⟨a, cap, rfl, hc, hi⟩ := h
  refine ⟨a, cap, rfl, hc, fun j hlt => ?_⟩
  obtain ⟨g, off, rfl, hgl, d0⟩ := hi j hlt
  exact ⟨g, off, rfl, hgl, hg.cell d0 (by simp; omega)⟩
theorem Rd.cons {w : World} {R : Nat} {tv : Value} {u : U} {t : List U} (h : Rd w R tv (u :: t)) : ∃ g off cap, w.cell? ⟨R, 1, none⟩ = some (.slice (some ⟨g, off, none⟩) (t.length + 1) cap) ∧ t.length + 1 ≤ cap ∧ w.frozen? ⟨R, 1, none⟩ = false ∧ R < w.heap.size ∧ g ≠ R ∧ g < w.heap.size ∧
    w.cell? ⟨g, off, none⟩ = some (.int .i64 u.r) ∧ w.cell? ⟨g, off + 1, none⟩ = some (.int .i64 (u.p : Int)) ∧ w.cell? ⟨g, off + 3, none⟩ = some (.bool u.bad) ∧ UniAt R w (.slice (some ⟨g, off, none⟩) (t.length + 1) cap) (u :: t) := by
  obtain ⟨uv, h0, h1, hf, hl, hsv, hu⟩ := h
  have hu' := hu
  obtain ⟨a, cap, rfl, hc, hi⟩ := hu
  obtain ⟨g, off, rfl, hg, d0, d1, d3⟩ := hi 0 (by simp)
  exact ⟨g, off, cap, h1, by simpa using hc, hf, hl, by omega, by omega, by simpa using d0, by simpa using d1, by simpa using d3, hu'⟩
theorem Rd.nil {w : World} {R : Nat} {tv : Value} (h : Rd w R tv []) : ∃ a cap, w.cell? ⟨R, 1, none⟩ = some (.slice a 0 cap) ∧ w.cell? ⟨R, 0, none⟩ = some tv ∧ R < w.heap.size := by
  obtain ⟨uv, h0, h1, hf, hl, hsv, hu⟩ := h
  obtain ⟨a, cap, rfl, hc, hi⟩ := hu
  exact ⟨a, cap, h1, h0, hl⟩
theorem Rd.text {w : World} {R : Nat} {tv : Value} {us : List U} (h : Rd w R tv us) : w.cell? ⟨R, 0, none⟩ = some tv ∧ R < w.heap.size := by
  obtain ⟨uv, h0, h1, hf, hl, hsv, hu⟩ := h
  exact ⟨h0, hl⟩
theorem Rd.syn {w : World} {R : Nat} {tv : Value} {us : List U} (h : Rd w R tv us) : SynV w ∧ 7 < R := by
  obtain ⟨uv, h0, h1, hf, hl, hsv, hu⟩ := h
  exact hsv
def leftN (w : World) (R : Nat) : Nat := match w.cell? ⟨R, 1, none⟩ with
  | some (.slice _ n _) => n
  | _ => 0
theorem Rd.left {w : World} {R : Nat} {tv : Value} {us : List U} (h : Rd w R tv us) : leftN w R = us.length := by
  obtain ⟨uv, h0, h1, hf, hl, hsv, a, cap, rfl, hu⟩ := h
  unfold leftN
  rw [h1]
end Go.Proofs.YtfdjchnckjgapaaGreatDoor
