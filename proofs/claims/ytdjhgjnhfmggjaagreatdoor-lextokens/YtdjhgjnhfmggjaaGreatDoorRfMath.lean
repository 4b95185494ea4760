/-
  Plain mathematics of the document's lexing, beside LxMath: no program is named here.
-/
import Derived.Test.YtdjhgjnhfmggjaaGreatDoorPlMath
namespace Go.Proofs.YtdjhgjnhfmggjaaGreatDoor
open Go.RowKit S1
set_option linter.unusedVariables false

/-- A bad unit has the number 65533. -/
def Okay (us : List U) : Prop := ∀ u ∈ us, (u.bad = true → u.r = 65533) ∧ 0 ≤ u.r ∧ u.r ≤ 1114111
theorem Okay.of_run {zs : List Int} {us : List U} {p q : Nat} (h : Run zs p us q) : Okay us := fun u hu => ⟨run_bad h u hu, run_range h u hu⟩
theorem Okay.drop {us : List U} (h : Okay us) (k : Nat) : Okay (us.drop k) := fun u hu => h u (List.mem_of_mem_drop hu)
theorem Okay.suffix {us r : List U} (h : Okay us) (hs : r <:+ us) : Okay r := fun u hu => h u (hs.subset hu)
theorem fit_eq {u : U} (h : u.bad = true → u.r = 65533) {p : Int → Bool} (hp : p 65533 = false) : fitU p u = p u.r := by
  unfold fitU
  cases hb : u.bad with
  | true => rw [h hb, hp]; rfl
  | false => simp

/-- What a figure tells, or that it is none. -/
def figI (r : Int) : Int := if figR r = true then figV r else -1
theorem figI_yes {r : Int} (h : figR r = true) : figI r = figV r ∧ 0 ≤ figV r ∧ figV r ≤ 15 := by
  refine ⟨by unfold figI; rw [if_pos h], ?_⟩
  simp [figR, decB] at h
  unfold figV
  split <;> omega
theorem figI_no {r : Int} (h : figR r = false) : figI r = -1 := by unfold figI; rw [if_neg (by rw [h]; simp)]

/-- The number in braces, m of whose figures, that make n, are read. -/
def numS (m : Nat) (n : Int) (vs : List U) : Option Int × List U :=
  if (figsL (6 - m) vs).isEmpty = true ∧ m = 0 then (none, vs)
  else match sgn (isC 125) (figsD (6 - m) vs) with
    | (some _, r) => (some ((figsL (6 - m) vs).foldl (fun n c => n * 16 + figV c) n), r)
    | (none, r) => (none, r)
theorem numS_zero (us : List U) : numS 0 0 us = numL us := by
  unfold numS numL
  by_cases h : (figsL 6 us).isEmpty = true
  · rw [if_pos ⟨h, rfl⟩, if_pos h]
  · rw [if_neg (fun q => h q.1), if_neg h]; rfl
theorem numS_step {m : Nat} (hm : m < 6) (n : Int) {u : U} {t : List U} (hu : fitU figR u = true) : numS m n (u :: t) = numS (m + 1) (n * 16 + figV u.r) t := by
  obtain ⟨k, hk⟩ : ∃ k, 6 - m = k + 1 := ⟨5 - m, by omega⟩
  have hk2 : 6 - (m + 1) = k := by omega
  unfold numS
  rw [hk, hk2]
  have e1 : figsL (k + 1) (u :: t) = u.r :: figsL k t := by show (if fitU figR u = true then _ else _) = _; rw [if_pos hu]
  have e2 : figsD (k + 1) (u :: t) = figsD k t := by show (if fitU figR u = true then _ else _) = _; rw [if_pos hu]
  rw [e1, e2, if_neg (by simp), if_neg (by omega)]
  rfl
theorem numS_nil (m : Nat) (n : Int) : numS m n [] = (none, []) := by
  unfold numS
  have e1 : figsL (6 - m) [] = [] := by cases 6 - m <;> rfl
  have e2 : figsD (6 - m) [] = [] := by cases 6 - m <;> rfl
  rw [e1, e2]
  split
  · rfl
  · rfl
theorem figs_stop {m : Nat} {u : U} {t : List U} (h : fitU figR u = false ∨ 6 ≤ m) : figsL (6 - m) (u :: t) = [] ∧ figsD (6 - m) (u :: t) = u :: t := by
  rcases h with h | h
  · cases 6 - m with
    | zero => exact ⟨rfl, rfl⟩
    | succ k =>
      constructor
      · show (if fitU figR u = true then _ else _) = _; rw [if_neg (by rw [h]; simp)]
      · show (if fitU figR u = true then _ else _) = _; rw [if_neg (by rw [h]; simp)]
  · rw [show 6 - m = 0 by omega]; exact ⟨rfl, rfl⟩
theorem numS_end {m : Nat} {n : Int} {u : U} {t : List U} (h : fitU figR u = false ∨ 6 ≤ m) (h0 : 0 < m) (hu : fitU (isC 125) u = true) : numS m n (u :: t) = (some n, t) := by
  obtain ⟨e1, e2⟩ := figs_stop (t := t) h
  unfold numS
  rw [e1, e2, if_neg (by omega), sgn_cons, if_pos hu]
  rfl
theorem numS_stuck {m : Nat} {n : Int} {u : U} {t : List U} (h : fitU figR u = false ∨ 6 ≤ m) (hu : m = 0 ∨ fitU (isC 125) u = false) : numS m n (u :: t) = (none, u :: t) := by
  obtain ⟨e1, e2⟩ := figs_stop (t := t) h
  unfold numS
  rw [e1, e2]
  by_cases h0 : m = 0
  · rw [if_pos ⟨rfl, h0⟩]
  · rw [if_neg (fun q => h0 q.2), sgn_cons, if_neg (by rcases hu with q | q; · omega
                                                       · rw [q]; simp)]

/-- What is told of a letter. -/
def litE (n : Nat) (x : Option Int × List U) : Value := match x.1 with
  | some v => .tuple #[.int .i64 v, .int .i64 ((n - x.2.length : Nat) : Int), .int .i64 0]
  | none => .tuple #[.int .i64 0, .int .i64 ((n - x.2.length : Nat) : Int), .int .i64 (stuckE x.2)]
theorem litE_some {n j : Nat} {x : Int} {r : List U} (h : n - r.length = j) : litE n (some x, r) = .tuple #[.int .i64 x, .int .i64 (j : Int), .int .i64 0] := by unfold litE; rw [h]
theorem litE_none {n j : Nat} {r : List U} (h : n - r.length = j) : litE n (none, r) = .tuple #[.int .i64 0, .int .i64 (j : Int), .int .i64 (stuckE r)] := by unfold litE; rw [h]

theorem drop_len {us : List U} {k : Nat} (h : k ≤ us.length) : us.length - (us.drop k).length = k := by rw [List.length_drop]; omega
/-- A suffix is what is left behind a place. -/
theorem suffix_drop {us r : List U} {k : Nat} (h : r <:+ us.drop k) : us.drop (us.length - r.length) = r ∧ (k ≤ us.length → k ≤ us.length - r.length) ∧ us.length - r.length ≤ us.length := by
  have h2 : r <:+ us := h.trans (List.drop_suffix k us)
  obtain ⟨a, ha⟩ := h2
  have hl := h.length_le
  rw [List.length_drop] at hl
  refine ⟨?_, fun hk => by omega, by omega⟩
  rw [← ha]
  have : (a ++ r).length - r.length = a.length := by rw [List.length_append]; omega
  rw [this, List.drop_left]
end Go.Proofs.YtdjhgjnhfmggjaaGreatDoor
