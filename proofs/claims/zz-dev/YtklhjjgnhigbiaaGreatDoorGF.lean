/-
  The states of an automaton, met one behind the other. Plain mathematics. The states of an automaton, from the first one on. Plain mathematics.
-/
import Derived.Test.YtklhjjgnhigbiaaGreatDoorSbTake
import Derived.Test.YtklhjjgnhigbiaaGreatDoorGK
namespace Go.Proofs.YtklhjjgnhigbiaaGreatDoor
open Go.RowKit
set_option linter.unusedVariables false

def anyS : Nat := 18446744073709551615
/-- Where one stands behind a sign; free: a word may begin, too. -/
def nxt (d : AutD) (free : Bool) (at' : List Nat) (m : Nat) : List Nat := preF free ++ stepL d at' m
theorem tk_any {d : AutD} (h : OkA d) {y : Nat} (h0 : 0 < y) (h1 : y ≤ d.sets.length) : tkP d anyS y = true := by
  unfold tkP
  have hi : y - 1 < d.sets.length := by omega
  rw [List.getD_eq_getElem?_getD, List.getElem?_eq_getElem hi]
  simp only [Option.getD_some]
  have hs := h.s64 _ (List.getElem_mem hi)
  rw [decide_eq_true h0, Bool.true_and]
  have key : ∀ k : Fin 64, anyS.testBit k.val = true := by decide
  exact key ⟨(d.sets[y - 1]).toNat, by omega⟩
theorem tak_any {d : AutD} (h : OkA d) (at' : List Nat) (m : Nat) (free : Bool) : takL d (stepL d at' anyS) m free = nxt d free at' m := by
  unfold takL nxt stepL
  rw [rgF_filt]
  congr 1
  refine rgF_ext (fun y hy => ?_)
  by_cases h0 : y = 0
  · subst h0; simp [tkP]
  · rw [tk_any h (by omega) (by omega), Bool.and_true]
theorem step_in {d : AutD} (at' : List Nat) (m : Nat) : ∀ x ∈ stepL d at' m, 0 < x ∧ x ≤ d.sets.length := fun x hx => by
  unfold stepL at hx
  rw [rgF_mem] at hx
  refine ⟨?_, by omega⟩
  rcases Nat.eq_zero_or_pos x with rfl | h
  · have := hx.2
    simp [tkP] at this
  · exact h
theorem step_len {d : AutD} (at' : List Nat) (m : Nat) : (stepL d at' m).length ≤ d.sets.length + 1 := rgF_len _ _
theorem nxt_le {d : AutD} (free : Bool) (at' : List Nat) (m : Nat) : ∀ x ∈ nxt d free at' m, x ≤ d.sets.length := fun x hx => by
  rcases List.mem_append.1 hx with q | q
  · cases free with
    | false => cases q
    | true =>
      have : x = 0 := by simpa [preF] using q
      omega
  · exact (step_in at' m x q).2
theorem nxt_len {d : AutD} (free : Bool) (at' : List Nat) (m : Nat) : (nxt d free at' m).length ≤ d.sets.length + 2 := by
  have h1 := step_len (d := d) at' m
  have h2 : (preF free).length ≤ 1 := by cases free <;> simp [preF]
  unfold nxt
  rw [List.length_append]; omega
/-- One mask more of a row. -/
def stepR (d : AutD) (free : Bool) (at' : List Nat) (p : List Nat × List (List Nat)) (m : Nat) : List Nat × List (List Nat) := (p.1 ++ [p.2.idxOf (nxt d free at' m)], meetS p.2 (nxt d free at' m))
/-- The row of a state, and the states behind it. -/
def rowF (d : AutD) (free : Bool) (at' : List Nat) (ms : List Nat) (S : List (List Nat)) : List Nat × List (List Nat) := ms.foldl (stepR d free at') ([], S)
theorem rowF_succ (d : AutD) (free : Bool) (at' : List Nat) (ms : List Nat) (S : List (List Nat)) {i : Nat} (h : i < ms.length) : rowF d free at' (ms.take (i + 1)) S = stepR d free at' (rowF d free at' (ms.take i) S) ms[i] := by
  unfold rowF
  rw [List.take_add_one, List.getElem?_eq_getElem h, List.foldl_append]
  rfl
theorem meetS_len (S : List (List Nat)) (l : List Nat) : S.length ≤ (meetS S l).length ∧ (meetS S l).length ≤ S.length + 1 := by
  unfold meetS
  split <;> simp
theorem fold_len (d : AutD) (free : Bool) (at' : List Nat) : ∀ (ms : List Nat) (p : List Nat × List (List Nat)), (ms.foldl (stepR d free at') p).1.length = p.1.length + ms.length ∧ p.2.length ≤ (ms.foldl (stepR d free at') p).2.length ∧ (ms.foldl (stepR d free at') p).2.length ≤ p.2.length + ms.length
  | [], p => ⟨rfl, Nat.le_refl _, Nat.le_refl _⟩
  | m :: ms, p => by
    have h := fold_len d free at' ms (stepR d free at' p m)
    have h2 := meetS_len p.2 (nxt d free at' m)
    have e1 : (stepR d free at' p m).1.length = p.1.length + 1 := by simp [stepR]
    have e2 : (stepR d free at' p m).2 = meetS p.2 (nxt d free at' m) := rfl
    rw [e1, e2] at h
    simp only [List.foldl_cons, List.length_cons]
    omega
theorem rowF_len (d : AutD) (free : Bool) (at' : List Nat) (ms : List Nat) (S : List (List Nat)) : (rowF d free at' ms S).1.length = ms.length ∧ S.length ≤ (rowF d free at' ms S).2.length ∧ (rowF d free at' ms S).2.length ≤ S.length + ms.length := by
  have := fold_len d free at' ms ([], S)
  simpa [rowF] using this
end Go.Proofs.YtklhjjgnhigbiaaGreatDoor

namespace Go.Proofs.YtklhjjgnhigbiaaGreatDoor
open Go.RowKit
set_option linter.unusedVariables false

/-- The states that were met, the rows, and which are final. -/
structure Bst where
  S : List (List Nat)
  N : List (List Nat)
  F : List Bool
def stepB (d : AutD) (free : Bool) (ms : List Nat) (b : Bst) (j : Nat) : Bst :=
  ⟨(rowF d free (b.S.getD j []) ms b.S).2, b.N ++ [(rowF d free (b.S.getD j []) ms b.S).1], b.F ++ [(b.S.getD j []).any (endP d)]⟩
def bfs (d : AutD) (free : Bool) (ms : List Nat) : Nat → Bst
  | 0 => ⟨[[0]], [], []⟩
  | j + 1 => stepB d free ms (bfs d free ms j) j
def runB (d : AutD) (free : Bool) (ms : List Nat) (lim : Nat) : Nat → Nat → Bst → Option Bst
  | 0, _, _ => none
  | f + 1, j, b => if j < b.S.length then (if lim < (stepB d free ms b j).S.length then none else runB d free ms lim f (j + 1) (stepB d free ms b j)) else some b
/-- The states, where there are no more than the limit. -/
def ansB (d : AutD) (free : Bool) (ms : List Nat) (lim : Nat) : Option Bst := runB d free ms lim (lim + 2) 0 (bfs d free ms 0)
section
variable {d : AutD} {free : Bool} {ms : List Nat} {lim : Nat}
/-- The first j states were gone through. -/
def Vb (d : AutD) (free : Bool) (ms : List Nat) (lim j : Nat) : Prop := ∀ i, i < j → i < (bfs d free ms i).S.length ∧ (bfs d free ms (i + 1)).S.length ≤ lim
theorem Vb.zero : Vb d free ms lim 0 := fun i h => absurd h (by omega)
theorem Vb.succ {j : Nat} (h : Vb d free ms lim j) (h1 : j < (bfs d free ms j).S.length) (h2 : (bfs d free ms (j + 1)).S.length ≤ lim) : Vb d free ms lim (j + 1) := fun i hi => by
  by_cases e : i = j
  · subst e; exact ⟨h1, h2⟩
  · exact h i (by omega)
theorem Vb.len {j : Nat} (h : Vb d free ms lim j) (hl : 1 ≤ lim) : (bfs d free ms j).S.length ≤ lim := by
  cases j with
  | zero => exact hl
  | succ j => exact (h j (by omega)).2
theorem Vb.le {j : Nat} (h : Vb d free ms lim j) (hl : 1 ≤ lim) : j ≤ lim := by
  cases j with
  | zero => omega
  | succ j =>
    have h1 := (h j (by omega)).1
    have h2 := Vb.len (lim := lim) (fun i hi => h i (by omega) : Vb d free ms lim j) hl
    omega
theorem run_at {j : Nat} (h : Vb d free ms lim j) (hl : 1 ≤ lim) : ∃ f, ansB d free ms lim = runB d free ms lim (f + 1) j (bfs d free ms j) ∧ f + 1 + j = lim + 2 := by
  induction j with
  | zero => exact ⟨lim + 1, rfl, by omega⟩
  | succ j ih =>
    obtain ⟨f, h1, h2⟩ := ih (fun i hi => h i (by omega))
    obtain ⟨h3, h4⟩ := h j (by omega)
    have h5 := Vb.le (lim := lim) (fun i hi => h i (by omega) : Vb d free ms lim j) hl
    have h6 := h.le hl
    obtain ⟨g, rfl⟩ : ∃ g, f = g + 1 := ⟨f - 1, by omega⟩
    refine ⟨g, ?_, by omega⟩
    rw [h1, runB, if_pos h3]
    have h7 : ¬ lim < (stepB d free ms (bfs d free ms j) j).S.length := by
      have : (bfs d free ms (j + 1)).S.length ≤ lim := h4
      show ¬ lim < (bfs d free ms (j + 1)).S.length
      omega
    rw [if_neg h7]
    rfl
theorem ans_ok {j : Nat} (h : Vb d free ms lim j) (hl : 1 ≤ lim) (hj : ¬ j < (bfs d free ms j).S.length) : ansB d free ms lim = some (bfs d free ms j) := by
  obtain ⟨f, h1, _⟩ := run_at h hl
  rw [h1, runB, if_neg hj]
theorem ans_err {j : Nat} (h : Vb d free ms lim j) (hl : 1 ≤ lim) (hj : j < (bfs d free ms j).S.length) (hk : lim < (bfs d free ms (j + 1)).S.length) : ansB d free ms lim = none := by
  obtain ⟨f, h1, _⟩ := run_at h hl
  rw [h1, runB, if_pos hj]
  exact if_pos hk
theorem ans_of {b : Bst} : ∀ (f j : Nat), runB d free ms lim f j (bfs d free ms j) = some b → Vb d free ms lim j → ∃ k, Vb d free ms lim k ∧ ¬ k < (bfs d free ms k).S.length ∧ b = bfs d free ms k
  | 0, j, h, _ => by cases h
  | f + 1, j, h, hv => by
    rw [runB] at h
    split at h
    · rename_i h1
      split at h
      · cases h
      · rename_i h2
        have h3 : (bfs d free ms (j + 1)).S.length ≤ lim := by
          show (stepB d free ms (bfs d free ms j) j).S.length ≤ lim
          omega
        exact ans_of f (j + 1) h (hv.succ h1 h3)
    · rename_i h1
      injection h with h
      exact ⟨j, hv, h1, h.symm⟩
/-- What there is, is the states that were gone through. -/
theorem ans_some {b : Bst} (h : ansB d free ms lim = some b) : ∃ k, Vb d free ms lim k ∧ ¬ k < (bfs d free ms k).S.length ∧ b = bfs d free ms k := ans_of _ 0 h Vb.zero
theorem bfs_NF (d : AutD) (free : Bool) (ms : List Nat) : ∀ j, (bfs d free ms j).N.length = j ∧ (bfs d free ms j).F.length = j
  | 0 => ⟨rfl, rfl⟩
  | j + 1 => by
    have := bfs_NF d free ms j
    constructor
    · show ((bfs d free ms j).N ++ [_]).length = j + 1
      rw [List.length_append, this.1]; rfl
    · show ((bfs d free ms j).F ++ [_]).length = j + 1
      rw [List.length_append, this.2]; rfl
theorem meetS_mem {S : List (List Nat)} {l x : List Nat} (h : x ∈ meetS S l) : x ∈ S ∨ x = l := by
  unfold meetS at h
  split at h
  · exact .inl h
  · rcases List.mem_append.1 h with q | q
    · exact .inl q
    · exact .inr (List.mem_singleton.1 q)
theorem fold_mem (d : AutD) (free : Bool) (a : List Nat) : ∀ (ms : List Nat) (p : List Nat × List (List Nat)) (x : List Nat), x ∈ (ms.foldl (stepR d free a) p).2 → x ∈ p.2 ∨ ∃ m, x = nxt d free a m
  | [], p, x, h => .inl h
  | m :: ms, p, x, h => by
    rcases fold_mem d free a ms (stepR d free a p m) x h with q | q
    · rcases meetS_mem (show x ∈ meetS p.2 (nxt d free a m) from q) with q | q
      · exact .inl q
      · exact .inr ⟨m, q⟩
    · exact .inr q
theorem bfs_mem (d : AutD) (free : Bool) (ms : List Nat) : ∀ j, ∀ x ∈ (bfs d free ms j).S, (∀ y ∈ x, y ≤ d.sets.length) ∧ x.length ≤ d.sets.length + 2
  | 0, x, h => by
    have : x = [0] := List.mem_singleton.1 h
    subst this
    exact ⟨fun y hy => by have := List.mem_singleton.1 hy; omega, by simp⟩
  | j + 1, x, h => by
    have h' : x ∈ (rowF d free ((bfs d free ms j).S.getD j []) ms (bfs d free ms j).S).2 := h
    rcases fold_mem d free _ ms _ x h' with q | ⟨m, rfl⟩
    · exact bfs_mem d free ms j x q
    · exact ⟨nxt_le free _ m, nxt_len free _ m⟩
end
/-- The error, the rows and which are final. -/
def errD (d : AutD) (free : Bool) (ms : List Nat) (lim : Int) : Int :=
  if ms.length < 1 ∨ 200 < ms.length ∨ lim < 1 ∨ 5000 < lim then 1 else if ansB d free ms lim.toNat = none then 8 else 0
def dfaD (d : AutD) (free : Bool) (ms : List Nat) (lim : Int) : List (List Nat) × List Bool :=
  if ms.length < 1 ∨ 200 < ms.length ∨ lim < 1 ∨ 5000 < lim then ([], []) else match ansB d free ms lim.toNat with
    | none => ([], [])
    | some b => (b.N, b.F)
theorem errD_arg {d : AutD} {free : Bool} {ms : List Nat} {lim : Int} (h : ms.length < 1 ∨ 200 < ms.length ∨ lim < 1 ∨ 5000 < lim) : errD d free ms lim = 1 ∧ dfaD d free ms lim = ([], []) := ⟨if_pos h, if_pos h⟩
theorem errD_none {d : AutD} {free : Bool} {ms : List Nat} {lim : Int} (h : ¬ (ms.length < 1 ∨ 200 < ms.length ∨ lim < 1 ∨ 5000 < lim)) (k : ansB d free ms lim.toNat = none) : errD d free ms lim = 8 ∧ dfaD d free ms lim = ([], []) := by
  constructor
  · unfold errD; rw [if_neg h, if_pos k]
  · unfold dfaD; rw [if_neg h, k]
theorem errD_some {d : AutD} {free : Bool} {ms : List Nat} {lim : Int} {b : Bst} (h : ¬ (ms.length < 1 ∨ 200 < ms.length ∨ lim < 1 ∨ 5000 < lim)) (k : ansB d free ms lim.toNat = some b) : errD d free ms lim = 0 ∧ dfaD d free ms lim = (b.N, b.F) := by
  constructor
  · unfold errD; rw [if_neg h, k]; simp
  · unfold dfaD; rw [if_neg h, k]
end Go.Proofs.YtklhjjgnhigbiaaGreatDoor
