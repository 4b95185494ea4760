/-
  What the states tell of words; and in which order they were met. Plain mathematics.
-/
import Derived.Test.YtklhjjgnhigbiaaGreatDoorSbStates
import Derived.Test.YtklhjjgnhigbiaaGreatDoorFlWrd
namespace Go.Proofs.YtklhjjgnhigbiaaGreatDoor
open Go.RowKit
set_option linter.unusedVariables false

theorem nxt_false (d : AutD) : nxt d false = stepL d := by
  funext a m
  show [] ++ stepL d a m = _
  rfl
theorem whole_run {n : Nd} (h : errF n = 0) (ws : List Nat) : (ws.foldl (nxt (autF n) false) [0]).any (endP (autF n)) = wholeB ws n := by
  rw [nxt_false, ← run_end h ws]
  unfold runL
  rw [List.take_length]
theorem stepL_mem {d : AutD} {A : List Nat} {m y : Nat} : y ∈ stepL d A m ↔ ∃ x ∈ A, y ∈ stepL d [x] m := by
  unfold stepL
  simp only [rgF_mem, List.any_eq_true, Bool.and_eq_true, List.any_cons, List.any_nil, Bool.or_false]
  constructor
  · rintro ⟨h1, ⟨x, h2, h3⟩, h4⟩
    exact ⟨x, h2, h1, h3, h4⟩
  · rintro ⟨x, h2, h1, h3, h4⟩
    exact ⟨h1, ⟨x, h2, h3⟩, h4⟩
/-- Free, one stands where one may stand behind some last signs. -/
theorem free_mem (d : AutD) (ws : List Nat) : ∀ k, k ≤ ws.length → ∀ y, (y ∈ (ws.take k).foldl (nxt d true) [0] ↔ ∃ i, i ≤ k ∧ y ∈ ((ws.take k).drop i).foldl (stepL d) [0]) := by
  intro k
  induction k with
  | zero =>
    intro _ y
    constructor
    · intro h
      exact ⟨0, Nat.le_refl _, h⟩
    · rintro ⟨i, hi, h⟩
      obtain rfl : i = 0 := by omega
      exact h
  | succ k ih =>
    intro hk y
    have ih' := ih (by omega)
    have hl : (ws.take k).length = k := by rw [List.length_take]; omega
    have e : ws.take (k + 1) = ws.take k ++ [ws[k]] := by rw [List.take_add_one, List.getElem?_eq_getElem (by omega)]; rfl
    rw [e, List.foldl_append]
    show y ∈ [0] ++ stepL d ((ws.take k).foldl (nxt d true) [0]) ws[k] ↔ _
    rw [List.mem_append, stepL_mem]
    constructor
    · rintro (h | ⟨x, h1, h2⟩)
      · refine ⟨k + 1, Nat.le_refl _, ?_⟩
        rw [List.drop_of_length_le (by rw [List.length_append, hl]; simp)]
        exact h
      · obtain ⟨i, hi, h3⟩ := (ih' x).1 h1
        refine ⟨i, by omega, ?_⟩
        rw [List.drop_append_of_le_length (by omega), List.foldl_append]
        exact stepL_mem.2 ⟨x, h3, h2⟩
    · rintro ⟨i, hi, h⟩
      by_cases hik : i ≤ k
      · right
        rw [List.drop_append_of_le_length (by omega), List.foldl_append] at h
        obtain ⟨x, h1, h2⟩ := stepL_mem.1 h
        exact ⟨x, (ih' x).2 ⟨i, hik, h1⟩, h2⟩
      · left
        rw [List.drop_of_length_le (by rw [List.length_append, hl]; simp; omega)] at h
        exact h
theorem free_mem' (d : AutD) (ws : List Nat) (y : Nat) : y ∈ ws.foldl (nxt d true) [0] ↔ ∃ i, i ≤ ws.length ∧ y ∈ (ws.drop i).foldl (stepL d) [0] := by
  have := free_mem d ws ws.length (Nat.le_refl _) y
  rw [List.take_length] at this
  exact this
theorem suff_run {n : Nd} (h : errF n = 0) (ws : List Nat) : (ws.foldl (nxt (autF n) true) [0]).any (endP (autF n)) = suffB ws n := by
  have hr := (ok_right' h).1
  rw [Bool.eq_iff_iff, suffB_iff, List.any_eq_true]
  unfold suffP
  constructor
  · rintro ⟨y, hy, he⟩
    obtain ⟨i, hi, hm⟩ := (free_mem' _ _ _).1 hy
    refine ⟨hr, i, hi, (rel_drop ws n i hi).1 ?_⟩
    have hw := whole_run h (ws.drop i)
    rw [nxt_false] at hw
    have : wholeB (ws.drop i) n = true := by rw [← hw]; exact List.any_eq_true.2 ⟨y, hm, he⟩
    exact (wholeB_iff.1 this).2
  · rintro ⟨_, i, hi, hm⟩
    have hw := whole_run h (ws.drop i)
    rw [nxt_false, wholeB_iff.2 ⟨hr, (rel_drop ws n i hi).2 hm⟩] at hw
    obtain ⟨y, h1, h2⟩ := List.any_eq_true.1 hw
    exact ⟨y, (free_mem' _ _ _).2 ⟨i, hi, h1⟩, h2⟩
/-- A word that ends with another one is free where that one is through. -/
theorem free_more (d : AutD) (us ws : List Nat) (h : (ws.foldl (nxt d false) [0]).any (endP d) = true) : ((us ++ ws).foldl (nxt d true) [0]).any (endP d) = true := by
  rw [nxt_false] at h
  obtain ⟨y, h1, h2⟩ := List.any_eq_true.1 h
  refine List.any_eq_true.2 ⟨y, (free_mem' _ _ _).2 ⟨us.length, by simp, ?_⟩, h2⟩
  rw [List.drop_left]
  exact h1

/-- How many were met ahead of an entry. -/
def seenB (d : AutD) (free : Bool) (ms : List Nat) (j i : Nat) : Nat := (rowF d free ((bfs d free ms j).S.getD j []) (ms.take i) (bfs d free ms j).S).2.length
theorem meet_len (S : List (List Nat)) (l : List Nat) : S.idxOf l ≤ S.length ∧ (meetS S l).length = if S.idxOf l = S.length then S.length + 1 else S.length := by
  unfold meetS
  split
  · rename_i h
    have := List.idxOf_lt_length_of_mem h
    exact ⟨by omega, by rw [if_neg (by omega)]⟩
  · rename_i h
    rw [List.idxOf_eq_length h]
    exact ⟨Nat.le_refl _, by simp⟩
section
variable {d : AutD} {free : Bool} {ms : List Nat}
theorem row_ent (a : List Nat) (S : List (List Nat)) {i : Nat} (h : i < ms.length) : (rowF d free a ms S).1[i]? = some ((rowF d free a (ms.take i) S).2.idxOf (nxt d free a ms[i])) := by
  have e := rowF_succ d free a ms S h
  have hl := (rowF_len d free a (ms.take i) S).1
  have hli : (ms.take i).length = i := by rw [List.length_take]; omega
  have h1 : (rowF d free a (ms.take (i + 1)) S).1[i]? = some ((rowF d free a (ms.take i) S).2.idxOf (nxt d free a ms[i])) := by
    rw [e]
    show ((rowF d free a (ms.take i) S).1 ++ [_])[i]? = _
    rw [List.getElem?_append_right (by omega), hl, hli, Nat.sub_self]
    rfl
  obtain ⟨T, hT⟩ := fold_pre1 (d := d) (free := free) (a := a) (ms.drop (i + 1)) (rowF d free a (ms.take (i + 1)) S)
  have h2 : (rowF d free a ms S).1 = (rowF d free a (ms.take (i + 1)) S).1 ++ T := by
    rw [← hT]
    unfold rowF
    rw [← List.foldl_append, List.take_append_drop]
  rw [h2]
  exact pre_get h1
/-- Rows in which each state is met behind the ones ahead of it. -/
theorem ans_met {L : Nat} {b : Bst} (h : ansB d free ms L = some b) (hL : 1 ≤ L) : ∃ sn : Nat → Nat → Nat, sn 0 0 = 1 ∧ (∀ j, j ≤ b.N.length → ∀ i, i ≤ ms.length → sn j i ≤ L + ms.length) ∧ (∀ j, (hj : j < b.N.length) → ∀ i, (hi : i < b.N[j].length) → b.N[j][i] ≤ sn j i ∧ sn j (i + 1) = if b.N[j][i] = sn j i then sn j i + 1 else sn j i) ∧ (∀ j, (hj : j < b.N.length) → sn j b.N[j].length = sn (j + 1) 0) ∧ sn b.N.length 0 = b.N.length := by
  obtain ⟨k, hv, hk, rfl⟩ := ans_some h
  have ho := stOk hv hk
  have hNF := (bfs_NF d free ms k).1
  have hN : ∀ j, (hj : j < (bfs d free ms k).N.length) → (bfs d free ms k).N[j] = (rowF d free ((bfs d free ms j).S.getD j []) ms (bfs d free ms j).S).1 := fun j hj => by
    obtain ⟨m, e⟩ : ∃ m, k = (j + 1) + m := ⟨k - j - 1, by omega⟩
    obtain ⟨T, hT⟩ := bfs_preN (d := d) (free := free) (ms := ms) (j + 1) m
    have h1 : (bfs d free ms k).N[j]? = some (rowF d free ((bfs d free ms j).S.getD j []) ms (bfs d free ms j).S).1 := by
      rw [e, hT]
      refine pre_get ?_
      show ((bfs d free ms j).N ++ [_])[j]? = _
      have := (bfs_NF d free ms j).1
      rw [List.getElem?_append_right (by omega), this, Nat.sub_self]
      rfl
    rw [List.getElem?_eq_getElem hj] at h1
    injection h1
  refine ⟨seenB d free ms, rfl, fun j hj i hi => ?_, fun j hj i hi => ?_, fun j hj => ?_, ?_⟩
  · have h1 := (rowF_len d free ((bfs d free ms j).S.getD j []) (ms.take i) (bfs d free ms j).S).2.2
    have h2 : (ms.take i).length ≤ ms.length := by rw [List.length_take]; omega
    have h3 := Vb.len (lim := L) (fun q hq => hv q (by rw [hNF] at hj; omega) : Vb d free ms L j) hL
    unfold seenB
    omega
  · have hi2 : i < ms.length := by rw [ho.rowl j hj] at hi; exact hi
    have e1 : (bfs d free ms k).N[j][i] = (rowF d free ((bfs d free ms j).S.getD j []) (ms.take i) (bfs d free ms j).S).2.idxOf (nxt d free ((bfs d free ms j).S.getD j []) ms[i]) := by
      have h2 := row_ent (d := d) (free := free) (ms := ms) ((bfs d free ms j).S.getD j []) (bfs d free ms j).S hi2
      rw [← hN j hj, List.getElem?_eq_getElem hi] at h2
      injection h2
    have e2 : seenB d free ms j (i + 1) = (meetS (rowF d free ((bfs d free ms j).S.getD j []) (ms.take i) (bfs d free ms j).S).2 (nxt d free ((bfs d free ms j).S.getD j []) ms[i])).length := by
      unfold seenB
      rw [rowF_succ d free _ ms _ hi2]
      rfl
    have := meet_len (rowF d free ((bfs d free ms j).S.getD j []) (ms.take i) (bfs d free ms j).S).2 (nxt d free ((bfs d free ms j).S.getD j []) ms[i])
    rw [e1, e2]
    exact this
  · rw [ho.rowl j hj]
    unfold seenB
    rw [List.take_length]
    show _ = (bfs d free ms (j + 1)).S.length
    rfl
  · rw [hNF]
    show (bfs d free ms k).S.length = k
    rw [← ho.lenN]
    exact hNF
end
end Go.Proofs.YtklhjjgnhigbiaaGreatDoor
