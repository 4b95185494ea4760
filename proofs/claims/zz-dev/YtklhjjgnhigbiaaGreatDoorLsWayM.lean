/-
  What is noted of the ways to a part, step by step. Plain mathematics.
-/
import Derived.Test.YtklhjjgnhigbiaaGreatDoorLsChn
import Derived.Test.YtklhjjgnhigbiaaGreatDoorLsHop
namespace Go.Proofs.YtklhjjgnhigbiaaGreatDoor
set_option linter.unusedVariables false

/-- The classes below c by which a state leads to T. -/
def wyC (M : Mach) (T : List Nat) (c s : Nat) : List Nat := (List.range c).filter fun x => decide (M.d s x ∈ T)
theorem wyC_all (M : Mach) (T : List Nat) (s : Nat) : wyC M T M.k s = sgT M T s := rfl
theorem wyC_succ (M : Mach) (T : List Nat) (c s : Nat) : wyC M T (c + 1) s = wyC M T c s ++ (if M.d s c ∈ T then [c] else []) := by
  unfold wyC
  rw [List.range_succ, List.filter_append]
  congr 1
  by_cases h : M.d s c ∈ T <;> simp [h]
/-- Whether a state's class c was noted: the members of T before the place j were looked at, and of that at j the states from i on. -/
def curW (M : Mach) (T : List Nat) (c j i s : Nat) : Prop := M.d s c ∈ T.take j ∨ (T[j]? = some (M.d s c) ∧ i ≤ s)
open Classical in
/-- What has been noted. -/
structure WyM (M : Mach) (n : Nat) (T : List Nat) (c j i : Nat) (wy : Nat → List Nat) (L : List Nat) : Prop where
  way : ∀ s, s < n → (curW M T c j i s → wy s = wyC M T c s ++ [c]) ∧ (¬ curW M T c j i s → wy s = wyC M T c s)
  nd : L.Nodup
  mem : ∀ s, s ∈ L ↔ s < n ∧ wy s ≠ []
section
variable {M : Mach} {n : Nat} {T : List Nat} {c j i : Nat} {wy : Nat → List Nat} {L : List Nat}
theorem WyM.start : WyM M n T 0 0 n (fun _ => []) [] := ⟨fun s hs => ⟨fun h => by
    rcases h with h | ⟨_, h⟩
    · simp at h
    · omega, fun _ => rfl⟩, List.nodup_nil, fun s => by simp⟩
/-- A member is looked at: the first of the states that lead to it. -/
theorem WyM.more (h : WyM M n T c j i wy L) {i' : Nat} (hi : ∀ s, s < n → (curW M T c j i s ↔ curW M T c j i' s)) : WyM M n T c j i' wy L := ⟨fun s hs => ⟨fun q => (h.way s hs).1 ((hi s hs).2 q), fun q => (h.way s hs).2 (fun r => q ((hi s hs).1 r))⟩, h.nd, h.mem⟩
/-- A state is noted. -/
theorem WyM.note (h : WyM M n T c j i wy L) (hT : T.Nodup) {t s : Nat} (ht : T[j]? = some t) (hs : s < n) (hsi : s < i) (hd : M.d s c = t) (hno : ∀ s', s < s' → s' < i → M.d s' c ≠ t) :
    WyM M n T c j s (fun x => if x = s then wy s ++ [c] else wy x) (if wy s = [] then L ++ [s] else L) := by
  have hns : ¬ curW M T c j i s := fun q => by
    rcases q with q | ⟨_, q⟩
    · rw [hd] at q
      obtain ⟨k, hk, hk2⟩ := List.mem_iff_getElem.1 q
      rw [List.length_take] at hk
      have hj := (List.getElem?_eq_some_iff.1 ht).1
      have e1 : T[k]'(by omega) = t := by rw [← hk2]; simp
      have e2 : T[j] = t := (List.getElem?_eq_some_iff.1 ht).2
      have := nodup_inj hT (i := k) (j := j) (by omega) hj (by rw [e1, e2])
      omega
    · omega
  have hw := (h.way s hs).2 hns
  have hcs : curW M T c j s s := .inr ⟨by rw [ht, hd], Nat.le_refl _⟩
  have hother : ∀ x, x < n → x ≠ s → (curW M T c j s x ↔ curW M T c j i x) := fun x hx hne => by
    unfold curW
    constructor
    · rintro (q | ⟨q1, q2⟩)
      · exact .inl q
      · rw [ht] at q1
        injection q1 with q1
        by_cases r : i ≤ x
        · exact .inr ⟨by rw [ht, q1], r⟩
        · exact absurd q1.symm (hno x (by omega) (by omega))
    · rintro (q | ⟨q1, q2⟩)
      · exact .inl q
      · exact .inr ⟨q1, by omega⟩
  refine ⟨fun x hx => ?_, ?_, fun x => ?_⟩
  · by_cases e : x = s
    · subst e
      refine ⟨fun _ => ?_, fun q => absurd hcs q⟩
      show (if x = x then wy x ++ [c] else wy x) = _
      rw [if_pos rfl, hw]
    · show (_ → (if x = s then wy s ++ [c] else wy x) = _) ∧ (_ → (if x = s then wy s ++ [c] else wy x) = _)
      rw [if_neg e]
      exact ⟨fun q => (h.way x hx).1 ((hother x hx e).1 q), fun q => (h.way x hx).2 (fun r => q ((hother x hx e).2 r))⟩
  · split
    · rename_i q
      rw [List.nodup_append]
      exact ⟨h.nd, by simp, fun a ha b hb e => by
        rw [List.mem_singleton.1 hb] at e
        rw [e] at ha
        exact ((h.mem s).1 ha).2 q⟩
    · exact h.nd
  · show x ∈ (if wy s = [] then L ++ [s] else L) ↔ x < n ∧ (if x = s then wy s ++ [c] else wy x) ≠ []
    by_cases e : x = s
    · subst e
      rw [if_pos rfl]
      have hin : x ∈ (if wy x = [] then L ++ [x] else L) := by
        split
        · exact List.mem_append_right _ (List.mem_singleton.2 rfl)
        · rename_i q
          exact (h.mem x).2 ⟨hs, q⟩
      exact ⟨fun _ => ⟨hs, by simp⟩, fun _ => hin⟩
    · rw [if_neg e, ← h.mem x]
      split
      · constructor
        · intro q
          rcases List.mem_append.1 q with r | r
          · exact r
          · exact absurd (List.mem_singleton.1 r) e
        · exact fun q => List.mem_append_left _ q
      · exact Iff.rfl
/-- A member is done. -/
theorem WyM.col (h : WyM M n T c j i wy L) {t : Nat} (ht : T[j]? = some t) (hno : ∀ s, s < i → M.d s c ≠ t) : WyM M n T c (j + 1) n wy L := by
  have hi : ∀ s, s < n → (curW M T c j i s ↔ curW M T c (j + 1) n s) := fun s hs => by
    have e : T.take (j + 1) = T.take j ++ [t] := by rw [List.take_add_one, ht]; rfl
    unfold curW
    rw [e, ht]
    constructor
    · rintro (q | ⟨q1, q2⟩)
      · exact .inl (List.mem_append_left _ q)
      · injection q1 with q1
        exact .inl (List.mem_append_right _ (List.mem_singleton.2 q1.symm))
    · rintro (q | ⟨q1, q2⟩)
      · rcases List.mem_append.1 q with r | r
        · exact .inl r
        · have r := List.mem_singleton.1 r
          refine .inr ⟨by rw [r], ?_⟩
          by_cases z : i ≤ s
          · exact z
          · exact absurd r (hno s (by omega))
      · omega
  exact ⟨fun s hs => ⟨fun q => (h.way s hs).1 ((hi s hs).2 q), fun q => (h.way s hs).2 (fun r => q ((hi s hs).1 r))⟩, h.nd, h.mem⟩
/-- A class is done. -/
theorem WyM.cls (h : WyM M n T c j n wy L) (hj : T.length ≤ j) : WyM M n T (c + 1) 0 n wy L := by
  refine ⟨fun s hs => ?_, h.nd, h.mem⟩
  have h0 : ¬ curW M T (c + 1) 0 n s := fun q => by
    rcases q with q | ⟨_, q⟩
    · simp at q
    · omega
  refine ⟨fun q => absurd q h0, fun _ => ?_⟩
  rw [wyC_succ]
  by_cases q : M.d s c ∈ T
  · rw [if_pos q]
    exact (h.way s hs).1 (.inl (by rw [List.take_of_length_le hj]; exact q))
  · rw [if_neg q, List.append_nil]
    refine (h.way s hs).2 (fun r => q ?_)
    rcases r with r | ⟨r, _⟩
    · exact List.mem_of_mem_take r
    · exact List.mem_of_getElem? r
theorem WyM.done (h : WyM M n T c j n wy L) (hj : j = 0) (hn : M.n = n) (hk : M.k = c) : L.Nodup ∧ (∀ s, s ∈ L ↔ s < n ∧ sgT M T s ≠ []) ∧ ∀ s, s < n → wy s = sgT M T s := by
  have hw : ∀ s, s < n → wy s = sgT M T s := fun s hs => by
    subst hj
    have h0 : ¬ curW M T c 0 n s := fun q => by
      rcases q with q | ⟨_, q⟩
      · simp at q
      · omega
    rw [(h.way s hs).2 h0, ← hk]
    rfl
  refine ⟨h.nd, fun s => ?_, hw⟩
  rw [h.mem s]
  constructor
  · rintro ⟨a, b⟩
    exact ⟨a, by rw [← hw s a]; exact b⟩
  · rintro ⟨a, b⟩
    exact ⟨a, by rw [hw s a]; exact b⟩
end
end Go.Proofs.YtklhjjgnhigbiaaGreatDoor
