/-
  Plain mathematics of decoding: the units of bytes, one behind the other.
-/
import Derived.Test.YtdjhgjnhfmggjabGreatDoorS1Deco
namespace Go.Proofs.YtdjhgjnhfmggjabGreatDoor.S1
open Go.RowKit
set_option linter.unusedVariables false

theorem candN_bd (c : Int) (t : List Int) : 1 ≤ candN (c :: t) ∧ candN (c :: t) ≤ 4 ∧ candN (c :: t) ≤ (c :: t).length := by
  simp only [candN, List.length_cons]
  repeat' split
  all_goals omega

theorem unD_good {l : List Int} (h1 : 1 ≤ l.length) (h : (unD l).bad = false) : isR (unD l).r = true ∧ encR (unD l).r = l.take (unD l).w ∧ 1 ≤ (unD l).w ∧ (unD l).w ≤ 4 ∧ (unD l).w ≤ l.length := by
  match l, h1 with
  | c :: t, _ =>
    have hn := candN_bd c t
    unfold unD at h ⊢
    by_cases q : isR (candR (c :: t)) = true ∧ encR (candR (c :: t)) = (c :: t).take (candN (c :: t))
    · rw [if_pos q]
      exact ⟨q.1, q.2, hn⟩
    · rw [if_neg q] at h
      cases h
theorem unD_bad {l : List Int} (h : (unD l).bad = true) : (unD l).r = 65533 ∧ (unD l).w = 1 := by
  unfold unD at h ⊢
  by_cases q : isR (candR l) = true ∧ encR (candR l) = l.take (candN l)
  · rw [if_pos q] at h; cases h
  · rw [if_neg q]; exact ⟨rfl, rfl⟩

/-- A unit: its number, where it begins, how many bytes, whether it is bad. -/
structure U where
  r : Int
  p : Nat
  w : Nat
  bad : Bool

/-- The unit at a place. -/
def unitAt (b : List Int) (p : Nat) : U := ⟨(unD (b.drop p)).r, p, (unD (b.drop p)).w, (unD (b.drop p)).bad⟩

theorem unP_drop {b : List Int} (hb : Byt b) {p : Nat} (h : p < b.length) : unP (b.drop p) = unD (b.drop p) := by
  have e : b.drop p = b[p] :: b.drop (p + 1) := List.drop_eq_getElem_cons h
  rw [e]
  apply unP_eq
  rw [← e]
  intro c hc
  exact hb c (List.mem_of_mem_drop hc)

theorem unitAt_w {b : List Int} {p : Nat} (h : p < b.length) : 1 ≤ (unitAt b p).w ∧ (unitAt b p).w ≤ 4 ∧ p + (unitAt b p).w ≤ b.length := by
  have hl : 1 ≤ (b.drop p).length := by rw [List.length_drop]; omega
  unfold unitAt
  cases hb : (unD (b.drop p)).bad with
  | false => have := unD_good hl hb; rw [List.length_drop] at this; dsimp only; omega
  | true => have := unD_bad hb; dsimp only; rw [this.2]; omega

theorem unitAt_r {b : List Int} {p : Nat} (h : p < b.length) : 0 ≤ (unitAt b p).r ∧ (unitAt b p).r ≤ 1114111 := by
  have hl : 1 ≤ (b.drop p).length := by rw [List.length_drop]; omega
  unfold unitAt
  cases hb : (unD (b.drop p)).bad with
  | false => have := (isR_iff _).1 (unD_good hl hb).1; dsimp only; omega
  | true => have := unD_bad hb; dsimp only; rw [this.1]; omega

/-- From the place p on the units us come, up to the place q. -/
def Run (b : List Int) : Nat → List U → Nat → Prop
  | p, [], q => p = q
  | p, u :: us, q => p < b.length ∧ u = unitAt b p ∧ Run b (p + u.w) us q

theorem Run.snoc {b : List Int} : ∀ {us : List U} {p q : Nat}, Run b p us q → q < b.length → Run b p (us ++ [unitAt b q]) (q + (unitAt b q).w)
  | [], p, q, h, hq => by
    obtain rfl : p = q := h
    exact ⟨hq, rfl, rfl⟩
  | u :: us, p, q, h, hq => ⟨h.1, h.2.1, Run.snoc h.2.2 hq⟩

theorem Run.le {b : List Int} : ∀ {us : List U} {p q : Nat}, Run b p us q → p ≤ b.length → p + us.length ≤ q ∧ q ≤ b.length
  | [], p, q, h, hp => by
    obtain rfl : p = q := h
    simp; omega
  | u :: us, p, q, h, hp => by
    have hw := unitAt_w h.1
    rw [← h.2.1] at hw
    have := Run.le h.2.2 hw.2.2
    simp only [List.length_cons]
    omega

theorem Run.unique {b : List Int} : ∀ {us vs : List U} {p : Nat}, Run b p us b.length → Run b p vs b.length → us = vs
  | [], [], _, _, _ => rfl
  | [], v :: vs, p, h, k => by
    have h' : p = b.length := h
    have := k.1; omega
  | u :: us, [], p, h, k => by
    have k' : p = b.length := k
    have := h.1; omega
  | u :: us, v :: vs, p, h, k => by
    obtain rfl : u = v := h.2.1.trans k.2.1.symm
    rw [Run.unique h.2.2 k.2.2]

/-- The units that come ahead of the place q are the same, however many come behind. -/
theorem Run.front {b : List Int} : ∀ {us vs : List U} {p q : Nat}, Run b p us q → Run b p vs b.length → us <+: vs
  | [], vs, _, _, _, _ => List.nil_prefix
  | u :: us, [], p, q, h, k => by
    have k' : p = b.length := k
    have := h.1; omega
  | u :: us, v :: vs, p, q, h, k => by
    obtain rfl : u = v := h.2.1.trans k.2.1.symm
    exact List.cons_prefix_cons.2 ⟨rfl, Run.front h.2.2 k.2.2⟩

/-- There are such units. -/
theorem Run.exists (b : List Int) : ∀ (n p : Nat), b.length - p ≤ n → p ≤ b.length → ∃ us, Run b p us b.length
  | 0, p, h, hp => ⟨[], show p = b.length by omega⟩
  | n + 1, p, h, hp => by
    by_cases e : p = b.length
    · exact ⟨[], e⟩
    · have hlt : p < b.length := by omega
      have hw := unitAt_w hlt
      obtain ⟨us, hus⟩ := Run.exists b n (p + (unitAt b p).w) (by omega) (by omega)
      exact ⟨unitAt b p :: us, hlt, rfl, hus⟩
end Go.Proofs.YtdjhgjnhfmggjabGreatDoor.S1
