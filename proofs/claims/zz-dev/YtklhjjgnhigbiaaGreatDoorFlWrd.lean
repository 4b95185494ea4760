/-
  The steps tell the words. Plain mathematics.
-/
import Derived.Test.YtklhjjgnhigbiaaGreatDoorGD
namespace Go.Proofs.YtklhjjgnhigbiaaGreatDoor
open Go.RowKit
set_option linter.unusedVariables false

theorem sets_64 : ∀ n, rightN n = true → ∀ s ∈ setsN n, 0 ≤ s ∧ s < 64 :=
  Nd.ind fun k s l ih h x hx => by
    obtain ⟨hm, hl⟩ := right_kids h
    rw [setsN_mk] at hx
    split at hx
    · rename_i h1
      subst h1
      obtain rfl : x = s := by simpa using hx
      unfold mayK at hm
      rw [if_neg (by decide), if_pos rfl] at hm
      simp at hm
      exact hm.2
    · have key : ∀ a : List Nd, (∀ y ∈ a, y ∈ l) → x ∈ setsL a → 0 ≤ x ∧ x < 64 := fun a => by
        induction a with
        | nil => intro _ h; simp [setsL] at h
        | cons y a ih2 =>
          intro ha hx
          rw [setsL, List.mem_append] at hx
          rcases hx with hx | hx
          · exact ih y (ha y (by simp)) (hl y (ha y (by simp))) x hx
          · exact ih2 (fun z hz => ha z (by simp [hz])) hx
      exact key l (fun y hy => hy) hx
theorem aut_ok' {n : Nd} (h : errF n = 0) : autF n = autN n := by unfold autF; rw [if_pos h]
theorem ok_right' {n : Nd} (h : errF n = 0) : rightN n = true ∧ (setsN n).length ≤ 300 := by
  cases q : rightN n with
  | false => rw [errF_bad q] at h; cases h
  | true =>
    refine ⟨rfl, ?_⟩
    by_cases k : 300 < (setsN n).length
    · rw [errF_full q k] at h; cases h
    · omega
theorem okA_of {n : Nd} (h : errF n = 0) : OkA (autF n) := by
  obtain ⟨hr, h3⟩ := ok_right' h
  have hg := gd_all n hr 0
  have hu : (prtN n 0).upTo = (setsN n).length := by rw [hg.2]; omega
  rw [aut_ok' h]
  refine ⟨h3, sets_64 n hr, by simp [autN, folN], ?_, ?_, fun l hl => ?_⟩
  · have := hg.1.first; rw [hu] at this; exact this
  · have := hg.1.last; rw [hu] at this; exact this
  · obtain ⟨i, _, rfl⟩ := List.mem_map.1 hl
    refine ⟨rgF_ris _ _, fun x hx => ?_⟩
    obtain ⟨h1, h2⟩ := rgF_mem.1 hx
    have := (hg.1.fol h2).2
    show 0 < x ∧ x ≤ (setsN n).length
    omega
theorem folP_zero (n : Nd) : folP (autN n) 0 = (prtN n 0).first := by simp [folP, autN]
theorem folP_at {n : Nd} {x : Nat} (h1 : 0 < x) (h2 : x ≤ (setsN n).length) : folP (autN n) x = rgF (fol (prtN n 0).notes x) ((setsN n).length + 1) := by
  unfold folP
  rw [if_neg (by omega)]
  show (folN n).getD (x - 1) [] = _
  rw [List.getD_eq_getElem?_getD]
  unfold folN
  rw [List.getElem?_map, List.getElem?_range (by omega)]
  simp only [Option.map_some, Option.getD_some]
  rw [show x - 1 + 1 = x by omega]
/-- A place takes the sign. -/
def tT (n : Nd) (ws : List Nat) (y i : Nat) : Prop := bitW ws ((setsN n).getD (y - 1) 0) i = true
theorem tk_tT {n : Nd} {ws : List Nat} {y i : Nat} (hy : 0 < y) (hi : i < ws.length) : tkP (autN n) ws[i] y = true ↔ tT n ws y i := by
  unfold tkP tT
  rw [bitW_at hi]
  simp [hy]
  rfl
/-- Where one stands behind the first k signs. -/
def runL (d : AutD) (ws : List Nat) (k : Nat) : List Nat := (ws.take k).foldl (stepL d) [0]
theorem runL_zero (d : AutD) (ws : List Nat) : runL d ws 0 = [0] := rfl
theorem runL_succ (d : AutD) (ws : List Nat) {k : Nat} (h : k < ws.length) : runL d ws (k + 1) = stepL d (runL d ws k) ws[k] := by
  unfold runL
  rw [List.take_add_one, List.getElem?_eq_getElem h, List.foldl_append]
  rfl
theorem run_rn {n : Nd} (h : errF n = 0) (ws : List Nat) : ∀ k, k < ws.length → ∀ y, y ∈ runL (autF n) ws (k + 1) ↔ rn (prtN n 0) (tT n ws) 0 k y := by
  obtain ⟨hr, h3⟩ := ok_right' h
  have hg := gd_all n hr 0
  have hu : (prtN n 0).upTo = (setsN n).length := by rw [hg.2]; omega
  rw [aut_ok' h]
  intro k
  induction k with
  | zero =>
    intro hk y
    rw [runL_succ _ _ hk, runL_zero]
    unfold stepL
    rw [rgF_mem]
    simp only [List.any_cons, List.any_nil, Bool.or_false, Bool.and_eq_true, folP_zero, List.contains_iff_mem]
    show y < (setsN n).length + 1 ∧ y ∈ (prtN n 0).first ∧ tkP (autN n) ws[0] y = true ↔ y ∈ (prtN n 0).first ∧ tT n ws y 0
    constructor
    · rintro ⟨_, h1, h2⟩
      have := hg.1.first.2 y h1
      exact ⟨h1, (tk_tT (by omega) hk).1 h2⟩
    · rintro ⟨h1, h2⟩
      have := hg.1.first.2 y h1
      exact ⟨by omega, h1, (tk_tT (by omega) hk).2 h2⟩
  | succ k ih =>
    intro hk y
    rw [runL_succ _ _ hk]
    unfold stepL
    rw [rgF_mem]
    simp only [List.any_eq_true, Bool.and_eq_true, List.contains_iff_mem]
    show y < (setsN n).length + 1 ∧ (∃ x ∈ runL (autN n) ws (k + 1), y ∈ folP (autN n) x) ∧ tkP (autN n) ws[k + 1] y = true ↔ ∃ x, rn (prtN n 0) (tT n ws) 0 k x ∧ fol (prtN n 0).notes x y = true ∧ tT n ws y (0 + k + 1)
    rw [show 0 + k + 1 = k + 1 by omega]
    have ih' := ih (by omega)
    constructor
    · rintro ⟨h1, ⟨x, h2, h4⟩, h5⟩
      have hx := (ih' x).1 h2
      have hxr := rn_in hg.1 hx
      rw [folP_at (by omega) (by omega), rgF_mem] at h4
      have := (hg.1.fol h4.2).2
      exact ⟨x, hx, h4.2, (tk_tT (by omega) hk).1 h5⟩
    · rintro ⟨x, hx, h4, h5⟩
      have hxr := rn_in hg.1 hx
      have := (hg.1.fol h4).2
      refine ⟨by omega, ⟨x, (ih' x).2 hx, ?_⟩, (tk_tT (by omega) hk).2 h5⟩
      rw [folP_at (by omega) (by omega), rgF_mem]
      exact ⟨by omega, h4⟩
theorem run_le {n : Nd} (h : errF n = 0) (ws : List Nat) : ∀ k, k ≤ ws.length → (∀ x ∈ runL (autF n) ws k, x ≤ (setsN n).length) ∧ (runL (autF n) ws k).length ≤ 1000
  | 0, _ => ⟨fun x hx => by
      have : x = 0 := by simpa [runL] using hx
      omega, by simp [runL]⟩
  | k + 1, hk => by
    have h3 := (ok_right' h).2
    rw [runL_succ _ _ (by omega)]
    have e : (autF n).sets.length = (setsN n).length := by rw [aut_ok' h]; rfl
    refine ⟨fun x hx => ?_, ?_⟩
    · unfold stepL at hx
      rw [rgF_mem, e] at hx
      omega
    · unfold stepL
      refine Nat.le_trans (rgF_len _ _) ?_
      rw [e]; omega
theorem run_end {n : Nd} (h : errF n = 0) (ws : List Nat) : (runL (autF n) ws ws.length).any (endP (autF n)) = wholeB ws n := by
  obtain ⟨hr, h3⟩ := ok_right' h
  have hg := gd_all n hr 0
  have hacc := acc_all ws (tT n ws) n hr 0 (fun j hj i => by
    show bitW ws ((setsN n).getD (0 + 1 + j - 1) 0) i = true ↔ _
    rw [show 0 + 1 + j - 1 = j by omega, List.getD_eq_getElem?_getD, List.getElem?_eq_getElem hj]; rfl) 0 ws.length
  rw [Bool.eq_iff_iff, wholeB_iff]
  unfold wholeP
  rw [← hacc, List.any_eq_true]
  have hlast : (autF n).last = (prtN n 0).last := by rw [aut_ok' h]; rfl
  have hnull : (autF n).null = (prtN n 0).null := by rw [aut_ok' h]; rfl
  have hend : ∀ y, endP (autF n) y = true ↔ (y = 0 ∧ (prtN n 0).null = true) ∨ y ∈ (prtN n 0).last := fun y => by
    unfold endP; rw [hlast, hnull]; simp
  cases hk : ws.length with
  | zero =>
    constructor
    · rintro ⟨y, hy, he⟩
      have hy0 : y = 0 := by simpa [runL] using hy
      refine ⟨hr, .inl ⟨rfl, ?_⟩⟩
      rcases (hend y).1 he with ⟨_, h1⟩ | h1
      · exact h1
      · have := hg.1.last.2 y h1; omega
    · rintro ⟨_, ⟨_, h1⟩ | ⟨m, y, e, _⟩⟩
      · exact ⟨0, by simp [runL], (hend 0).2 (.inl ⟨rfl, h1⟩)⟩
      · omega
  | succ k =>
    have hkl : k < ws.length := by omega
    constructor
    · rintro ⟨y, hy, he⟩
      have hrn := (run_rn h ws k hkl y).1 hy
      have hyr := rn_in hg.1 hrn
      refine ⟨hr, .inr ⟨k, y, by omega, hrn, ?_⟩⟩
      rcases (hend y).1 he with ⟨h1, _⟩ | h1
      · omega
      · exact h1
    · rintro ⟨_, ⟨h1, _⟩ | ⟨m, y, e, hrn, hy⟩⟩
      · omega
      · obtain rfl : m = k := by omega
        exact ⟨y, (run_rn h ws m hkl y).2 hrn, (hend y).2 (.inr hy)⟩
end Go.Proofs.YtklhjjgnhigbiaaGreatDoor
