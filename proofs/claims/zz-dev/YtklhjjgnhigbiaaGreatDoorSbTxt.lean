/-
  A list of places as a text: no other list has it. Plain mathematics.
-/
import Derived.Lib.ItoaMem
import Derived.Lib.ItoaLen
import Derived.Test.YtklhjjgnhigbiaaGreatDoorRows
namespace Go.Proofs.YtklhjjgnhigbiaaGreatDoor
open Go.Lib
set_option linter.unusedVariables false

/-- The number that figures tell. -/
def figV (l : List UInt8) : Nat := l.foldl (fun a b => a * 10 + (b.toNat - 48)) 0
theorem figV_snoc (l : List UInt8) (b : UInt8) : figV (l ++ [b]) = figV l * 10 + (b.toNat - 48) := by simp [figV]
theorem fig_nat {u : Nat} (h : u < 10) : (UInt8.ofNat (48 + u)).toNat = 48 + u := by
  rw [UInt8.toNat_ofNat']; omega
theorem figV_dec : ∀ u : Nat, figV (decDigits u) = u := fun u => by
  induction u using Nat.strongRecOn with
  | _ u ih =>
    by_cases h : u < 10
    · rw [decDigits, dif_pos h]
      simp only [figV, List.foldl_cons, List.foldl_nil]
      rw [fig_nat h]; omega
    · rw [decDigits, dif_neg h, figV_snoc, ih (u / 10) (by omega), fig_nat (Nat.mod_lt _ (by omega))]
      omega
theorem dec_inj {u v : Nat} (h : decDigits u = decDigits v) : u = v := by rw [← figV_dec u, ← figV_dec v, h]
theorem dec_fig : ∀ (u : Nat), ∀ b ∈ decDigits u, b ≠ 32 := fun u => by
  induction u using Nat.strongRecOn with
  | _ u ih =>
    have key : ∀ k, k < 10 → UInt8.ofNat (48 + k) ≠ 32 := fun k hk e => by
      have := congrArg UInt8.toNat e
      rw [fig_nat hk] at this
      have h32 : (32 : UInt8).toNat = 32 := rfl
      omega
    intro b hb
    by_cases h : u < 10
    · rw [decDigits, dif_pos h] at hb
      obtain rfl := List.mem_singleton.1 hb
      exact key u h
    · rw [decDigits, dif_neg h] at hb
      rcases List.mem_append.1 hb with hb | hb
      · exact ih (u / 10) (by omega) b hb
      · obtain rfl := List.mem_singleton.1 hb
        exact key _ (Nat.mod_lt _ (by omega))
/-- The text of a list of places. -/
def txtL : List Nat → List UInt8
  | [] => []
  | x :: l => decDigits x ++ 32 :: txtL l
theorem txtL_app (a b : List Nat) : txtL (a ++ b) = txtL a ++ txtL b := by
  induction a with
  | nil => rfl
  | cons x a ih => simp [txtL, ih]
theorem txtL_snoc (a : List Nat) (x : Nat) : txtL (a ++ [x]) = txtL a ++ decDigits x ++ [32] := by rw [txtL_app]; simp [txtL]
theorem cut_at : ∀ (a b c d : List UInt8), (∀ x ∈ a, x ≠ 32) → (∀ x ∈ b, x ≠ 32) → a ++ 32 :: c = b ++ 32 :: d → a = b ∧ c = d
  | [], [], c, d, _, _, h => ⟨rfl, by simpa using h⟩
  | [], y :: b, c, d, _, hb, h => absurd (show y = 32 by simp at h; exact h.1.symm) (hb y (by simp))
  | x :: a, [], c, d, ha, _, h => absurd (show x = 32 by simp at h; exact h.1) (ha x (by simp))
  | x :: a, y :: b, c, d, ha, hb, h => by
    simp only [List.cons_append, List.cons.injEq] at h
    obtain ⟨e1, e2⟩ := cut_at a b c d (fun z hz => ha z (by simp [hz])) (fun z hz => hb z (by simp [hz])) h.2
    exact ⟨by rw [h.1, e1], e2⟩
theorem txt_inj : ∀ (a b : List Nat), txtL a = txtL b → a = b
  | [], [], _ => rfl
  | [], y :: b, h => by
    have := congrArg List.length h
    simp [txtL] at this
  | x :: a, [], h => by
    have := congrArg List.length h
    simp [txtL] at this
  | x :: a, y :: b, h => by
    obtain ⟨e1, e2⟩ := cut_at _ _ _ _ (dec_fig x) (dec_fig y) h
    rw [dec_inj e1, txt_inj a b e2]
theorem dec_len {u : Nat} (h : u ≤ 9223372036854775807) : (decDigits u).length ≤ 21 := by
  have := itoa_length_le (u : Int) (by omega) (by omega)
  rwa [itoa_nonneg] at this
theorem txt_len : ∀ (l : List Nat), (∀ x ∈ l, x ≤ 9223372036854775807) → (txtL l).length ≤ l.length * 22
  | [], _ => by simp [txtL]
  | x :: l, h => by
    have h1 := dec_len (h x (by simp))
    have h2 := txt_len l (fun y hy => h y (by simp [hy]))
    simp only [txtL, List.length_append, List.length_cons]
    omega
end Go.Proofs.YtklhjjgnhigbiaaGreatDoor
