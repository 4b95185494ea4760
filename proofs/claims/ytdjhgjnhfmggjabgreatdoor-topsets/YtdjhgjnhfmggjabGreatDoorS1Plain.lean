/-
  Plain mathematics of UTF-8 numbers: how many bytes a number has, and which; no program is named here.
-/
import Derived.WalkKit
namespace Go.Proofs.YtdjhgjnhfmggjabGreatDoor.S1
open Go.RowKit
set_option linter.unusedVariables false

/-- How many bytes a number has as a code point: none, if it is no code point. -/
def szR (r : Int) : Int := if r < 0 then 0 else if 1114111 < r then 0 else if 55296 ≤ r ∧ r ≤ 57343 then 0 else if r < 128 then 1 else if r < 2048 then 2 else if r < 65536 then 3 else 4

/-- The bytes of a code point, as numbers. -/
def encR (r : Int) : List Int :=
  if r < 128 then [r] else if r < 2048 then [192 + r / 64, 128 + r % 64] else if r < 65536 then [224 + r / 4096, 128 + r / 64 % 64, 128 + r % 64]
  else [240 + r / 262144, 128 + r / 4096 % 64, 128 + r / 64 % 64, 128 + r % 64]

/-- Is a number a code point? -/
def isR (r : Int) : Bool := decide (0 ≤ r ∧ r ≤ 1114111 ∧ (r < 55296 ∨ 57343 < r))

theorem szR_zero {r : Int} : szR r = 0 ↔ isR r = false := by
  unfold szR isR
  simp only [decide_eq_false_iff_not]
  repeat' split
  all_goals omega

theorem encR_length {r : Int} (h : isR r = true) : ((encR r).length : Int) = szR r := by
  simp only [isR, decide_eq_true_eq] at h
  have e : szR r = if r < 128 then 1 else if r < 2048 then 2 else if r < 65536 then 3 else 4 := by
    unfold szR
    rw [if_neg (by omega : ¬ r < 0), if_neg (by omega : ¬ 1114111 < r), if_neg (by omega : ¬ (55296 ≤ r ∧ r ≤ 57343))]
  rw [e]
  unfold encR
  repeat' split
  all_goals first | rfl | omega

theorem szR_01 (r : Int) : 0 ≤ szR r ∧ szR r ≤ 4 := by
  unfold szR
  repeat' split
  all_goals omega

theorem encR_byte {r : Int} (h : isR r = true) : ∀ c ∈ encR r, 0 ≤ c ∧ c ≤ 255 := by
  simp only [isR, decide_eq_true_eq] at h
  unfold encR
  intro c hc
  repeat' split at hc
  all_goals simp at hc; omega

/-- The first byte of a code point of K + 1 bytes, as the program reckons it. -/
def headB (M r : Int) (K : Nat) : Int := bits BinOp.or .u8 M (IntKind.u8.wrap (r / 2 ^ (6 * (K : Int)).toNat))
/-- The byte behind it that has the bits from 6 k on. -/
def tailB (r : Int) (k : Nat) : Int := 128 + r / 2 ^ (6 * k) % 64
/-- The bytes behind the first one, from the place K - 1 down to k. -/
def tailsB (r : Int) (K k : Nat) : List Int := (List.range (K - k)).map fun j => tailB r (K - 1 - j)

theorem tailsB_self (r : Int) (K : Nat) : tailsB r K K = [] := by simp [tailsB]
theorem tailsB_length (r : Int) (K k : Nat) : (tailsB r K k).length = K - k := by simp [tailsB]
theorem tailsB_step (r : Int) (K k : Nat) (h : k < K) : tailsB r K k = tailsB r K (k + 1) ++ [tailB r k] := by
  unfold tailsB
  have e : K - k = (K - (k + 1)) + 1 := by omega
  rw [e, List.range_succ, List.map_append]
  have e2 : K - 1 - (K - (k + 1)) = k := by omega
  simp [e2]

theorem or_192 : ∀ b : Fin 32, bits BinOp.or .u8 192 b.1 = 192 + b.1 := by decide +kernel
theorem or_224 : ∀ b : Fin 16, bits BinOp.or .u8 224 b.1 = 224 + b.1 := by decide +kernel
theorem or_240 : ∀ b : Fin 8, bits BinOp.or .u8 240 b.1 = 240 + b.1 := by decide +kernel
theorem or_0 : ∀ b : Fin 256, bits BinOp.or .u8 0 b.1 = b.1 := by decide +kernel
theorem wrap_u8 (x : Int) : IntKind.u8.wrap x = x % 256 := by
  simp [IntKind.wrap, IntKind.bits, IntKind.signed]

theorem or_of {M : Int} {m : Nat} (hM : ∀ b : Fin m, bits BinOp.or .u8 M b.1 = M + b.1) (x : Int) (h0 : 0 ≤ x) (h1 : x < m) : bits BinOp.or .u8 M x = M + x := by
  have h := hM ⟨x.toNat, by omega⟩
  have e : ((x.toNat : Nat) : Int) = x := by omega
  simpa [e] using h
/-- The mark of a first byte, by how many bytes stand behind it. -/
def markOf (K : Nat) : Int := if K = 0 then 0 else if K = 1 then 192 else if K = 2 then 224 else 240
theorem or_0' : ∀ b : Fin 256, bits BinOp.or .u8 0 b.1 = 0 + b.1 := by decide +kernel
theorem encB_eq (r : Int) (K : Nat) (h : isR r = true) (es : szR r = (K : Int) + 1) : headB (markOf K) r K :: tailsB r K 0 = encR r := by
  simp only [isR, decide_eq_true_eq] at h
  have e : szR r = if r < 128 then 1 else if r < 2048 then 2 else if r < 65536 then 3 else 4 := by
    unfold szR
    rw [if_neg (by omega : ¬ r < 0), if_neg (by omega : ¬ 1114111 < r), if_neg (by omega : ¬ (55296 ≤ r ∧ r ≤ 57343))]
  rw [e] at es
  clear e
  have p0 : (6 * ((0 : Nat) : Int)).toNat = 0 := rfl
  have p1 : (6 * ((1 : Nat) : Int)).toNat = 6 := rfl
  have p2 : (6 * ((2 : Nat) : Int)).toNat = 12 := rfl
  have p3 : (6 * ((3 : Nat) : Int)).toNat = 18 := rfl
  have m0 : 6 * 0 = 0 := rfl
  have m1 : 6 * 1 = 6 := rfl
  have m2 : 6 * 2 = 12 := rfl
  have q6 : (2 : Int) ^ 6 = 64 := rfl
  have q12 : (2 : Int) ^ 12 = 4096 := rfl
  have q18 : (2 : Int) ^ 18 = 262144 := rfl
  have q0 : (2 : Int) ^ 0 = 1 := rfl
  unfold encR
  split at es
  · obtain rfl : K = 0 := by omega
    rw [if_pos (by assumption)]
    have t : tailsB r 0 0 = [] := rfl
    rw [t]
    simp only [headB, markOf, p0, q0, if_true]
    rw [wrap_u8, or_of or_0' _ (by omega) (by omega)]
    congr 1
    omega
  split at es
  · obtain rfl : K = 1 := by omega
    rw [if_neg (by omega), if_pos (by assumption)]
    have t : tailsB r 1 0 = [tailB r 0] := rfl
    rw [t]
    simp only [headB, markOf, tailB, p1, q6, m0, q0]
    rw [wrap_u8, if_neg (by decide), if_pos trivial, or_of or_192 _ (by omega) (by omega), Int.ediv_one]
    congr 1
    omega
  split at es
  · obtain rfl : K = 2 := by omega
    rw [if_neg (by omega), if_neg (by omega), if_pos (by assumption)]
    have t : tailsB r 2 0 = [tailB r 1, tailB r 0] := rfl
    rw [t]
    simp only [headB, markOf, tailB, p2, q12, m0, m1, q0, q6]
    rw [wrap_u8, if_neg (by decide), if_neg (by decide), if_pos trivial, or_of or_224 _ (by omega) (by omega), Int.ediv_one]
    congr 1
    omega
  · obtain rfl : K = 3 := by omega
    rw [if_neg (by omega), if_neg (by omega), if_neg (by omega)]
    have t : tailsB r 3 0 = [tailB r 2, tailB r 1, tailB r 0] := rfl
    rw [t]
    simp only [headB, markOf, tailB, p3, q18, m0, m1, m2, q0, q6, q12]
    rw [wrap_u8, if_neg (by decide), if_neg (by decide), if_neg (by decide), or_of or_240 _ (by omega) (by omega), Int.ediv_one]
    congr 1
    omega
end Go.Proofs.YtdjhgjnhfmggjabGreatDoor.S1
