/-
  Plain mathematics of UTF-8 numbers: how many bytes a number has, and which; no program is named here. What utf.size and scansionref01.IsRune answer, for every number. Plain mathematics of decoding: which unit bytes begin with, as the program reckons it and as the document has it; the two are one.
-/
import Derived.WalkKit
import Derived.Test.YtfdjchnckjgapaaGreatDoorRows
import Derived.WalkSpells
namespace Go.Proofs.YtfdjchnckjgapaaGreatDoor.S1
open Go.RowKit
set_option linter.unusedVariables false

/-- How many bytes a number has as a code point: none, if it is no code point. -/
def szR (r : Int) : Int := if r < 0 then 0 else if 1114111 < r then 0 else if 55296 ≤ r ∧ r ≤ 57343 then 0 else if r < 128 then 1 else if r < 2048 then 2 else if r < 65536 then 3 else 4

/-- The bytes of a code point, as numbers. -/
def encR (r : Int) : List Int :=
  if r < 128 then [r] else if r < 2048 then [192 + r / 64, 128 + r % 64] else if r < 65536 then [224 + r / 4096, 128 + r / 64 % 64, 128 + r % 64]
  else [240 + r / 262144, 128 + r / 4096 % 64, 128 + r / 64 % 64, 128 + r % 64]

/-- Is a number a code point? -/
def isR (r : Int) : Bool := decide (0 ≤ r ∧ r ≤ 1114111 ∧ (r < 55296 ∨ 57343 < r))

theorem szR_zero {r : Int} : szR r = 0 ↔ isR r = false := by
  unfold szR isR
  simp only [decide_eq_false_iff_not]
  repeat' split
  all_goals omega

theorem encR_length {r : Int} (h : isR r = true) : ((encR r).length : Int) = szR r := by
  simp only [isR, decide_eq_true_eq] at h
  have e : szR r = if r < 128 then 1 else if r < 2048 then 2 else if r < 65536 then 3 else 4 := by
    unfold szR
    rw [if_neg (by omega : ¬ r < 0), if_neg (by omega : ¬ 1114111 < r), if_neg (by omega : ¬ (55296 ≤ r ∧ r ≤ 57343))]
  rw [e]
  unfold encR
  repeat' split
  all_goals first | rfl | omega

theorem szR_01 (r : Int) : 0 ≤ szR r ∧ szR r ≤ 4 := by
  unfold szR
  repeat' split
  all_goals omega

theorem encR_byte {r : Int} (h : isR r = true) : ∀ c ∈ encR r, 0 ≤ c ∧ c ≤ 255 := by
  simp only [isR, decide_eq_true_eq] at h
  unfold encR
  intro c hc
  repeat' split at hc
  all_goals simp at hc; omega

/-- The first byte of a code point of K + 1 bytes, as the program reckons it. -/
def headB (M r : Int) (K : Nat) : Int := bits BinOp.or .u8 M (IntKind.u8.wrap (r / 2 ^ (6 * (K : Int)).toNat))
/-- The byte behind it that has the bits from 6 k on. -/
def tailB (r : Int) (k : Nat) : Int := 128 + r / 2 ^ (6 * k) % 64
/-- The bytes behind the first one, from the place K - 1 down to k. -/
def tailsB (r : Int) (K k : Nat) : List Int := (List.range (K - k)).map fun j => tailB r (K - 1 - j)

theorem tailsB_self (r : Int) (K : Nat) : tailsB r K K = [] := by simp [tailsB]
theorem tailsB_length (r : Int) (K k : Nat) : (tailsB r K k).length = K - k := by simp [tailsB]
theorem tailsB_step (r : Int) (K k : Nat) (h : k < K) : tailsB r K k = tailsB r K (k + 1) ++ [tailB r k] := by
  unfold tailsB
  have e : K - k = (K - (k + 1)) + 1 := by omega
  rw [e, List.range_succ, List.map_append]
  have e2 : K - 1 - (K - (k + 1)) = k := by omega
  simp [e2]

theorem or_192 : ∀ b : Fin 32, bits BinOp.or .u8 192 b.1 = 192 + b.1 := by decide +kernel
theorem or_224 : ∀ b : Fin 16, bits BinOp.or .u8 224 b.1 = 224 + b.1 := by decide +kernel
theorem or_240 : ∀ b : Fin 8, bits BinOp.or .u8 240 b.1 = 240 + b.1 := by decide +kernel
theorem or_0 : ∀ b : Fin 256, bits BinOp.or .u8 0 b.1 = b.1 := by decide +kernel
theorem wrap_u8 (x : Int) : IntKind.u8.wrap x = x % 256 := by
  simp [IntKind.wrap, IntKind.bits, IntKind.signed]

theorem or_of {M : Int} {m : Nat} (hM : ∀ b : Fin m, bits BinOp.or .u8 M b.1 = M + b.1) (x : Int) (h0 : 0 ≤ x) (h1 : x < m) : bits BinOp.or .u8 M x = M + x := by
  have h := hM ⟨x.toNat, by omega⟩
  have e : ((x.toNat : Nat) : Int) = x := by omega
  simpa [e] using h
/-- The mark of a first byte, by how many bytes stand behind it. -/
def markOf (K : Nat) : Int := if K = 0 then 0 else if K = 1 then 192 else if K = 2 then 224 else 240
theorem or_0' : ∀ b : Fin 256, bits BinOp.or .u8 0 b.1 = 0 + b.1 := by decide +kernel
theorem encB_eq (r : Int) (K : Nat) (h : isR r = true) (es : szR r = (K : Int) + 1) : headB (markOf K) r K :: tailsB r K 0 = encR r := by
  simp only [isR, decide_eq_true_eq] at h
  have e : szR r = if r < 128 then 1 else if r < 2048 then 2 else if r < 65536 then 3 else 4 := by
    unfold szR
    rw [if_neg (by omega : ¬ r < 0), if_neg (by omega : ¬ 1114111 < r), if_neg (by omega : ¬ (55296 ≤ r ∧ r ≤ 57343))]
  rw [e] at es
  clear e
  have p0 : (6 * ((0 : Nat) : Int)).toNat = 0 := rfl
  have p1 : (6 * ((1 : Nat) : Int)).toNat = 6 := rfl
  have p2 : (6 * ((2 : Nat) : Int)).toNat = 12 := rfl
  have p3 : (6 * ((3 : Nat) : Int)).toNat = 18 := rfl
  have m0 : 6 * 0 = 0 := rfl
  have m1 : 6 * 1 = 6 := rfl
  have m2 : 6 * 2 = 12 := rfl
  have q6 : (2 : Int) ^ 6 = 64 := rfl
  have q12 : (2 : Int) ^ 12 = 4096 := rfl
  have q18 : (2 : Int) ^ 18 = 262144 := rfl
  have q0 : (2 : Int) ^ 0 = 1 := rfl
  unfold encR
  split at es
  · obtain rfl : K = 0 := by omega
    rw [if_pos (by assumption)]
    have t : tailsB r 0 0 = [] := rfl
    rw [t]
    simp only [headB, markOf, p0, q0, if_true]
    rw [wrap_u8, or_of or_0' _ (by omega) (by omega)]
    congr 1
    omega
  split at es
  · obtain rfl : K = 1 := by omega
    rw [if_neg (by omega), if_pos (by assumption)]
    have t : tailsB r 1 0 = [tailB r 0] := rfl
    rw [t]
    simp only [headB, markOf, tailB, p1, q6, m0, q0]
    rw [wrap_u8, if_neg (by decide), if_pos trivial, or_of or_192 _ (by omega) (by omega), Int.ediv_one]
    congr 1
    omega
  split at es
  · obtain rfl : K = 2 := by omega
    rw [if_neg (by omega), if_neg (by omega), if_pos (by assumption)]
    have t : tailsB r 2 0 = [tailB r 1, tailB r 0] := rfl
    rw [t]
    simp only [headB, markOf, tailB, p2, q12, m0, m1, q0, q6]
    rw [wrap_u8, if_neg (by decide), if_neg (by decide), if_pos trivial, or_of or_224 _ (by omega) (by omega), Int.ediv_one]
    congr 1
    omega
  · obtain rfl : K = 3 := by omega
    rw [if_neg (by omega), if_neg (by omega), if_neg (by omega)]
    have t : tailsB r 3 0 = [tailB r 2, tailB r 1, tailB r 0] := rfl
    rw [t]
    simp only [headB, markOf, tailB, p3, q18, m0, m1, m2, q0, q6, q12]
    rw [wrap_u8, if_neg (by decide), if_neg (by decide), if_neg (by decide), or_of or_240 _ (by omega) (by omega), Int.ediv_one]
    congr 1
    omega
end Go.Proofs.YtfdjchnckjgapaaGreatDoor.S1

namespace Go.Proofs.YtfdjchnckjgapaaGreatDoor.S1
open Go.RowKit
set_option linter.unusedVariables false

theorem size_any (r : Int) (w : World) : Calls Tryz.prog 140 #[.int .i64 r] w fun e w' => e = .returned (.int .i64 (szR r)) ∧ w' = w := by
  by_cases h0 : r < 0
  · go_enter Tryz.func140, Tryz.ntmps140
    go_wp2
    go_ret
    exact ⟨by simp [szR, h0], rfl⟩
  by_cases h1 : 1114111 < r
  · go_enter Tryz.func140, Tryz.ntmps140
    go_wp2
    go_ret
    exact ⟨by simp [szR, h1], rfl⟩
  by_cases h2 : 55296 ≤ r ∧ r ≤ 57343
  · obtain ⟨h2, h3⟩ := h2
    go_enter Tryz.func140, Tryz.ntmps140
    go_wp2
    go_ret
    exact ⟨by simp [szR, h2, h3], rfl⟩
  have e : szR r = if r < 128 then 1 else if r < 2048 then 2 else if r < 65536 then 3 else 4 := by
    unfold szR; rw [if_neg h0, if_neg h1, if_neg h2]
  rw [e]
  clear e
  rcases (show r < 55296 ∨ 57343 < r by omega) with h3 | h3
  all_goals
    clear h2
    go_enter Tryz.func140, Tryz.ntmps140
    go_wp2
    all_goals
      go_ret
      refine ⟨?_, rfl⟩
      repeat' split
      all_goals first | rfl | omega

theorem isRune_any (r : Int) (w : World) : Calls Tryz.prog 148 #[.int .i64 r] w fun e w' => e = .returned (.bool (isR r)) ∧ w' = w := by
  have hd : isR r = decide (0 ≤ r ∧ r ≤ 1114111 ∧ (r < 55296 ∨ 57343 < r)) := rfl
  by_cases h0 : 0 ≤ r
  · by_cases h1 : r ≤ 1114111
    · by_cases h2 : r < 55296
      · have e : isR r = true := by rw [hd]; simp; omega
        rw [e]; clear hd e
        go_enter Tryz.func148, Tryz.ntmps148
        go_wp2
        all_goals
          go_ret
          exact ⟨rfl, rfl⟩
      · by_cases h3 : 57343 < r
        · have e : isR r = true := by rw [hd]; simp; omega
          rw [e]; clear hd e
          go_enter Tryz.func148, Tryz.ntmps148
          go_wp2
          all_goals
            go_ret
            exact ⟨rfl, rfl⟩
        · have e : isR r = false := by rw [hd]; simp; omega
          rw [e]; clear hd e
          go_enter Tryz.func148, Tryz.ntmps148
          go_wp2
          all_goals
            go_ret
            exact ⟨rfl, rfl⟩
    · have e : isR r = false := by rw [hd]; simp; omega
      rw [e]; clear hd e
      go_enter Tryz.func148, Tryz.ntmps148
      go_wp2
      all_goals
        go_ret
        exact ⟨rfl, rfl⟩
  · have e : isR r = false := by rw [hd]; simp; omega
    rw [e]; clear hd e
    go_enter Tryz.func148, Tryz.ntmps148
    go_wp2
    all_goals
      go_ret
      exact ⟨rfl, rfl⟩
end Go.Proofs.YtfdjchnckjgapaaGreatDoor.S1

namespace Go.Proofs.YtfdjchnckjgapaaGreatDoor.S1
open Go.RowKit
set_option linter.unusedVariables false

/-- The bits that a first byte has. -/
def hdB (c : Int) : Int := if c < 128 then c else if c < 192 then 0 else if c < 224 then c - 192 else if c < 240 then c - 224 else if c < 248 then c - 240 else 0
/-- How many bytes it asks for. -/
def hdW (c : Int) : Nat := if c < 128 then 1 else if c < 192 then 0 else if c < 224 then 2 else if c < 240 then 3 else if c < 248 then 4 else 0

/-- The number that the bytes behind the first one make of it: l what is left, i its place, wd how many are asked for. -/
def pts (wd : Nat) : List Int → Int → Nat → Int
  | [], r, _ => r
  | c :: t, r, i => if i < wd ∧ 128 ≤ c ∧ c < 192 then pts wd t (r * 64 + c % 64) (i + 1) else r

/-- The number, and how many bytes: none, if the bytes begin with no code point. -/
def ptR : List Int → Int × Nat
  | [] => (0, 0)
  | c :: t => if szR (pts (hdW c) t (hdB c) 1) = (hdW c : Int) then (pts (hdW c) t (hdB c) 1, hdW c) else (0, 0)

/-- A unit: its number, how many bytes, whether it is bad. -/
structure Un where
  r : Int
  w : Nat
  bad : Bool

/-- The unit as the program reckons it. -/
def unP (l : List Int) : Un := if 0 < (ptR l).2 then ⟨(ptR l).1, (ptR l).2, false⟩ else ⟨65533, 1, true⟩

/-- The document's first guess. -/
def candR : List Int → Int
  | c :: t => if c < 128 then c else if 192 ≤ c ∧ c < 224 ∧ 1 ≤ t.length then (c - 192) * 64 + t.getD 0 0 % 64
    else if 224 ≤ c ∧ c < 240 ∧ 2 ≤ t.length then (c - 224) * 4096 + t.getD 0 0 % 64 * 64 + t.getD 1 0 % 64
    else if 240 ≤ c ∧ c < 248 ∧ 3 ≤ t.length then (c - 240) * 262144 + t.getD 0 0 % 64 * 4096 + t.getD 1 0 % 64 * 64 + t.getD 2 0 % 64 else -1
  | [] => -1
def candN : List Int → Nat
  | c :: t => if c < 128 then 1 else if 192 ≤ c ∧ c < 224 ∧ 1 ≤ t.length then 2 else if 224 ≤ c ∧ c < 240 ∧ 2 ≤ t.length then 3 else if 240 ≤ c ∧ c < 248 ∧ 3 ≤ t.length then 4 else 1
  | [] => 1
/-- The unit as the document has it. -/
def unD (l : List Int) : Un := if isR (candR l) = true ∧ encR (candR l) = l.take (candN l) then ⟨candR l, candN l, false⟩ else ⟨65533, 1, true⟩

/-- All are bytes. -/
def Byt (l : List Int) : Prop := ∀ c ∈ l, 0 ≤ c ∧ c ≤ 255

theorem isR_iff (r : Int) : isR r = true ↔ 0 ≤ r ∧ r ≤ 1114111 ∧ (r < 55296 ∨ 57343 < r) := by simp [isR]

theorem szR_one {r : Int} (h : 0 ≤ r) : szR r = 1 ↔ r < 128 := by
  unfold szR
  repeat' split
  all_goals omega
theorem szR_two {r : Int} (h : 0 ≤ r) : szR r = 2 ↔ 128 ≤ r ∧ r < 2048 := by
  unfold szR
  repeat' split
  all_goals omega
theorem szR_three {r : Int} (h : 0 ≤ r) : szR r = 3 ↔ 2048 ≤ r ∧ r < 65536 ∧ (r < 55296 ∨ 57343 < r) := by
  unfold szR
  repeat' split
  all_goals omega
theorem szR_four {r : Int} (h : 0 ≤ r) : szR r = 4 ↔ 65536 ≤ r ∧ r ≤ 1114111 := by
  unfold szR
  repeat' split
  all_goals omega

theorem unP_eq (c : Int) (t : List Int) (h : Byt (c :: t)) : unP (c :: t) = unD (c :: t) := by
  have hc := h c (by simp)
  unfold unP unD
  by_cases h1 : c < 128
  · have e : ptR (c :: t) = (c, 1) := by
      have hb : hdB c = c := by simp [hdB, h1]
      have hw : hdW c = 1 := by simp [hdW, h1]
      have hp : pts 1 t c 1 = c := by cases t <;> simp [pts]
      simp only [ptR, hb, hw, hp]
      rw [if_pos (show szR c = ((1 : Nat) : Int) from (szR_one hc.1).2 h1)]
    have er : candR (c :: t) = c := by simp [candR, h1]
    have en : candN (c :: t) = 1 := by simp [candN, h1]
    rw [e, er, en, if_pos (Nat.succ_pos _), if_pos ⟨(isR_iff _).2 (by omega), by simp [encR, h1]⟩]
  by_cases h2 : c < 192
  · have hb : hdB c = 0 := by simp [hdB, h1, h2]
    have hw : hdW c = 0 := by simp [hdW, h1, h2]
    have hp : pts 0 t 0 1 = 0 := by cases t <;> simp [pts]
    have e : ptR (c :: t) = (0, 0) := by
      simp only [ptR, hb, hw, hp]
      split <;> rfl
    have er : candR (c :: t) = -1 := by
      simp only [candR]
      rw [if_neg h1, if_neg (by omega), if_neg (by omega), if_neg (by omega)]
    rw [e, er, if_neg (by decide), if_neg (by simp [isR])]
  by_cases h3 : c < 224
  · have hb : hdB c = c - 192 := by simp [hdB, h1, h2, h3]
    have hw : hdW c = 2 := by simp [hdW, h1, h2, h3]
    match t, h with
    | [], _ =>
      have e : ptR [c] = (0, 0) := by
        simp only [ptR, hb, hw, pts]
        rw [if_neg]
        rw [show ((2 : Nat) : Int) = 2 from rfl, szR_two (by omega)]; omega
      have er : candR [c] = -1 := by
        simp only [candR, List.length_nil]
        rw [if_neg h1, if_neg (by omega), if_neg (by omega), if_neg (by omega)]
      rw [e, er, if_neg (by decide), if_neg (by simp [isR])]
    | d :: t, h =>
      have hd := h d (by simp)
      have er : candR (c :: d :: t) = (c - 192) * 64 + d % 64 := by
        simp only [candR, List.length_cons, List.getD_cons_zero]
        rw [if_neg h1, if_pos (by omega)]
      have en : candN (c :: d :: t) = 2 := by
        simp only [candN, List.length_cons]
        rw [if_neg h1, if_pos (by omega)]
      by_cases hd1 : 128 ≤ d ∧ d < 192
      · have hp : pts 2 (d :: t) (c - 192) 1 = (c - 192) * 64 + d % 64 := by
          simp only [pts]
          rw [if_pos (by omega)]
          cases t <;> simp [pts]
        by_cases hz : 128 ≤ (c - 192) * 64 + d % 64
        · have e : ptR (c :: d :: t) = ((c - 192) * 64 + d % 64, 2) := by
            simp only [ptR, hb, hw, hp]
            rw [if_pos]
            rw [show ((2 : Nat) : Int) = 2 from rfl, szR_two (by omega)]; omega
          have hE : encR ((c - 192) * 64 + d % 64) = (c :: d :: t).take 2 := by
            simp only [encR, List.take_succ_cons, List.take_zero]
            rw [if_neg (by omega), if_pos (by omega)]
            congr 1
            · omega
            · congr 1; omega
          rw [e, er, en, if_pos (Nat.succ_pos _), if_pos ⟨(isR_iff _).2 (by omega), hE⟩]
        · have e : ptR (c :: d :: t) = (0, 0) := by
            simp only [ptR, hb, hw, hp]
            rw [if_neg]
            rw [show ((2 : Nat) : Int) = 2 from rfl, szR_two (by omega)]; omega
          rw [e, er, en, if_neg (by decide), if_neg]
          rintro ⟨_, h⟩
          simp only [encR, List.take_succ_cons, List.take_zero] at h
          rw [if_pos (by omega)] at h
          simp at h
      · have hp : pts 2 (d :: t) (c - 192) 1 = c - 192 := by
          simp only [pts]
          rw [if_neg (by omega)]
        have e : ptR (c :: d :: t) = (0, 0) := by
          simp only [ptR, hb, hw, hp]
          rw [if_neg]
          rw [show ((2 : Nat) : Int) = 2 from rfl, szR_two (by omega)]; omega
        rw [e, er, en, if_neg (by decide), if_neg]
        rintro ⟨_, h⟩
        simp only [encR, List.take_succ_cons, List.take_zero] at h
        by_cases q : (c - 192) * 64 + d % 64 < 128
        · rw [if_pos q] at h; simp at h
        · rw [if_neg q, if_pos (by omega)] at h
          simp only [List.cons.injEq, and_true] at h
          omega
  by_cases h4 : c < 240
  · have hb : hdB c = c - 224 := by simp [hdB, h1, h2, h3, h4]
    have hw : hdW c = 3 := by simp [hdW, h1, h2, h3, h4]
    have bad : ∀ t', Byt (c :: t') → (∀ d e s, t' = d :: e :: s → ¬ (128 ≤ d ∧ d < 192 ∧ 128 ≤ e ∧ e < 192)) → ptR (c :: t') = (0, 0) := by
      intro t' ht hno
      have hlow : 0 ≤ pts 3 t' (c - 224) 1 ∧ pts 3 t' (c - 224) 1 < 2048 := by
        match t', ht, hno with
        | [], _, _ => simp only [pts]; omega
        | [d], ht, _ =>
          have hd := ht d (by simp)
          simp only [pts]
          split <;> omega
        | d :: e :: s, ht, hno =>
          have hd := ht d (by simp)
          have he := ht e (by simp)
          have := hno d e s rfl
          simp only [pts]
          by_cases q : 1 < 3 ∧ 128 ≤ d ∧ d < 192
          · rw [if_pos q, if_neg (by omega)]; omega
          · rw [if_neg q]; omega
      simp only [ptR, hb, hw]
      rw [if_neg]
      rw [show ((3 : Nat) : Int) = 3 from rfl, szR_three hlow.1]; omega
    match t, h with
    | [], h =>
      have er : candR [c] = -1 := by
        simp only [candR, List.length_nil]
        rw [if_neg h1, if_neg (by omega), if_neg (by omega), if_neg (by omega)]
      rw [bad [] h (by intro d e s q; simp at q), er, if_neg (by decide), if_neg (by simp [isR])]
    | [d], h =>
      have er : candR [c, d] = -1 := by
        simp only [candR, List.length_cons, List.length_nil]
        rw [if_neg h1, if_neg (by omega), if_neg (by omega), if_neg (by omega)]
      rw [bad [d] h (by intro d e s q; simp at q), er, if_neg (by decide), if_neg (by simp [isR])]
    | d :: e :: t, h =>
      have hd := h d (by simp)
      have he := h e (by simp)
      have er : candR (c :: d :: e :: t) = (c - 224) * 4096 + d % 64 * 64 + e % 64 := by
        simp only [candR, List.length_cons, List.getD_cons_zero, List.getD_cons_succ]
        rw [if_neg h1, if_neg (by omega), if_pos (by omega)]
      have en : candN (c :: d :: e :: t) = 3 := by
        simp only [candN, List.length_cons]
        rw [if_neg h1, if_neg (by omega), if_pos (by omega)]
      by_cases hq : 128 ≤ d ∧ d < 192 ∧ 128 ≤ e ∧ e < 192
      · have hp : pts 3 (d :: e :: t) (c - 224) 1 = ((c - 224) * 64 + d % 64) * 64 + e % 64 := by
          simp only [pts]
          rw [if_pos (by omega), if_pos (by omega)]
          cases t <;> simp [pts]
        by_cases hz : 2048 ≤ (c - 224) * 4096 + d % 64 * 64 + e % 64 ∧ ((c - 224) * 4096 + d % 64 * 64 + e % 64 < 55296 ∨ 57343 < (c - 224) * 4096 + d % 64 * 64 + e % 64)
        · have e' : ptR (c :: d :: e :: t) = ((c - 224) * 4096 + d % 64 * 64 + e % 64, 3) := by
            simp only [ptR, hb, hw, hp]
            rw [if_pos]
            · congr 1; omega
            · rw [show ((3 : Nat) : Int) = 3 from rfl, szR_three (by omega)]; omega
          have hE : encR ((c - 224) * 4096 + d % 64 * 64 + e % 64) = (c :: d :: e :: t).take 3 := by
            simp only [encR, List.take_succ_cons, List.take_zero]
            rw [if_neg (by omega), if_neg (by omega), if_pos (by omega)]
            congr 1
            · omega
            · congr 1
              · omega
              · congr 1; omega
          rw [e', er, en, if_pos (Nat.succ_pos _), if_pos ⟨(isR_iff _).2 (by omega), hE⟩]
        · have e' : ptR (c :: d :: e :: t) = (0, 0) := by
            simp only [ptR, hb, hw, hp]
            rw [if_neg]
            rw [show ((3 : Nat) : Int) = 3 from rfl, szR_three (by omega)]; omega
          rw [e', er, en, if_neg (by decide), if_neg]
          rintro ⟨hr, h⟩
          rw [isR_iff] at hr
          simp only [encR, List.take_succ_cons, List.take_zero] at h
          split at h
          · simp at h
          · split at h
            · simp at h
            · omega
      · rw [bad (d :: e :: t) h (by intro d' e' s q; simp at q; obtain ⟨rfl, rfl, rfl⟩ := q; exact hq), er, en, if_neg (by decide), if_neg]
        rintro ⟨_, h⟩
        simp only [encR, List.take_succ_cons, List.take_zero] at h
        split at h
        · simp at h
        · split at h
          · simp at h
          · rw [if_pos (by omega)] at h
            simp only [List.cons.injEq, and_true] at h
            omega
  by_cases h5 : c < 248
  · have hb : hdB c = c - 240 := by simp [hdB, h1, h2, h3, h4, h5]
    have hw : hdW c = 4 := by simp [hdW, h1, h2, h3, h4, h5]
    have bad : ∀ t', Byt (c :: t') → (∀ d e f s, t' = d :: e :: f :: s → ¬ (128 ≤ d ∧ d < 192 ∧ 128 ≤ e ∧ e < 192 ∧ 128 ≤ f ∧ f < 192)) → ptR (c :: t') = (0, 0) := by
      intro t' ht hno
      have hlow : 0 ≤ pts 4 t' (c - 240) 1 ∧ pts 4 t' (c - 240) 1 < 65536 := by
        match t', ht, hno with
        | [], _, _ => simp only [pts]; omega
        | [d], ht, _ =>
          have hd := ht d (by simp)
          simp only [pts]
          split <;> omega
        | [d, e], ht, _ =>
          have hd := ht d (by simp)
          have he := ht e (by simp)
          simp only [pts]
          repeat' split
          all_goals omega
        | d :: e :: f :: s, ht, hno =>
          have hd := ht d (by simp)
          have he := ht e (by simp)
          have hf := ht f (by simp)
          have := hno d e f s rfl
          simp only [pts]
          by_cases q : 1 < 4 ∧ 128 ≤ d ∧ d < 192
          · rw [if_pos q]
            by_cases q2 : 1 + 1 < 4 ∧ 128 ≤ e ∧ e < 192
            · rw [if_pos q2, if_neg (by omega)]; omega
            · rw [if_neg q2]; omega
          · rw [if_neg q]; omega
      simp only [ptR, hb, hw]
      rw [if_neg]
      rw [show ((4 : Nat) : Int) = 4 from rfl, szR_four hlow.1]; omega
    match t, h with
    | [], h =>
      have er : candR [c] = -1 := by
        simp only [candR, List.length_nil]
        rw [if_neg h1, if_neg (by omega), if_neg (by omega), if_neg (by omega)]
      rw [bad [] h (by intro d e f s q; simp at q), er, if_neg (by decide), if_neg (by simp [isR])]
    | [d], h =>
      have er : candR [c, d] = -1 := by
        simp only [candR, List.length_cons, List.length_nil]
        rw [if_neg h1, if_neg (by omega), if_neg (by omega), if_neg (by omega)]
      rw [bad [d] h (by intro d e f s q; simp at q), er, if_neg (by decide), if_neg (by simp [isR])]
    | [d, e], h =>
      have er : candR [c, d, e] = -1 := by
        simp only [candR, List.length_cons, List.length_nil]
        rw [if_neg h1, if_neg (by omega), if_neg (by omega), if_neg (by omega)]
      rw [bad [d, e] h (by intro d e f s q; simp at q), er, if_neg (by decide), if_neg (by simp [isR])]
    | d :: e :: f :: t, h =>
      have hd := h d (by simp)
      have he := h e (by simp)
      have hf := h f (by simp)
      have er : candR (c :: d :: e :: f :: t) = (c - 240) * 262144 + d % 64 * 4096 + e % 64 * 64 + f % 64 := by
        simp only [candR, List.length_cons, List.getD_cons_zero, List.getD_cons_succ]
        rw [if_neg h1, if_neg (by omega), if_neg (by omega), if_pos (by omega)]
      have en : candN (c :: d :: e :: f :: t) = 4 := by
        simp only [candN, List.length_cons]
        rw [if_neg h1, if_neg (by omega), if_neg (by omega), if_pos (by omega)]
      by_cases hq : 128 ≤ d ∧ d < 192 ∧ 128 ≤ e ∧ e < 192 ∧ 128 ≤ f ∧ f < 192
      · have hp : pts 4 (d :: e :: f :: t) (c - 240) 1 = (((c - 240) * 64 + d % 64) * 64 + e % 64) * 64 + f % 64 := by
          simp only [pts]
          rw [if_pos (by omega), if_pos (by omega), if_pos (by omega)]
          cases t <;> simp [pts]
        by_cases hz : 65536 ≤ (c - 240) * 262144 + d % 64 * 4096 + e % 64 * 64 + f % 64 ∧ (c - 240) * 262144 + d % 64 * 4096 + e % 64 * 64 + f % 64 ≤ 1114111
        · have e' : ptR (c :: d :: e :: f :: t) = ((c - 240) * 262144 + d % 64 * 4096 + e % 64 * 64 + f % 64, 4) := by
            simp only [ptR, hb, hw, hp]
            rw [if_pos]
            · congr 1; omega
            · rw [show ((4 : Nat) : Int) = 4 from rfl, szR_four (by omega)]; omega
          have hE : encR ((c - 240) * 262144 + d % 64 * 4096 + e % 64 * 64 + f % 64) = (c :: d :: e :: f :: t).take 4 := by
            simp only [encR, List.take_succ_cons, List.take_zero]
            rw [if_neg (by omega), if_neg (by omega), if_neg (by omega)]
            congr 1
            · omega
            · congr 1
              · omega
              · congr 1
                · omega
                · congr 1; omega
          rw [e', er, en, if_pos (Nat.succ_pos _), if_pos ⟨(isR_iff _).2 (by omega), hE⟩]
        · have e' : ptR (c :: d :: e :: f :: t) = (0, 0) := by
            simp only [ptR, hb, hw, hp]
            rw [if_neg]
            rw [show ((4 : Nat) : Int) = 4 from rfl, szR_four (by omega)]; omega
          rw [e', er, en, if_neg (by decide), if_neg]
          rintro ⟨hr, h⟩
          rw [isR_iff] at hr
          simp only [encR, List.take_succ_cons, List.take_zero] at h
          split at h
          · simp at h
          · split at h
            · simp at h
            · split at h
              · simp at h
              · omega
      · rw [bad (d :: e :: f :: t) h (by intro d' e' f' s q; simp at q; obtain ⟨rfl, rfl, rfl, rfl⟩ := q; exact hq), er, en, if_neg (by decide), if_neg]
        rintro ⟨_, h⟩
        simp only [encR, List.take_succ_cons, List.take_zero] at h
        split at h
        · simp at h
        · split at h
          · simp at h
          · split at h
            · simp at h
            · simp only [List.cons.injEq, and_true] at h
              omega
  · have hb : hdB c = 0 := by simp [hdB, h1, h2, h3, h4, h5]
    have hw : hdW c = 0 := by simp [hdW, h1, h2, h3, h4, h5]
    have hp : pts 0 t 0 1 = 0 := by cases t <;> simp [pts]
    have e : ptR (c :: t) = (0, 0) := by
      simp only [ptR, hb, hw, hp]
      split <;> rfl
    have er : candR (c :: t) = -1 := by
      simp only [candR]
      rw [if_neg h1, if_neg (by omega), if_neg (by omega), if_neg (by omega)]
    rw [e, er, if_neg (by decide), if_neg (by simp [isR])]
end Go.Proofs.YtfdjchnckjgapaaGreatDoor.S1
