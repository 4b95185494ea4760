/-
  S1Plain S1Size S1Deco
-/
import Derived.WalkKit
import Derived.Test.YtfdjchnckjgapaaGreatDoorRows
import Derived.WalkSpells
namespace Go.Proofs.YtfdjchnckjgapaaGreatDoor.S1
open Go.RowKit
set_option linter.unusedVariables false
def szR (r : Int) : Int := if r < 0 then 0 else if 1114111 < r then 0 else if 55296 ≤ r ∧ r ≤ 57343 then 0 else if r < 128 then 1 else if r < 2048 then 2 else if r < 65536 then 3 else 4
def encR (r : Int) : List Int :=
  if r < 128 then [r] else if r < 2048 then [192 + r / 64, 128 + r % 64] else if r < 65536 then [224 + r / 4096, 128 + r / 64 % 64, 128 + r % 64]
  else [240 + r / 262144, 128 + r / 4096 % 64, 128 + r / 64 % 64, 128 + r % 64]
def isR (r : Int) : Bool := decide (0 ≤ r ∧ r ≤ 1114111 ∧ (r < 55296 ∨ 57343 < r))
end Go.Proofs.YtfdjchnckjgapaaGreatDoor.S1

namespace Go.Proofs.YtfdjchnckjgapaaGreatDoor.S1
open Go.RowKit
set_option linter.unusedVariables false
theorem size_any (r : Int) (w : World) : Calls Tryz.prog 140 #[.int .i64 r] w fun e w' => e = .returned (.int .i64 (szR r)) ∧ w' = w := by
  by_cases h0 : r < 0
  · go_enter Tryz.func140, Tryz.ntmps140
    go_wp2
    go_ret
    exact ⟨by simp [szR, h0], rfl⟩
  by_cases h1 : 1114111 < r
  · go_enter Tryz.func140, Tryz.ntmps140
    go_wp2
    go_ret
    exact ⟨by simp [szR, h1], rfl⟩
  by_cases h2 : 55296 ≤ r ∧ r ≤ 57343
  · obtain ⟨h2, h3⟩ := h2
    go_enter Tryz.func140, Tryz.ntmps140
    go_wp2
    go_ret
    exact ⟨by simp [szR, h2, h3], rfl⟩
  have e : szR r = if r < 128 then 1 else if r < 2048 then 2 else if r < 65536 then 3 else 4 := by
    unfold szR; rw [if_neg h0, if_neg h1, if_neg h2]
  rw [e]
  clear e
  rcases (show r < 55296 ∨ 57343 < r by omega) with h3 | h3
  all_goals
    clear h2
    go_enter Tryz.func140, Tryz.ntmps140
    go_wp2
    all_goals
      go_ret
      refine ⟨?_, rfl⟩
      repeat' split
      all_goals first | rfl | omega
end Go.Proofs.YtfdjchnckjgapaaGreatDoor.S1

namespace Go.Proofs.YtfdjchnckjgapaaGreatDoor.S1
open Go.RowKit
set_option linter.unusedVariables false
def hdB (c : Int) : Int := if c < 128 then c else if c < 192 then 0 else if c < 224 then c - 192 else if c < 240 then c - 224 else if c < 248 then c - 240 else 0
def hdW (c : Int) : Nat := if c < 128 then 1 else if c < 192 then 0 else if c < 224 then 2 else if c < 240 then 3 else if c < 248 then 4 else 0
def pts (wd : Nat) : List Int → Int → Nat → Int
  | [], r, _ => r
  | c :: t, r, i => if i < wd ∧ 128 ≤ c ∧ c < 192 then pts wd t (r * 64 + c % 64) (i + 1) else r
def ptR : List Int → Int × Nat
  | [] => (0, 0)
  | c :: t => if szR (pts (hdW c) t (hdB c) 1) = (hdW c : Int) then (pts (hdW c) t (hdB c) 1, hdW c) else (0, 0)
structure Un where
  r : Int
  w : Nat
  bad : Bool
def unP (l : List Int) : Un := if 0 < (ptR l).2 then ⟨(ptR l).1, (ptR l).2, false⟩ else ⟨65533, 1, true⟩
def candR : List Int → Int
  | c :: t => if c < 128 then c else if 192 ≤ c ∧ c < 224 ∧ 1 ≤ t.length then (c - 192) * 64 + t.getD 0 0 % 64
    else if 224 ≤ c ∧ c < 240 ∧ 2 ≤ t.length then (c - 224) * 4096 + t.getD 0 0 % 64 * 64 + t.getD 1 0 % 64
    else if 240 ≤ c ∧ c < 248 ∧ 3 ≤ t.length then (c - 240) * 262144 + t.getD 0 0 % 64 * 4096 + t.getD 1 0 % 64 * 64 + t.getD 2 0 % 64 else -1
  | [] => -1
def candN : List Int → Nat
  | c :: t => if c < 128 then 1 else if 192 ≤ c ∧ c < 224 ∧ 1 ≤ t.length then 2 else if 224 ≤ c ∧ c < 240 ∧ 2 ≤ t.length then 3 else if 240 ≤ c ∧ c < 248 ∧ 3 ≤ t.length then 4 else 1
  | [] => 1
def unD (l : List Int) : Un := if isR (candR l) = true ∧ encR (candR l) = l.take (candN l) then ⟨candR l, candN l, false⟩ else ⟨65533, 1, true⟩
def Byt (l : List Int) : Prop := ∀ c ∈ l, 0 ≤ c ∧ c ≤ 255
theorem isR_iff (r : Int) : isR r = true ↔ 0 ≤ r ∧ r ≤ 1114111 ∧ (r < 55296 ∨ 57343 < r) := by simp [isR]
theorem szR_one {r : Int} (h : 0 ≤ r) : szR r = 1 ↔ r < 128 := by
  unfold szR
  repeat' split
  all_goals omega
theorem szR_two {r : Int} (h : 0 ≤ r) : szR r = 2 ↔ 128 ≤ r ∧ r < 2048 := by
  unfold szR
  repeat' split
  all_goals omega
theorem szR_three {r : Int} (h : 0 ≤ r) : szR r = 3 ↔ 2048 ≤ r ∧ r < 65536 ∧ (r < 55296 ∨ 57343 < r) := by
  unfold szR
  repeat' split
  all_goals omega
theorem szR_four {r : Int} (h : 0 ≤ r) : szR r = 4 ↔ 65536 ≤ r ∧ r ≤ 1114111 := by
  unfold szR
  repeat' split
  all_goals omega
theorem unP_eq (c : Int) (t : List Int) (h : Byt (c :: t)) : unP (c :: t) = unD (c :: t) := by
  have hc := h c (by simp)
  unfold unP unD
  by_cases h1 : c < 128
  · have e : ptR (c :: t) = (c, 1) := by
      have hb : hdB c = c := by simp [hdB, h1]
      have hw : hdW c = 1 := by simp [hdW, h1]
      have hp : pts 1 t c 1 = c := by cases t <;> simp [pts]
      simp only [ptR, hb, hw, hp]
      rw [if_pos (show szR c = ((1 : Nat) : Int) from (szR_one hc.1).2 h1)]
    have er : candR (c :: t) = c := by simp [candR, h1]
    have en : candN (c :: t) = 1 := by simp [candN, h1]
    rw [e, er, en, if_pos (Nat.succ_pos _), if_pos ⟨(isR_iff _).2 (by omega), by simp [encR, h1]⟩]
  by_cases h2 : c < 192
  · have hb : hdB c = 0 := by simp [hdB, h1, h2]
    have hw : hdW c = 0 := by simp [hdW, h1, h2]
    have hp : pts 0 t 0 1 = 0 := by cases t <;> simp [pts]
    have e : ptR (c :: t) = (0, 0) := by
      simp only [ptR, hb, hw, hp]
      split <;> rfl
    have er : candR (c :: t) = -1 := by
      simp only [candR]
      rw [if_neg h1, if_neg (by omega), if_neg (by omega), if_neg (by omega)]
    rw [e, er, if_neg (by decide), if_neg (by simp [isR])]
  by_cases h3 : c < 224
  · have hb : hdB c = c - 192 := by simp [hdB, h1, h2, h3]
    have hw : hdW c = 2 := by simp [hdW, h1, h2, h3]
    match t, h with
    | [], _ =>
      have e : ptR [c] = (0, 0) := by
        simp only [ptR, hb, hw, pts]
        rw [if_neg]
        rw [show ((2 : Nat) : Int) = 2 from rfl, szR_two (by omega)]; omega
      have er : candR [c] = -1 := by
        simp only [candR, List.length_nil]
        rw [if_neg h1, if_neg (by omega), if_neg (by omega), if_neg (by omega)]
      rw [e, er, if_neg (by decide), if_neg (by simp [isR])]
    | d :: t, h =>
      have hd := h d (by simp)
      have er : candR (c :: d :: t) = (c - 192) * 64 + d % 64 := by
        simp only [candR, List.length_cons, List.getD_cons_zero]
        rw [if_neg h1, if_pos (by omega)]
      have en : candN (c :: d :: t) = 2 := by
        simp only [candN, List.length_cons]
        rw [if_neg h1, if_pos (by omega)]
      by_cases hd1 : 128 ≤ d ∧ d < 192
      · have hp : pts 2 (d :: t) (c - 192) 1 = (c - 192) * 64 + d % 64 := by
          simp only [pts]
          rw [if_pos (by omega)]
          cases t <;> simp [pts]
        by_cases hz : 128 ≤ (c - 192) * 64 + d % 64
        · have e : ptR (c :: d :: t) = ((c - 192) * 64 + d % 64, 2) := by
            simp only [ptR, hb, hw, hp]
            rw [if_pos]
            rw [show ((2 : Nat) : Int) = 2 from rfl, szR_two (by omega)]; omega
          have hE : encR ((c - 192) * 64 + d % 64) = (c :: d :: t).take 2 := by
            simp only [encR, List.take_succ_cons, List.take_zero]
            rw [if_neg (by omega), if_pos (by omega)]
            congr 1
            · omega
            · congr 1; omega
          rw [e, er, en, if_pos (Nat.succ_pos _), if_pos ⟨(isR_iff _).2 (by omega), hE⟩]
        · have e : ptR (c :: d :: t) = (0, 0) := by
            simp only [ptR, hb, hw, hp]
            rw [if_neg]
            rw [show ((2 : Nat) : Int) = 2 from rfl, szR_two (by omega)]; omega
          rw [e, er, en, if_neg (by decide), if_neg]
          rintro ⟨_, h⟩
          simp only [encR, List.take_succ_cons, List.take_zero] at h
          rw [if_pos (by omega)] at h
          simp at h
      · have hp : pts 2 (d :: t) (c - 192) 1 = c - 192 := by
          simp only [pts]
          rw [if_neg (by omega)]
        have e : ptR (c :: d :: t) = (0, 0) := by
          simp only [ptR, hb, hw, hp]
          rw [if_neg]
          rw [show ((2 : Nat) : Int) = 2 from rfl, szR_two (by omega)]; omega
        rw [e, er, en, if_neg (by decide), if_neg]
        rintro ⟨_, h⟩
        simp only [encR, List.take_succ_cons, List.take_zero] at h
        by_cases q : (c - 192) * 64 + d % 64 < 128
        · rw [if_pos q] at h; simp at h
        · rw [if_neg q, if_pos (by omega)] at h
          simp only [List.cons.injEq, and_true] at h
          omega
  by_cases h4 : c < 240
  · have hb : hdB c = c - 224 := by simp [hdB, h1, h2, h3, h4]
    have hw : hdW c = 3 := by simp [hdW, h1, h2, h3, h4]
    have bad : ∀ t', Byt (c :: t') → (∀ d e s, t' = d :: e :: s → ¬ (128 ≤ d ∧ d < 192 ∧ 128 ≤ e ∧ e < 192)) → ptR (c :: t') = (0, 0) := by
      intro t' ht hno
      have hlow : 0 ≤ pts 3 t' (c - 224) 1 ∧ pts 3 t' (c - 224) 1 < 2048 := by
        match t', ht, hno with
        | [], _, _ => simp only [pts]; omega
        | [d], ht, _ =>
          have hd := ht d (by simp)
          simp only [pts]
          split <;> omega
        | d :: e :: s, ht, hno =>
          have hd := ht d (by simp)
          have he := ht e (by simp)
          have := hno d e s rfl
          simp only [pts]
          by_cases q : 1 < 3 ∧ 128 ≤ d ∧ d < 192
          · rw [if_pos q, if_neg (by omega)]; omega
          · rw [if_neg q]; omega
      simp only [ptR, hb, hw]
      rw [if_neg]
      rw [show ((3 : Nat) : Int) = 3 from rfl, szR_three hlow.1]; omega
    match t, h with
    | [], h =>
      have er : candR [c] = -1 := by
        simp only [candR, List.length_nil]
        rw [if_neg h1, if_neg (by omega), if_neg (by omega), if_neg (by omega)]
      rw [bad [] h (by intro d e s q; simp at q), er, if_neg (by decide), if_neg (by simp [isR])]
    | [d], h =>
      have er : candR [c, d] = -1 := by
        simp only [candR, List.length_cons, List.length_nil]
        rw [if_neg h1, if_neg (by omega), if_neg (by omega), if_neg (by omega)]
      rw [bad [d] h (by intro d e s q; simp at q), er, if_neg (by decide), if_neg (by simp [isR])]
    | d :: e :: t, h =>
      have hd := h d (by simp)
      have he := h e (by simp)
      have er : candR (c :: d :: e :: t) = (c - 224) * 4096 + d % 64 * 64 + e % 64 := by
        simp only [candR, List.length_cons, List.getD_cons_zero, List.getD_cons_succ]
        rw [if_neg h1, if_neg (by omega), if_pos (by omega)]
      have en : candN (c :: d :: e :: t) = 3 := by
        simp only [candN, List.length_cons]
        rw [if_neg h1, if_neg (by omega), if_pos (by omega)]
      by_cases hq : 128 ≤ d ∧ d < 192 ∧ 128 ≤ e ∧ e < 192
      · have hp : pts 3 (d :: e :: t) (c - 224) 1 = ((c - 224) * 64 + d % 64) * 64 + e % 64 := by
          simp only [pts]
          rw [if_pos (by omega), if_pos (by omega)]
          cases t <;> simp [pts]
        by_cases hz : 2048 ≤ (c - 224) * 4096 + d % 64 * 64 + e % 64 ∧ ((c - 224) * 4096 + d % 64 * 64 + e % 64 < 55296 ∨ 57343 < (c - 224) * 4096 + d % 64 * 64 + e % 64)
        · have e' : ptR (c :: d :: e :: t) = ((c - 224) * 4096 + d % 64 * 64 + e % 64, 3) := by
            simp only [ptR, hb, hw, hp]
            rw [if_pos]
            · congr 1; omega
            · rw [show ((3 : Nat) : Int) = 3 from rfl, szR_three (by omega)]; omega
          have hE : encR ((c - 224) * 4096 + d % 64 * 64 + e % 64) = (c :: d :: e :: t).take 3 := by
            simp only [encR, List.take_succ_cons, List.take_zero]
            rw [if_neg (by omega), if_neg (by omega), if_pos (by omega)]
            congr 1
            · omega
            · congr 1
              · omega
              · congr 1; omega
          rw [e', er, en, if_pos (Nat.succ_pos _), if_pos ⟨(isR_iff _).2 (by omega), hE⟩]
        · have e' : ptR (c :: d :: e :: t) = (0, 0) := by
            simp only [ptR, hb, hw, hp]
            rw [if_neg]
            rw [show ((3 : Nat) : Int) = 3 from rfl, szR_three (by omega)]; omega
          rw [e', er, en, if_neg (by decide), if_neg]
          rintro ⟨hr, h⟩
          rw [isR_iff] at hr
          simp only [encR, List.take_succ_cons, List.take_zero] at h
          split at h
          · simp at h
          · split at h
            · simp at h
            · omega
      · rw [bad (d :: e :: t) h (by intro d' e' s q; simp at q; obtain ⟨rfl, rfl, rfl⟩ := q; exact hq), er, en, if_neg (by decide), if_neg]
        rintro ⟨_, h⟩
        simp only [encR, List.take_succ_cons, List.take_zero] at h
        split at h
        · simp at h
        · split at h
          · simp at h
          · rw [if_pos (by omega)] at h
            simp only [List.cons.injEq, and_true] at h
            omega
  by_cases h5 : c < 248
  · have hb : hdB c = c - 240 := by simp [hdB, h1, h2, h3, h4, h5]
    have hw : hdW c = 4 := by simp [hdW, h1, h2, h3, h4, h5]
    have bad : ∀ t', Byt (c :: t') → (∀ d e f s, t' = d :: e :: f :: s → ¬ (128 ≤ d ∧ d < 192 ∧ 128 ≤ e ∧ e < 192 ∧ 128 ≤ f ∧ f < 192)) → ptR (c :: t') = (0, 0) := by
      intro t' ht hno
      have hlow : 0 ≤ pts 4 t' (c - 240) 1 ∧ pts 4 t' (c - 240) 1 < 65536 := by
        match t', ht, hno with
        | [], _, _ => simp only [pts]; omega
        | [d], ht, _ =>
          have hd := ht d (by simp)
          simp only [pts]
          split <;> omega
        | [d, e], ht, _ =>
          have hd := ht d (by simp)
          have he := ht e (by simp)
          simp only [pts]
          repeat' split
          all_goals omega
        | d :: e :: f :: s, ht, hno =>
          have hd := ht d (by simp)
          have he := ht e (by simp)
          have hf := ht f (by simp)
          have := hno d e f s rfl
          simp only [pts]
          by_cases q : 1 < 4 ∧ 128 ≤ d ∧ d < 192
          · rw [if_pos q]
            by_cases q2 : 1 + 1 < 4 ∧ 128 ≤ e ∧ e < 192
            · rw [if_pos q2, if_neg (by omega)]; omega
            · rw [if_neg q2]; omega
          · rw [if_neg q]; omega
      simp only [ptR, hb, hw]
      rw [if_neg]
      rw [show ((4 : Nat) : Int) = 4 from rfl, szR_four hlow.1]; omega
    match t, h with
    | [], h =>
      have er : candR [c] = -1 := by
        simp only [candR, List.length_nil]
        rw [if_neg h1, if_neg (by omega), if_neg (by omega), if_neg (by omega)]
      rw [bad [] h (by intro d e f s q; simp at q), er, if_neg (by decide), if_neg (by simp [isR])]
    | [d], h =>
      have er : candR [c, d] = -1 := by
        simp only [candR, List.length_cons, List.length_nil]
        rw [if_neg h1, if_neg (by omega), if_neg (by omega), if_neg (by omega)]
      rw [bad [d] h (by intro d e f s q; simp at q), er, if_neg (by decide), if_neg (by simp [isR])]
    | [d, e], h =>
      have er : candR [c, d, e] = -1 := by
        simp only [candR, List.length_cons, List.length_nil]
        rw [if_neg h1, if_neg (by omega), if_neg (by omega), if_neg (by omega)]
      rw [bad [d, e] h (by intro d e f s q; simp at q), er, if_neg (by decide), if_neg (by simp [isR])]
    | d :: e :: f :: t, h =>
      have hd := h d (by simp)
      have he := h e (by simp)
      have hf := h f (by simp)
      have er : candR (c :: d :: e :: f :: t) = (c - 240) * 262144 + d % 64 * 4096 + e % 64 * 64 + f % 64 := by
        simp only [candR, List.length_cons, List.getD_cons_zero, List.getD_cons_succ]
        rw [if_neg h1, if_neg (by omega), if_neg (by omega), if_pos (by omega)]
      have en : candN (c :: d :: e :: f :: t) = 4 := by
        simp only [candN, List.length_cons]
        rw [if_neg h1, if_neg (by omega), if_neg (by omega), if_pos (by omega)]
      by_cases hq : 128 ≤ d ∧ d < 192 ∧ 128 ≤ e ∧ e < 192 ∧ 128 ≤ f ∧ f < 192
      · have hp : pts 4 (d :: e :: f :: t) (c - 240) 1 = (((c - 240) * 64 + d % 64) * 64 + e % 64) * 64 + f % 64 := by
          simp only [pts]
          rw [if_pos (by omega), if_pos (by omega), if_pos (by omega)]
          cases t <;> simp [pts]
        by_cases hz : 65536 ≤ (c - 240) * 262144 + d % 64 * 4096 + e % 64 * 64 + f % 64 ∧ (c - 240) * 262144 + d % 64 * 4096 + e % 64 * 64 + f % 64 ≤ 1114111
        · have e' : ptR (c :: d :: e :: f :: t) = ((c - 240) * 262144 + d % 64 * 4096 + e % 64 * 64 + f % 64, 4) := by
            simp only [ptR, hb, hw, hp]
            rw [if_pos]
            · congr 1; omega
            · rw [show ((4 : Nat) : Int) = 4 from rfl, szR_four (by omega)]; omega
          have hE : encR ((c - 240) * 262144 + d % 64 * 4096 + e % 64 * 64 + f % 64) = (c :: d :: e :: f :: t).take 4 := by
            simp only [encR, List.take_succ_cons, List.take_zero]
            rw [if_neg (by omega), if_neg (by omega), if_neg (by omega)]
            congr 1
            · omega
            · congr 1
              · omega
              · congr 1
                · omega
                · congr 1; omega
          rw [e', er, en, if_pos (Nat.succ_pos _), if_pos ⟨(isR_iff _).2 (by omega), hE⟩]
        · have e' : ptR (c :: d :: e :: f :: t) = (0, 0) := by
            simp only [ptR, hb, hw, hp]
            rw [if_neg]
            rw [show ((4 : Nat) : Int) = 4 from rfl, szR_four (by omega)]; omega
          rw [e', er, en, if_neg (by decide), if_neg]
          rintro ⟨hr, h⟩
          rw [isR_iff] at hr
          simp only [encR, List.take_succ_cons, List.take_zero] at h
          split at h
          · simp at h
          · split at h
            · simp at h
            · split at h
              · simp at h
              · omega
      · rw [bad (d :: e :: f :: t) h (by intro d' e' f' s q; simp at q; obtain ⟨rfl, rfl, rfl, rfl⟩ := q; exact hq), er, en, if_neg (by decide), if_neg]
        rintro ⟨_, h⟩
        simp only [encR, List.take_succ_cons, List.take_zero] at h
        split at h
        · simp at h
        · split at h
          · simp at h
          · split at h
            · simp at h
            · simp only [List.cons.injEq, and_true] at h
              omega
  · have hb : hdB c = 0 := by simp [hdB, h1, h2, h3, h4, h5]
    have hw : hdW c = 0 := by simp [hdW, h1, h2, h3, h4, h5]
    have hp : pts 0 t 0 1 = 0 := by cases t <;> simp [pts]
    have e : ptR (c :: t) = (0, 0) := by
      simp only [ptR, hb, hw, hp]
      split <;> rfl
    have er : candR (c :: t) = -1 := by
      simp only [candR]
      rw [if_neg h1, if_neg (by omega), if_neg (by omega), if_neg (by omega)]
    rw [e, er, if_neg (by decide), if_neg (by simp [isR])]
end Go.Proofs.YtfdjchnckjgapaaGreatDoor.S1
