/-
  Plain mathematics: the bytes of code points are decoded as they are, whatever stands behind them.
-/
import Derived.Test.YtdjhgjnhfmggjaaDoorS1Runs
namespace Go.Proofs.YtdjhgjnhfmggjaaDoor.S1
open Go.RowKit
set_option linter.unusedVariables false

theorem unD_enc (r : Int) (h : isR r = true) (y : List Int) : unD (encR r ++ y) = ⟨r, (encR r).length, false⟩ := by
  have hr := (isR_iff r).1 h
  have key : ∀ n, n = (encR r).length → candR (encR r ++ y) = r → candN (encR r ++ y) = n → unD (encR r ++ y) = ⟨r, (encR r).length, false⟩ := by
    intro n hn er en
    unfold unD
    rw [er, en, if_pos ⟨h, by rw [hn, List.take_left']; rfl⟩, hn]
  by_cases h1 : r < 128
  · have e : encR r = [r] := by simp [encR, h1]
    apply key 1 (by rw [e]; rfl)
    · rw [e]; simp only [List.cons_append, List.nil_append, candR]; rw [if_pos h1]
    · rw [e]; simp only [List.cons_append, List.nil_append, candN]; rw [if_pos h1]
  by_cases h2 : r < 2048
  · have e : encR r = [192 + r / 64, 128 + r % 64] := by simp [encR, h1, h2]
    apply key 2 (by rw [e]; rfl)
    · rw [e]; simp only [List.cons_append, List.nil_append, candR, List.length_cons, List.getD_cons_zero]
      rw [if_neg (by omega), if_pos (by omega)]; omega
    · rw [e]; simp only [List.cons_append, List.nil_append, candN, List.length_cons]
      rw [if_neg (by omega), if_pos (by omega)]
  by_cases h3 : r < 65536
  · have e : encR r = [224 + r / 4096, 128 + r / 64 % 64, 128 + r % 64] := by simp [encR, h1, h2, h3]
    apply key 3 (by rw [e]; rfl)
    · rw [e]; simp only [List.cons_append, List.nil_append, candR, List.length_cons, List.getD_cons_zero, List.getD_cons_succ]
      rw [if_neg (by omega), if_neg (by omega), if_pos (by omega)]; omega
    · rw [e]; simp only [List.cons_append, List.nil_append, candN, List.length_cons]
      rw [if_neg (by omega), if_neg (by omega), if_pos (by omega)]
  · have e : encR r = [240 + r / 262144, 128 + r / 4096 % 64, 128 + r / 64 % 64, 128 + r % 64] := by simp [encR, h1, h2, h3]
    apply key 4 (by rw [e]; rfl)
    · rw [e]; simp only [List.cons_append, List.nil_append, candR, List.length_cons, List.getD_cons_zero, List.getD_cons_succ]
      rw [if_neg (by omega), if_neg (by omega), if_neg (by omega), if_pos (by omega)]; omega
    · rw [e]; simp only [List.cons_append, List.nil_append, candN, List.length_cons]
      rw [if_neg (by omega), if_neg (by omega), if_neg (by omega), if_pos (by omega)]

theorem unitAt_enc (x : List Int) (r : Int) (h : isR r = true) (y : List Int) : unitAt (x ++ (encR r ++ y)) x.length = ⟨r, x.length, (encR r).length, false⟩ := by
  unfold unitAt
  rw [List.drop_left', unD_enc r h y]
  rfl

/-- The units of code points, from a place on. -/
def unitsOf : Nat → List Int → List U
  | _, [] => []
  | p, r :: l => ⟨r, p, (encR r).length, false⟩ :: unitsOf (p + (encR r).length) l

theorem unitsOf_r : ∀ (p : Nat) (l : List Int), (unitsOf p l).map U.r = l
  | _, [] => rfl
  | p, r :: l => by simp only [unitsOf, List.map_cons, unitsOf_r _ l]
theorem unitsOf_good : ∀ (p : Nat) (l : List Int), ∀ u ∈ unitsOf p l, u.bad = false
  | _, [], u, h => by cases h
  | p, r :: l, u, h => by
    simp only [unitsOf, List.mem_cons] at h
    rcases h with rfl | h
    · rfl
    · exact unitsOf_good _ l u h

theorem encR_pos (r : Int) : 1 ≤ (encR r).length := by
  unfold encR
  repeat' split
  all_goals simp

theorem Run.text : ∀ (l : List Int) (x y : List Int), (∀ r ∈ l, isR r = true) → Run (x ++ (l.flatMap encR ++ y)) x.length (unitsOf x.length l) (x.length + (l.flatMap encR).length)
  | [], x, y, _ => by simp [unitsOf, Run]
  | r :: l, x, y, h => by
    have hr := h r (by simp)
    have hp := encR_pos r
    have e : x ++ ((r :: l).flatMap encR ++ y) = x ++ (encR r ++ (l.flatMap encR ++ y)) := by simp
    have e2 : x ++ (encR r ++ (l.flatMap encR ++ y)) = (x ++ encR r) ++ (l.flatMap encR ++ y) := by simp
    refine ⟨by simp; omega, by rw [e, unitAt_enc x r hr], ?_⟩
    have ih := Run.text l (x ++ encR r) y (fun q hq => h q (by simp [hq]))
    rw [e, e2]
    have e3 : x.length + ((r :: l).flatMap encR).length = (x ++ encR r).length + (l.flatMap encR).length := by simp; omega
    rw [e3]
    have e4 : (x ++ encR r).length = x.length + (encR r).length := by simp
    rw [e4] at ih ⊢
    exact ih

theorem Run.append {b : List Int} : ∀ {us vs : List U} {p q t : Nat}, Run b p us q → Run b q vs t → Run b p (us ++ vs) t
  | [], vs, p, q, t, h, k => by
    obtain rfl : p = q := h
    exact k
  | u :: us, vs, p, q, t, h, k => ⟨h.1, h.2.1, Run.append h.2.2 k⟩

/-- The unit moved on by n places. -/
def U.up (n : Nat) (u : U) : U := ⟨u.r, n + u.p, u.w, u.bad⟩

theorem unitAt_up (x b : List Int) (p : Nat) : unitAt (x ++ b) (x.length + p) = (unitAt b p).up x.length := by
  unfold unitAt U.up
  have e : (x ++ b).drop (x.length + p) = b.drop p := by rw [List.drop_append]; simp
  rw [e]

theorem Run.up (x b : List Int) : ∀ {us : List U} {p q : Nat}, Run b p us q → Run (x ++ b) (x.length + p) (us.map (U.up x.length)) (x.length + q)
  | [], p, q, h => by
    obtain rfl : p = q := h
    rfl
  | u :: us, p, q, h => by
    refine ⟨by have := h.1; simp; omega, by rw [h.2.1, unitAt_up], ?_⟩
    have := Run.up x b h.2.2
    have e : x.length + p + (U.up x.length u).w = x.length + (p + u.w) := by unfold U.up; dsimp only; omega
    rw [e]
    exact this

/-- What is decoded of the bytes of code points and what stands behind them. -/
theorem Run.joined (l b : List Int) (h : ∀ r ∈ l, isR r = true) {us vs : List U} (hu : Run (l.flatMap encR ++ b) 0 us (l.flatMap encR ++ b).length) (hv : Run b 0 vs b.length) : us.map U.r = l ++ vs.map U.r := by
  have h1 := Run.text l [] b h
  have h2 := Run.up (l.flatMap encR) b hv
  simp only [List.nil_append, List.length_nil, Nat.zero_add, Nat.add_zero] at h1 h2
  have h3 := h1.append h2
  have e : (l.flatMap encR).length + b.length = (l.flatMap encR ++ b).length := by simp
  rw [e] at h3
  rw [Run.unique hu h3, List.map_append, unitsOf_r]
  congr 1
  rw [List.map_map]
  rfl

theorem Run.back (l : List Int) (h : ∀ r ∈ l, isR r = true) {us : List U} (hu : Run (l.flatMap encR) 0 us (l.flatMap encR).length) : us.map U.r = l ∧ ∀ u ∈ us, u.bad = false := by
  have h1 := Run.text l [] [] h
  simp only [List.nil_append, List.append_nil, List.length_nil, Nat.zero_add] at h1
  rw [Run.unique hu h1]
  exact ⟨unitsOf_r 0 l, unitsOf_good 0 l⟩
end Go.Proofs.YtdjhgjnhfmggjaaDoor.S1
