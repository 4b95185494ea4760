/-
  Plain mathematics: how many numbers a set has; a set and what is not in it have all numbers between them.
-/
import Derived.Test.YtmknifnhcgdkaaaX00
namespace Go.Proofs.Ytmknifnhcgdkaaa
open Go.RowKit
set_option linter.unusedVariables false

/-- How many of the n numbers from lo on f takes. -/
def cntI (f : Int → Bool) (lo : Int) : Nat → Nat
  | 0 => 0
  | n + 1 => cntI f lo n + (if f (lo + n) = true then 1 else 0)

theorem cntI_add (f : Int → Bool) (lo : Int) (m : Nat) : ∀ n, cntI f lo (m + n) = cntI f lo m + cntI f (lo + m) n
  | 0 => rfl
  | n + 1 => by
    have e : lo + ((m + n : Nat) : Int) = lo + (m : Int) + (n : Int) := by omega
    show cntI f lo (m + n) + (if f (lo + ((m + n : Nat) : Int)) = true then 1 else 0) = cntI f lo m + (cntI f (lo + m) n + (if f (lo + m + n) = true then 1 else 0))
    rw [cntI_add f lo m n, e]
    omega
theorem cntI_congr {f g : Int → Bool} (lo : Int) : ∀ (n : Nat), (∀ x, lo ≤ x → x < lo + n → f x = g x) → cntI f lo n = cntI g lo n
  | 0, _ => rfl
  | n + 1, h => by
    show cntI f lo n + _ = cntI g lo n + _
    rw [cntI_congr lo n (fun x a b => h x a (by omega)), h (lo + n) (by omega) (by omega)]
theorem cntI_true {f : Int → Bool} (lo : Int) : ∀ (n : Nat), (∀ x, lo ≤ x → x < lo + n → f x = true) → cntI f lo n = n
  | 0, _ => rfl
  | n + 1, h => by
    show cntI f lo n + _ = n + 1
    rw [cntI_true lo n (fun x a b => h x a (by omega)), if_pos (h (lo + n) (by omega) (by omega))]
theorem cntI_false {f : Int → Bool} (lo : Int) : ∀ (n : Nat), (∀ x, lo ≤ x → x < lo + n → f x = false) → cntI f lo n = 0
  | 0, _ => rfl
  | n + 1, h => by
    show cntI f lo n + _ = 0
    rw [cntI_false lo n (fun x a b => h x a (by omega)), if_neg (by rw [h (lo + n) (by omega) (by omega)]; decide)]
theorem cntI_not (f : Int → Bool) (lo : Int) : ∀ (n : Nat), cntI f lo n + cntI (fun x => !f x) lo n = n
  | 0 => rfl
  | n + 1 => by
    have ih := cntI_not f lo n
    show cntI f lo n + (if f (lo + n) = true then 1 else 0) + (cntI (fun x => !f x) lo n + (if (!f (lo + n)) = true then 1 else 0)) = n + 1
    cases h : f (lo + n) with
    | true => simp only [if_true, Bool.not_true]; rw [if_neg (by decide)]; omega
    | false => simp only [Bool.not_false, if_true]; rw [if_neg (by decide)]; omega

/-- How many numbers the ranges have, reckoned range by range. -/
def sumR : List Rg → Int
  | [] => 0
  | r :: l => (r.hi - r.lo + 1) + sumR l

theorem sum_cnt : ∀ {l : List Rg} {b : Int} {n : Nat}, NormFrom b l → (∀ r ∈ l, r.hi < b + n) → sumR l = (cntI (hasR l) b n : Int)
  | [], b, n, _, _ => by rw [cntI_false (f := hasR []) b n (fun x _ _ => rfl)]; rfl
  | r :: l, b, n, h, hb => by
    have h1 := h.1
    have h2 := h.2.1
    have h3 := hb r (by simp)
    obtain ⟨m1, e1⟩ : ∃ m1 : Nat, (m1 : Int) = r.lo - b := ⟨(r.lo - b).toNat, by omega⟩
    obtain ⟨m2, e2⟩ : ∃ m2 : Nat, (m2 : Int) = r.hi - r.lo + 1 := ⟨(r.hi - r.lo + 1).toNat, by omega⟩
    obtain ⟨m3, e3⟩ : ∃ m3 : Nat, n = m1 + (m2 + m3) := ⟨n - m1 - m2, by omega⟩
    have ih := sum_cnt (l := l) (b := r.hi + 1) (n := m3) (h.2.2.mono (by omega)) (fun s hs => by have := hb s (by simp [hs]); omega)
    rw [e3, cntI_add, cntI_add]
    have p1 : cntI (hasR (r :: l)) b m1 = 0 := cntI_false b m1 (fun x a c => by
      cases q : hasR (r :: l) x with
      | false => rfl
      | true =>
        have := NormFrom.ge (b := r.lo) (l := r :: l) ⟨Int.le_refl _, h.2⟩ q
        omega)
    have p2 : cntI (hasR (r :: l)) (b + m1) m2 = m2 := cntI_true _ m2 (fun x a c => by
      rw [hasR_cons, decide_eq_true (by omega)]; rfl)
    have p3 : cntI (hasR (r :: l)) (b + m1 + m2) m3 = cntI (hasR l) (r.hi + 1) m3 := by
      have e : b + (m1 : Int) + (m2 : Int) = r.hi + 1 := by omega
      rw [e]
      exact cntI_congr _ m3 (fun x a c => by rw [hasR_cons, decide_eq_false (by omega)]; rfl)
    rw [p1, p2, p3]
    show (r.hi - r.lo + 1) + sumR l = _
    rw [ih]
    omega

theorem Upto.hi {f : Int → Bool} {a : List Rg} {e : Int} (h : Upto f a e) : ∀ r ∈ a, 0 ≤ r.lo ∧ r.lo ≤ r.hi ∧ r.hi < e := by
  have key : ∀ {l : List Rg} {b : Int}, NormFrom b l → ∀ r ∈ l, b ≤ r.lo ∧ r.lo ≤ r.hi := by
    intro l
    induction l with
    | nil => intro b _ r hr; cases hr
    | cons s l ih =>
      intro b k r hr
      rcases List.mem_cons.1 hr with q | q
      · rw [q]; exact ⟨k.1, k.2.1⟩
      · have := ih k.2.2 r q
        have := k.1; have := k.2.1; omega
  intro r hr
  have h1 := key h.1 r hr
  refine ⟨h1.1, h1.2, ?_⟩
  have h2 : hasR a r.hi = true := hasR_iff.2 ⟨r, hr, h1.2, Int.le_refl _⟩
  rw [h.2 r.hi] at h2
  exact (of_decide_eq_true h2).2.1

/-- A set and what is not in it have all numbers between them. -/
theorem sum_not {f : Int → Bool} {a c : List Rg} (h : Upto f a 1114112) (k : Upto (fun x => !f x) c 1114112) : sumR a + sumR c = 1114112 := by
  rw [sum_cnt (n := 1114112) h.1 (fun r hr => by have := h.hi r hr; omega), sum_cnt (n := 1114112) k.1 (fun r hr => by have := k.hi r hr; omega)]
  have e1 : cntI (hasR a) 0 1114112 = cntI f 0 1114112 := cntI_congr 0 _ (fun x p q => by
    rw [h.2 x]
    cases z : f x with
    | true => exact decide_eq_true ⟨p, by omega, rfl⟩
    | false => exact decide_eq_false (fun ⟨_, _, y⟩ => by cases y))
  have e2 : cntI (hasR c) 0 1114112 = cntI (fun x => !f x) 0 1114112 := cntI_congr 0 _ (fun x p q => by
    rw [k.2 x]
    cases z : f x with
    | true => exact decide_eq_false (fun ⟨_, _, y⟩ => by dsimp only at y; rw [z] at y; cases y)
    | false => exact decide_eq_true ⟨p, by omega, by dsimp only; rw [z]; rfl⟩)
  rw [e1, e2]
  have := cntI_not f 0 1114112
  omega
end Go.Proofs.Ytmknifnhcgdkaaa
