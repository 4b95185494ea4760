/-
  Where clusters end, as plain mathematics: the eleven rules over lists of numbers; the places, and how they come of two texts.
-/
import Derived.Test.YtmhligcmcfikfaaDoorFacts
namespace Go.Proofs.YtmhligcmcfikfaaDoor
open Go.RowKit
set_option linter.unusedVariables false

/-- Is a number a picture? -/
def piV (r : Int) : Bool := valP piR r != 0
--@math
/-- How many regional indicators a text begins with. -/
def regR : List Int → Nat
  | [] => 0
  | x :: l => if clV x = 6 then regR l + 1 else 0
/-- A picture behind any number of Extend. -/
def picR : List Int → Bool
  | [] => false
  | x :: l => if piV x = true then true else if clV x = 4 then picR l else false
def aloneK (k : Int) : Bool := k == 1 || k == 2 || k == 3
def markK (k : Int) : Bool := k == 4 || k == 5 || k == 8
def sylK (a b : Int) : Bool :=
  (a == 9 && (b == 9 || b == 10 || b == 12 || b == 13)) || ((a == 10 || a == 12) && (b == 10 || b == 11)) || ((a == 11 || a == 13) && b == 11)
/-- The rules behind the first: kinds ahead and behind, whether a picture is behind, whether one is ahead of the joiner, and how many regional indicators are ahead. -/
def ruleK (a b : Int) (pb pc : Bool) (n : Nat) : Bool :=
  if a = 1 ∧ b = 2 then false
  else if aloneK a = true ∨ aloneK b = true then true
  else if sylK a b = true ∨ markK b = true ∨ a = 7 then false
  else if a = 5 ∧ pb = true then !pc
  else if a = 6 ∧ b = 6 then n % 2 == 0
  else true
/-- Does a cluster end between what stands ahead (turned round) and what stands behind? n: the regional indicators ahead. -/
def brkN (n : Nat) : List Int → List Int → Bool
  | a :: pre, b :: _ => ruleK (clV a) (clV b) (piV b) (picR pre) n
  | _, _ => true
def brkR (pre post : List Int) : Bool := brkN (regR pre) pre post
def brk (l : List Int) (i : Nat) : Bool := brkR (l.take i).reverse (l.drop i)
/-- The program's own: the regional indicators are counted from a place on. -/
def endsB (l : List Int) (last i : Nat) : Bool := brkN (regR ((l.take i).drop last).reverse) (l.take i).reverse (l.drop i)

theorem brkN_cons (n : Nat) (a b : Int) (pre post : List Int) : brkN n (a :: pre) (b :: post) = ruleK (clV a) (clV b) (piV b) (picR pre) n := rfl
theorem brkN_nil (n : Nat) (post : List Int) : brkN n [] post = true := by unfold brkN; rfl
theorem brkN_end (n : Nat) (pre : List Int) : brkN n pre [] = true := by cases pre <;> rfl
theorem brk_zero (l : List Int) : brk l 0 = true := by unfold brk brkR; rw [List.take_zero]; exact brkN_nil _ _
theorem brk_end (l : List Int) {i : Nat} (h : l.length ≤ i) : brk l i = true := by unfold brk brkR; rw [List.drop_eq_nil_of_le h]; exact brkN_end _ _
theorem take_rev {l : List Int} {i : Nat} (h : i < l.length) : (l.take (i + 1)).reverse = l[i] :: (l.take i).reverse := by
  rw [List.take_succ_eq_append_getElem h]; simp
/-- The rules at an inner place. -/
theorem ends_mid {l : List Int} {last i : Nat} (h : i + 1 < l.length) : endsB l last (i + 1) = ruleK (clV (l[i]'(by omega))) (clV l[i + 1]) (piV l[i + 1]) (picR (l.take i).reverse) (regR ((l.take (i + 1)).drop last).reverse) := by
  unfold endsB
  rw [take_rev (by omega), List.drop_eq_getElem_cons h]
  rfl
theorem brk_ends (l : List Int) (i : Nat) : brk l i = endsB l 0 i := rfl
theorem brk_mid {l : List Int} {i : Nat} (h : i + 1 < l.length) : brk l (i + 1) = ruleK (clV (l[i]'(by omega))) (clV l[i + 1]) (piV l[i + 1]) (picR (l.take i).reverse) (regR (l.take (i + 1)).reverse) := by
  rw [brk_ends, ends_mid h, List.drop_zero]
theorem regR_le : ∀ l : List Int, regR l ≤ l.length
  | [] => Nat.le_refl _
  | x :: l => by
    unfold regR
    have := regR_le l
    split
    · rw [List.length_cons]; omega
    · omega
theorem regR_append : ∀ (a b : List Int), regR (a ++ b) = if regR a < a.length then regR a else a.length + regR b
  | [], b => by simp [regR]
  | x :: a, b => by
    rw [List.cons_append]
    by_cases h : clV x = 6
    · have e1 : regR (x :: (a ++ b)) = regR (a ++ b) + 1 := by rw [regR, if_pos h]
      have e2 : regR (x :: a) = regR a + 1 := by rw [regR, if_pos h]
      rw [e1, e2, regR_append a b, List.length_cons]
      by_cases q : regR a < a.length
      · rw [if_pos q, if_pos (by omega)]
      · rw [if_neg q, if_neg (by omega)]; omega
    · have e1 : regR (x :: (a ++ b)) = 0 := by rw [regR, if_neg h]
      have e2 : regR (x :: a) = 0 := by rw [regR, if_neg h]
      rw [e1, e2, List.length_cons, if_pos (by omega)]
theorem regR_all : ∀ {a : List Int}, ¬ regR a < a.length → ∀ x ∈ a, clV x = 6
  | [], _, x, hx => by cases hx
  | y :: a, h, x, hx => by
    unfold regR at h
    split at h
    · rename_i hy
      rw [List.length_cons] at h
      rcases List.mem_cons.1 hx with rfl | hx
      · exact hy
      · exact regR_all (by omega) x hx
    · rw [List.length_cons] at h; omega
theorem rule_flags {pb pc : Bool} {n : Nat} : ruleK 6 6 pb pc n = (n % 2 == 0) := by
  unfold ruleK
  rw [if_neg (by omega), if_neg (by simp [aloneK]), if_neg (by simp [sylK, markK]), if_neg (by omega), if_pos (by omega)]
theorem rule_other {a b : Int} (h : ¬ (a = 6 ∧ b = 6)) (pb pc : Bool) (n m : Nat) : ruleK a b pb pc n = ruleK a b pb pc m := by
  unfold ruleK
  rw [if_neg h, if_neg h]
/-- Counted from the last place on, regional indicators are as odd as they are. -/
theorem ends_brk {l : List Int} {last i : Nat} (hl : last ≤ i) (hb : brk l last = true) : endsB l last i = brk l i := by
  match i with
  | 0 => rw [brk_zero]; unfold endsB; rw [List.take_zero]; exact brkN_nil _ _
  | i + 1 =>
    by_cases h : i + 1 < l.length
    · rw [ends_mid h, brk_mid h]
      by_cases q : clV (l[i]'(by omega)) = 6 ∧ clV l[i + 1] = 6
      · rw [q.1, q.2, rule_flags, rule_flags]
        have e : (l.take (i + 1)).reverse = ((l.take (i + 1)).drop last).reverse ++ (l.take last).reverse := by
          have e0 := List.take_append_drop last (l.take (i + 1))
          rw [List.take_take, Nat.min_eq_left hl] at e0
          rw [← List.reverse_append, e0]
        rw [e, regR_append]
        split
        · rfl
        · rename_i hA
          have hall := regR_all hA
          have hlen : ((l.take (i + 1)).drop last).reverse.length = i + 1 - last := by simp; omega
          -- the number at the last place is a regional indicator
          have h6 : clV (l[last]'(by omega)) = 6 := by
            by_cases hli : last = i + 1
            · subst hli; exact q.2
            · refine hall _ ?_
              rw [List.mem_reverse]
              have : last < (l.take (i + 1)).length := by rw [List.length_take]; omega
              rw [List.drop_eq_getElem_cons this, List.getElem_take]
              exact List.mem_cons_self
          have hev : regR (l.take last).reverse % 2 = 0 := by
            clear hA hall hlen e
            cases last with
            | zero => simp [regR]
            | succ last =>
              by_cases h5 : clV (l[last]'(by omega)) = 6
              · rw [brk_mid (by omega), h5, h6, rule_flags] at hb
                simpa using hb
              · rw [take_rev (by omega), regR, if_neg h5]
          have hfull : regR ((l.take (i + 1)).drop last).reverse = ((l.take (i + 1)).drop last).reverse.length := by have := regR_le ((l.take (i + 1)).drop last).reverse; omega
          rw [hfull]
          congr 1
          omega
      · exact rule_other q _ _ _ _
    · rw [brk_end l (by omega)]
      unfold endsB
      have e : l.drop (i + 1) = [] := List.drop_eq_nil_of_le (by omega)
      rw [e]
      exact brkN_end _ _
/-- What stands behind the number behind a place plays no part. -/
theorem brk_local {l m : List Int} {i : Nat} (h : i < l.length) : brk (l ++ m) i = brk l i := by
  unfold brk
  rw [List.take_append_of_le_length (by omega), List.drop_append_of_le_length (by omega), List.drop_eq_getElem_cons h]
  cases (l.take i).reverse <;> rfl
theorem brk_take {l : List Int} {i k : Nat} (h : i < k) (hk : k ≤ l.length) : brk (l.take k) i = brk l i := by
  conv => rhs; rw [← List.take_append_drop k l]
  exact (brk_local (by rw [List.length_take]; omega)).symm

/-- The places of a text from i on. -/
def placesF (l : List Int) (i : Nat) : List Nat := (List.range' i (l.length + 1 - i)).filter (brk l)
def allL (l : List Int) : List Nat := (List.range (l.length + 1)).filter (brk l)
/-- The places below i. -/
def below (l : List Int) (i : Nat) : List Nat := (List.range i).filter (brk l)
theorem allL_eq (l : List Int) : allL l = below l (l.length + 1) := rfl
theorem below_succ (l : List Int) (i : Nat) : below l (i + 1) = if brk l i = true then below l i ++ [i] else below l i := by
  unfold below
  rw [List.range_succ, List.filter_append, List.filter_cons, List.filter_nil]
  split <;> simp_all
theorem below_len (l : List Int) (i : Nat) : (below l i).length ≤ i := by
  unfold below
  have := List.length_filter_le (brk l) (List.range i)
  rwa [List.length_range] at this
theorem below_lt {l : List Int} {i x : Nat} (h : x ∈ below l i) : x < i ∧ brk l x = true := by
  unfold below at h
  rw [List.mem_filter, List.mem_range] at h
  exact h
theorem all_part (l : List Int) {i : Nat} (h : i ≤ l.length + 1) : allL l = below l i ++ placesF l i := by
  unfold allL below placesF
  rw [← List.filter_append]
  congr 1
  have e : List.range' 0 i ++ List.range' (0 + i) (l.length + 1 - i) = List.range' 0 (i + (l.length + 1 - i)) := List.range'_append_1
  rw [Nat.zero_add, show i + (l.length + 1 - i) = l.length + 1 by omega] at e
  rw [List.range_eq_range', List.range_eq_range', e]
theorem placesF_step {l : List Int} {i : Nat} (h : i ≤ l.length) : placesF l i = if brk l i = true then i :: placesF l (i + 1) else placesF l (i + 1) := by
  unfold placesF
  have e : l.length + 1 - i = (l.length + 1 - (i + 1)) + 1 := by omega
  rw [e, List.range'_succ, List.filter_cons]
theorem placesF_mem {l : List Int} {i x : Nat} (h : x ∈ placesF l i) : i ≤ x ∧ x ≤ l.length ∧ brk l x = true := by
  unfold placesF at h
  rw [List.mem_filter, List.mem_range'_1] at h
  exact ⟨h.1.1, by omega, h.2⟩
theorem placesF_ne {l : List Int} {i : Nat} (h : i ≤ l.length) : placesF l i ≠ [] := by
  intro e
  have : l.length ∈ placesF l i := by
    unfold placesF
    rw [List.mem_filter, List.mem_range'_1]
    exact ⟨by omega, brk_end l (Nat.le_refl _)⟩
  rw [e] at this
  cases this
theorem allL_len (l : List Int) : (allL l).length ≤ l.length + 1 := below_len l _
/-- What At tells. -/
def IsAt (l : List Int) (i a b : Nat) : Prop :=
  a ≤ i ∧ brk l a = true ∧ (∀ j, a < j → j ≤ i → brk l j = false) ∧ ((i = l.length ∧ b = i) ∨ (i < l.length ∧ i < b ∧ b ≤ l.length ∧ brk l b = true ∧ ∀ j, i < j → j < b → brk l j = false))
theorem IsAt.unique {l : List Int} {i a b x y : Nat} (h : IsAt l i a b) (k : IsAt l i x y) : a = x ∧ b = y := by
  obtain ⟨h1, h2, h3, h4⟩ := h
  obtain ⟨k1, k2, k3, k4⟩ := k
  refine ⟨?_, ?_⟩
  · rcases Nat.lt_trichotomy a x with q | q | q
    · rw [h3 x q k1] at k2; cases k2
    · exact q
    · rw [k3 a q h1] at h2; cases h2
  · rcases h4 with ⟨e1, e2⟩ | ⟨e1, e2, e3, e4, e5⟩
    · rcases k4 with ⟨f1, f2⟩ | ⟨f1, _⟩
      · omega
      · omega
    · rcases k4 with ⟨f1, f2⟩ | ⟨f1, f2, f3, f4, f5⟩
      · omega
      · rcases Nat.lt_trichotomy b y with q | q | q
        · rw [f5 b e2 q] at e4; cases e4
        · exact q
        · rw [e5 y f2 q] at f4; cases f4
/-- The first place from i on, and none between. -/
theorem placesF_head {l : List Int} : ∀ {n i : Nat}, l.length - i = n → i ≤ l.length → ∃ b t, placesF l i = b :: t ∧ i ≤ b ∧ b ≤ l.length ∧ brk l b = true ∧ ∀ j, i ≤ j → j < b → brk l j = false
  | n, i, hn, h => by
    by_cases q : brk l i = true
    · exact ⟨i, placesF l (i + 1), by rw [placesF_step h, if_pos q], Nat.le_refl _, h, q, fun j h1 h2 => by omega⟩
    · have hlt : i < l.length := by
        rcases Nat.lt_or_ge i l.length with h' | h'
        · exact h'
        · exact absurd (brk_end l h') q
      match n, hn with
      | 0, hn => omega
      | n + 1, hn =>
        obtain ⟨b, t, e, h1, h2, h3, h4⟩ := placesF_head (l := l) (n := n) (i := i + 1) (by omega) (by omega)
        refine ⟨b, t, by rw [placesF_step h, if_neg q, e], by omega, h2, h3, fun j j1 j2 => ?_⟩
        rcases Nat.eq_or_lt_of_le j1 with rfl | j1
        · simpa using q
        · exact h4 j j1 j2
/-- The last place up to i. -/
theorem below_last {l : List Int} : ∀ i : Nat, ∃ a, (below l (i + 1))[(below l (i + 1)).length - 1]? = some a ∧ 0 < (below l (i + 1)).length ∧ a ≤ i ∧ brk l a = true ∧ ∀ j, a < j → j ≤ i → brk l j = false
  | 0 => by
    refine ⟨0, ?_, ?_, Nat.le_refl _, brk_zero l, fun j h1 h2 => by omega⟩
    · rw [below_succ, if_pos (brk_zero l)]; rfl
    · rw [below_succ, if_pos (brk_zero l)]; simp [below]
  | i + 1 => by
    obtain ⟨a, h1, h2, h3, h4, h5⟩ := below_last (l := l) i
    rw [below_succ]
    by_cases q : brk l (i + 1) = true
    · rw [if_pos q]
      exact ⟨i + 1, by simp, by simp, Nat.le_refl _, q, fun j h1 h2 => by omega⟩
    · rw [if_neg q]
      refine ⟨a, h1, h2, by omega, h4, fun j j1 j2 => ?_⟩
      rcases Nat.eq_or_lt_of_le j2 with rfl | j2
      · simpa using q
      · exact h5 j j1 (by omega)
/-- What At tells of a place, by the list of all places: the ones below, and those behind. -/
theorem at_all {l : List Int} {i a b : Nat} (hi : i ≤ l.length) (h : IsAt l i a b) : 0 < (below l (i + 1)).length ∧ (allL l)[(below l (i + 1)).length - 1]? = some a ∧ (i < l.length → (allL l)[(below l (i + 1)).length]? = some b) ∧ (i = l.length → b = i) := by
  obtain ⟨a', e1, e2, e3, e4, e5⟩ := below_last (l := l) i
  obtain ⟨h1, h2, h3, h4⟩ := h
  have ea : a = a' := by
    rcases Nat.lt_trichotomy a a' with q | q | q
    · rw [h3 a' q e3] at e4; cases e4
    · exact q
    · rw [e5 a q h1] at h2; cases h2
  subst ea
  refine ⟨e2, ?_, fun hlt => ?_, fun hq => ?_⟩
  · rw [all_part l (i := i + 1) (by omega), List.getElem?_append_left (by omega)]
    exact e1
  · rw [all_part l (i := i + 1) (by omega), List.getElem?_append_right (Nat.le_refl _), Nat.sub_self]
    obtain ⟨b', t, f1, f2, f3, f4, f5⟩ := placesF_head (l := l) (i := i + 1) rfl (by omega)
    rw [f1]
    rcases h4 with ⟨g1, g2⟩ | ⟨g1, g2, g3, g4, g5⟩
    · omega
    · rcases Nat.lt_trichotomy b b' with q | q | q
      · rw [f5 b (by omega) q] at g4; cases g4
      · rw [q]; rfl
      · rw [g5 b' (by omega) q] at f4; cases f4
  · rcases h4 with ⟨g1, g2⟩ | ⟨g1, _⟩
    · omega
    · omega
/-- The list's entry at the number of places below i: i itself, just if it is one. -/
theorem all_at {l : List Int} {i : Nat} (hi : i ≤ l.length) : ∃ b, (allL l)[(below l i).length]? = some b ∧ (b = i ↔ brk l i = true) := by
  obtain ⟨b, t, f1, f2, f3, f4, f5⟩ := placesF_head (l := l) (i := i) rfl hi
  refine ⟨b, ?_, ⟨fun e => by rw [← e]; exact f4, fun e => ?_⟩⟩
  · rw [all_part l (i := i) (by omega), List.getElem?_append_right (Nat.le_refl _), Nat.sub_self, f1]; rfl
  · rcases Nat.eq_or_lt_of_le f2 with q | q
    · exact q.symm
    · rw [f5 i (Nat.le_refl _) q] at e; cases e
theorem all_first (l : List Int) : (allL l)[0]? = some 0 := by
  have := all_at (l := l) (i := 0) (Nat.zero_le _)
  obtain ⟨b, h1, h2⟩ := this
  rw [h2.2 (brk_zero l)] at h1
  exact h1
theorem all_snoc (l : List Int) : allL l = below l l.length ++ [l.length] := by
  rw [allL_eq, below_succ, if_pos (brk_end l (Nat.le_refl _))]
theorem below_congr {l m : List Int} {i : Nat} (h : ∀ j, j < i → brk l j = brk m j) : below l i = below m i := by
  unfold below
  apply List.filter_congr
  intro x hx
  exact h x (List.mem_range.1 hx)
/-- A number more. -/
theorem all_more (l : List Int) (r : Int) : allL (l ++ [r]) = (below l l.length ++ (if brk (l ++ [r]) l.length = true then [l.length] else [])) ++ [l.length + 1] := by
  rw [all_snoc (l ++ [r]), List.length_append, List.length_singleton, below_succ]
  have e : below (l ++ [r]) l.length = below l l.length := below_congr fun j hj => brk_local hj
  rw [e]
  split <;> simp
theorem mark_more {l : List Int} {r : Int} (h : l ≠ []) (hm : markK (clV r) = true) (hk : aloneK (clV (l.getLast h)) = false) : brk (l ++ [r]) l.length = false := by
  have hl : 0 < l.length := List.length_pos_iff.2 h
  have e : l.length = (l.length - 1) + 1 := by omega
  have hx : (l ++ [r])[l.length - 1]'(by simp; omega) = l.getLast h := by
    rw [List.getElem_append_left (by omega), List.getLast_eq_getElem]
  have hy : (l ++ [r])[l.length]'(by simp) = r := by simp
  have hz : brk (l ++ [r]) l.length = brk (l ++ [r]) (l.length - 1 + 1) := congrArg _ e
  rw [hz, brk_mid (l := l ++ [r]) (i := l.length - 1) (by simp; omega)]
  have hy' : (l ++ [r])[l.length - 1 + 1]'(by simp; omega) = r := by
    have : ∀ k (hk : k < (l ++ [r]).length), k = l.length → (l ++ [r])[k] = r := fun k hk e => by subst e; exact hy
    exact this _ _ e.symm
  rw [hx, hy']
  have hr : clV r = 4 ∨ clV r = 5 ∨ clV r = 8 := by
    simp only [markK, Bool.or_eq_true, beq_iff_eq] at hm
    omega
  have ha : aloneK (clV r) = false := by
    unfold aloneK
    simp only [Bool.or_eq_false_iff, beq_eq_false_iff_ne]
    omega
  unfold ruleK
  by_cases q : clV (l.getLast h) = 1 ∧ clV r = 2
  · rw [if_pos q]
  · rw [if_neg q, if_neg (by rw [hk, ha]; simp), if_pos (Or.inr (Or.inl hm))]

/- Two texts, a control between. -/
/-- A number that no rule looks past. -/
def Wall (x : Int) : Prop := clV x ≠ 6 ∧ clV x ≠ 4 ∧ piV x = false ∧ clV x ≠ 5
theorem Wall.mk' {x : Int} (h : aloneK (clV x) = true) (hp : piV x = false) : Wall x := by
  simp only [aloneK, Bool.or_eq_true, beq_iff_eq] at h
  exact ⟨by omega, by omega, hp, by omega⟩
theorem regR_wall {x : Int} (h : clV x ≠ 6) : ∀ (a b c : List Int), regR (a ++ x :: b) = regR (a ++ x :: c)
  | [], b, c => by simp only [List.nil_append, regR, if_neg h]
  | y :: a, b, c => by
    simp only [List.cons_append, regR]
    rw [regR_wall h a b c]
theorem picR_wall {x : Int} (h : Wall x) : ∀ (a b c : List Int), picR (a ++ x :: b) = picR (a ++ x :: c)
  | [], b, c => by simp only [List.nil_append, picR, h.2.2.1, if_neg h.2.1]
  | y :: a, b, c => by
    simp only [List.cons_append, picR]
    rw [picR_wall h a b c]
theorem regR_stop {x : Int} (h : clV x ≠ 6) : ∀ (a b : List Int), regR (a ++ x :: b) = regR a
  | [], b => by simp only [List.nil_append, regR, if_neg h]
  | y :: a, b => by
    simp only [List.cons_append, regR]
    rw [regR_stop h a b]
theorem picR_stop {x : Int} (h : Wall x) : ∀ (a b : List Int), picR (a ++ x :: b) = picR a
  | [], b => by
    simp only [List.nil_append, picR]
    rw [h.2.2.1, if_neg (by simp), if_neg h.2.1]
  | y :: a, b => by
    simp only [List.cons_append, picR]
    rw [picR_stop h a b]
/-- Behind a wall that ends the first text. -/
theorem brk_behind {a b : List Int} {x : Int} (hx : Wall x) {j : Nat} (hj : 0 < j) : brk (a ++ [x] ++ b) (a.length + 1 + j) = brk b j := by
  have e1 : (a ++ [x] ++ b).take (a.length + 1 + j) = a ++ [x] ++ b.take j := by
    have : a.length + 1 + j = (a ++ [x]).length + j := by simp
    rw [this, List.take_length_add_append]
  have e2 : (a ++ [x] ++ b).drop (a.length + 1 + j) = b.drop j := by
    have : a.length + 1 + j = (a ++ [x]).length + j := by simp
    rw [this, List.drop_length_add_append]
  unfold brk brkR
  rw [e1, e2]
  have e3 : (a ++ [x] ++ b.take j).reverse = (b.take j).reverse ++ x :: a.reverse := by simp
  rw [e3, regR_stop hx.1]
  match hb : b.drop j with
  | [] => rw [brkN_end, brkN_end]
  | z :: zs =>
    have hne : (b.take j).reverse ≠ [] := by
      intro e
      have : (b.take j).reverse.length = 0 := by rw [e]; rfl
      have hl : (b.drop j).length = zs.length + 1 := by rw [hb]; rfl
      rw [List.length_drop] at hl
      rw [List.length_reverse, List.length_take] at this
      omega
    match hc : (b.take j).reverse, hne with
    | y :: ys, _ =>
      rw [List.cons_append, brkN_cons, brkN_cons, picR_stop hx]
/-- Behind a wall that the second text begins with. -/
theorem brk_after {a b : List Int} {x : Int} (hx : Wall x) {j : Nat} (hj : 0 < j) : brk (a ++ x :: b) (a.length + j) = brk (x :: b) j := by
  obtain ⟨j, rfl⟩ : ∃ k, j = k + 1 := ⟨j - 1, by omega⟩
  have e1 : (a ++ x :: b).take (a.length + (j + 1)) = a ++ x :: b.take j := by
    rw [List.take_length_add_append]; rfl
  have e2 : (a ++ x :: b).drop (a.length + (j + 1)) = b.drop j := by
    rw [List.drop_length_add_append]; rfl
  unfold brk brkR
  rw [e1, e2]
  have e3 : (a ++ x :: b.take j).reverse = (b.take j).reverse ++ x :: a.reverse := by simp
  have e4 : ((x :: b).take (j + 1)).reverse = (b.take j).reverse ++ x :: [] := by simp
  have e5 : (x :: b).drop (j + 1) = b.drop j := rfl
  rw [e3, e4, e5, regR_wall hx.1 _ a.reverse []]
  match hb : b.drop j with
  | [] => rw [brkN_end, brkN_end]
  | z :: zs =>
    match hc : (b.take j).reverse with
    | [] => rw [List.nil_append, List.nil_append, brkN_cons, brkN_cons]
            unfold ruleK
            have q : ¬ (clV x = 5 ∧ piV z = true) := fun h => hx.2.2.2 h.1
            rw [if_neg q, if_neg q]
    | y :: ys => rw [List.cons_append, List.cons_append, brkN_cons, brkN_cons, picR_wall hx ys a.reverse []]
/-- Where a control stands between, the places of both texts are those of each. -/
theorem all_two {a b : List Int} (ha : a ≠ []) (hb : b ≠ []) (hx : (Wall (a.getLast ha) ∧ clV (a.getLast ha) ≠ 1) ∨ (Wall (b.head hb) ∧ clV (b.head hb) ≠ 2)) (hk : aloneK (clV (a.getLast ha)) = true ∨ aloneK (clV (b.head hb)) = true) :
    allL (a ++ b) = allL a ++ (allL b).tail.map (a.length + ·) := by
  have h0 : brk (a ++ b) a.length = true := by
    have hl : 0 < a.length := List.length_pos_iff.2 ha
    have hbl : 0 < b.length := List.length_pos_iff.2 hb
    have e : a.length = (a.length - 1) + 1 := by omega
    have hz : brk (a ++ b) a.length = brk (a ++ b) (a.length - 1 + 1) := congrArg _ e
    rw [hz, brk_mid (l := a ++ b) (i := a.length - 1) (by simp; omega)]
    have hx1 : (a ++ b)[a.length - 1]'(by simp; omega) = a.getLast ha := by
      rw [List.getElem_append_left (by omega), List.getLast_eq_getElem]
    have hy1 : (a ++ b)[a.length - 1 + 1]'(by simp; omega) = b.head hb := by
      rw [List.getElem_append_right (by omega), List.head_eq_getElem]
      congr 1
      omega
    rw [hx1, hy1]
    unfold ruleK
    rw [if_neg (fun h => hx.elim (fun q => q.2 h.1) (fun q => q.2 h.2)), if_pos hk]
  have h1 : below (a ++ b) a.length = below a a.length := below_congr fun j hj => brk_local hj
  have h2 : ∀ j, 0 < j → brk (a ++ b) (a.length + j) = brk b j := by
    intro j hj
    rcases hx with q | q
    · have e : a = a.dropLast ++ [a.getLast ha] := (List.dropLast_concat_getLast ha).symm
      have h3 := brk_behind (a := a.dropLast) (b := b) q.1 hj
      have hl : a.length = a.dropLast.length + 1 := by have := List.length_pos_iff.2 ha; rw [List.length_dropLast]; omega
      rw [← e, ← hl] at h3
      exact h3
    · have e : b = b.head hb :: b.tail := (List.cons_head_tail hb).symm
      have h3 := brk_after (a := a) (b := b.tail) q.1 hj
      rw [← e] at h3
      exact h3
  have h3 : allL (a ++ b) = below (a ++ b) (a.length + 1) ++ placesF (a ++ b) (a.length + 1) := all_part _ (by simp)
  have h4 : allL b = below b 1 ++ placesF b 1 := all_part _ (by omega)
  have h5 : below b 1 = [0] := by rw [below_succ, if_pos (brk_zero b)]; rfl
  have h6 : allL b = 0 :: placesF b 1 := by rw [h4, h5]; rfl
  rw [h3, below_succ, if_pos h0, h1, ← all_snoc a, h6, List.tail_cons]
  congr 1
  unfold placesF
  have e1 : (a ++ b).length + 1 - (a.length + 1) = b.length := by rw [List.length_append]; omega
  have e2 : b.length + 1 - 1 = b.length := by omega
  rw [e1, e2]
  have e3 : List.range' (a.length + 1) b.length = (List.range' 1 b.length).map (a.length + ·) := by
    rw [List.map_add_range']
  rw [e3, List.filter_map]
  congr 1
  apply List.filter_congr
  intro x hx
  have := List.mem_range'_1.1 hx
  exact h2 x (by omega)
/- Regional indicators alone. -/
theorem regR_full : ∀ {l : List Int}, (∀ x ∈ l, clV x = 6) → regR l = l.length
  | [], _ => rfl
  | x :: l, h => by
    rw [regR, if_pos (h x List.mem_cons_self), regR_full (fun y hy => h y (List.mem_cons_of_mem _ hy)), List.length_cons]
theorem brk_flags {l : List Int} (h : ∀ x ∈ l, clV x = 6) {i : Nat} (hi : i < l.length) : brk l i = (i % 2 == 0) := by
  match i with
  | 0 => exact brk_zero l
  | i + 1 =>
    rw [brk_mid hi, h _ (List.getElem_mem _), h _ (List.getElem_mem _), rule_flags, regR_full (fun x hx => h x (List.mem_of_mem_take (List.mem_reverse.1 hx)))]
    congr 2
    simp; omega
/-- The even numbers below n. -/
def evens (n : Nat) : List Nat := (List.range n).filter (fun i => i % 2 == 0)
theorem evens_two (n : Nat) : evens (n + 1) = if n % 2 = 0 then evens n ++ [n] else evens n := by
  unfold evens
  rw [List.range_succ, List.filter_append, List.filter_cons, List.filter_nil]
  by_cases h : n % 2 = 0 <;> simp [h]
theorem evens_len (n : Nat) : (evens n).length ≤ n := by
  unfold evens
  have := List.length_filter_le (fun i => i % 2 == 0) (List.range n)
  rwa [List.length_range] at this
theorem all_flags {l : List Int} (h : ∀ x ∈ l, clV x = 6) : allL l = evens l.length ++ [l.length] := by
  rw [all_snoc]
  congr 1
  unfold below evens
  apply List.filter_congr
  intro x hx
  exact brk_flags h (List.mem_range.1 hx)
end Go.Proofs.YtmhligcmcfikfaaDoor
