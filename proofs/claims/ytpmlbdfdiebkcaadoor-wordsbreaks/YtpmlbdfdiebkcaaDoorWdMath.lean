/-
  Where words end, as plain mathematics: heads, the twenty rules over lists of numbers; the places, and how they come of other texts.
-/
import Derived.Test.YtpmlbdfdiebkcaaDoorFacts
namespace Go.Proofs.YtpmlbdfdiebkcaaDoor
open Go.RowKit
set_option linter.unusedVariables false

/-- A number's kind in words. -/
def wdV (r : Int) : Int := valP wdR r
/-- Is a number a picture? -/
def piV (r : Int) : Bool := valP piR r != 0
--@math
def lineK (k : Int) : Bool := k == 1 || k == 2 || k == 3
def markK (k : Int) : Bool := k == 4 || k == 6 || k == 5
def letK (k : Int) : Bool := k == 10 || k == 9
def hebK (k : Int) : Bool := k == 9
def numK (k : Int) : Bool := k == 16
def solidK (k : Int) : Bool := k == 10 || k == 9 || k == 16 || k == 8
def inLetK (k : Int) : Bool := k == 14 || k == 13 || k == 11
def inHebK (k : Int) : Bool := k == 12
def inNumK (k : Int) : Bool := k == 15 || k == 13 || k == 11
def quietK (k : Int) : Bool := k == 13 || k == 11
/-- Rules 7 to 18. -/
def joinK (before last b next : Int) : Bool :=
  (letK last && letK b) || (letK last && (b == 14 || quietK b) && letK next) || (letK before && (last == 14 || quietK last) && letK b)
  || (last == 9 && (b == 11 || (b == 12 && next == 9))) || (before == 9 && last == 12 && b == 9)
  || ((last == 16 && (b == 16 || letK b)) || (letK last && b == 16)) || (before == 16 && (last == 15 || quietK last) && b == 16)
  || (last == 16 && (b == 15 || quietK b) && next == 16) || (last == 8 && b == 8)
  || ((letK last || last == 16 || last == 8 || last == 17) && b == 17) || (last == 17 && (letK b || b == 16 || b == 8))
/-- Rules 7 to 19, as the program asks them. -/
def goK (are takes : Int → Bool) (before last b next : Int) : Bool := if are last = true then are b || (takes b && are next) else takes last && are before && are b
def joinsP (before last : Int) (regs : Nat) (b next : Int) : Bool :=
  if goK letK inLetK before last b next = true then true
  else if goK hebK inHebK before last b next = true then true
  else if goK numK inNumK before last b next = true then true
  else if (letK last && b == 16) = true then true
  else if (last == 16 && letK b) = true then true
  else if (last == 9 && b == 11) = true then true
  else if (last == 8 && b == 8) = true then true
  else if (last == 17) = true then b == 17 || solidK b
  else if (b == 17) = true then solidK last
  else if (last == 7 && b == 7) = true then regs % 2 == 1
  else false
theorem kind_cases (k : Int) : k = 7 ∨ k = 8 ∨ k = 9 ∨ k = 10 ∨ k = 11 ∨ k = 12 ∨ k = 13 ∨ k = 14 ∨ k = 15 ∨ k = 16 ∨ k = 17 ∨ ((k == 7) = false ∧ (k == 8) = false ∧ (k == 9) = false ∧ (k == 10) = false ∧ (k == 11) = false ∧ (k == 12) = false ∧ (k == 13) = false ∧ (k == 14) = false ∧ (k == 15) = false ∧ (k == 16) = false ∧ (k == 17) = false) := by
  simp only [beq_eq_false_iff_ne]
  omega
set_option maxHeartbeats 8000000 in
theorem joinsP_eq (before last : Int) (regs : Nat) (b next : Int) : joinsP before last regs b next = (joinK before last b next || (last == 7 && b == 7 && regs % 2 == 1)) := by
  rcases kind_cases last with rfl | rfl | rfl | rfl | rfl | rfl | rfl | rfl | rfl | rfl | rfl | ⟨h7, h8, h9, h10, h11, h12, h13, h14, h15, h16, h17⟩ <;>
  rcases kind_cases b with rfl | rfl | rfl | rfl | rfl | rfl | rfl | rfl | rfl | rfl | rfl | ⟨g7, g8, g9, g10, g11, g12, g13, g14, g15, g16, g17⟩ <;>
  (simp_all [joinsP, joinK, goK, letK, hebK, numK, solidK, inLetK, inHebK, inNumK, quietK] <;> rfl)
/-- No rule names a kind that is not there. -/
theorem joinK_before {x y : Int} (hx : letK x = false ∧ (x == 9) = false ∧ (x == 16) = false) (hy : letK y = false ∧ (y == 9) = false ∧ (y == 16) = false) (last b next : Int) : joinK x last b next = joinK y last b next := by
  unfold joinK
  rw [hx.1, hx.2.1, hx.2.2, hy.1, hy.2.1, hy.2.2]
theorem joinK_next {x y : Int} (hx : letK x = false ∧ (x == 9) = false ∧ (x == 16) = false) (hy : letK y = false ∧ (y == 9) = false ∧ (y == 16) = false) (before last b : Int) : joinK before last b x = joinK before last b y := by
  unfold joinK
  rw [hx.1, hx.2.1, hx.2.2, hy.1, hy.2.1, hy.2.2]

/-- The kind at a place. -/
def kd (l : List Int) (i : Nat) : Int := wdV (l[i]?.getD 0)
/-- Is it a head? -/
def headB (l : List Int) (i : Nat) : Bool := decide (i < l.length) && (i == 0 || lineK (kd l (i - 1)) || !markK (kd l i))
/-- The heads' kinds ahead of a place, the last one first. -/
def hk (l : List Int) : Nat → List Int
  | 0 => []
  | i + 1 => if headB l i = true then kd l i :: hk l i else hk l i
/-- The kind of the first head from a place on. -/
def nxF (l : List Int) : Nat → Nat → Option Int
  | 0, _ => none
  | n + 1, i => if headB l i = true then some (kd l i) else nxF l n (i + 1)
def nx (l : List Int) (i : Nat) : Option Int := nxF l (l.length - i) i
/-- How many regional indicators a list of kinds begins with. -/
def regK : List Int → Nat
  | [] => 0
  | k :: l => if k = 7 then regK l + 1 else 0
/-- The rules behind the first. -/
def ruleW (a b : Int) (pb : Bool) (before last next : Int) (regs : Nat) : Bool :=
  if a = 1 ∧ b = 2 then false
  else if lineK a = true ∨ lineK b = true then true
  else if a = 5 ∧ pb = true then false
  else if (a = 18 ∧ b = 18) ∨ markK b = true then false
  else !(joinK before last b next || (last == 7 && b == 7 && regs % 2 == 1))
def brk (l : List Int) (i : Nat) : Bool :=
  if i = 0 ∨ l.length ≤ i then true
  else ruleW (kd l (i - 1)) (kd l i) (piV (l[i]?.getD 0)) ((hk l i)[1]?.getD 0) ((hk l i)[0]?.getD 0) ((nx l (i + 1)).getD 0) (regK (hk l i))

theorem kd_get {l : List Int} {i : Nat} (h : i < l.length) : kd l i = wdV l[i] := by unfold kd; rw [List.getElem?_eq_getElem h]; rfl
theorem brk_zero (l : List Int) : brk l 0 = true := by unfold brk; rw [if_pos (Or.inl rfl)]
theorem brk_end (l : List Int) {i : Nat} (h : l.length ≤ i) : brk l i = true := by unfold brk; rw [if_pos (Or.inr h)]
theorem brk_mid {l : List Int} {i : Nat} (h0 : i ≠ 0) (h : i < l.length) : brk l i = ruleW (kd l (i - 1)) (kd l i) (piV l[i]) ((hk l i)[1]?.getD 0) ((hk l i)[0]?.getD 0) ((nx l (i + 1)).getD 0) (regK (hk l i)) := by
  unfold brk
  rw [if_neg (by omega), List.getElem?_eq_getElem h]; rfl
/-- Where no head is, no word ends. -/
theorem brk_nohead {l : List Int} {i : Nat} (h : i < l.length) (hh : headB l i = false) : brk l i = false := by
  unfold headB at hh
  rw [decide_eq_true h, Bool.true_and] at hh
  have h0 : i ≠ 0 := fun e => by simp [e] at hh
  have h1 : lineK (kd l (i - 1)) = false := by cases q : lineK (kd l (i - 1)) <;> simp_all
  have h2 : markK (kd l i) = true := by cases q : markK (kd l i) <;> simp_all
  rw [brk_mid h0 h]
  have h3 : lineK (kd l i) = false := by
    simp only [markK, Bool.or_eq_true, beq_iff_eq] at h2
    simp only [lineK, Bool.or_eq_false_iff, beq_eq_false_iff_ne]
    omega
  unfold ruleW
  by_cases q : kd l (i - 1) = 1 ∧ kd l i = 2
  · rw [if_pos q]
  · rw [if_neg q, if_neg (by rw [h1, h3]; simp)]
    split
    · rfl
    · rw [if_pos (Or.inr h2)]
/-- At a head, a mark plays no part: a line's end is ahead. -/
theorem head_mark {l : List Int} {i : Nat} (h0 : i ≠ 0) (hh : headB l i = true) : markK (kd l i) = true → lineK (kd l (i - 1)) = true := by
  intro h
  unfold headB at hh
  simp only [Bool.and_eq_true, Bool.or_eq_true, beq_iff_eq, decide_eq_true_eq, Bool.not_eq_true'] at hh
  rcases hh.2 with (q | q) | q
  · exact absurd q h0
  · exact q
  · rw [h] at q; cases q
theorem head_lt {l : List Int} {i : Nat} (hh : headB l i = true) : i < l.length := by
  unfold headB at hh
  simp only [Bool.and_eq_true, decide_eq_true_eq] at hh
  exact hh.1
theorem hk_len (l : List Int) : ∀ i, (hk l i).length ≤ i
  | 0 => Nat.le_refl _
  | i + 1 => by
    have := hk_len l i
    unfold hk
    split
    · rw [List.length_cons]; omega
    · omega
theorem regK_le : ∀ l : List Int, regK l ≤ l.length
  | [] => Nat.le_refl _
  | x :: l => by
    have := regK_le l
    unfold regK
    split
    · rw [List.length_cons]; omega
    · omega
theorem nx_step {l : List Int} {i : Nat} (h : i < l.length) : nx l i = if headB l i = true then some (kd l i) else nx l (i + 1) := by
  unfold nx
  have e : l.length - i = (l.length - (i + 1)) + 1 := by omega
  rw [e, nxF]
theorem nx_end {l : List Int} {i : Nat} (h : l.length ≤ i) : nx l i = none := by
  unfold nx
  have e : l.length - i = 0 := by omega
  rw [e, nxF]

/- The places. -/
/-- The places of a text from i on. -/
def placesF (l : List Int) (i : Nat) : List Nat := (List.range' i (l.length + 1 - i)).filter (brk l)
def allL (l : List Int) : List Nat := (List.range (l.length + 1)).filter (brk l)
/-- The places below i. -/
def below (l : List Int) (i : Nat) : List Nat := (List.range i).filter (brk l)
theorem allL_eq (l : List Int) : allL l = below l (l.length + 1) := rfl
theorem below_succ (l : List Int) (i : Nat) : below l (i + 1) = if brk l i = true then below l i ++ [i] else below l i := by
  unfold below
  rw [List.range_succ, List.filter_append, List.filter_cons, List.filter_nil]
  split <;> simp_all
theorem below_len (l : List Int) (i : Nat) : (below l i).length ≤ i := by
  unfold below
  have := List.length_filter_le (brk l) (List.range i)
  rwa [List.length_range] at this
theorem below_lt {l : List Int} {i x : Nat} (h : x ∈ below l i) : x < i ∧ brk l x = true := by
  unfold below at h
  rw [List.mem_filter, List.mem_range] at h
  exact h
theorem all_part (l : List Int) {i : Nat} (h : i ≤ l.length + 1) : allL l = below l i ++ placesF l i := by
  unfold allL below placesF
  rw [← List.filter_append]
  congr 1
  have e : List.range' 0 i ++ List.range' (0 + i) (l.length + 1 - i) = List.range' 0 (i + (l.length + 1 - i)) := List.range'_append_1
  rw [Nat.zero_add, show i + (l.length + 1 - i) = l.length + 1 by omega] at e
  rw [List.range_eq_range', List.range_eq_range', e]
theorem placesF_step {l : List Int} {i : Nat} (h : i ≤ l.length) : placesF l i = if brk l i = true then i :: placesF l (i + 1) else placesF l (i + 1) := by
  unfold placesF
  have e : l.length + 1 - i = (l.length + 1 - (i + 1)) + 1 := by omega
  rw [e, List.range'_succ, List.filter_cons]
theorem allL_len (l : List Int) : (allL l).length ≤ l.length + 1 := below_len l _
/-- The first place from i on, and none between. -/
theorem placesF_head {l : List Int} : ∀ {n i : Nat}, l.length - i = n → i ≤ l.length → ∃ b t, placesF l i = b :: t ∧ i ≤ b ∧ b ≤ l.length ∧ brk l b = true ∧ ∀ j, i ≤ j → j < b → brk l j = false
  | n, i, hn, h => by
    by_cases q : brk l i = true
    · exact ⟨i, placesF l (i + 1), by rw [placesF_step h, if_pos q], Nat.le_refl _, h, q, fun j h1 h2 => by omega⟩
    · have hlt : i < l.length := by
        rcases Nat.lt_or_ge i l.length with h' | h'
        · exact h'
        · exact absurd (brk_end l h') q
      match n, hn with
      | 0, hn => omega
      | n + 1, hn =>
        obtain ⟨b, t, e, h1, h2, h3, h4⟩ := placesF_head (l := l) (n := n) (i := i + 1) (by omega) (by omega)
        refine ⟨b, t, by rw [placesF_step h, if_neg q, e], by omega, h2, h3, fun j j1 j2 => ?_⟩
        rcases Nat.eq_or_lt_of_le j1 with rfl | j1
        · simpa using q
        · exact h4 j j1 j2
/-- The list's entry at the number of places below i: i itself, just if it is one. -/
theorem all_at {l : List Int} {i : Nat} (hi : i ≤ l.length) : ∃ b, (allL l)[(below l i).length]? = some b ∧ (b = i ↔ brk l i = true) := by
  obtain ⟨b, t, f1, f2, f3, f4, f5⟩ := placesF_head (l := l) (i := i) rfl hi
  refine ⟨b, ?_, ⟨fun e => by rw [← e]; exact f4, fun e => ?_⟩⟩
  · rw [all_part l (i := i) (by omega), List.getElem?_append_right (Nat.le_refl _), Nat.sub_self, f1]; rfl
  · rcases Nat.eq_or_lt_of_le f2 with q | q
    · exact q.symm
    · rw [f5 i (Nat.le_refl _) q] at e; cases e
theorem all_first (l : List Int) : (allL l)[0]? = some 0 := by
  have := all_at (l := l) (i := 0) (Nat.zero_le _)
  obtain ⟨b, h1, h2⟩ := this
  rw [h2.2 (brk_zero l)] at h1
  exact h1
theorem all_snoc (l : List Int) : allL l = below l l.length ++ [l.length] := by
  rw [allL_eq, below_succ, if_pos (brk_end l (Nat.le_refl _))]
theorem below_congr {l m : List Int} {i : Nat} (h : ∀ j, j < i → brk l j = brk m j) : below l i = below m i := by
  unfold below
  apply List.filter_congr
  intro x hx
  exact h x (List.mem_range.1 hx)
/-- All but the end, by heads alone. -/
def headsL (l : List Int) : List Nat := (List.range l.length).filter (headB l)
theorem below_heads (l : List Int) : below l l.length = (headsL l).filter (brk l) := by
  unfold below headsL
  rw [List.filter_filter]
  apply List.filter_congr
  intro x hx
  cases h : headB l x with
  | true => simp
  | false => rw [brk_nohead (List.mem_range.1 hx) h]; rfl

/- A mark more. -/
theorem getD_congr {l m : List Int} {i j : Nat} (h : l[i]? = m[j]?) : kd l i = kd m j := by unfold kd; rw [h]
theorem brk_congr {l m : List Int} {i j : Nat} (h0 : (i = 0 ∨ l.length ≤ i) ↔ (j = 0 ∨ m.length ≤ j)) (ha : kd l (i - 1) = kd m (j - 1)) (hb : l[i]? = m[j]?) (hh : hk l i = hk m j) (hn : nx l (i + 1) = nx m (j + 1)) : brk l i = brk m j := by
  unfold brk
  rw [ha, getD_congr hb, hb, hh, hn]
  by_cases q : i = 0 ∨ l.length ≤ i
  · rw [if_pos q, if_pos (h0.1 q)]
  · rw [if_neg q, if_neg (fun h => q (h0.2 h))]
/-- A text with a number put in. -/
def ins (l : List Int) (at' : Nat) (x : Int) : List Int := l.take at' ++ [x] ++ l.drop at'
theorem ins_len {l : List Int} {p : Nat} (hp : p ≤ l.length) (x : Int) : (ins l p x).length = l.length + 1 := by
  unfold ins; simp; omega
theorem ins_lo {l : List Int} {p : Nat} (hp : p ≤ l.length) (x : Int) {i : Nat} (h : i < p) : (ins l p x)[i]? = l[i]? := by
  unfold ins
  rw [List.append_assoc, List.getElem?_append_left (by simp; omega), List.getElem?_take, if_pos h]
theorem ins_at {l : List Int} {p : Nat} (hp : p ≤ l.length) (x : Int) : (ins l p x)[p]? = some x := by
  unfold ins
  rw [List.append_assoc, List.getElem?_append_right (by rw [List.length_take]; omega), List.length_take, Nat.min_eq_left hp, Nat.sub_self]; rfl
theorem ins_hi {l : List Int} {p : Nat} (hp : p ≤ l.length) (x : Int) {i : Nat} (h : p ≤ i) : (ins l p x)[i + 1]? = l[i]? := by
  unfold ins
  rw [List.append_assoc, List.getElem?_append_right (by simp; omega), List.length_take, Nat.min_eq_left hp]
  rw [List.getElem?_append_right (by simp; omega), List.getElem?_drop]
  congr 1
  simp; omega
section Marks
set_option linter.unusedVariables false
theorem ins_head_lo {l : List Int} {p : Nat} {x : Int} (hp : p ≤ l.length) (h1 : 1 ≤ p) (hx : wdV x = 4) (hl : lineK (kd l (p - 1)) = false) {i : Nat} (h : i < p) : headB (ins l p x) i = headB l i := by
  unfold headB
  rw [ins_len hp, getD_congr (ins_lo hp x h), getD_congr (ins_lo hp x (show i - 1 < p by omega))]
  congr 1
  rw [decide_eq_true (by omega), decide_eq_true (by omega)]
theorem ins_head_at {l : List Int} {p : Nat} {x : Int} (hp : p ≤ l.length) (h1 : 1 ≤ p) (hx : wdV x = 4) (hl : lineK (kd l (p - 1)) = false) : headB (ins l p x) p = false := by
  unfold headB
  rw [getD_congr (ins_lo hp x (show p - 1 < p by omega)), hl]
  have : kd (ins l p x) p = 4 := by unfold kd; rw [ins_at hp]; exact hx
  rw [this]
  have h0 : (p == 0) = false := by rw [beq_eq_false_iff_ne]; omega
  rw [h0]; simp [markK]
theorem ins_head_hi {l : List Int} {p : Nat} {x : Int} (hp : p ≤ l.length) (h1 : 1 ≤ p) (hx : wdV x = 4) (hl : lineK (kd l (p - 1)) = false) {i : Nat} (h : p ≤ i) : headB (ins l p x) (i + 1) = headB l i := by
  unfold headB
  rw [ins_len hp, getD_congr (ins_hi hp x h)]
  have e0 : ((i + 1) == 0) = false := by simp
  have e1 : (i == 0) = false := by rw [beq_eq_false_iff_ne]; omega
  have e2 : decide (i + 1 < l.length + 1) = decide (i < l.length) := by simp
  rw [e0, e1, e2]
  have e3 : lineK (kd (ins l p x) (i + 1 - 1)) = lineK (kd l (i - 1)) := by
    rcases Nat.eq_or_lt_of_le h with rfl | h
    · rw [hl]
      have : kd (ins l p x) (p + 1 - 1) = 4 := by unfold kd; rw [Nat.add_sub_cancel, ins_at hp]; exact hx
      rw [this]; rfl
    · have := ins_hi hp x (show p ≤ i - 1 by omega)
      rw [show i - 1 + 1 = i by omega] at this
      rw [Nat.add_sub_cancel, getD_congr this]
  rw [e3]
theorem ins_hk_lo {l : List Int} {p : Nat} {x : Int} (hp : p ≤ l.length) (h1 : 1 ≤ p) (hx : wdV x = 4) (hl : lineK (kd l (p - 1)) = false) : ∀ {i : Nat}, i ≤ p → hk (ins l p x) i = hk l i
  | 0, _ => rfl
  | i + 1, h => by
    unfold hk
    rw [ins_head_lo hp h1 hx hl (by omega), getD_congr (ins_lo hp x (show i < p by omega)), ins_hk_lo hp h1 hx hl (by omega)]
theorem ins_hk_hi' {l : List Int} {p : Nat} {x : Int} (hp : p ≤ l.length) (h1 : 1 ≤ p) (hx : wdV x = 4) (hl : lineK (kd l (p - 1)) = false) (d : Nat) : hk (ins l p x) (p + d + 1) = hk l (p + d) := by
  induction d with
  | zero =>
    rw [Nat.add_zero]
    have e : hk (ins l p x) (p + 1) = if headB (ins l p x) p = true then kd (ins l p x) p :: hk (ins l p x) p else hk (ins l p x) p := rfl
    rw [e, ins_head_at hp h1 hx hl, ins_hk_lo hp h1 hx hl (Nat.le_refl _)]
    simp
  | succ d ih =>
    rw [← Nat.add_assoc]
    obtain ⟨i, hi⟩ : ∃ i, i = p + d := ⟨_, rfl⟩
    rw [← hi] at ih ⊢
    have h : p ≤ i := by omega
    have e : hk (ins l p x) (i + 1 + 1) = if headB (ins l p x) (i + 1) = true then kd (ins l p x) (i + 1) :: hk (ins l p x) (i + 1) else hk (ins l p x) (i + 1) := rfl
    have e2 : hk l (i + 1) = if headB l i = true then kd l i :: hk l i else hk l i := rfl
    rw [e, e2, ins_head_hi hp h1 hx hl h, getD_congr (ins_hi hp x h), ih]
theorem ins_hk_hi {l : List Int} {p : Nat} {x : Int} (hp : p ≤ l.length) (h1 : 1 ≤ p) (hx : wdV x = 4) (hl : lineK (kd l (p - 1)) = false) {i : Nat} (h : p ≤ i) : hk (ins l p x) (i + 1) = hk l i := by
  obtain ⟨d, rfl⟩ : ∃ d, i = p + d := ⟨i - p, by omega⟩
  exact ins_hk_hi' hp h1 hx hl d
theorem ins_nx_hi {l : List Int} {p : Nat} {x : Int} (hp : p ≤ l.length) (h1 : 1 ≤ p) (hx : wdV x = 4) (hl : lineK (kd l (p - 1)) = false) {i : Nat} (h : p ≤ i) : nx (ins l p x) (i + 1) = nx l i := by
  have key : ∀ n i, p ≤ i → nxF (ins l p x) n (i + 1) = nxF l n i := by
    intro n
    induction n with
    | zero => intro i _; rfl
    | succ n ih =>
      intro i h
      unfold nxF
      rw [ins_head_hi hp h1 hx hl h, getD_congr (ins_hi hp x h), ih (i + 1) (by omega)]
  unfold nx
  rw [ins_len hp, show l.length + 1 - (i + 1) = l.length - i by omega]
  exact key _ _ h
theorem ins_nx_at {l : List Int} {p : Nat} {x : Int} (hp : p ≤ l.length) (h1 : 1 ≤ p) (hx : wdV x = 4) (hl : lineK (kd l (p - 1)) = false) : nx (ins l p x) p = nx l p := by
  rw [nx_step (by rw [ins_len hp]; omega), ins_head_at hp h1 hx hl, if_neg (by simp)]
  exact ins_nx_hi hp h1 hx hl (Nat.le_refl _)
theorem ins_nx_lo {l : List Int} {p : Nat} {x : Int} (hp : p ≤ l.length) (h1 : 1 ≤ p) (hx : wdV x = 4) (hl : lineK (kd l (p - 1)) = false) : ∀ {n i : Nat}, p - i = n → i ≤ p → nx (ins l p x) i = nx l i
  | 0, i, hn, h => by
    obtain rfl : i = p := by omega
    exact ins_nx_at hp h1 hx hl
  | n + 1, i, hn, h => by
    rw [nx_step (by rw [ins_len hp]; omega), nx_step (show i < l.length by omega), ins_head_lo hp h1 hx hl (by omega), getD_congr (ins_lo hp x (show i < p by omega)), ins_nx_lo hp h1 hx hl (n := n) (i := i + 1) (by omega) (by omega)]
theorem ins_brk_lo {l : List Int} {p : Nat} {x : Int} (hp : p ≤ l.length) (h1 : 1 ≤ p) (hx : wdV x = 4) (hl : lineK (kd l (p - 1)) = false) {i : Nat} (h : i < p) : brk (ins l p x) i = brk l i := by
  refine brk_congr ?_ (getD_congr (ins_lo hp x (by omega))) (ins_lo hp x h) (ins_hk_lo hp h1 hx hl (by omega)) (ins_nx_lo hp h1 hx hl rfl (by omega))
  rw [ins_len hp]
  omega
theorem ins_brk_at {l : List Int} {p : Nat} {x : Int} (hp : p ≤ l.length) (h1 : 1 ≤ p) (hx : wdV x = 4) (hl : lineK (kd l (p - 1)) = false) : brk (ins l p x) p = false := brk_nohead (by rw [ins_len hp]; omega) (ins_head_at hp h1 hx hl)
theorem ins_brk_gt {l : List Int} {p : Nat} {x : Int} (hp : p ≤ l.length) (h1 : 1 ≤ p) (hx : wdV x = 4) (hl : lineK (kd l (p - 1)) = false) {i : Nat} (h : p < i) : brk (ins l p x) (i + 1) = brk l i := by
  refine brk_congr ?_ ?_ (ins_hi hp x (by omega)) (ins_hk_hi hp h1 hx hl (by omega)) (ins_nx_hi hp h1 hx hl (by omega))
  · rw [ins_len hp]
    omega
  · have := ins_hi hp x (show p ≤ i - 1 by omega)
    rw [show i - 1 + 1 = i by omega] at this
    rw [Nat.add_sub_cancel, getD_congr this]
theorem ins_brk_eq {l : List Int} {p : Nat} {x : Int} (hp : p ≤ l.length) (h1 : 1 ≤ p) (hx : wdV x = 4) (hl : lineK (kd l (p - 1)) = false) (h5 : kd l (p - 1) ≠ 5) (h18 : kd l (p - 1) ≠ 18) : brk (ins l p x) (p + 1) = brk l p := by
  rcases Nat.eq_or_lt_of_le hp with e | hlt
  · rw [brk_end _ (by rw [ins_len hp]; omega), brk_end _ (by omega)]
  · unfold brk
    rw [if_neg (by rw [ins_len hp]; omega), if_neg (by omega), getD_congr (ins_hi hp x (Nat.le_refl p)), ins_hi hp x (Nat.le_refl p), ins_hk_hi hp h1 hx hl (Nat.le_refl p), ins_nx_hi hp h1 hx hl (by omega : p ≤ p + 1)]
    have e4 : kd (ins l p x) (p + 1 - 1) = 4 := by unfold kd; rw [Nat.add_sub_cancel, ins_at hp]; exact hx
    rw [e4]
    have h1' : kd l (p - 1) ≠ 1 := fun e => by rw [e] at hl; cases hl
    unfold ruleW
    rw [if_neg (by omega), if_neg (show ¬ (kd l (p - 1) = 1 ∧ _) from fun h => h1' h.1)]
    have e6 : lineK 4 = false := rfl
    rw [e6, hl]
    have e8 : ((4 : Int) = 5 ∧ piV (l[p]?.getD 0) = true) ↔ False := ⟨fun h => by omega, fun h => h.elim⟩
    have e9 : (kd l (p - 1) = 5 ∧ piV (l[p]?.getD 0) = true) ↔ False := ⟨fun h => h5 h.1, fun h => h.elim⟩
    have e10 : (((4 : Int) = 18 ∧ kd l p = 18) ∨ markK (kd l p) = true) ↔ (kd l (p - 1) = 18 ∧ kd l p = 18) ∨ markK (kd l p) = true := ⟨fun h => h.elim (fun q => by omega) Or.inr, fun h => h.elim (fun q => absurd q.1 h18) Or.inr⟩
    simp only [e8, e9, e10]
/-- A mark put in makes no new place, and moves those behind it by one. -/
theorem all_ins {l : List Int} {p : Nat} {x : Int} (hp : p ≤ l.length) (h1 : 1 ≤ p) (hx : wdV x = 4) (hl : lineK (kd l (p - 1)) = false) (h5 : kd l (p - 1) ≠ 5) (h18 : kd l (p - 1) ≠ 18) : allL (ins l p x) = (allL l).map (fun n => if p ≤ n then n + 1 else n) := by
  have e1 : allL (ins l p x) = below (ins l p x) (p + 1) ++ placesF (ins l p x) (p + 1) := all_part _ (by rw [ins_len hp]; omega)
  have e2 : allL l = below l p ++ placesF l p := all_part _ (by omega)
  rw [e1, e2, List.map_append, below_succ, ins_brk_at hp h1 hx hl, if_neg (by simp)]
  congr 1
  · rw [below_congr (fun j hj => ins_brk_lo hp h1 hx hl hj)]
    symm
    refine (List.map_congr_left fun n hn => ?_).trans (List.map_id _)
    rw [if_neg (by have := (below_lt hn).1; omega)]; rfl
  · unfold placesF
    rw [ins_len hp]
    have e3 : l.length + 1 + 1 - (p + 1) = l.length + 1 - p := by omega
    rw [e3]
    have e4 : List.range' (p + 1) (l.length + 1 - p) = (List.range' p (l.length + 1 - p)).map (1 + ·) := by rw [List.map_add_range', Nat.add_comm]
    rw [e4, List.filter_map]
    have e5 : (List.range' p (l.length + 1 - p)).filter (brk (ins l p x) ∘ (1 + ·)) = (List.range' p (l.length + 1 - p)).filter (brk l) := by
      apply List.filter_congr
      intro y hy
      have hy' := List.mem_range'_1.1 hy
      show brk (ins l p x) (1 + y) = brk l y
      rw [Nat.add_comm]
      rcases Nat.eq_or_lt_of_le hy'.1 with rfl | h
      · exact ins_brk_eq hp h1 hx hl h5 h18
      · exact ins_brk_gt hp h1 hx hl h
    rw [e5]
    refine List.map_congr_left fun n hn => ?_
    have hn' := List.mem_range'_1.1 (List.mem_filter.1 hn).1
    rw [if_pos hn'.1, Nat.add_comm]
end Marks

/- Two texts, a line's end between. -/
theorem app_lo {a b : List Int} {i : Nat} (h : i < a.length) : (a ++ b)[i]? = a[i]? := List.getElem?_append_left h
theorem app_hi {a b : List Int} (i : Nat) : (a ++ b)[a.length + i]? = b[i]? := by rw [List.getElem?_append_right (by omega)]; congr 1; omega
theorem app_head_lo {a b : List Int} {i : Nat} (h : i < a.length) : headB (a ++ b) i = headB a i := by
  unfold headB
  rw [getD_congr (app_lo h), getD_congr (app_lo (b := b) (show i - 1 < a.length by omega)), List.length_append, decide_eq_true h, decide_eq_true (by omega)]
theorem app_hk_lo {a b : List Int} : ∀ {i : Nat}, i ≤ a.length → hk (a ++ b) i = hk a i
  | 0, _ => rfl
  | i + 1, h => by
    unfold hk
    rw [app_head_lo (by omega), getD_congr (app_lo (by omega)), app_hk_lo (by omega)]
section Lines
set_option linter.unusedVariables false
theorem app_head_hi {a b : List Int} (ha : a ≠ []) (hl : kd a (a.length - 1) = 2) (i : Nat) : headB (a ++ b) (a.length + i) = headB b i := by
  have hpos : 0 < a.length := List.length_pos_iff.2 ha
  unfold headB
  have e0 : decide (a.length + i < (a ++ b).length) = decide (i < b.length) := by rw [List.length_append]; simp
  have e1 : (a.length + i == 0) = false := by rw [beq_eq_false_iff_ne]; omega
  rw [e0, e1, getD_congr (app_hi i)]
  cases i with
  | zero =>
    have : kd (a ++ b) (a.length + 0 - 1) = 2 := by rw [Nat.add_zero, getD_congr (app_lo (by omega))]; exact hl
    rw [this]; simp [lineK]
  | succ i =>
    have : kd (a ++ b) (a.length + (i + 1) - 1) = kd b i := by
      rw [show a.length + (i + 1) - 1 = a.length + i by omega]
      exact getD_congr (app_hi i)
    rw [this]; simp
theorem app_hk_hi {a b : List Int} (ha : a ≠ []) (hl : kd a (a.length - 1) = 2) (i : Nat) : hk (a ++ b) (a.length + i) = hk b i ++ hk a a.length := by
  induction i with
  | zero => rw [Nat.add_zero, app_hk_lo (Nat.le_refl _)]; rfl
  | succ i ih =>
    have e : hk (a ++ b) (a.length + i + 1) = if headB (a ++ b) (a.length + i) = true then kd (a ++ b) (a.length + i) :: hk (a ++ b) (a.length + i) else hk (a ++ b) (a.length + i) := rfl
    have e2 : hk b (i + 1) = if headB b i = true then kd b i :: hk b i else hk b i := rfl
    rw [← Nat.add_assoc, e, e2, app_head_hi ha hl, getD_congr (app_hi i), ih]
    split <;> rfl
theorem app_nx_hi {a b : List Int} (ha : a ≠ []) (hl : kd a (a.length - 1) = 2) (i : Nat) : nx (a ++ b) (a.length + i) = nx b i := by
  have key : ∀ n i, nxF (a ++ b) n (a.length + i) = nxF b n i := by
    intro n
    induction n with
    | zero => intro i; rfl
    | succ n ih =>
      intro i
      unfold nxF
      rw [app_head_hi ha hl, getD_congr (app_hi i), Nat.add_assoc, ih (i + 1)]
  unfold nx
  rw [List.length_append, show a.length + b.length - (a.length + i) = b.length - i by omega]
  exact key _ _
theorem last_head {a : List Int} (ha : a ≠ []) (hl : kd a (a.length - 1) = 2) : headB a (a.length - 1) = true := by
  have hpos : 0 < a.length := List.length_pos_iff.2 ha
  unfold headB
  rw [decide_eq_true (by omega), hl]; simp [markK]
theorem app_nx_lo {a b : List Int} (ha : a ≠ []) (hl : kd a (a.length - 1) = 2) : ∀ {n i : Nat}, a.length - i = n → i < a.length → nx (a ++ b) i = nx a i
  | 0, i, hn, h => by omega
  | n + 1, i, hn, h => by
    rw [nx_step (by rw [List.length_append]; omega), nx_step h, app_head_lo h, getD_congr (app_lo h)]
    by_cases q : i = a.length - 1
    · rw [q, last_head ha hl, if_pos rfl, if_pos rfl]
    · rw [app_nx_lo ha hl (n := n) (i := i + 1) (by omega) (by omega)]
theorem app_brk_lo {a b : List Int} (ha : a ≠ []) (hl : kd a (a.length - 1) = 2) {i : Nat} (h : i < a.length) : brk (a ++ b) i = brk a i := by
  by_cases q : i = a.length - 1
  · -- the line's end behind
    by_cases h0 : i = 0
    · rw [h0, brk_zero, brk_zero]
    · unfold brk
      rw [if_neg (by rw [List.length_append]; omega), if_neg (by omega), getD_congr (app_lo (b := b) (show i - 1 < a.length by omega)), getD_congr (app_lo h)]
      have hk2 : kd a i = 2 := by rw [q]; exact hl
      rw [hk2]
      unfold ruleW
      have e : lineK 2 = true := rfl
      rw [e]
      simp
  · refine brk_congr ?_ (getD_congr (app_lo (by omega))) (app_lo h) (app_hk_lo (by omega)) (app_nx_lo ha hl rfl (by omega))
    rw [List.length_append]
    omega
theorem app_brk_at {a b : List Int} (ha : a ≠ []) (hl : kd a (a.length - 1) = 2) : brk (a ++ b) a.length = true := by
  have hpos : 0 < a.length := List.length_pos_iff.2 ha
  unfold brk
  by_cases hb : b.length = 0
  · rw [if_pos (by rw [List.length_append]; omega)]
  · rw [if_neg (by rw [List.length_append]; omega)]
    have : kd (a ++ b) (a.length - 1) = 2 := by rw [getD_congr (app_lo (by omega))]; exact hl
    rw [this]
    unfold ruleW
    rw [if_neg (by omega), if_pos (Or.inl (show lineK 2 = true from rfl))]
theorem hk_last {a : List Int} (ha : a ≠ []) (hl : kd a (a.length - 1) = 2) : ∃ t, hk a a.length = 2 :: t := by
  have hpos : 0 < a.length := List.length_pos_iff.2 ha
  refine ⟨hk a (a.length - 1), ?_⟩
  have e : a.length = (a.length - 1) + 1 := by omega
  have e2 : hk a (a.length - 1 + 1) = if headB a (a.length - 1) = true then kd a (a.length - 1) :: hk a (a.length - 1) else hk a (a.length - 1) := rfl
  rw [last_head ha hl, if_pos rfl, hl] at e2
  rw [← e2, ← e]
theorem regK_app : ∀ (c : List Int) {k : Int} (t : List Int), k ≠ 7 → regK (c ++ k :: t) = regK c
  | [], k, t, h => by simp [regK, h]
  | y :: c, k, t, h => by simp only [List.cons_append, regK]; rw [regK_app c t h]
theorem hk_ne {a b : List Int} (ha : a ≠ []) (hl : kd a (a.length - 1) = 2) {i : Nat} (h : 0 < i) (hb : 0 < b.length) : hk b i ≠ [] := by
  induction i with
  | zero => omega
  | succ i ih =>
    unfold hk
    by_cases q : i = 0
    · subst q
      have : headB b 0 = true := by unfold headB; rw [decide_eq_true hb]; rfl
      rw [this]; simp
    · split
      · simp
      · exact ih (by omega)
theorem app_brk_hi {a b : List Int} (ha : a ≠ []) (hl : kd a (a.length - 1) = 2) {i : Nat} (h : 0 < i) : brk (a ++ b) (a.length + i) = brk b i := by
  have hpos : 0 < a.length := List.length_pos_iff.2 ha
  by_cases hi : i < b.length
  · unfold brk
    rw [if_neg (by rw [List.length_append]; omega), if_neg (by omega)]
    have e1 : kd (a ++ b) (a.length + i - 1) = kd b (i - 1) := by
      rw [show a.length + i - 1 = a.length + (i - 1) by omega]
      exact getD_congr (app_hi _)
    rw [e1, getD_congr (app_hi i), app_hi i, app_hk_hi ha hl i, Nat.add_assoc, app_nx_hi ha hl (i + 1)]
    obtain ⟨t, ht⟩ := hk_last ha hl
    rw [ht, regK_app _ _ (by omega)]
    have hne := hk_ne (a := a) (b := b) ha hl h (by omega)
    match hc : hk b i, hne with
    | [y], _ =>
      show ruleW _ _ _ 2 y _ _ = ruleW _ _ _ 0 y _ _
      unfold ruleW
      rw [joinK_before (x := 2) (y := 0) ⟨rfl, rfl, rfl⟩ ⟨rfl, rfl, rfl⟩]
    | y :: z :: ys, _ => rfl
  · rw [brk_end _ (by rw [List.length_append]; omega), brk_end _ (by omega)]
/-- Where a line ends between, the places of both texts are those of each. -/
theorem all_two {a b : List Int} (ha : a ≠ []) (hl : kd a (a.length - 1) = 2) : allL (a ++ b) = allL a ++ (allL b).tail.map (a.length + ·) := by
  have h0 := app_brk_at (a := a) (b := b) ha hl
  have h1 : below (a ++ b) a.length = below a a.length := below_congr fun j hj => app_brk_lo ha hl hj
  have h3 : allL (a ++ b) = below (a ++ b) (a.length + 1) ++ placesF (a ++ b) (a.length + 1) := all_part _ (by simp)
  have h4 : allL b = below b 1 ++ placesF b 1 := all_part _ (by omega)
  have h5 : below b 1 = [0] := by rw [below_succ, if_pos (brk_zero b)]; rfl
  have h6 : allL b = 0 :: placesF b 1 := by rw [h4, h5]; rfl
  rw [h3, below_succ, if_pos h0, h1, ← all_snoc a, h6, List.tail_cons]
  congr 1
  unfold placesF
  have e1 : (a ++ b).length + 1 - (a.length + 1) = b.length := by rw [List.length_append]; omega
  have e2 : b.length + 1 - 1 = b.length := by omega
  rw [e1, e2]
  have e3 : List.range' (a.length + 1) b.length = (List.range' 1 b.length).map (a.length + ·) := by
    rw [List.map_add_range']
  rw [e3, List.filter_map]
  congr 1
  apply List.filter_congr
  intro x hx
  have := List.mem_range'_1.1 hx
  exact app_brk_hi ha hl (by omega)
end Lines
/- Letters, figures, spaces, and other signs. -/
theorem below_skip {l : List Int} {i : Nat} : ∀ {k : Nat}, i ≤ k → (∀ j, i ≤ j → j < k → brk l j = false) → below l k = below l i
  | 0, h, _ => by obtain rfl : i = 0 := by omega
                  rfl
  | k + 1, h, hb => by
    rcases Nat.eq_or_lt_of_le h with rfl | h
    · rfl
    · rw [below_succ, hb k (by omega) (by omega), if_neg (by simp)]
      exact below_skip (by omega) (fun j h1 h2 => hb j h1 (by omega))
theorem below_one (l : List Int) : below l 1 = [0] := by rw [below_succ, if_pos (brk_zero l)]; rfl
theorem head_plain {l : List Int} {i : Nat} (h : i < l.length) (hm : markK (kd l i) = false) : headB l i = true := by
  unfold headB; rw [decide_eq_true h, hm]; simp
theorem hk_plain {l : List Int} {i : Nat} (h0 : 0 < i) (h : i ≤ l.length) (hm : markK (kd l (i - 1)) = false) : hk l i = kd l (i - 1) :: hk l (i - 1) := by
  obtain ⟨j, rfl⟩ : ∃ j, i = j + 1 := ⟨i - 1, by omega⟩
  rw [Nat.add_sub_cancel] at hm ⊢
  have e : hk l (j + 1) = if headB l j = true then kd l j :: hk l j else hk l j := rfl
  rw [e, head_plain (by omega) hm, if_pos rfl]
/-- Letters and figures. -/
def LF (k : Int) : Prop := k = 9 ∨ k = 10 ∨ k = 16
theorem brk_join {l : List Int} {i : Nat} (h0 : 0 < i) (h : i < l.length) (ha : LF (kd l (i - 1))) (hb : LF (kd l i)) : brk l i = false := by
  rw [brk_mid (by omega) h, hk_plain h0 (by omega) (by rcases ha with e | e | e <;> rw [e] <;> rfl)]
  show ruleW _ _ _ _ (kd l (i - 1)) _ _ = false
  rcases ha with e | e | e <;> rcases hb with f | f | f <;> rw [e, f] <;> simp [ruleW, lineK, markK, joinK, letK]
theorem brk_cut {l : List Int} {i : Nat} (h0 : 0 < i) (h : i < l.length) (ha : LF (kd l (i - 1))) (hb : kd l i = 18) : brk l i = true := by
  rw [brk_mid (by omega) h, hb]
  rcases ha with e | e | e <;> rw [e] <;> simp [ruleW, lineK, markK, joinK, letK, quietK]
theorem brk_open {l : List Int} {i : Nat} (h0 : 0 < i) (h : i < l.length) (ha : kd l (i - 1) = 18) (hb : LF (kd l i)) : brk l i = true := by
  rw [brk_mid (by omega) h, hk_plain h0 (by omega) (by rw [ha]; rfl)]
  show ruleW _ _ _ _ (kd l (i - 1)) _ _ = true
  rw [ha]
  rcases hb with f | f | f <;> rw [f] <;> simp [ruleW, lineK, markK, joinK, letK, quietK]
theorem all_letters {l : List Int} (hne : 0 < l.length) (h : ∀ i, i < l.length → LF (kd l i)) : allL l = [0, l.length] := by
  rw [all_snoc, below_skip (i := 1) hne (fun j h1 h2 => brk_join (by omega) h2 (h _ (by omega)) (h _ h2)), below_one]; rfl
theorem all_letters_two {l : List Int} {s : Int} (hs : wdV s = 18) (hne : 0 < l.length) (h : ∀ i, i < l.length → LF (kd l i)) : allL (l ++ [s] ++ l) = [0, l.length, l.length + 1, 2 * l.length + 1] := by
  obtain ⟨m, hm⟩ : ∃ m, m = l ++ [s] ++ l := ⟨_, rfl⟩
  have hlen : m.length = 2 * l.length + 1 := by rw [hm]; simp; omega
  have lo : ∀ i, i < l.length → kd m i = kd l i := fun i hi => by rw [hm, List.append_assoc]; exact getD_congr (app_lo hi)
  have mid : kd m l.length = 18 := by
    rw [hm, List.append_assoc]
    have := app_hi (a := l) (b := [s] ++ l) 0
    rw [Nat.add_zero] at this
    unfold kd; rw [this]; exact hs
  have hi : ∀ i, kd m (l.length + 1 + i) = kd l i := fun i => by
    have := app_hi (a := l ++ [s]) (b := l) i
    rw [List.length_append, List.length_singleton, ← hm] at this
    exact getD_congr this
  rw [← hm, all_snoc, hlen]
  rw [below_skip (i := l.length + 2) (by omega) (fun j h1 h2 => by
    obtain ⟨d, rfl⟩ : ∃ d, j = l.length + 1 + (d + 1) := ⟨j - l.length - 2, by omega⟩
    refine brk_join (by omega) (by omega) ?_ ?_
    · rw [show l.length + 1 + (d + 1) - 1 = l.length + 1 + d by omega, hi]; exact h _ (by omega)
    · rw [hi]; exact h _ (by omega))]
  have e0 : kd m (l.length + 1) = kd l 0 := hi 0
  rw [below_succ, if_pos (brk_open (by omega) (by omega) (by rw [Nat.add_sub_cancel]; exact mid) (by rw [e0]; exact h 0 hne))]
  rw [below_succ, if_pos (brk_cut (by omega) (by omega) (by rw [lo _ (by omega)]; exact h _ (by omega)) mid)]
  rw [below_skip (i := 1) hne (fun j h1 h2 => brk_join (by omega) (by omega) (by rw [lo _ (by omega)]; exact h _ (by omega)) (by rw [lo _ h2]; exact h _ h2)), below_one]
  rfl
theorem kd_rep {n i : Nat} (r : Int) (h : i < n) : kd (List.replicate n r) i = wdV r := by
  unfold kd; rw [List.getElem?_replicate, if_pos h]; rfl
theorem all_spaces {n : Nat} {s : Int} (hs : wdV s = 18) (hn : 0 < n) : allL (List.replicate n s) = [0, n] := by
  have hl : (List.replicate n s).length = n := List.length_replicate
  rw [all_snoc, hl, below_skip (i := 1) hn (fun j h1 h2 => ?_), below_one]
  · rfl
  · rw [brk_mid (by omega) (by omega), kd_rep s (by omega), kd_rep s h2, hs]
    simp [ruleW, lineK]
/-- A sign that is no letter and no figure. -/
def Dull (k : Int) : Prop := k = 0 ∨ (11 ≤ k ∧ k ≤ 15)
theorem joinK_dull {k : Int} (h : Dull k) (before next : Int) : joinK before k k next = false := by
  have : k = 0 ∨ k = 11 ∨ k = 12 ∨ k = 13 ∨ k = 14 ∨ k = 15 := by unfold Dull at h; omega
  rcases this with rfl | rfl | rfl | rfl | rfl | rfl <;> simp [joinK, letK, quietK]
theorem all_dull {n : Nat} {r : Int} (h : Dull (wdV r)) : allL (List.replicate n r) = List.range (n + 1) := by
  have hl : (List.replicate n r).length = n := List.length_replicate
  unfold allL
  rw [hl, List.filter_eq_self]
  intro i hi
  have hi' := List.mem_range.1 hi
  by_cases h0 : i = 0
  · rw [h0]; exact brk_zero _
  · by_cases hn : i = n
    · exact brk_end _ (by omega)
    · have hd : wdV r = 0 ∨ wdV r = 11 ∨ wdV r = 12 ∨ wdV r = 13 ∨ wdV r = 14 ∨ wdV r = 15 := by unfold Dull at h; omega
      have hm : markK (wdV r) = false := by rcases hd with e | e | e | e | e | e <;> rw [e] <;> rfl
      have hk7 : (wdV r == 7) = false := by rcases hd with e | e | e | e | e | e <;> rw [e] <;> rfl
      have hln : lineK (wdV r) = false := by rcases hd with e | e | e | e | e | e <;> rw [e] <;> rfl
      rw [brk_mid h0 (by omega), hk_plain (by omega) (by omega) (by rw [kd_rep r (by omega)]; exact hm)]
      show ruleW _ _ _ _ (kd _ (i - 1)) _ _ = true
      rw [kd_rep r (by omega), kd_rep r (by omega)]
      unfold ruleW
      rw [if_neg (by omega), if_neg (by rw [hln]; simp), if_neg (by omega), if_neg (by rw [hm]; rcases hd with e | e | e | e | e | e <;> rw [e] <;> simp), joinK_dull h, hk7]
      rfl
end Go.Proofs.YtpmlbdfdiebkcaaDoor
