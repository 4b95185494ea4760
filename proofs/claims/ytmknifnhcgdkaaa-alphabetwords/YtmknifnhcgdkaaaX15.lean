/-
  Plain mathematics of alphabets: masks, edges, stretches.
-/
import Derived.Test.YtmknifnhcgdkaaaX02
import Derived.Test.YtmknifnhcgdkaaaX14
namespace Go.Proofs.Ytmknifnhcgdkaaa
open Go.RowKit
set_option linter.unusedVariables false

/-- The mask of a number: the bit i is 1, if it is in the set i. -/
def maskN : List (List Rg) → Int → Nat
  | [], _ => 0
  | s :: S, x => (if hasR s x = true then 1 else 0) + 2 * maskN S x

theorem mask_lt : ∀ (S : List (List Rg)) (x : Int), maskN S x < 2 ^ S.length
  | [], x => by simp [maskN]
  | s :: S, x => by
    have := mask_lt S x
    unfold maskN
    rw [List.length_cons, Nat.pow_succ]
    split <;> omega
theorem mask_snoc : ∀ (S : List (List Rg)) (s : List Rg) (x : Int), maskN (S ++ [s]) x = maskN S x + (if hasR s x = true then 2 ^ S.length else 0)
  | [], s, x => by simp [maskN]
  | t :: S, s, x => by
    rw [List.cons_append]
    unfold maskN
    rw [mask_snoc S s x, List.length_cons, Nat.pow_succ]
    split <;> split <;> omega
theorem mask_take {S : List (List Rg)} {i : Nat} (h : i < S.length) (x : Int) : maskN (S.take (i + 1)) x = maskN (S.take i) x + (if hasR S[i] x = true then 2 ^ i else 0) := by
  rw [List.take_succ_eq_append_getElem h, mask_snoc, List.length_take, Nat.min_eq_left (by omega)]
theorem mask_take_lt (S : List (List Rg)) (i : Nat) (x : Int) : maskN (S.take i) x < 2 ^ i := by
  have h := mask_lt (S.take i) x
  have h2 : 2 ^ (S.take i).length ≤ 2 ^ i := Nat.pow_le_pow_right (by omega) (by rw [List.length_take]; omega)
  omega
theorem mask_bit : ∀ (S : List (List Rg)) (x : Int) (i : Nat) (h : i < S.length), maskN S x / 2 ^ i % 2 = if hasR S[i] x = true then 1 else 0
  | s :: S, x, 0, h => by
    unfold maskN
    simp only [Nat.pow_zero, Nat.div_one, List.getElem_cons_zero]
    split <;> omega
  | s :: S, x, i + 1, h => by
    have ih := mask_bit S x i (by simpa using h)
    unfold maskN
    have e : ((if hasR s x = true then 1 else 0) + 2 * maskN S x) / 2 ^ (i + 1) = maskN S x / 2 ^ i := by
      rw [Nat.pow_succ', ← Nat.div_div_eq_div_mul]
      congr 1
      split <;> omega
    rw [e, ih]
    simp
theorem mask_eq {S : List (List Rg)} {x y : Int} : maskN S x = maskN S y ↔ ∀ s ∈ S, hasR s x = hasR s y := by
  constructor
  · intro h s hs
    obtain ⟨i, hi, rfl⟩ := List.getElem_of_mem hs
    have h1 := mask_bit S x i hi
    have h2 := mask_bit S y i hi
    rw [h, h2] at h1
    cases q : hasR S[i] x <;> cases z : hasR S[i] y <;> rw [q, z] at h1 <;> simp at h1 <;> rfl
  · induction S with
    | nil => intro _; rfl
    | cons s S ih =>
      intro h
      unfold maskN
      rw [ih (fun t ht => h t (by simp [ht])), h s (by simp)]
/-- The bit of one number more. -/
theorem or_pow {m i : Nat} (h : m < 2 ^ i) : m ||| 2 ^ i = m + 2 ^ i := by
  have := Nat.two_pow_add_eq_or_of_lt h 1
  rw [Nat.mul_one] at this
  rw [Nat.or_comm, ← this, Nat.add_comm]

/-- All lists are sets. -/
def AllS (S : List (List Rg)) : Prop := ∀ s ∈ S, NormFrom 0 s ∧ ∀ r ∈ s, r.hi ≤ 1114111
theorem AllS.fits {S : List (List Rg)} (h : AllS S) : Fits S.flatten := fun r hr => by
  obtain ⟨s, hs, hr⟩ := List.mem_flatten.1 hr
  have := NormFrom.ord (h s hs).1 r hr
  have := (h s hs).2 r hr
  exact ⟨by omega, by omega, by omega⟩

/-- The edges of sets. -/
def edgS (S : List (List Rg)) : List Int := edgesL S.flatten
theorem edg_up (S : List (List Rg)) : Up (edgS S) := (edges_facts S.flatten [0] trivial).1
theorem edg_mem {S : List (List Rg)} {x : Int} : x ∈ edgS S ↔ x = 0 ∨ ∃ s ∈ S, ∃ r ∈ s, x = r.lo ∨ (x = r.hi + 1 ∧ r.hi < 1114111) := by
  have := (edges_facts S.flatten [0] trivial).2 x
  show x ∈ List.foldl stepE [0] S.flatten ↔ _
  rw [this]
  constructor
  · rintro (h | ⟨r, hr, h⟩)
    · exact .inl (by simpa using h)
    · obtain ⟨s, hs, hr⟩ := List.mem_flatten.1 hr
      exact .inr ⟨s, hs, r, hr, h⟩
  · rintro (h | ⟨s, hs, r, hr, h⟩)
    · exact .inl (by simpa using h)
    · exact .inr ⟨r, List.mem_flatten.2 ⟨s, hs, hr⟩, h⟩
theorem edg_bounds {S : List (List Rg)} (hS : AllS S) : ∀ x ∈ edgS S, 0 ≤ x ∧ x ≤ 1114111 := fun x hx => by
  rcases edg_mem.1 hx with q | ⟨s, hs, r, hr, q | ⟨q, q2⟩⟩
  · omega
  · have := hS.fits r (List.mem_flatten.2 ⟨s, hs, hr⟩); omega
  · have := hS.fits r (List.mem_flatten.2 ⟨s, hs, hr⟩); omega
theorem up_get : ∀ {l : List Int}, Up l → ∀ (i j : Nat) (hi : i < l.length) (hj : j < l.length), i < j → l[i] < l[j]
  | [], _, i, j, hi, _, _ => absurd hi (by simp)
  | a :: l, h, 0, j + 1, hi, hj, _ => by
    have hj' : j < l.length := by simpa using hj
    have := h.lt l[j] (List.getElem_mem hj')
    simpa using this
  | a :: l, h, i + 1, j + 1, hi, hj, q => by
    have := up_get h.tail i j (by simpa using hi) (by simpa using hj) (by omega)
    simpa using this
  | a :: l, h, i, 0, hi, hj, q => absurd q (by omega)
theorem up_unique : ∀ {l m : List Int}, Up l → Up m → (∀ x, x ∈ l ↔ x ∈ m) → l = m
  | [], [], _, _, _ => rfl
  | [], b :: m, _, _, h => absurd ((h b).2 (by simp)) (by simp)
  | a :: l, [], _, _, h => absurd ((h a).1 (by simp)) (by simp)
  | a :: l, b :: m, hl, hm, h => by
    have e : a = b := by
      have h1 := (h a).1 (by simp)
      have h2 := (h b).2 (by simp)
      rcases List.mem_cons.1 h1 with q | q
      · exact q
      · rcases List.mem_cons.1 h2 with z | z
        · exact z.symm
        · have := hm.lt a q
          have := hl.lt b z
          omega
    subst e
    have : l = m := up_unique hl.tail hm.tail (fun x => by
      have := h x
      constructor
      · intro q
        rcases List.mem_cons.1 (this.1 (by simp [q])) with z | z
        · have := hl.lt x q; omega
        · exact z
      · intro q
        rcases List.mem_cons.1 (this.2 (by simp [q])) with z | z
        · have := hm.lt x q; omega
        · exact z)
    rw [this]
theorem edg_pos (S : List (List Rg)) : 0 < (edgS S).length := List.length_pos_of_mem (edg_mem.2 (.inl rfl) : (0 : Int) ∈ edgS S)
theorem edg_zero {S : List (List Rg)} (hS : AllS S) : (edgS S)[0]'(edg_pos S) = 0 := by
  obtain ⟨i, hi, h⟩ := List.getElem_of_mem (edg_mem.2 (.inl rfl) : (0 : Int) ∈ edgS S)
  have hb := (edg_bounds hS _ (List.getElem_mem (edg_pos S))).1
  by_cases q : i = 0
  · subst q; exact h
  · have := up_get (edg_up S) 0 i (edg_pos S) hi (by omega)
    omega

/-- What is left of a set, from a number on. -/
def restF : List Rg → Int → List Rg
  | [], _ => []
  | r :: s, low => if r.hi < low then restF s low else r :: s
/-- Up to which number nothing begins or ends. -/
def nextF : List Rg → Int → Int
  | [], _ => 1114111
  | r :: _, low => if low < r.lo then r.lo - 1 else r.hi
/-- Is the number in what is left? -/
def inF : List Rg → Int → Bool
  | [], _ => false
  | r :: _, low => decide (r.lo ≤ low)
theorem rest_has : ∀ {s : List Rg} {b : Int} (low : Int), NormFrom b s → hasR s low = inF (restF s low) low
  | [], b, low, _ => rfl
  | r :: s, b, low, h => by
    unfold restF
    rw [hasR_cons]
    split
    · rename_i q
      rw [decide_eq_false (by omega), Bool.false_or, rest_has low h.2.2]
    · rename_i q
      show _ = decide (r.lo ≤ low)
      by_cases z : r.lo ≤ low
      · rw [decide_eq_true (⟨z, by omega⟩ : r.lo ≤ low ∧ low ≤ r.hi), decide_eq_true z]; rfl
      · rw [decide_eq_false (by omega), decide_eq_false z, below_norm h.2.2 (by have := h.2.1; omega)]; rfl
theorem next_low : ∀ {s : List Rg} (low : Int), low ≤ 1114111 → low ≤ nextF (restF s low) low
  | [], low, h => h
  | r :: s, low, h => by
    unfold restF
    split
    · exact next_low low h
    · show low ≤ if low < r.lo then r.lo - 1 else r.hi
      split <;> omega
theorem next_edge : ∀ {s : List Rg} {b : Int} (low : Int), NormFrom b s → ∀ r ∈ s, ∀ e, (e = r.lo ∨ e = r.hi + 1) → e ≤ low ∨ nextF (restF s low) low < e
  | t :: s, b, low, h, r, hr, e, he => by
    unfold restF
    have h2 := h.2.1
    split
    · rename_i q
      rcases List.mem_cons.1 hr with z | z
      · subst z
        exact .inl (by omega)
      · exact next_edge low h.2.2 r z e he
    · rename_i q
      show e ≤ low ∨ (if low < t.lo then t.lo - 1 else t.hi) < e
      rcases List.mem_cons.1 hr with z | z
      · subst z
        split <;> omega
      · have := NormFrom.ord h.2.2 r z
        split <;> omega
theorem next_is : ∀ {s : List Rg} (low : Int), nextF (restF s low) low = 1114111 ∨ ∃ r ∈ s, nextF (restF s low) low + 1 = r.lo ∨ nextF (restF s low) low + 1 = r.hi + 1
  | [], low => .inl rfl
  | r :: s, low => by
    unfold restF
    split
    · rcases next_is (s := s) low with h | ⟨t, ht, h⟩
      · exact .inl h
      · exact .inr ⟨t, by simp [ht], h⟩
    · refine .inr ⟨r, by simp, ?_⟩
      show (if low < r.lo then r.lo - 1 else r.hi) + 1 = r.lo ∨ (if low < r.lo then r.lo - 1 else r.hi) + 1 = r.hi + 1
      split <;> omega
theorem rest_drop : ∀ (s : List Rg) (low : Int), ∃ k, restF s low = s.drop k
  | [], low => ⟨0, rfl⟩
  | r :: s, low => by
    unfold restF
    split
    · obtain ⟨k, h⟩ := rest_drop s low
      exact ⟨k + 1, by rw [h]; rfl⟩
    · exact ⟨0, rfl⟩
theorem rest_rest : ∀ (s : List Rg) (low hi : Int), low ≤ hi → restF (restF s low) hi = restF s hi
  | [], low, hi, _ => rfl
  | r :: s, low, hi, h => by
    conv => lhs; arg 1; unfold restF
    split
    · rename_i q
      rw [rest_rest s low hi h]
      conv => rhs; unfold restF
      rw [if_pos (by omega)]
    · rfl
theorem rest_head : ∀ (s : List Rg) (low : Int) (r : Rg) (t : List Rg), restF s low = r :: t → low ≤ r.hi
  | [], low, r, t, h => by cases h
  | x :: s, low, r, t, h => by
    unfold restF at h
    split at h
    · exact rest_head s low r t h
    · rename_i q
      obtain ⟨rfl, rfl⟩ : x = r ∧ s = t := by simpa using h
      omega

/-- What the program keeps of a set, ahead of the numbers from low on. -/
def RestOk (s R : List Rg) (low : Int) : Prop := restF R low = restF s low ∧ (∀ r t, R = r :: t → low ≤ r.hi + 1) ∧ ∃ k, R = s.drop k
theorem RestOk.start {s : List Rg} {b : Int} (h : NormFrom b s) (hb : 0 ≤ b) : RestOk s s 0 := by
  refine ⟨rfl, fun r t e => ?_, 0, rfl⟩
  subst e
  have := h.1
  have := h.2.1
  omega
/-- One range at most is passed by. -/
theorem RestOk.pass {s : List Rg} {b low : Int} {r : Rg} {t : List Rg} (h : NormFrom b s) (k : RestOk s (r :: t) low) (q : r.hi < low) : t = restF s low := by
  rw [← k.1]
  show t = restF (r :: t) low
  unfold restF
  rw [if_pos q]
  have hl := k.2.1 r t rfl
  obtain ⟨i, hi⟩ := k.2.2
  have hn : NormFrom b (r :: t) := by rw [hi]; exact h.drop i
  cases t with
  | nil => rfl
  | cons x t =>
    have := hn.2.2.1
    have := hn.2.2.2.1
    unfold restF
    rw [if_neg (by omega)]
theorem RestOk.stay {s : List Rg} {low : Int} {R : List Rg} (k : RestOk s R low) (q : ∀ r t, R = r :: t → ¬ r.hi < low) : R = restF s low := by
  rw [← k.1]
  cases R with
  | nil => rfl
  | cons r t =>
    unfold restF
    rw [if_neg (q r t rfl)]
theorem RestOk.go {s : List Rg} {b low hi : Int} (h : NormFrom b s) (h1 : low ≤ hi) (h2 : hi ≤ nextF (restF s low) low) : RestOk s (restF s low) (hi + 1) := by
  refine ⟨rest_rest s low (hi + 1) (by omega), fun r t e => ?_, rest_drop s low⟩
  have hr := rest_head s low r t e
  rw [e] at h2
  have h2 : hi ≤ if low < r.lo then r.lo - 1 else r.hi := h2
  obtain ⟨i, hi⟩ := rest_drop s low
  have hn : NormFrom b (r :: t) := by rw [← e, hi]; exact h.drop i
  have := hn.2.1
  split at h2 <;> omega

/-- Up to which number no set begins or ends. -/
def hiF (low h : Int) (s : List Rg) : Int := min h (nextF (restF s low) low)
def highS (S : List (List Rg)) (low : Int) : Int := S.foldl (hiF low) 1114111
theorem high_facts (low : Int) : ∀ (S : List (List Rg)) (h : Int), S.foldl (hiF low) h ≤ h ∧ (∀ s ∈ S, S.foldl (hiF low) h ≤ nextF (restF s low) low) ∧ (S.foldl (hiF low) h = h ∨ ∃ s ∈ S, S.foldl (hiF low) h = nextF (restF s low) low)
  | [], h => ⟨Int.le_refl _, (fun s hs => (by cases hs)), .inl rfl⟩
  | t :: S, h => by
    obtain ⟨h1, h2, h3⟩ := high_facts low S (hiF low h t)
    rw [List.foldl_cons]
    have hm : hiF low h t = min h (nextF (restF t low) low) := rfl
    refine ⟨by omega, fun s hs => ?_, ?_⟩
    · rcases List.mem_cons.1 hs with e | e
      · subst e; omega
      · exact h2 s e
    · rcases h3 with e | ⟨s, hs, e⟩
      · by_cases q : h ≤ nextF (restF t low) low
        · exact .inl (by omega)
        · exact .inr ⟨t, by simp, by omega⟩
      · exact .inr ⟨s, by simp [hs], e⟩
theorem high_take {S : List (List Rg)} {i : Nat} (h : i < S.length) (low : Int) : highS (S.take (i + 1)) low = min (highS (S.take i) low) (nextF (restF S[i] low) low) := by
  unfold highS
  rw [List.take_succ_eq_append_getElem h, List.foldl_append]
  rfl

/-- The last number ahead of the next edge. -/
def nxtE (E : List Int) (k : Nat) : Int := match E[k + 1]? with
  | some e => e - 1
  | none => 1114111
theorem nxt_some {E : List Int} {k : Nat} (h : k + 1 < E.length) : nxtE E k = E[k + 1] - 1 := by
  unfold nxtE
  rw [List.getElem?_eq_getElem h]
theorem nxt_none {E : List Int} {k : Nat} (h : ¬ k + 1 < E.length) : nxtE E k = 1114111 := by
  unfold nxtE
  rw [List.getElem?_eq_none (by omega)]
theorem high_low {S : List (List Rg)} {low : Int} (h : low ≤ 1114111) : low ≤ highS S low := by
  rcases (high_facts low S 1114111).2.2 with e | ⟨s, hs, e⟩
  · show low ≤ List.foldl _ _ _; rw [e]; exact h
  · show low ≤ List.foldl _ _ _; rw [e]; exact next_low low h
theorem high_next {S : List (List Rg)} (hS : AllS S) {k : Nat} (hk : k < (edgS S).length) : highS S (edgS S)[k] = nxtE (edgS S) k := by
  have hup := edg_up S
  have hbd := edg_bounds hS
  obtain ⟨E, hE⟩ : ∃ E, E = edgS S := ⟨_, rfl⟩
  obtain ⟨low, hlow⟩ : ∃ low, low = (edgS S)[k] := ⟨_, rfl⟩
  have hlb := hbd low (by rw [hlow]; exact List.getElem_mem hk)
  rw [← hlow]
  have hmem : ∀ x, x ∈ E ↔ x = 0 ∨ ∃ s ∈ S, ∃ r ∈ s, x = r.lo ∨ (x = r.hi + 1 ∧ r.hi < 1114111) := fun x => by rw [hE]; exact edg_mem
  rw [← hE] at hup hbd ⊢
  have hk' : k < E.length := by rw [hE]; exact hk
  have hlow' : low = E[k] := by rw [hlow]; congr 1; exact hE.symm
  clear hlow hk
  obtain ⟨f1, f2, f3⟩ := high_facts low S 1114111
  have hhl : low ≤ highS S low := high_low hlb.2
  have hhd : highS S low = S.foldl (hiF low) 1114111 := rfl
  rw [← hhd] at f1 f2 f3
  -- no edge between
  have hno : ∀ e ∈ E, e ≤ low ∨ highS S low < e := fun e he => by
    rcases (hmem e).1 he with q | ⟨s, hs, r, hr, q⟩
    · exact .inl (by omega)
    · have h1 := next_edge low (hS s hs).1 r hr e (by rcases q with q | q; exact .inl q; exact .inr q.1)
      have h2 := f2 s hs
      omega
  -- it ends at an edge
  have his : highS S low = 1114111 ∨ highS S low + 1 ∈ E := by
    rcases f3 with e | ⟨s, hs, e⟩
    · exact .inl e
    · by_cases q : highS S low = 1114111
      · exact .inl q
      · rcases next_is (s := s) low with z | ⟨r, hr, z⟩
        · exact absurd (e.trans z) q
        · rw [← e] at z
          refine .inr ((hmem _).2 (.inr ⟨s, hs, r, hr, ?_⟩))
          rcases z with z | z
          · exact .inl z
          · exact .inr ⟨z, by omega⟩
  by_cases h1 : k + 1 < E.length
  · rw [nxt_some h1]
    have hlt := up_get hup k (k + 1) hk' h1 (by omega)
    have hb1 := hbd E[k + 1] (List.getElem_mem h1)
    rcases hno E[k + 1] (List.getElem_mem h1) with z | z
    · omega
    · rcases his with q | q
      · omega
      · obtain ⟨j, hj, e⟩ := List.getElem_of_mem q
        rcases Nat.lt_trichotomy j (k + 1) with y | y | y
        · rcases Nat.lt_or_ge j k with x | x
          · have := up_get hup j k hj hk' x; omega
          · obtain rfl : j = k := by omega
            omega
        · subst y; omega
        · have := up_get hup (k + 1) j h1 hj y; omega
  · rw [nxt_none h1]
    rcases his with q | q
    · exact q
    · obtain ⟨j, hj, e⟩ := List.getElem_of_mem q
      rcases Nat.lt_or_ge j k with x | x
      · have := up_get hup j k hj hk' x; omega
      · obtain rfl : j = k := by omega
        omega
end Go.Proofs.Ytmknifnhcgdkaaa
