/-
  States as they are met, from a first one on, where each class leads to one. Plain mathematics.
-/
namespace Go.Proofs.YtklhjjgnhigbiaaGreatDoor
set_option linter.unusedVariables false

def meetG (S : List Nat) (x : Nat) : List Nat := if x ∈ S then S else S ++ [x]
/-- One class more of a row. -/
def stepG (nx : Nat → Nat → Nat) (a : Nat) (p : List Nat × List Nat) (c : Nat) : List Nat × List Nat := (p.1 ++ [p.2.idxOf (nx a c)], meetG p.2 (nx a c))
/-- The row of a state, up to a class, and the states behind it. -/
def rowG (nx : Nat → Nat → Nat) (a : Nat) (S : List Nat) : Nat → List Nat × List Nat
  | 0 => ([], S)
  | i + 1 => stepG nx a (rowG nx a S i) i
structure Gst where
  S : List Nat
  N : List (List Nat)
def gbf (nx : Nat → Nat → Nat) (k a0 : Nat) : Nat → Gst
  | 0 => ⟨[a0], []⟩
  | j + 1 => ⟨(rowG nx ((gbf nx k a0 j).S.getD j 0) (gbf nx k a0 j).S k).2, (gbf nx k a0 j).N ++ [(rowG nx ((gbf nx k a0 j).S.getD j 0) (gbf nx k a0 j).S k).1]⟩
/-- The first j states were gone through. -/
def Vg (nx : Nat → Nat → Nat) (k a0 j : Nat) : Prop := ∀ i, i < j → i < (gbf nx k a0 i).S.length
section
variable {nx : Nat → Nat → Nat} {k a0 : Nat}
theorem Vg.zero : Vg nx k a0 0 := fun i h => absurd h (by omega)
theorem Vg.succ {j : Nat} (h : Vg nx k a0 j) (h1 : j < (gbf nx k a0 j).S.length) : Vg nx k a0 (j + 1) := fun i hi => by
  by_cases e : i = j
  · subst e; exact h1
  · exact h i (by omega)
theorem Vg.le {i j : Nat} (h : Vg nx k a0 j) (hi : i ≤ j) : Vg nx k a0 i := fun q hq => h q (by omega)
theorem meetG_pre (S : List Nat) (x : Nat) : ∃ T, meetG S x = S ++ T := by
  unfold meetG
  split
  · exact ⟨[], by simp⟩
  · exact ⟨[x], rfl⟩
theorem meetG_idx (S : List Nat) (x : Nat) : (meetG S x)[S.idxOf x]? = some x := by
  unfold meetG
  split
  · rename_i h
    exact List.getElem?_eq_some_iff.2 ⟨List.idxOf_lt_length_of_mem h, List.getElem_idxOf _⟩
  · rename_i h
    rw [List.idxOf_eq_length h, List.getElem?_append_right (Nat.le_refl _), Nat.sub_self]
    rfl
theorem meetG_len (S : List Nat) (x : Nat) : S.idxOf x ≤ S.length ∧ (meetG S x).length = if S.idxOf x = S.length then S.length + 1 else S.length := by
  unfold meetG
  split
  · rename_i h
    have := List.idxOf_lt_length_of_mem h
    exact ⟨by omega, by rw [if_neg (by omega)]⟩
  · rename_i h
    rw [List.idxOf_eq_length h]
    exact ⟨Nat.le_refl _, by simp⟩
theorem meetG_nodup {S : List Nat} {x : Nat} (h : S.Nodup) : (meetG S x).Nodup := by
  unfold meetG
  split
  · exact h
  · rename_i hx
    rw [List.nodup_append]
    exact ⟨h, by simp, fun a ha b hb e => by
      have : b = x := List.mem_singleton.1 hb
      subst this; subst e
      exact hx ha⟩
theorem meetG_mem {S : List Nat} {x y : Nat} (h : y ∈ meetG S x) : y ∈ S ∨ y = x := by
  unfold meetG at h
  split at h
  · exact .inl h
  · rcases List.mem_append.1 h with q | q
    · exact .inl q
    · exact .inr (List.mem_singleton.1 q)
theorem preG_get {S T : List Nat} {i : Nat} {x : Nat} (h : S[i]? = some x) : (S ++ T)[i]? = some x := by
  have := (List.getElem?_eq_some_iff.1 h).1
  rw [List.getElem?_append_left this, h]
theorem rowG_len (a : Nat) (S : List Nat) : ∀ i, (rowG nx a S i).1.length = i
  | 0 => rfl
  | i + 1 => by
    show ((rowG nx a S i).1 ++ [_]).length = i + 1
    rw [List.length_append, rowG_len a S i]
    rfl
theorem rowG_pre (a : Nat) (S : List Nat) (i : Nat) : ∀ m, ∃ T, (rowG nx a S (i + m)).2 = (rowG nx a S i).2 ++ T
  | 0 => ⟨[], by simp⟩
  | m + 1 => by
    obtain ⟨T, h⟩ := rowG_pre a S i m
    obtain ⟨T2, h2⟩ := meetG_pre (rowG nx a S (i + m)).2 (nx a (i + m))
    refine ⟨T ++ T2, ?_⟩
    show meetG (rowG nx a S (i + m)).2 (nx a (i + m)) = _
    rw [h2, h, List.append_assoc]
theorem rowG_pre1 (a : Nat) (S : List Nat) (i : Nat) : ∀ m, ∃ T, (rowG nx a S (i + m)).1 = (rowG nx a S i).1 ++ T
  | 0 => ⟨[], by simp⟩
  | m + 1 => by
    obtain ⟨T, h⟩ := rowG_pre1 a S i m
    exact ⟨T ++ [_], by show (rowG nx a S (i + m)).1 ++ [_] = _; rw [h, List.append_assoc]⟩
theorem rowG_ent (a : Nat) (S : List Nat) {i m : Nat} (h : i < m) : (rowG nx a S m).1[i]? = some ((rowG nx a S i).2.idxOf (nx a i)) ∧ (rowG nx a S m).2[(rowG nx a S i).2.idxOf (nx a i)]? = some (nx a i) := by
  obtain ⟨q, rfl⟩ : ∃ q, m = (i + 1) + q := ⟨m - i - 1, by omega⟩
  obtain ⟨T1, h1⟩ := rowG_pre1 (nx := nx) a S (i + 1) q
  obtain ⟨T2, h2⟩ := rowG_pre (nx := nx) a S (i + 1) q
  rw [h1, h2]
  constructor
  · refine preG_get ?_
    show ((rowG nx a S i).1 ++ [_])[i]? = _
    have := rowG_len (nx := nx) a S i
    rw [List.getElem?_append_right (by omega), this, Nat.sub_self]
    rfl
  · exact preG_get (meetG_idx _ _)
theorem rowG_mem (a : Nat) (S : List Nat) : ∀ (i : Nat) (y : Nat), y ∈ (rowG nx a S i).2 → y ∈ S ∨ ∃ c, c < i ∧ y = nx a c
  | 0, y, h => .inl h
  | i + 1, y, h => by
    rcases meetG_mem (show y ∈ meetG (rowG nx a S i).2 (nx a i) from h) with q | q
    · rcases rowG_mem a S i y q with q | ⟨c, h1, h2⟩
      · exact .inl q
      · exact .inr ⟨c, by omega, h2⟩
    · exact .inr ⟨i, by omega, q⟩
theorem rowG_nodup (a : Nat) {S : List Nat} (h : S.Nodup) : ∀ i, (rowG nx a S i).2.Nodup
  | 0 => h
  | i + 1 => meetG_nodup (rowG_nodup a h i)
theorem gbf_pre (j : Nat) : ∀ m, ∃ T, (gbf nx k a0 (j + m)).S = (gbf nx k a0 j).S ++ T
  | 0 => ⟨[], by simp⟩
  | m + 1 => by
    obtain ⟨T, h⟩ := gbf_pre j m
    obtain ⟨T2, h2⟩ := rowG_pre (nx := nx) ((gbf nx k a0 (j + m)).S.getD (j + m) 0) (gbf nx k a0 (j + m)).S 0 k
    refine ⟨T ++ T2, ?_⟩
    rw [Nat.zero_add] at h2
    show (rowG nx ((gbf nx k a0 (j + m)).S.getD (j + m) 0) (gbf nx k a0 (j + m)).S k).2 = _
    rw [h2, ← List.append_assoc, ← h]
    rfl
theorem gbf_preN (j : Nat) : ∀ m, ∃ T, (gbf nx k a0 (j + m)).N = (gbf nx k a0 j).N ++ T
  | 0 => ⟨[], by simp⟩
  | m + 1 => by
    obtain ⟨T, h⟩ := gbf_preN j m
    exact ⟨T ++ [_], by show (gbf nx k a0 (j + m)).N ++ [_] = _; rw [h, List.append_assoc]⟩
theorem gbf_N : ∀ j, (gbf nx k a0 j).N.length = j
  | 0 => rfl
  | j + 1 => by
    show ((gbf nx k a0 j).N ++ [_]).length = j + 1
    rw [List.length_append, gbf_N j]; rfl
theorem gbf_first (j : Nat) : (gbf nx k a0 j).S[0]? = some a0 := by
  obtain ⟨T, h⟩ := gbf_pre (nx := nx) (k := k) (a0 := a0) 0 j
  rw [Nat.zero_add] at h
  rw [h]
  exact preG_get rfl
theorem gbf_nodup : ∀ j, (gbf nx k a0 j).S.Nodup
  | 0 => by show [a0].Nodup; simp
  | j + 1 => rowG_nodup _ (gbf_nodup j) k
theorem gbf_lt {n : Nat} (h0 : a0 < n) (hn : ∀ a c, a < n → c < k → nx a c < n) : ∀ j, Vg nx k a0 j → ∀ x ∈ (gbf nx k a0 j).S, x < n
  | 0, _, x, hx => by
    have : x = a0 := List.mem_singleton.1 hx
    omega
  | j + 1, hv, x, hx => by
    have ih := gbf_lt h0 hn j (hv.le (by omega))
    rcases rowG_mem _ _ k x (show x ∈ (rowG nx ((gbf nx k a0 j).S.getD j 0) (gbf nx k a0 j).S k).2 from hx) with q | ⟨c, hc, rfl⟩
    · exact ih x q
    · refine hn _ _ (ih _ ?_) hc
      have := hv j (by omega)
      rw [List.getD_eq_getElem?_getD, List.getElem?_eq_getElem this]
      exact List.getElem_mem this
theorem nodup_len {n : Nat} : ∀ {l : List Nat}, l.Nodup → (∀ x ∈ l, x < n) → l.length ≤ n := fun {l} h1 h2 => by
  have := List.Nodup.length_le_of_subset (l₁ := l) (l₂ := List.range n) h1 (fun x hx => List.mem_range.2 (h2 x hx))
  rwa [List.length_range] at this
/-- The states are all gone through. -/
def Gfin (nx : Nat → Nat → Nat) (k a0 m : Nat) : Prop := Vg nx k a0 m ∧ ¬ m < (gbf nx k a0 m).S.length
theorem Gfin.len {m : Nat} (h : Gfin nx k a0 m) : (gbf nx k a0 m).S.length = m := by
  have h2 := h.2
  cases m with
  | zero =>
    have := (List.getElem?_eq_some_iff.1 (gbf_first (nx := nx) (k := k) (a0 := a0) 0)).1
    omega
  | succ m =>
    have h1 := h.1 m (by omega)
    obtain ⟨T, hT⟩ := gbf_pre (nx := nx) (k := k) (a0 := a0) m 1
    have : (gbf nx k a0 m).S.length ≤ (gbf nx k a0 (m + 1)).S.length := by rw [hT, List.length_append]; omega
    omega
theorem Gfin.one {m q : Nat} (h : Gfin nx k a0 m) (h2 : Gfin nx k a0 q) : m = q := by
  rcases Nat.lt_trichotomy m q with e | e | e
  · exact absurd (h2.1 m e) h.2
  · exact e
  · exact absurd (h.1 q e) h2.2
theorem gfin_ex {n : Nat} (h0 : a0 < n) (hn : ∀ a c, a < n → c < k → nx a c < n) : ∃ m, m ≤ n ∧ Gfin nx k a0 m := by
  have go : ∀ q j, Vg nx k a0 j → n ≤ j + q → j ≤ n → ∃ m, m ≤ n ∧ Gfin nx k a0 m := by
    intro q
    induction q with
    | zero =>
      intro j hv h1 h2
      refine ⟨j, h2, hv, fun h => ?_⟩
      have := nodup_len (gbf_nodup (nx := nx) (k := k) (a0 := a0) j) (gbf_lt h0 hn j hv)
      omega
    | succ q ih =>
      intro j hv h1 h2
      by_cases h : j < (gbf nx k a0 j).S.length
      · have := nodup_len (gbf_nodup (nx := nx) (k := k) (a0 := a0) j) (gbf_lt h0 hn j hv)
        exact ih (j + 1) (hv.succ h) (by omega) (by omega)
      · exact ⟨j, h2, hv, h⟩
  exact go n 0 Vg.zero (by omega) (Nat.zero_le _)
/-- How many there are. -/
def gend (nx : Nat → Nat → Nat) (k a0 : Nat) : Nat → Nat → Nat
  | 0, j => j
  | q + 1, j => if j < (gbf nx k a0 j).S.length then gend nx k a0 q (j + 1) else j
theorem gend_fin {m : Nat} (h : Gfin nx k a0 m) : ∀ q j, j ≤ m → m ≤ j + q → gend nx k a0 q j = m
  | 0, j, h1, h2 => by show j = m; omega
  | q + 1, j, h1, h2 => by
    unfold gend
    by_cases e : j = m
    · subst e
      rw [if_neg h.2]
    · rw [if_pos (h.1 j (by omega))]
      exact gend_fin h q (j + 1) (by omega) (by omega)
/-- What a row of it tells. -/
theorem gfin_row {m : Nat} (h : Gfin nx k a0 m) {j : Nat} (hj : j < m) {i : Nat} (hi : i < k) : ∃ (q : Nat) (hq : q < m), (gbf nx k a0 m).N[j]? = some (rowG nx ((gbf nx k a0 m).S.getD j 0) (gbf nx k a0 j).S k).1 ∧ (rowG nx ((gbf nx k a0 m).S.getD j 0) (gbf nx k a0 j).S k).1[i]? = some q ∧ (gbf nx k a0 m).S.getD q 0 = nx ((gbf nx k a0 m).S.getD j 0) i := by
  have hjl := h.1 j hj
  obtain ⟨m2, e⟩ : ∃ q, m = (j + 1) + q := ⟨m - j - 1, by omega⟩
  obtain ⟨T, hT⟩ := gbf_pre (nx := nx) (k := k) (a0 := a0) j (m - j)
  rw [show j + (m - j) = m by omega] at hT
  have hS : (gbf nx k a0 m).S.getD j 0 = (gbf nx k a0 j).S.getD j 0 := by
    rw [hT, List.getD_eq_getElem?_getD, List.getElem?_append_left hjl, List.getD_eq_getElem?_getD]
  obtain ⟨T1, h1⟩ := gbf_preN (nx := nx) (k := k) (a0 := a0) (j + 1) m2
  obtain ⟨T2, h2⟩ := gbf_pre (nx := nx) (k := k) (a0 := a0) (j + 1) m2
  rw [← e] at h1 h2
  obtain ⟨k1, k2⟩ := rowG_ent (nx := nx) ((gbf nx k a0 j).S.getD j 0) (gbf nx k a0 j).S hi
  have k3 : (gbf nx k a0 m).S[(rowG nx ((gbf nx k a0 j).S.getD j 0) (gbf nx k a0 j).S i).2.idxOf (nx ((gbf nx k a0 j).S.getD j 0) i)]? = some (nx ((gbf nx k a0 j).S.getD j 0) i) := by
    rw [h2]
    exact preG_get k2
  have hq := (List.getElem?_eq_some_iff.1 k3).1
  rw [h.len] at hq
  refine ⟨_, hq, ?_, ?_, ?_⟩
  · rw [h1, hS]
    have : (gbf nx k a0 (j + 1)).N[j]? = some (rowG nx ((gbf nx k a0 j).S.getD j 0) (gbf nx k a0 j).S k).1 := by
      show ((gbf nx k a0 j).N ++ [_])[j]? = _
      have := gbf_N (nx := nx) (k := k) (a0 := a0) j
      rw [List.getElem?_append_right (by omega), this, Nat.sub_self]
      rfl
    have hl := (List.getElem?_eq_some_iff.1 this).1
    rw [List.getElem?_append_left hl, this]
  · rw [hS]; exact k1
  · rw [hS, List.getD_eq_getElem?_getD, k3]; rfl
end

section
variable {nx ny : Nat → Nat → Nat} {k a0 b0 : Nat} {R : Nat → Nat → Prop}
/-- Two lists, pairwise. -/
def Pw (R : Nat → Nat → Prop) (S T : List Nat) : Prop := S.length = T.length ∧ ∀ i, (h1 : i < S.length) → (h2 : i < T.length) → R S[i] T[i]
theorem Pw.idx (hR : ∀ a b a' b', R a b → R a' b' → (a = a' ↔ b = b')) : ∀ {S T : List Nat} {x y : Nat}, Pw R S T → R x y → S.idxOf x = T.idxOf y
  | [], [], x, y, _, _ => rfl
  | [], t :: T, x, y, h, _ => by have := h.1; simp at this
  | s :: S, [], x, y, h, _ => by have := h.1; simp at this
  | s :: S, t :: T, x, y, h, hxy => by
    have h0 : R s t := h.2 0 (by simp) (by simp)
    have ht : Pw R S T := ⟨by simpa using h.1, fun i h1 h2 => h.2 (i + 1) (by simpa using h1) (by simpa using h2)⟩
    have e := hR s t x y h0 hxy
    rw [List.idxOf_cons, List.idxOf_cons, Pw.idx hR ht hxy]
    by_cases hs : s = x
    · have h2 := e.1 hs
      simp [hs, h2]
    · have h2 : ¬ t = y := fun q => hs (e.2 q)
      have e1 : (s == x) = false := by simpa using hs
      have e2 : (t == y) = false := by simpa using h2
      rw [e1, e2]
theorem Pw.snoc {S T : List Nat} {x y : Nat} (h : Pw R S T) (hxy : R x y) : Pw R (S ++ [x]) (T ++ [y]) := by
  refine ⟨by simp [h.1], fun i h1 h2 => ?_⟩
  by_cases e : i < S.length
  · rw [List.getElem_append_left e, List.getElem_append_left (by rw [← h.1]; exact e)]
    exact h.2 i e (by rw [← h.1]; exact e)
  · have : i = S.length := by simp at h1; omega
    subst this
    rw [List.getElem_append_right (Nat.le_refl _), List.getElem_append_right (by rw [h.1]; exact Nat.le_refl _)]
    simpa using hxy
theorem Pw.meet (hR : ∀ a b a' b', R a b → R a' b' → (a = a' ↔ b = b')) {S T : List Nat} {x y : Nat} (h : Pw R S T) (hxy : R x y) : Pw R (meetG S x) (meetG T y) := by
  have e := h.idx hR hxy
  unfold meetG
  by_cases hs : x ∈ S
  · have ht : y ∈ T := by
      have := List.idxOf_lt_length_of_mem hs
      rw [e, h.1] at this
      exact List.idxOf_lt_length_iff.1 this
    rw [if_pos hs, if_pos ht]
    exact h
  · have ht : ¬ y ∈ T := fun q => by
      have := List.idxOf_lt_length_of_mem q
      rw [← e, ← h.1] at this
      exact hs (List.idxOf_lt_length_iff.1 this)
    rw [if_neg hs, if_neg ht]
    exact h.snoc hxy
theorem Pw.row (hR : ∀ a b a' b', R a b → R a' b' → (a = a' ↔ b = b')) {S T : List Nat} {a b : Nat} (h : Pw R S T) : ∀ i, (∀ c, c < i → R (nx a c) (ny b c)) → Pw R (rowG nx a S i).2 (rowG ny b T i).2 ∧ (rowG nx a S i).1 = (rowG ny b T i).1
  | 0, _ => ⟨h, rfl⟩
  | i + 1, hc => by
    obtain ⟨h1, h2⟩ := Pw.row hR h i (fun c hlt => hc c (by omega))
    have h3 := hc i (by omega)
    refine ⟨h1.meet hR h3, ?_⟩
    show (rowG nx a S i).1 ++ [_] = (rowG ny b T i).1 ++ [_]
    rw [h2, h1.idx hR h3]
/-- What is related is met alike. -/
theorem gbf_iso (hR : ∀ a b a' b', R a b → R a' b' → (a = a' ↔ b = b')) (h0 : R a0 b0) (hs : ∀ a b c, R a b → c < k → R (nx a c) (ny b c)) : ∀ j, Vg nx k a0 j → Pw R (gbf nx k a0 j).S (gbf ny k b0 j).S ∧ (gbf nx k a0 j).N = (gbf ny k b0 j).N ∧ Vg ny k b0 j
  | 0, _ => ⟨⟨rfl, fun i h1 h2 => by
      have e : i = 0 := by
        have : i < 1 := h1
        omega
      subst e
      exact h0⟩, rfl, Vg.zero⟩
  | j + 1, hv => by
    obtain ⟨h1, h2, h3⟩ := gbf_iso hR h0 hs j (hv.le (by omega))
    have hj := hv j (by omega)
    have hj2 : j < (gbf ny k b0 j).S.length := by rw [← h1.1]; exact hj
    have hab : R ((gbf nx k a0 j).S.getD j 0) ((gbf ny k b0 j).S.getD j 0) := by
      rw [List.getD_eq_getElem?_getD, List.getElem?_eq_getElem hj, List.getD_eq_getElem?_getD, List.getElem?_eq_getElem hj2]
      exact h1.2 j hj hj2
    obtain ⟨h4, h5⟩ := h1.row (nx := nx) (ny := ny) hR k (fun c hc => hs _ _ c hab hc)
    refine ⟨h4, ?_, h3.succ hj2⟩
    show (gbf nx k a0 j).N ++ [_] = (gbf ny k b0 j).N ++ [_]
    rw [h2, h5]
theorem gfin_iso (hR : ∀ a b a' b', R a b → R a' b' → (a = a' ↔ b = b')) (h0 : R a0 b0) (hs : ∀ a b c, R a b → c < k → R (nx a c) (ny b c)) {m : Nat} (h : Gfin nx k a0 m) : Gfin ny k b0 m := by
  obtain ⟨h1, _, h3⟩ := gbf_iso hR h0 hs m h.1
  exact ⟨h3, by rw [← h1.1]; exact h.2⟩
end
end Go.Proofs.YtklhjjgnhigbiaaGreatDoor
