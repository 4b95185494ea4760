/-
  Numbers as bytes, states as bytes, and back. Plain mathematics.
-/
namespace Go.Proofs.YtklhjjgnhigbiaaGreatDoor
set_option linter.unusedVariables false

/-- A number's bytes: seven bits a byte. -/
def numF : Nat → Nat → List Nat
  | 0, n => [n]
  | q + 1, n => if 128 ≤ n then (128 + n % 128) :: numF q (n / 128) else [n]
def numN (n : Nat) : List Nat := numF 10 n
/-- The number that bytes begin with, how many bytes it has, and the last of them. -/
def rawT : Nat → List Nat → Option (Nat × Nat × Nat)
  | 0, _ => none
  | _ + 1, [] => none
  | f + 1, x :: r => if x < 128 then some (x, 1, x) else
    match rawT f r with
    | none => none
    | some (v, c, l) => some (x - 128 + 128 * v, c + 1, l)
def told (b : List Nat) : Option (Nat × Nat) :=
  match rawT 5 b with
  | none => none
  | some (v, c, l) => if v ≤ 2147483647 ∧ (c = 1 ∨ l ≠ 0) then some (v, c) else none
theorem numF_pos (q n : Nat) : 1 ≤ (numF q n).length := by
  cases q with
  | zero => exact Nat.le_refl _
  | succ q => unfold numF; split <;> simp
theorem numF_more : ∀ (q n : Nat), n < 128 ^ (q + 1) → numF (q + 1) n = numF q n
  | 0, n, h => by
    unfold numF
    rw [if_neg (by omega)]
  | q + 1, n, h => by
    have e : n / 128 < 128 ^ (q + 1) := Nat.div_lt_of_lt_mul (by rw [Nat.pow_succ] at h; omega)
    show (if 128 ≤ n then (128 + n % 128) :: numF (q + 1) (n / 128) else [n]) = (if 128 ≤ n then (128 + n % 128) :: numF q (n / 128) else [n])
    rw [numF_more q (n / 128) e]
theorem numF_len : ∀ (q n : Nat), (numF q n).length ≤ q + 1
  | 0, n => Nat.le_refl _
  | q + 1, n => by
    unfold numF
    split
    · have := numF_len q (n / 128)
      simp
      omega
    · simp
theorem numF_byte : ∀ (q n : Nat), n < 128 ^ (q + 1) → ∀ x ∈ numF q n, x < 256
  | 0, n, h, x, hx => by
    rw [List.mem_singleton.1 hx]
    omega
  | q + 1, n, h, x, hx => by
    unfold numF at hx
    split at hx
    · rcases List.mem_cons.1 hx with rfl | hx
      · have := Nat.mod_lt n (show 128 > 0 by omega); omega
      · exact numF_byte q _ (Nat.div_lt_of_lt_mul (by rw [Nat.pow_succ] at h; omega)) x hx
    · rw [List.mem_singleton.1 hx]; omega
/-- What Number wrote is told. -/
theorem raw_num : ∀ (f q n : Nat) (r : List Nat), n < 128 ^ (f + 1) → f ≤ q → ∃ l, rawT (f + 1) (numF q n ++ r) = some (n, (numF q n).length, l) ∧ ((numF q n).length = 1 ∨ l ≠ 0) ∧ (n ≠ 0 → l ≠ 0)
  | f, q, n, r, h, hq => by
    by_cases h1 : 128 ≤ n
    · cases f with
      | zero => exact absurd h (by omega)
      | succ f =>
        cases q with
        | zero => omega
        | succ q =>
          have e : n / 128 < 128 ^ (f + 1) := Nat.div_lt_of_lt_mul (by rw [Nat.pow_succ] at h; omega)
          obtain ⟨l, h2, h3, h4⟩ := raw_num f q (n / 128) r e (by omega)
          have hl : l ≠ 0 := h4 (by omega)
          refine ⟨l, ?_, .inr hl, fun _ => hl⟩
          have e2 : numF (q + 1) n = (128 + n % 128) :: numF q (n / 128) := by show (if _ then _ else _) = _; rw [if_pos h1]
          rw [e2]
          show (if 128 + n % 128 < 128 then _ else _) = _
          rw [if_neg (by omega)]
          show (match rawT (f + 1) (numF q (n / 128) ++ r) with | none => none | some (v, c, l) => some (128 + n % 128 - 128 + 128 * v, c + 1, l)) = _
          rw [h2]
          simp
          omega
    · have e2 : numF q n = [n] := by cases q with
        | zero => rfl
        | succ q => show (if _ then _ else _) = _; rw [if_neg h1]
      rw [e2]
      refine ⟨n, ?_, .inl rfl, id⟩
      show (if n < 128 then _ else _) = _
      rw [if_pos (by omega)]
      rfl
theorem told_num {n : Nat} (h : n ≤ 2147483647) (r : List Nat) : told (numN n ++ r) = some (n, (numN n).length) := by
  obtain ⟨l, h1, h2, _⟩ := raw_num 4 10 n r (by omega) (by omega)
  unfold told numN
  rw [h1]
  exact if_pos ⟨h, h2⟩
/-- What is told was written by Number. -/
theorem raw_inv : ∀ (f : Nat) (b : List Nat) (v c l q : Nat), (∀ x ∈ b, x < 256) → rawT f b = some (v, c, l) → f ≤ q + 1 → 1 ≤ c ∧ c ≤ b.length ∧ c ≤ f ∧ (l ≠ 0 → v ≠ 0) ∧ (c = 1 → l = v) ∧ (c = 1 ∨ l ≠ 0 → numF q v = b.take c)
  | 0, b, v, c, l, q, _, h, _ => by cases b <;> cases h
  | f + 1, [], v, c, l, q, _, h, _ => by cases h
  | f + 1, x :: r, v, c, l, q, hb, h, hq => by
    have h' : (if x < 128 then some (x, 1, x) else match rawT f r with | none => none | some (v, c, l) => some (x - 128 + 128 * v, c + 1, l)) = some (v, c, l) := h
    by_cases hx : x < 128
    · rw [if_pos hx] at h'
      injection h' with h'
      injection h' with h1 h2
      injection h2 with h2 h3
      subst h1 h2 h3
      refine ⟨Nat.le_refl _, by simp, by omega, id, fun _ => rfl, fun _ => ?_⟩
      cases q with
      | zero => rfl
      | succ q => show (if _ then _ else _) = _; rw [if_neg (by omega)]; rfl
    · rw [if_neg hx] at h'
      cases hr : rawT f r with
      | none => rw [hr] at h'; cases h'
      | some p =>
        obtain ⟨v', c', l'⟩ := p
        rw [hr] at h'
        injection h' with h'
        injection h' with h1 h2
        injection h2 with h2 h3
        subst h1 h2 h3
        have hx2 := hb x (List.mem_cons_self)
        have hb' : ∀ y ∈ r, y < 256 := fun y hy => hb y (List.mem_cons_of_mem _ hy)
        cases q with
        | zero =>
          have : f = 0 := by omega
          subst this
          cases r <;> cases hr
        | succ q =>
          obtain ⟨k1, k2, k3, k4, k5, k6⟩ := raw_inv f r v' c' l' q hb' hr (by omega)
          refine ⟨by omega, by simp; omega, by omega, fun hl => ?_, fun hc => by omega, fun hc => ?_⟩
          · have := k4 hl; omega
          · have hl : l' ≠ 0 := by rcases hc with hc | hc; omega; exact hc
            have hv := k4 hl
            show (if _ then _ else _) = _
            rw [if_pos (by omega)]
            have e1 : (x - 128 + 128 * v') / 128 = v' := by omega
            have e2 : 128 + (x - 128 + 128 * v') % 128 = x := by omega
            rw [e1, e2, k6 (.inr hl), List.take_succ_cons]
theorem told_inv {b : List Nat} {n c : Nat} (hb : ∀ x ∈ b, x < 256) (h : told b = some (n, c)) : n ≤ 2147483647 ∧ 1 ≤ c ∧ c ≤ b.length ∧ c ≤ 5 ∧ b = numN n ++ b.drop c ∧ c = (numN n).length := by
  unfold told at h
  cases hr : rawT 5 b with
  | none => rw [hr] at h; cases h
  | some p =>
    obtain ⟨v, c', l⟩ := p
    rw [hr] at h
    have h' : (if v ≤ 2147483647 ∧ (c' = 1 ∨ l ≠ 0) then some (v, c') else none) = some (n, c) := h
    by_cases hc : v ≤ 2147483647 ∧ (c' = 1 ∨ l ≠ 0)
    · rw [if_pos hc] at h'
      injection h' with h'
      injection h' with h1 h2
      subst h1 h2
      obtain ⟨k1, k2, k3, k4, k5, k6⟩ := raw_inv 5 b v c' l 10 hb hr (by omega)
      have e := k6 hc.2
      refine ⟨hc.1, k1, k2, k3, ?_, ?_⟩
      · show b = numF 10 v ++ _
        rw [e, List.take_append_drop]
      · show c' = (numF 10 v).length
        rw [e, List.length_take]
        omega
    · rw [if_neg hc] at h'
      cases h'
theorem told_byte {n : Nat} (h : n ≤ 2147483647) : ∀ x ∈ numN n, x < 256 := numF_byte 10 n (by omega)

/-- How many lead to x from here on. -/
def runY (x : Nat) : List Nat → Nat
  | [] => 0
  | y :: r => if y = x then runY x r + 1 else 0
theorem runL_le (x : Nat) : ∀ r, runY x r ≤ r.length
  | [] => Nat.le_refl _
  | y :: r => by
    unfold runY
    split
    · have := runL_le x r; simp; omega
    · simp
/-- A row in runs. -/
def rleB : Nat → List Nat → List Nat
  | 0, _ => []
  | _ + 1, [] => []
  | f + 1, x :: r => numN (runY x r + 1) ++ numN x ++ rleB f (r.drop (runY x r))
def rowY (r : List Nat) : List Nat := rleB r.length r
theorem rleB_fuel : ∀ (f g : Nat) (r : List Nat), r.length ≤ f → r.length ≤ g → rleB f r = rleB g r
  | 0, g, r, h, _ => by
    have : r = [] := List.length_eq_zero_iff.1 (by omega)
    subst this
    cases g <;> rfl
  | f + 1, 0, r, _, h => by
    have : r = [] := List.length_eq_zero_iff.1 (by omega)
    subst this
    rfl
  | f + 1, g + 1, [], _, _ => rfl
  | f + 1, g + 1, x :: r, h1, h2 => by
    show _ ++ rleB f _ = _ ++ rleB g _
    rw [rleB_fuel f g (r.drop (runY x r)) (by simp at h1 ⊢; omega) (by simp at h2 ⊢; omega)]
theorem rowB_cons (x : Nat) (r : List Nat) : rowY (x :: r) = numN (runY x r + 1) ++ numN x ++ rowY (r.drop (runY x r)) := by
  show _ ++ rleB r.length _ = _ ++ rleB _ _
  rw [rleB_fuel r.length (r.drop (runY x r)).length (r.drop (runY x r)) (by simp) (Nat.le_refl _)]
theorem runL_rep (x : Nat) : ∀ r, r = List.replicate (runY x r) x ++ r.drop (runY x r)
  | [] => rfl
  | y :: r => by
    unfold runY
    split
    · rename_i e
      subst e
      rw [List.replicate_succ, List.cons_append, List.drop_succ_cons, ← runL_rep y r]
    · simp
/-- A row of so many classes, and the bytes behind it. -/
def rowP : Nat → Nat → List Nat → Option (List Nat × List Nat)
  | 0, c, b => if c = 0 then some ([], b) else none
  | f + 1, c, b => if c = 0 then some ([], b) else
    match told b with
    | none => none
    | some (m, k) => if m < 1 ∨ c < m then none else
      match told (b.drop k) with
      | none => none
      | some (s, k2) =>
        match rowP f (c - m) ((b.drop k).drop k2) with
        | none => none
        | some (r, b2) => some (List.replicate m s ++ r, b2)
theorem rowP_row : ∀ (f : Nat) (r b : List Nat), r.length ≤ f → f ≤ 2147483647 → (∀ x ∈ r, x ≤ 2147483647) → rowP f r.length (rowY r ++ b) = some (r, b)
  | 0, r, b, h, _, _ => by
    have : r = [] := List.length_eq_zero_iff.1 (by omega)
    subst this
    rfl
  | f + 1, [], b, _, _, _ => rfl
  | f + 1, x :: r, b, h, hf, hx => by
    have hl := runL_le x r
    simp at h
    have hx0 := hx x (List.mem_cons_self)
    unfold rowP
    rw [if_neg (by simp), rowB_cons, List.append_assoc, List.append_assoc, told_num (by omega)]
    show (if _ then _ else _) = _
    rw [if_neg (by simp; omega), List.drop_left, told_num hx0]
    show (match rowP f _ _ with | none => none | some (r', b2) => some (List.replicate (runY x r + 1) x ++ r', b2)) = _
    have e : (x :: r).length - (runY x r + 1) = (r.drop (runY x r)).length := by simp
    rw [List.drop_left, e, rowP_row f (r.drop (runY x r)) b (by simp; omega) (by omega) (fun y hy => hx y (List.mem_cons_of_mem _ (List.mem_of_mem_drop hy)))]
    show some (List.replicate (runY x r + 1) x ++ r.drop (runY x r), b) = _
    rw [List.replicate_succ, List.cons_append, ← runL_rep x r]
theorem rowP_len : ∀ (f c : Nat) (b r b2 : List Nat), rowP f c b = some (r, b2) → r.length = c
  | 0, c, b, r, b2, h => by
    unfold rowP at h
    split at h
    · rename_i e
      injection h with h
      injection h with h1 h2
      subst h1
      exact e.symm
    · cases h
  | f + 1, c, b, r, b2, h => by
    unfold rowP at h
    split at h
    · rename_i e
      injection h with h
      injection h with h1 h2
      subst h1
      exact e.symm
    · split at h
      · cases h
      · split at h
        · cases h
        · rename_i hm
          split at h
          · cases h
          · split at h
            · cases h
            · rename_i r' b' hr
              injection h with h
              injection h with h1 h2
              subst h1
              have := rowP_len f _ _ _ _ hr
              simp
              omega
/-- So many states. -/
def staP : Nat → Nat → List Nat → Option (List (List Nat) × List Bool × List Nat)
  | 0, _, b => some ([], [], b)
  | n + 1, c, b =>
    match b with
    | [] => none
    | y :: b =>
      match rowP c c b with
      | none => none
      | some (r, b2) =>
        match staP n c b2 with
        | none => none
        | some (R, G, b3) => some (r :: R, decide (y = 1) :: G, b3)
def staB : List (List Nat) → List Bool → List Nat
  | r :: R, x :: G => (if x then 1 else 0) :: rowY r ++ staB R G
  | _, _ => []
theorem staP_sta : ∀ (R : List (List Nat)) (G : List Bool) (c : Nat) (b : List Nat), R.length = G.length → c ≤ 2147483647 → (∀ r ∈ R, r.length = c ∧ ∀ x ∈ r, x ≤ 2147483647) → staP R.length c (staB R G ++ b) = some (R, G, b)
  | [], [], c, b, _, _, _ => rfl
  | [], _ :: _, c, b, h, _, _ => by cases h
  | _ :: _, [], c, b, h, _, _ => by cases h
  | r :: R, x :: G, c, b, h, hc, hr => by
    obtain ⟨h1, h2⟩ := hr r (List.mem_cons_self)
    have e : staB (r :: R) (x :: G) ++ b = (if x then 1 else 0) :: (rowY r ++ (staB R G ++ b)) := by
      show ((if x then 1 else 0) :: rowY r ++ staB R G) ++ b = _
      rw [List.cons_append, List.cons_append, List.append_assoc]
    rw [e]
    show (match rowP c c (rowY r ++ (staB R G ++ b)) with | none => none | some (r, b2) => match staP R.length c b2 with | none => none | some (R, G, b3) => some (r :: R, decide ((if x then 1 else 0) = 1) :: G, b3)) = _
    have := rowP_row c r (staB R G ++ b) (by omega) hc h2
    rw [h1] at this
    rw [this]
    show (match staP R.length c (staB R G ++ b) with | none => none | some (R, G, b3) => some (r :: R, decide ((if x then 1 else 0) = 1) :: G, b3)) = _
    rw [staP_sta R G c b (by simpa using h) hc (fun r hr2 => hr r (List.mem_cons_of_mem _ hr2))]
    cases x <;> rfl
theorem staP_len : ∀ (n c : Nat) (b : List Nat) (R : List (List Nat)) (G : List Bool) (b2 : List Nat), staP n c b = some (R, G, b2) → R.length = n ∧ G.length = n ∧ ∀ r ∈ R, r.length = c
  | 0, c, b, R, G, b2, h => by
    injection h with h
    injection h with h1 h2
    injection h2 with h2 h3
    subst h1 h2
    exact ⟨rfl, rfl, fun r hr => by cases hr⟩
  | n + 1, c, [], R, G, b2, h => by cases h
  | n + 1, c, y :: b, R, G, b2, h => by
    have h' : (match rowP c c b with | none => none | some (r, b2) => match staP n c b2 with | none => none | some (R, G, b3) => some (r :: R, decide (y = 1) :: G, b3)) = some (R, G, b2) := h
    cases hr : rowP c c b with
    | none => rw [hr] at h'; cases h'
    | some p =>
      obtain ⟨r, b3⟩ := p
      rw [hr] at h'
      cases hs : staP n c b3 with
      | none => simp only [hs] at h'; cases h'
      | some q =>
        obtain ⟨R', G', b4⟩ := q
        simp only [hs] at h'
        injection h' with h'
        injection h' with h1 h2
        injection h2 with h2 h3
        subst h1 h2
        obtain ⟨k1, k2, k3⟩ := staP_len n c b3 R' G' b4 hs
        refine ⟨by simp [k1], by simp [k2], fun r' hr' => ?_⟩
        rcases List.mem_cons.1 hr' with rfl | hr'
        · exact rowP_len _ _ _ _ _ hr
        · exact k3 r' hr'
/-- States as bytes. -/
def savB (R : List (List Nat)) (G : List Bool) : List Nat := 83 :: 68 :: (numN R.length ++ (numN (R.getD 0 []).length ++ staB R G))
/-- What bytes may be. -/
def prsP : List Nat → Option (List (List Nat) × List Bool)
  | x :: y :: b => if x ≠ 83 ∨ y ≠ 68 ∨ b.length < 2 then none else
    match told b with
    | none => none
    | some (n, k) => if 5000 < n then none else
      match told (b.drop k) with
      | none => none
      | some (c, k2) => if 200 < c then none else
        match staP n c ((b.drop k).drop k2) with
        | none => none
        | some (R, G, _) => some (R, G)
  | _ => none
theorem prs_sav {R : List (List Nat)} {G : List Bool} (hn : R.length ≤ 5000) (hG : R.length = G.length) (hc : (R.getD 0 []).length ≤ 200) (hr : ∀ r ∈ R, r.length = (R.getD 0 []).length ∧ ∀ x ∈ r, x ≤ 2147483647) : prsP (savB R G) = some (R, G) := by
  have p1 : 1 ≤ (numN R.length).length := numF_pos _ _
  have p2 : 1 ≤ (numN (R.getD 0 []).length).length := numF_pos _ _
  unfold savB prsP
  show (if _ then _ else _) = _
  rw [if_neg (by simp only [List.length_append]; omega), told_num (by omega)]
  show (if _ then _ else _) = _
  rw [if_neg (by omega), List.drop_left, told_num (by omega)]
  show (if _ then _ else _) = _
  rw [if_neg (by omega), List.drop_left]
  have := staP_sta R G (R.getD 0 []).length [] hG (by omega) hr
  rw [List.append_nil] at this
  rw [this]
/-- The first i bytes were read: each has another one behind it. -/
def TdI (l : List Nat) (i P : Nat) : Prop := P < 128 ^ i ∧ rawT 5 l = (match rawT (5 - i) (l.drop i) with
  | none => none
  | some (v, c, x) => some (P + 128 ^ i * v, c + i, x))
theorem TdI.zero (l : List Nat) : TdI l 0 0 := ⟨by decide, by
  rw [Nat.sub_zero, List.drop_zero]
  generalize rawT 5 l = q
  cases q with
  | none => rfl
  | some p =>
    obtain ⟨v, c, x⟩ := p
    simp⟩
theorem TdI.step' {l r : List Nat} {i P y : Nat} (h : TdI l i P) (hr : l.drop i = y :: r) (hr2 : l.drop (i + 1) = r) (h5 : i < 5) (hy : 128 ≤ y) (hb : y < 256) : TdI l (i + 1) (P + y % 128 * 128 ^ i) := by
  obtain ⟨h1, h2⟩ := h
  have hm : y % 128 = y - 128 := by omega
  have hm2 : y - 128 ≤ 127 := by omega
  refine ⟨?_, ?_⟩
  · rw [hm, Nat.pow_succ]
    have := Nat.mul_le_mul_right (128 ^ i) hm2
    omega
  · obtain ⟨q, hq, hq2⟩ : ∃ q, 5 - i = q + 1 ∧ 5 - (i + 1) = q := ⟨5 - (i + 1), by omega, rfl⟩
    rw [h2, hr, hq, hq2, hr2]
    have e : rawT (q + 1) (y :: r) = (match rawT q r with | none => none | some (v, c, x) => some (y - 128 + 128 * v, c + 1, x)) := by
      show (if _ then _ else _) = _
      rw [if_neg (by omega)]
    rw [e]
    generalize rawT q r = z
    cases z with
    | none => rfl
    | some p =>
      obtain ⟨v, c, x⟩ := p
      have e1 : P + 128 ^ i * (y - 128 + 128 * v) = P + y % 128 * 128 ^ i + 128 ^ (i + 1) * v := by
        rw [hm, Nat.mul_add, Nat.pow_succ, Nat.mul_comm (y - 128), Nat.mul_assoc, ← Nat.add_assoc]
      have e2 : c + 1 + i = c + (i + 1) := by omega
      simp only [e1, e2]
theorem TdI.step {l : List Nat} {i P : Nat} (h : TdI l i P) (hi : i < l.length) (h5 : i < 5) (hy : 128 ≤ l[i]) (hb : l[i] < 256) : TdI l (i + 1) (P + l[i] % 128 * 128 ^ i) := TdI.step' h (List.drop_eq_getElem_cons hi) rfl h5 hy hb
theorem TdI.last {l : List Nat} {i P : Nat} (h : TdI l i P) (hi : i < l.length) (h5 : i < 5) (hy : l[i] < 128) : told l = if P + l[i] % 128 * 128 ^ i ≤ 2147483647 ∧ (i = 0 ∨ l[i] ≠ 0) then some (P + l[i] % 128 * 128 ^ i, i + 1) else none := by
  have e : rawT 5 l = some (P + l[i] % 128 * 128 ^ i, i + 1, l[i]) := by
    obtain ⟨q, hq⟩ : ∃ q, 5 - i = q + 1 := ⟨5 - (i + 1), by omega⟩
    rw [h.2, List.drop_eq_getElem_cons hi, hq]
    show (match (if l[i] < 128 then some (l[i], 1, l[i]) else _) with | none => none | some (v, c, x) => some (P + 128 ^ i * v, c + i, x)) = _
    rw [if_pos hy]
    show some (P + 128 ^ i * l[i], 1 + i, l[i]) = _
    rw [Nat.mod_eq_of_lt hy, Nat.mul_comm, Nat.add_comm 1 i]
  unfold told
  rw [e]
  show (if _ then _ else _) = _
  have : (i + 1 = 1) = (i = 0) := by simp
  simp only [this]
theorem TdI.no {l : List Nat} {i P : Nat} (h : TdI l i P) (hi : l.length ≤ i ∨ i = 5) : told l = none := by
  have e : rawT 5 l = none := by
    rw [h.2]
    rcases hi with hi | hi
    · rw [List.drop_eq_nil_of_le hi]
      cases 5 - i <;> rfl
    · subst hi
      rfl
  unfold told
  rw [e]
def tdV (l : List Nat) : Int := match told l with | none => 0 | some (n, _) => (n : Int)
def tdK (l : List Nat) : Int := match told l with | none => 0 | some (_, k) => (k : Int)
def tdE (l : List Nat) : Int := match told l with | none => 2 | some _ => 0
theorem numN_len (n : Nat) : 1 ≤ (numN n).length ∧ (numN n).length ≤ 11 := ⟨numF_pos _ _, numF_len 10 n⟩
theorem rleB_len : ∀ (f : Nat) (r : List Nat), (rleB f r).length ≤ 22 * f
  | 0, r => Nat.le_refl _
  | f + 1, [] => Nat.zero_le _
  | f + 1, x :: r => by
    have h1 := (numN_len (runY x r + 1)).2
    have h2 := (numN_len x).2
    have h3 := rleB_len f (r.drop (runY x r))
    unfold rleB
    rw [List.length_append, List.length_append]
    omega
theorem rowB_len (r : List Nat) : (rowY r).length ≤ 22 * r.length := rleB_len _ _
theorem staB_len : ∀ (R : List (List Nat)) (G : List Bool), (∀ r ∈ R, r.length ≤ 200) → (staB R G).length ≤ R.length * 4401
  | [], G, _ => by cases G <;> exact Nat.zero_le _
  | r :: R, [], _ => Nat.zero_le _
  | r :: R, x :: G, h => by
    have h1 := rowB_len r
    have h2 := h r (List.mem_cons_self)
    have h3 := staB_len R G (fun y hy => h y (List.mem_cons_of_mem _ hy))
    show ((if x then 1 else 0) :: rowY r ++ staB R G).length ≤ (R.length + 1) * 4401
    rw [List.length_append, List.length_cons]
    omega
theorem savB_len {R : List (List Nat)} {G : List Bool} (hn : R.length ≤ 5000) (h : ∀ r ∈ R, r.length ≤ 200) : (savB R G).length ≤ 30000000 := by
  have h1 := staB_len R G h
  have h2 := (numN_len R.length).2
  have h3 := (numN_len (R.getD 0 []).length).2
  have h4 : R.length * 4401 ≤ 5000 * 4401 := Nat.mul_le_mul_right _ hn
  unfold savB
  rw [List.length_cons, List.length_cons, List.length_append, List.length_append]
  omega
theorem staB_drop {R : List (List Nat)} {G : List Bool} {s : Nat} (h1 : s < R.length) (h2 : s < G.length) : staB (R.drop s) (G.drop s) = (if G[s] then 1 else 0) :: (rowY R[s] ++ staB (R.drop (s + 1)) (G.drop (s + 1))) := by
  rw [List.drop_eq_getElem_cons h1, List.drop_eq_getElem_cons h2]
  rfl
theorem rowB_drop {r : List Nat} {i : Nat} (h : i < r.length) : rowY (r.drop i) = numN (runY r[i] (r.drop i)) ++ (numN r[i] ++ rowY (r.drop (i + runY r[i] (r.drop i)))) := by
  have e : runY r[i] (r.drop i) = runY r[i] (r.drop (i + 1)) + 1 := by
    rw [List.drop_eq_getElem_cons h]
    show (if r[i] = r[i] then _ else _) = _
    rw [if_pos rfl]
  rw [e]
  rw [List.drop_eq_getElem_cons h, rowB_cons, List.append_assoc, List.drop_drop, Nat.add_assoc i, Nat.add_comm 1 (runY _ _)]
theorem runL_at {r : List Nat} {x k : Nat} (h : k < r.length) (e : r[k] = x) : runY x (r.drop k) = runY x (r.drop (k + 1)) + 1 := by
  rw [List.drop_eq_getElem_cons h]
  show (if r[k] = x then _ else _) = _
  rw [if_pos e]
theorem runL_ne {r : List Nat} {x k : Nat} (h : k < r.length) (e : r[k] ≠ x) : runY x (r.drop k) = 0 := by
  rw [List.drop_eq_getElem_cons h]
  show (if r[k] = x then _ else _) = _
  rw [if_neg e]
theorem runL_out {r : List Nat} {x k : Nat} (h : r.length ≤ k) : runY x (r.drop k) = 0 := by
  rw [List.drop_eq_nil_of_le h]
  rfl
theorem rowP_fuel : ∀ (f g c : Nat) (b : List Nat), c ≤ f → c ≤ g → rowP f c b = rowP g c b
  | 0, 0, c, b, _, _ => rfl
  | 0, g + 1, c, b, h, _ => by
    obtain rfl : c = 0 := by omega
    rfl
  | f + 1, 0, c, b, _, h => by
    obtain rfl : c = 0 := by omega
    rfl
  | f + 1, g + 1, c, b, h1, h2 => by
    unfold rowP
    by_cases h0 : c = 0
    · rw [if_pos h0, if_pos h0]
    · rw [if_neg h0, if_neg h0]
      cases told b with
      | none => rfl
      | some p =>
        obtain ⟨m, k⟩ := p
        show (if _ then _ else _) = (if _ then _ else _)
        by_cases hm : m < 1 ∨ c < m
        · rw [if_pos hm, if_pos hm]
        · rw [if_neg hm, if_neg hm]
          cases told (b.drop k) with
          | none => rfl
          | some q =>
            obtain ⟨s, k2⟩ := q
            show (match rowP f (c - m) _ with | none => none | some (r, b2) => some (List.replicate m s ++ r, b2)) = (match rowP g (c - m) _ with | none => none | some (r, b2) => some (List.replicate m s ++ r, b2))
            rw [rowP_fuel f g (c - m) _ (by omega) (by omega)]
/-- What was read of a row, and what is still to be read. -/
def RwI (c : Nat) (l out b : List Nat) : Prop := rowP c c l = (match rowP (c - out.length) (c - out.length) b with
  | none => none
  | some (r, b2) => some (out ++ r, b2))
theorem RwI.start (c : Nat) (l : List Nat) : RwI c l [] l := by
  unfold RwI
  rw [List.length_nil, Nat.sub_zero]
  cases rowP c c l with
  | none => rfl
  | some p => rfl
theorem RwI.done {c : Nat} {l out b : List Nat} (h : RwI c l out b) (hc : out.length = c) : rowP c c l = some (out, b) := by
  unfold RwI at h
  rw [h, hc, Nat.sub_self]
  show some (out ++ [], b) = _
  rw [List.append_nil]
theorem RwI.none1 {c : Nat} {l out b : List Nat} (h : RwI c l out b) (hc : out.length < c) (ht : told b = none) : rowP c c l = none := by
  unfold RwI at h
  obtain ⟨q, hq⟩ : ∃ q, c - out.length = q + 1 := ⟨c - out.length - 1, by omega⟩
  rw [h, hq]
  unfold rowP
  rw [if_neg (by omega), ht]
theorem RwI.none2 {c m k : Nat} {l out b : List Nat} (h : RwI c l out b) (hc : out.length < c) (ht : told b = some (m, k)) (hm : m < 1 ∨ c - out.length < m) : rowP c c l = none := by
  unfold RwI at h
  obtain ⟨q, hq⟩ : ∃ q, c - out.length = q + 1 := ⟨c - out.length - 1, by omega⟩
  rw [hq] at h hm
  have e : rowP (q + 1) (q + 1) b = none := by
    unfold rowP
    rw [if_neg (by omega), ht]
    exact if_pos hm
  rw [h, e]
theorem RwI.none3 {c m k : Nat} {l out b : List Nat} (h : RwI c l out b) (hc : out.length < c) (ht : told b = some (m, k)) (ht2 : told (b.drop k) = none) : rowP c c l = none := by
  unfold RwI at h
  obtain ⟨q, hq⟩ : ∃ q, c - out.length = q + 1 := ⟨c - out.length - 1, by omega⟩
  rw [hq] at h
  have e : rowP (q + 1) (q + 1) b = none := by
    unfold rowP
    rw [if_neg (by omega), ht]
    by_cases hm : m < 1 ∨ q + 1 < m
    · exact if_pos hm
    · refine (if_neg hm).trans ?_
      rw [ht2]
  rw [h, e]
theorem RwI.step {c m k s k2 : Nat} {l out b : List Nat} (h : RwI c l out b) (hc : out.length < c) (ht : told b = some (m, k)) (hm : ¬ (m < 1 ∨ c - out.length < m)) (ht2 : told (b.drop k) = some (s, k2)) : RwI c l (out ++ List.replicate m s) ((b.drop k).drop k2) := by
  unfold RwI at h ⊢
  have e : c - (out ++ List.replicate m s).length = c - out.length - m := by simp; omega
  rw [e]
  obtain ⟨q, hq⟩ : ∃ q, c - out.length = q + 1 := ⟨c - out.length - 1, by omega⟩
  rw [hq] at h hm ⊢
  have e2 : rowP (q + 1) (q + 1) b = (match rowP q (q + 1 - m) ((b.drop k).drop k2) with | none => none | some (r, b2) => some (List.replicate m s ++ r, b2)) := by
    show (if q + 1 = 0 then _ else _) = _
    rw [if_neg (by omega), ht]
    refine (if_neg hm).trans ?_
    rw [ht2]
  rw [h, e2, rowP_fuel q (q + 1 - m) (q + 1 - m) _ (by omega) (Nat.le_refl _)]
  cases rowP (q + 1 - m) (q + 1 - m) ((b.drop k).drop k2) with
  | none => rfl
  | some p =>
    obtain ⟨r, b2⟩ := p
    show some (out ++ (List.replicate m s ++ r), b2) = some (out ++ List.replicate m s ++ r, b2)
    rw [List.append_assoc]
/-- What was read of states, and what is still to be read. -/
def StI (n c : Nat) (l : List Nat) (R : List (List Nat)) (G : List Bool) (b : List Nat) : Prop := staP n c l = (match staP (n - R.length) c b with
  | none => none
  | some (R2, G2, b2) => some (R ++ R2, G ++ G2, b2))
theorem StI.start (n c : Nat) (l : List Nat) : StI n c l [] [] l := by
  unfold StI
  rw [List.length_nil, Nat.sub_zero]
  cases staP n c l with
  | none => rfl
  | some p => rfl
theorem StI.done {n c : Nat} {l b : List Nat} {R : List (List Nat)} {G : List Bool} (h : StI n c l R G b) (hc : R.length = n) : staP n c l = some (R, G, b) := by
  unfold StI at h
  rw [h, hc, Nat.sub_self]
  show some (R ++ [], G ++ [], b) = _
  rw [List.append_nil, List.append_nil]
theorem StI.none1 {n c : Nat} {l : List Nat} {R : List (List Nat)} {G : List Bool} (h : StI n c l R G []) (hc : R.length < n) : staP n c l = none := by
  unfold StI at h
  obtain ⟨q, hq⟩ : ∃ q, n - R.length = q + 1 := ⟨n - R.length - 1, by omega⟩
  rw [h, hq]
  rfl
theorem StI.none2 {n c y : Nat} {l b : List Nat} {R : List (List Nat)} {G : List Bool} (h : StI n c l R G (y :: b)) (hc : R.length < n) (hr : rowP c c b = none) : staP n c l = none := by
  unfold StI at h
  obtain ⟨q, hq⟩ : ∃ q, n - R.length = q + 1 := ⟨n - R.length - 1, by omega⟩
  have e : staP (q + 1) c (y :: b) = none := by
    show (match rowP c c b with | none => none | some (r, b2) => match staP q c b2 with | none => none | some (R, G, b3) => some (r :: R, decide (y = 1) :: G, b3)) = none
    rw [hr]
  rw [h, hq, e]
theorem StI.step {n c y : Nat} {l b r b2 : List Nat} {R : List (List Nat)} {G : List Bool} (h : StI n c l R G (y :: b)) (hc : R.length < n) (hr : rowP c c b = some (r, b2)) : StI n c l (R ++ [r]) (G ++ [decide (y = 1)]) b2 := by
  unfold StI at h ⊢
  obtain ⟨q, hq⟩ : ∃ q, n - R.length = q + 1 := ⟨n - R.length - 1, by omega⟩
  have e : staP (q + 1) c (y :: b) = (match staP q c b2 with | none => none | some (R, G, b3) => some (r :: R, decide (y = 1) :: G, b3)) := by
    show (match rowP c c b with | none => none | some (r, b2) => match staP q c b2 with | none => none | some (R, G, b3) => some (r :: R, decide (y = 1) :: G, b3)) = _
    rw [hr]
  rw [h, hq, e, show n - (R ++ [r]).length = q by simp; omega]
  cases staP q c b2 with
  | none => rfl
  | some p =>
    obtain ⟨R2, G2, b3⟩ := p
    show some (R ++ (r :: R2), G ++ (decide (y = 1) :: G2), b3) = some (R ++ [r] ++ R2, G ++ [decide (y = 1)] ++ G2, b3)
    simp
theorem prs_few {l : List Nat} (h : l.length < 4) : prsP l = none := by
  match l, h with
  | [], _ => rfl
  | [_], _ => rfl
  | [x, y], _ => exact if_pos (.inr (.inr (by simp)))
  | [x, y, z], _ => exact if_pos (.inr (.inr (by simp)))
  | _ :: _ :: _ :: _ :: _, h => simp at h; omega
theorem prs_head {l : List Nat} (h : 4 ≤ l.length) (hx : l[0]'(by omega) ≠ 83 ∨ l[1]'(by omega) ≠ 68) : prsP l = none := by
  match l, h, hx with
  | x :: y :: b, h, hx =>
    refine if_pos ?_
    rcases hx with e | e
    · exact .inl e
    · exact .inr (.inl e)
theorem prs_tail {l : List Nat} (h : 4 ≤ l.length) (hx : l[0]'(by omega) = 83 ∧ l[1]'(by omega) = 68) : prsP l = (match told (l.drop 2) with
    | none => none
    | some (n, k) => if 5000 < n then none else
      match told ((l.drop 2).drop k) with
      | none => none
      | some (c, k2) => if 200 < c then none else
        match staP n c (((l.drop 2).drop k).drop k2) with
        | none => none
        | some (R, G, _) => some (R, G)) := by
  match l, h, hx with
  | x :: y :: b, h, hx =>
    refine if_neg ?_
    rintro (e | e | e)
    · exact e hx.1
    · exact e hx.2
    · simp at h; omega
theorem savB_inj {R : List (List Nat)} {G : List Bool} {R' : List (List Nat)} {G' : List Bool} (hn : R.length ≤ 5000) (hG : R.length = G.length) (hc : (R.getD 0 []).length ≤ 200) (hr : ∀ r ∈ R, r.length = (R.getD 0 []).length ∧ ∀ x ∈ r, x ≤ 2147483647) (hn' : R'.length ≤ 5000) (hG' : R'.length = G'.length) (hc' : (R'.getD 0 []).length ≤ 200) (hr' : ∀ r ∈ R', r.length = (R'.getD 0 []).length ∧ ∀ x ∈ r, x ≤ 2147483647) (e : savB R G = savB R' G') : R = R' ∧ G = G' := by
  have h1 := prs_sav hn hG hc hr
  rw [e, prs_sav hn' hG' hc' hr'] at h1
  injection h1 with h1
  injection h1 with h1 h2
  exact ⟨h1.symm, h2.symm⟩
theorem numF_mono : ∀ (q a b : Nat), a ≤ b → (numF q a).length ≤ (numF q b).length
  | 0, a, b, _ => Nat.le_refl _
  | q + 1, a, b, h => by
    unfold numF
    by_cases h1 : 128 ≤ a
    · rw [if_pos h1, if_pos (by omega)]
      have := numF_mono q (a / 128) (b / 128) (Nat.div_le_div_right h)
      simp
      exact this
    · rw [if_neg h1]
      split
      · simp
      · exact Nat.le_refl _
theorem numN_mono {a b : Nat} (h : a ≤ b) : (numN a).length ≤ (numN b).length := numF_mono 10 a b h
end Go.Proofs.YtklhjjgnhigbiaaGreatDoor
