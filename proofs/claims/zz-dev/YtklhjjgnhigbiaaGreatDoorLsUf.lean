/-
  Pairs that are linked are left out: the first word is found all the same. Plain mathematics.
-/
import Derived.Test.YtklhjjgnhigbiaaGreatDoorLsApart
namespace Go.Proofs.YtklhjjgnhigbiaaGreatDoor
set_option linter.unusedVariables false

/-- Words as numbers: a shorter one is less, and of one length the first. -/
def numW (k : Nat) (w : List Nat) : Nat := w.foldl (fun a c => a * (k + 1) + (c + 1)) 0
theorem numW_snoc (k : Nat) (w : List Nat) (c : Nat) : numW k (w ++ [c]) = numW k w * (k + 1) + (c + 1) := by unfold numW; rw [List.foldl_append]; rfl
theorem num_fold (k : Nat) : ∀ (x : List Nat) (a b : Nat), a < b → x.foldl (fun a c => a * (k + 1) + (c + 1)) a < x.foldl (fun a c => a * (k + 1) + (c + 1)) b
  | [], a, b, h => h
  | c :: x, a, b, h => num_fold k x (a * (k + 1) + (c + 1)) (b * (k + 1) + (c + 1)) (by
    have := Nat.mul_lt_mul_of_pos_right h (Nat.succ_pos k)
    simp only [Nat.succ_eq_add_one] at this
    omega)
theorem num_app {k : Nat} {u v : List Nat} (x : List Nat) (h : numW k u < numW k v) : numW k (u ++ x) < numW k (v ++ x) := by
  unfold numW at h ⊢
  rw [List.foldl_append, List.foldl_append]
  exact num_fold k x _ _ h
theorem num_pre_le (k : Nat) : ∀ (x : List Nat) (u : List Nat), numW k u ≤ numW k (u ++ x)
  | [], u => by rw [List.append_nil]; exact Nat.le_refl _
  | c :: x, u => by
    have e : u ++ c :: x = (u ++ [c]) ++ x := by simp
    rw [e]
    refine Nat.le_trans ?_ (num_pre_le k x (u ++ [c]))
    rw [numW_snoc]
    have : numW k u * 1 ≤ numW k u * (k + 1) := Nat.mul_le_mul_left _ (by omega)
    omega
theorem num_inj {k : Nat} : ∀ (n : Nat) (u v : List Nat), u.length ≤ n → (∀ c ∈ u, c < k) → (∀ c ∈ v, c < k) → numW k u = numW k v → u = v
  | n, u, v, hl, hu, hv, e => by
    rcases List.eq_nil_or_concat u with rfl | ⟨u', c, rfl⟩
    · rcases List.eq_nil_or_concat v with rfl | ⟨v', d, rfl⟩
      · rfl
      · rw [List.concat_eq_append, numW_snoc] at e
        have : numW k [] = 0 := rfl
        omega
    · rw [List.concat_eq_append] at *
      rcases List.eq_nil_or_concat v with rfl | ⟨v', d, rfl⟩
      · rw [numW_snoc] at e
        have : numW k [] = 0 := rfl
        omega
      · rw [List.concat_eq_append] at *
        rw [numW_snoc, numW_snoc] at e
        have hc : c < k := hu c (List.mem_append_right _ (List.mem_singleton.2 rfl))
        have hd : d < k := hv d (List.mem_append_right _ (List.mem_singleton.2 rfl))
        have h1 : (numW k u' * (k + 1) + (c + 1)) / (k + 1) = numW k u' := by
          rw [Nat.mul_comm, Nat.mul_add_div (by omega), Nat.div_eq_of_lt (by omega), Nat.add_zero]
        have h2 : (numW k v' * (k + 1) + (d + 1)) / (k + 1) = numW k v' := by
          rw [Nat.mul_comm, Nat.mul_add_div (by omega), Nat.div_eq_of_lt (by omega), Nat.add_zero]
        have h3 : numW k u' = numW k v' := by rw [← h1, e, h2]
        have h4 : c = d := by rw [h3] at e; omega
        cases n with
        | zero => simp at hl
        | succ n =>
          have := num_inj n u' v' (by simpa using hl) (fun x hx => hu x (List.mem_append_left _ hx)) (fun x hx => hv x (List.mem_append_left _ hx)) h3
          rw [this, h4]

/-- Pairs as they are met, where some are left out. -/
abbrev Skp := List Ent → Nat → Nat → Bool
def addS (sk : Skp) (M1 M2 : Mach) (x : Ent) (Q : List Ent) (c : Nat) : List Ent := if sk Q (M1.d x.a c) (M2.d x.b c) then Q else Q ++ [⟨M1.d x.a c, M2.d x.b c, x.w ++ [c]⟩]
def rowS (sk : Skp) (M1 M2 : Mach) (x : Ent) (Q : List Ent) : Nat → List Ent
  | 0 => Q
  | i + 1 => addS sk M1 M2 x (rowS sk M1 M2 x Q i) i
def qS (sk : Skp) (M1 M2 : Mach) : Nat → List Ent
  | 0 => [⟨0, 0, []⟩]
  | j + 1 => rowS sk M1 M2 ((qS sk M1 M2 j).getD j ⟨0, 0, []⟩) (qS sk M1 M2 j) M1.k
theorem rowS_met (M1 M2 : Mach) (x : Ent) (Q : List Ent) : ∀ i, rowS metE M1 M2 x Q i = rowE M1 M2 x Q i
  | 0 => rfl
  | i + 1 => by
    show addS metE M1 M2 x (rowS metE M1 M2 x Q i) i = addE M1 M2 x (rowE M1 M2 x Q i) i
    rw [rowS_met M1 M2 x Q i]
    rfl
theorem qS_met (M1 M2 : Mach) : ∀ j, qS metE M1 M2 j = qE M1 M2 j
  | 0 => rfl
  | j + 1 => by
    show rowS metE M1 M2 ((qS metE M1 M2 j).getD j ⟨0, 0, []⟩) (qS metE M1 M2 j) M1.k = _
    rw [rowS_met, qS_met M1 M2 j]
    rfl
/-- What is left out may be: a word that tells such a pair apart tells an earlier one apart. -/
structure SkOk (M1 M2 : Mach) (sk : Skp) : Prop where
  sound : ∀ Q a b, GoodE M1 M2 Q → a < M1.n → b < M2.n → sk Q a b = true → ∀ x, M1.wd x → M1.tk a x ≠ M2.tk b x → ∃ e ∈ Q, M1.tk e.a x ≠ M2.tk e.b x
  met : ∀ Q, GoodE M1 M2 Q → ∀ e ∈ Q, sk Q e.a e.b = true
def Vs (sk : Skp) (M1 M2 : Mach) (j : Nat) : Prop := ∀ i, i < j → i < (qS sk M1 M2 i).length
def Eqs (sk : Skp) (M1 M2 : Mach) (j : Nat) : Prop := ∀ i, i < j → M1.f ((qS sk M1 M2 i).getD i ⟨0, 0, []⟩).a = M2.f ((qS sk M1 M2 i).getD i ⟨0, 0, []⟩).b
section
variable {sk : Skp} {M1 M2 : Mach} {Q : List Ent} {x : Ent}
def NumE (k : Nat) (Q : List Ent) : Prop := Q.Pairwise fun e e' => numW k e.w < numW k e'.w
def TopN (k : Nat) (Q : List Ent) (m : Nat) : Prop := ∀ e ∈ Q, numW k e.w < m
/-- A class of a pair was gone through. -/
def DoneC (M1 M2 : Mach) (Q : List Ent) (x : Ent) (c : Nat) : Prop := (∃ e ∈ Q, e.w = x.w ++ [c]) ∨ ∀ y, M1.wd y → M1.tk (M1.d x.a c) y ≠ M2.tk (M2.d x.b c) y → ∃ e ∈ Q, numW M1.k e.w < numW M1.k (x.w ++ [c]) ∧ M1.tk e.a y ≠ M2.tk e.b y
theorem addS_pre (x : Ent) (Q : List Ent) (c : Nat) : ∃ T, addS sk M1 M2 x Q c = Q ++ T := by
  unfold addS
  split
  · exact ⟨[], by simp⟩
  · exact ⟨_, rfl⟩
theorem rowS_pre (x : Ent) (Q : List Ent) : ∀ i, ∃ T, rowS sk M1 M2 x Q i = Q ++ T
  | 0 => ⟨[], by simp [rowS]⟩
  | i + 1 => by
    obtain ⟨T, h⟩ := rowS_pre x Q i
    obtain ⟨T2, h2⟩ := addS_pre (sk := sk) (M1 := M1) (M2 := M2) x (rowS sk M1 M2 x Q i) i
    exact ⟨T ++ T2, by show addS sk M1 M2 x (rowS sk M1 M2 x Q i) i = _; rw [h2, h, List.append_assoc]⟩
theorem qS_pre (j : Nat) : ∀ m, ∃ T, qS sk M1 M2 (j + m) = qS sk M1 M2 j ++ T
  | 0 => ⟨[], by simp⟩
  | m + 1 => by
    obtain ⟨T, h⟩ := qS_pre j m
    obtain ⟨T2, h2⟩ := rowS_pre (sk := sk) (M1 := M1) (M2 := M2) ((qS sk M1 M2 (j + m)).getD (j + m) ⟨0, 0, []⟩) (qS sk M1 M2 (j + m)) M1.k
    exact ⟨T ++ T2, h2.trans (by rw [← List.append_assoc, ← h])⟩
theorem DoneC.more {T : List Ent} {c : Nat} (h : DoneC M1 M2 Q x c) : DoneC M1 M2 (Q ++ T) x c := by
  rcases h with ⟨e, h1, h2⟩ | h
  · exact .inl ⟨e, List.mem_append_left _ h1, h2⟩
  · refine .inr (fun y hy hd => ?_)
    obtain ⟨e, h1, h2⟩ := h y hy hd
    exact ⟨e, List.mem_append_left _ h1, h2⟩
theorem addS_ok (hs : SkOk M1 M2 sk) (h1 : M1.Ok) (h2 : M2.Ok) (hk : M1.k = M2.k) {c : Nat} (hc : c < M1.k) (hx : x ∈ Q) (hg : GoodE M1 M2 Q) (hd : DistE Q) (hn : NumE M1.k Q) (ht : TopN M1.k Q (numW M1.k (x.w ++ [c]))) :
    GoodE M1 M2 (addS sk M1 M2 x Q c) ∧ DistE (addS sk M1 M2 x Q c) ∧ NumE M1.k (addS sk M1 M2 x Q c) ∧ TopN M1.k (addS sk M1 M2 x Q c) (numW M1.k (x.w ++ [c]) + 1) ∧ DoneC M1 M2 (addS sk M1 M2 x Q c) x c := by
  obtain ⟨x1, x2, x3, x4, x5⟩ := hg x hx
  have d1 := h1.cl _ _ x4 hc
  have d2 := h2.cl _ _ x5 (by rw [← hk]; exact hc)
  by_cases hm : sk Q (M1.d x.a c) (M2.d x.b c) = true
  · have e : addS sk M1 M2 x Q c = Q := by unfold addS; rw [if_pos hm]
    rw [e]
    refine ⟨hg, hd, hn, fun e he => Nat.lt_succ_of_lt (ht e he), .inr (fun y hy hne => ?_)⟩
    obtain ⟨e, he, hne2⟩ := hs.sound Q _ _ hg d1 d2 hm y hy hne
    exact ⟨e, he, ht e he, hne2⟩
  · have e : addS sk M1 M2 x Q c = Q ++ [⟨M1.d x.a c, M2.d x.b c, x.w ++ [c]⟩] := by unfold addS; rw [if_neg hm]
    rw [e]
    refine ⟨fun y hy => ?_, ?_, ?_, fun y hy => ?_, .inl ⟨_, List.mem_append_right _ (List.mem_singleton.2 rfl), rfl⟩⟩
    · rcases List.mem_append.1 hy with q | q
      · exact hg y q
      · rw [List.mem_singleton.1 q]
        refine ⟨fun u hu => ?_, ?_, ?_, d1, d2⟩
        · rcases List.mem_append.1 hu with r | r
          · exact x1 u r
          · rw [List.mem_singleton.1 r]; exact hc
        · show M1.run 0 (x.w ++ [c]) = M1.d x.a c
          rw [run_snoc, x2]
        · show M2.run 0 (x.w ++ [c]) = M2.d x.b c
          rw [run_snoc, x3]
    · unfold DistE
      rw [List.pairwise_append]
      refine ⟨hd, List.pairwise_singleton _ _, fun y hy z hz => ?_⟩
      rw [List.mem_singleton.1 hz]
      rintro ⟨p, q⟩
      have := hs.met Q hg y hy
      rw [p, q] at this
      exact hm this
    · unfold NumE
      rw [List.pairwise_append]
      refine ⟨hn, List.pairwise_singleton _ _, fun y hy z hz => ?_⟩
      rw [List.mem_singleton.1 hz]
      exact ht y hy
    · rcases List.mem_append.1 hy with q | q
      · exact Nat.lt_succ_of_lt (ht y q)
      · rw [List.mem_singleton.1 q]
        exact Nat.lt_succ_self _
theorem rowS_ok (hs : SkOk M1 M2 sk) (h1 : M1.Ok) (h2 : M2.Ok) (hk : M1.k = M2.k) (hx : x ∈ Q) (hg : GoodE M1 M2 Q) (hd : DistE Q) (hn : NumE M1.k Q) (ht : TopN M1.k Q (numW M1.k x.w * (M1.k + 1) + 1)) : ∀ i, i ≤ M1.k →
    GoodE M1 M2 (rowS sk M1 M2 x Q i) ∧ DistE (rowS sk M1 M2 x Q i) ∧ NumE M1.k (rowS sk M1 M2 x Q i) ∧ TopN M1.k (rowS sk M1 M2 x Q i) (numW M1.k x.w * (M1.k + 1) + 1 + i) ∧ ∀ c, c < i → DoneC M1 M2 (rowS sk M1 M2 x Q i) x c
  | 0, _ => ⟨hg, hd, hn, ht, fun c h => absurd h (by omega)⟩
  | i + 1, hi => by
    obtain ⟨a1, a2, a3, a4, a5⟩ := rowS_ok hs h1 h2 hk hx hg hd hn ht i (by omega)
    obtain ⟨T, hT⟩ := rowS_pre (sk := sk) (M1 := M1) (M2 := M2) x Q i
    have hx2 : x ∈ rowS sk M1 M2 x Q i := by rw [hT]; exact List.mem_append_left _ hx
    have en : numW M1.k (x.w ++ [i]) = numW M1.k x.w * (M1.k + 1) + 1 + i := by rw [numW_snoc]; omega
    obtain ⟨b1, b2, b3, b4, b5⟩ := addS_ok hs h1 h2 hk (show i < M1.k by omega) hx2 a1 a2 a3 (by rw [en]; exact a4)
    refine ⟨b1, b2, b3, by rw [en] at b4; exact b4, fun c hc => ?_⟩
    by_cases e : c = i
    · subst e; exact b5
    · obtain ⟨T2, hT2⟩ := addS_pre (sk := sk) (M1 := M1) (M2 := M2) x (rowS sk M1 M2 x Q i) i
      show DoneC M1 M2 (addS sk M1 M2 x (rowS sk M1 M2 x Q i) i) x c
      rw [hT2]
      exact (a5 c (by omega)).more
theorem Vs.le {i j : Nat} (h : Vs sk M1 M2 j) (hi : i ≤ j) : Vs sk M1 M2 i := fun q hq => h q (by omega)
theorem Vs.succ {j : Nat} (h : Vs sk M1 M2 j) (h1 : j < (qS sk M1 M2 j).length) : Vs sk M1 M2 (j + 1) := fun i hi => by
  by_cases e : i = j
  · subst e; exact h1
  · exact h i (by omega)
theorem qS_at {i j : Nat} (hij : i ≤ j) (hi : i < (qS sk M1 M2 i).length) : (qS sk M1 M2 j)[i]? = some ((qS sk M1 M2 i).getD i ⟨0, 0, []⟩) := by
  obtain ⟨m, rfl⟩ := Nat.exists_eq_add_of_le hij
  obtain ⟨T, h⟩ := qS_pre (sk := sk) (M1 := M1) (M2 := M2) i m
  rw [h, List.getElem?_append_left hi, List.getD_eq_getElem?_getD, List.getElem?_eq_getElem hi]
  rfl
theorem num_at {k : Nat} (h : NumE k Q) {i j : Nat} {y z : Ent} (hi : Q[i]? = some y) (hj : Q[j]? = some z) (hl : numW k y.w < numW k z.w) : i < j := by
  obtain ⟨i1, rfl⟩ := List.getElem?_eq_some_iff.1 hi
  obtain ⟨j1, rfl⟩ := List.getElem?_eq_some_iff.1 hj
  rcases Nat.lt_trichotomy i j with q | q | q
  · exact q
  · subst q; omega
  · have := List.pairwise_iff_getElem.1 h j i j1 i1 q
    omega
theorem at_num {k : Nat} (h : NumE k Q) {i j : Nat} {y z : Ent} (hi : Q[i]? = some y) (hj : Q[j]? = some z) (hl : i < j) : numW k y.w < numW k z.w := by
  obtain ⟨i1, rfl⟩ := List.getElem?_eq_some_iff.1 hi
  obtain ⟨j1, rfl⟩ := List.getElem?_eq_some_iff.1 hj
  exact List.pairwise_iff_getElem.1 h i j i1 j1 hl
theorem qS_ok (hs : SkOk M1 M2 sk) (h1 : M1.Ok) (h2 : M2.Ok) (hk : M1.k = M2.k) : ∀ j, Vs sk M1 M2 j →
    GoodE M1 M2 (qS sk M1 M2 j) ∧ DistE (qS sk M1 M2 j) ∧ NumE M1.k (qS sk M1 M2 j) ∧ (∀ x, (qS sk M1 M2 j)[j]? = some x → TopN M1.k (qS sk M1 M2 j) (numW M1.k x.w * (M1.k + 1) + 1)) ∧
      ∀ i, i < j → ∀ c, c < M1.k → DoneC M1 M2 (qS sk M1 M2 j) ((qS sk M1 M2 i).getD i ⟨0, 0, []⟩) c
  | 0, _ => by
    refine ⟨fun e he => ?_, List.pairwise_singleton _ _, List.pairwise_singleton _ _, fun x hx e he => ?_, fun i hi => absurd hi (by omega)⟩
    · rw [List.mem_singleton.1 he]
      exact ⟨wd_nil, rfl, rfl, h1.ne, h2.ne⟩
    · rw [List.mem_singleton.1 he]
      exact Nat.succ_pos _
  | j + 1, hv => by
    obtain ⟨a1, a2, a3, a4, a5⟩ := qS_ok hs h1 h2 hk j (hv.le (by omega))
    have hj := hv j (by omega)
    have hat := qS_at (sk := sk) (M1 := M1) (M2 := M2) (Nat.le_refl j) hj
    have hx : (qS sk M1 M2 j).getD j ⟨0, 0, []⟩ ∈ qS sk M1 M2 j := List.mem_of_getElem? hat
    obtain ⟨b1, b2, b3, b4, b5⟩ := rowS_ok hs h1 h2 hk hx a1 a2 a3 (a4 _ hat) M1.k (Nat.le_refl _)
    obtain ⟨T, hT⟩ := qS_pre (sk := sk) (M1 := M1) (M2 := M2) j 1
    refine ⟨b1, b2, b3, fun x hx2 e he => ?_, fun i hi c hc => ?_⟩
    · have h3 := b4 e he
      have h4 : (qS sk M1 M2 (j + 1))[j]? = some ((qS sk M1 M2 j).getD j ⟨0, 0, []⟩) := qS_at (Nat.le_succ j) hj
      have h5 := at_num b3 h4 hx2 (Nat.lt_succ_self j)
      have h6 : (numW M1.k ((qS sk M1 M2 j).getD j ⟨0, 0, []⟩).w + 1) * (M1.k + 1) ≤ numW M1.k x.w * (M1.k + 1) := Nat.mul_le_mul_right _ h5
      rw [Nat.add_mul, Nat.one_mul] at h6
      omega
    · by_cases e : i = j
      · subst e
        exact b5 c hc
      · rw [hT]
        exact (a5 i (by omega) c hc).more
theorem Vs.bound (hs : SkOk M1 M2 sk) (h1 : M1.Ok) (h2 : M2.Ok) (hk : M1.k = M2.k) {j : Nat} (h : Vs sk M1 M2 j) : (qS sk M1 M2 j).length ≤ M1.n * M2.n := by
  obtain ⟨a1, a2, _⟩ := qS_ok hs h1 h2 hk j h
  have hm : ((qS sk M1 M2 j).map fun e => e.a * M2.n + e.b).Nodup := by
    unfold List.Nodup
    rw [List.pairwise_map]
    refine List.Pairwise.imp_of_mem ?_ a2
    intro y z hy hz hne e
    obtain ⟨_, _, _, y1, y2⟩ := a1 y hy
    obtain ⟨_, _, _, z1, z2⟩ := a1 z hz
    have hb : y.b = z.b := by
      have := congrArg (· % M2.n) e
      simpa [Nat.mul_add_mod_of_lt, Nat.mod_eq_of_lt, y2, z2, Nat.add_comm, Nat.add_mul_mod_self_right] using this
    have ha : y.a = z.a := by
      rw [hb] at e
      have h3 : y.a * M2.n = z.a * M2.n := by omega
      exact Nat.eq_of_mul_eq_mul_right h2.ne h3
    exact hne ⟨ha, hb⟩
  have := nodup_len (n := M1.n * M2.n) hm (fun y hy => by
    obtain ⟨e, he, rfl⟩ := List.mem_map.1 hy
    obtain ⟨_, _, _, y1, y2⟩ := a1 e he
    have h3 : (e.a + 1) * M2.n ≤ M1.n * M2.n := Nat.mul_le_mul_right _ y1
    rw [Nat.add_mul, Nat.one_mul] at h3
    omega)
  rwa [List.length_map] at this
theorem run_app13 (M : Mach) (s : Nat) (u v : List Nat) : M.run s (u ++ v) = M.run (M.run s u) v := by unfold Mach.run; rw [List.foldl_append]
/-- No word that tells the machines apart is ahead of what is gone through. -/
theorem none_ahead (hs : SkOk M1 M2 sk) (h1 : M1.Ok) (h2 : M2.Ok) (hk : M1.k = M2.k) {j : Nat} (h : Vs sk M1 M2 j) (he : Eqs sk M1 M2 j) (h0 : (qS sk M1 M2 j)[0]? = some ⟨0, 0, []⟩) : ∀ (m : Nat) (v : List Nat), numW M1.k v ≤ m → M1.wd v → (∀ i e, (qS sk M1 M2 j)[i]? = some e → numW M1.k e.w ≤ numW M1.k v → i < j) → M1.tk 0 v = M2.tk 0 v := by
  intro m
  induction m using Nat.strongRecOn with
  | _ m ih =>
    intro v hvm hv hlt
    refine Decidable.byContradiction (fun hne => ?_)
    obtain ⟨a1, a2, a3, a4, a5⟩ := qS_ok hs h1 h2 hk j h
    have key : ∀ (q : Nat) (u t : List Nat), u.length = q → u ++ t = v → ∃ e ∈ qS sk M1 M2 j, e.w = u := by
      intro q
      induction q with
      | zero =>
        intro u t hu _
        have : u = [] := List.length_eq_zero_iff.1 hu
        subst this
        exact ⟨_, List.mem_of_getElem? h0, rfl⟩
      | succ q ihq =>
        intro u t hu hut
        obtain ⟨u', c, rfl⟩ : ∃ u' c, u = u' ++ [c] := by
          have hne2 : u ≠ [] := fun e => by rw [e] at hu; simp at hu
          exact ⟨u.dropLast, u.getLast hne2, (List.dropLast_concat_getLast hne2).symm⟩
        obtain ⟨e, hem, hew⟩ := ihq u' (c :: t) (by simpa using hu) (by rw [← hut]; simp)
        obtain ⟨i, hi, rfl⟩ := List.mem_iff_getElem.1 hem
        have hat := List.getElem?_eq_getElem hi
        have hij : i < j := hlt i _ hat (by
          rw [hew, ← hut, List.append_assoc]
          exact num_pre_le _ _ _)
        have hq := qS_at (sk := sk) (M1 := M1) (M2 := M2) (Nat.le_of_lt hij) (h i hij)
        rw [hat] at hq
        injection hq with hq
        have hc : c < M1.k := hv c (by rw [← hut]; simp)
        rcases a5 i hij c hc with ⟨e2, h3, h4⟩ | h3
        · rw [← hq, hew] at h4
          exact ⟨e2, h3, h4⟩
        · rw [← hq, hew] at h3
          obtain ⟨g1, g2, g3, g4, g5⟩ := a1 _ hem
          have ht : M1.wd t := fun y hy => hv y (by rw [← hut]; simp [hy])
          have hd : M1.tk (M1.d (qS sk M1 M2 j)[i].a c) t ≠ M2.tk (M2.d (qS sk M1 M2 j)[i].b c) t := by
            rw [← g2, ← g3, hew, ← run_snoc, ← run_snoc]
            unfold Mach.tk at hne ⊢
            rw [← run_app13, ← run_app13, hut]
            exact hne
          obtain ⟨e2, he2, hn2, hd2⟩ := h3 t ht hd
          obtain ⟨k1, k2, k3, k4, k5⟩ := a1 e2 he2
          have hless : numW M1.k (e2.w ++ t) < numW M1.k v := by
            rw [← hut]
            exact num_app t hn2
          refine absurd (ih (numW M1.k (e2.w ++ t)) (by omega) (e2.w ++ t) (Nat.le_refl _) (fun y hy => by
            rcases List.mem_append.1 hy with r | r
            · exact k1 y r
            · exact ht y r) (fun i e hi hle => hlt i e hi (by omega))) ?_
          unfold Mach.tk at hd2 ⊢
          rw [run_app13, run_app13, k2, k3]
          exact hd2
    obtain ⟨e, hem, hew⟩ := key v.length v [] rfl (by simp)
    obtain ⟨i, hi, rfl⟩ := List.mem_iff_getElem.1 hem
    have hat := List.getElem?_eq_getElem hi
    have hij : i < j := hlt i _ hat (by rw [hew]; exact Nat.le_refl _)
    have hq := qS_at (sk := sk) (M1 := M1) (M2 := M2) (Nat.le_of_lt hij) (h i hij)
    rw [hat] at hq
    injection hq with hq
    obtain ⟨g1, g2, g3, g4, g5⟩ := a1 _ hem
    have := he i hij
    rw [← hq, ← g2, ← g3, hew] at this
    exact hne this
theorem qS_zero (j : Nat) : (qS sk M1 M2 j)[0]? = some ⟨0, 0, []⟩ := by
  obtain ⟨T, hT⟩ := qS_pre (sk := sk) (M1 := M1) (M2 := M2) 0 j
  rw [Nat.zero_add] at hT
  rw [hT]
  rfl
/-- Nothing was found: there is nothing. -/
theorem qs_none (hs : SkOk M1 M2 sk) (h1 : M1.Ok) (h2 : M2.Ok) (hk : M1.k = M2.k) {j : Nat} (h : Vs sk M1 M2 j) (he : Eqs sk M1 M2 j) (hj : ¬ j < (qS sk M1 M2 j).length) : apD M1 M2 = none := by
  refine (apD_none h1 h2 hk).2 (fun v hv => none_ahead hs h1 h2 hk h he (qS_zero j) (numW M1.k v) v (Nat.le_refl _) hv (fun i e hi _ => ?_))
  have := (List.getElem?_eq_some_iff.1 hi).1
  omega
/-- What was found is ahead of all others. -/
theorem qs_least (hs : SkOk M1 M2 sk) (h1 : M1.Ok) (h2 : M2.Ok) (hk : M1.k = M2.k) {j : Nat} (h : Vs sk M1 M2 j) (he : Eqs sk M1 M2 j) {x : Ent} (hx : (qS sk M1 M2 j)[j]? = some x) (hne : M1.f x.a ≠ M2.f x.b) : M1.wd x.w ∧ M1.tk 0 x.w ≠ M2.tk 0 x.w ∧ ∀ v, M1.wd v → M1.tk 0 v ≠ M2.tk 0 v → numW M1.k x.w ≤ numW M1.k v := by
  obtain ⟨a1, a2, a3, a4, a5⟩ := qS_ok hs h1 h2 hk j h
  obtain ⟨g1, g2, g3, g4, g5⟩ := a1 x (List.mem_of_getElem? hx)
  refine ⟨g1, ?_, fun v hv hd => ?_⟩
  · unfold Mach.tk
    rw [g2, g3]
    exact hne
  · refine Decidable.byContradiction (fun hlt => hd ?_)
    exact none_ahead hs h1 h2 hk h he (qS_zero j) (numW M1.k v) v (Nat.le_refl _) hv (fun i e hi hle => num_at a3 hi hx (by omega))
theorem metE_ok (M1 M2 : Mach) : SkOk M1 M2 metE := ⟨fun Q a b _ _ _ h x _ hne => by
    obtain ⟨e, he, rfl, rfl⟩ := metE_iff.1 h
    exact ⟨e, he, hne⟩, fun Q _ e he => metE_iff.2 ⟨e, he, rfl, rfl⟩⟩
/-- .. and it is what the document tells. -/
theorem qs_found (hs : SkOk M1 M2 sk) (h1 : M1.Ok) (h2 : M2.Ok) (hk : M1.k = M2.k) {j : Nat} (h : Vs sk M1 M2 j) (he : Eqs sk M1 M2 j) {x : Ent} (hx : (qS sk M1 M2 j)[j]? = some x) (hne : M1.f x.a ≠ M2.f x.b) : apD M1 M2 = some x.w := by
  obtain ⟨a, b, c⟩ := qs_least hs h1 h2 hk h he hx hne
  -- the document's own walk ends, too
  have end_ : ∀ q j, Vs metE M1 M2 j → Eqs metE M1 M2 j → M1.n * M2.n < j + q → ∃ i, Vs metE M1 M2 i ∧ Eqs metE M1 M2 i ∧ (¬ i < (qS metE M1 M2 i).length ∨ ∃ y, (qS metE M1 M2 i)[i]? = some y ∧ M1.f y.a ≠ M2.f y.b) := by
    intro q
    induction q with
    | zero =>
      intro j hv he hq
      refine ⟨j, hv, he, .inl (fun hj => ?_)⟩
      have := hv.bound (metE_ok M1 M2) h1 h2 hk
      omega
    | succ q ih =>
      intro j hv he hq
      by_cases hj : j < (qS metE M1 M2 j).length
      · have hat := qS_at (sk := metE) (M1 := M1) (M2 := M2) (Nat.le_refl j) hj
        by_cases hf : M1.f ((qS metE M1 M2 j).getD j ⟨0, 0, []⟩).a = M2.f ((qS metE M1 M2 j).getD j ⟨0, 0, []⟩).b
        · refine ih (j + 1) (hv.succ hj) (fun i hi => ?_) (by omega)
          by_cases e : i = j
          · subst e; exact hf
          · exact he i (by omega)
        · exact ⟨j, hv, he, .inr ⟨_, hat, hf⟩⟩
      · exact ⟨j, hv, he, .inl hj⟩
  obtain ⟨i, hv, hq, hend⟩ := end_ (M1.n * M2.n + 1) 0 (fun i h => absurd h (by omega)) (fun i h => absurd h (by omega)) (by omega)
  rcases hend with hend | ⟨y, hy, hf⟩
  · have := qs_none (metE_ok M1 M2) h1 h2 hk hv hq hend
    exact absurd ((apD_none h1 h2 hk).1 this x.w a) b
  · obtain ⟨a', b', c'⟩ := qs_least (metE_ok M1 M2) h1 h2 hk hv hq hy hf
    have e : x.w = y.w := num_inj x.w.length x.w y.w (Nat.le_refl _) a a' (Nat.le_antisymm (c y.w a' b') (c' x.w a b))
    have hil := (List.getElem?_eq_some_iff.1 hy).1
    have hat := qS_at (sk := metE) (M1 := M1) (M2 := M2) (Nat.le_refl i) hil
    rw [hy] at hat
    injection hat with hat
    rw [qS_met] at hil hat
    have hv2 : Vq M1 M2 i := fun q hq => by have := hv q hq; rwa [qS_met] at this
    have he2 : Eq1 M1 M2 i := fun q hq2 => by have := hq q hq2; rwa [qS_met] at this
    rw [hat] at hf
    have := apD_found h1 h2 hk hv2 he2 hil hf
    rw [this, ← hat, e]
end

/-- What numbers are linked: of each the one that stands for it. -/
def lnk (cl : Nat → Nat) (i j : Nat) : Nat → Nat := fun x => if cl x = cl i then cl j else cl x
def clsQ (n1 : Nat) (Q : List Ent) : Nat → Nat := Q.foldl (fun cl e => lnk cl e.a (n1 + e.b)) id
def skU (n1 : Nat) : Skp := fun Q a b => decide (clsQ n1 Q a = clsQ n1 Q (n1 + b))
theorem clsQ_snoc (n1 : Nat) (Q : List Ent) (e : Ent) : clsQ n1 (Q ++ [e]) = lnk (clsQ n1 Q) e.a (n1 + e.b) := by unfold clsQ; rw [List.foldl_append]; rfl
theorem lnk_same {cl : Nat → Nat} {i j : Nat} (h : cl i = cl j) : lnk cl i j = cl := funext fun x => by
  unfold lnk
  split
  · rename_i e; rw [e, h]
  · rfl
theorem lnk_two (cl : Nat → Nat) (i j : Nat) : lnk cl i j i = lnk cl i j j := by
  unfold lnk
  rw [if_pos rfl]
  split <;> rfl
theorem lnk_keep {cl : Nat → Nat} {i j x y : Nat} (h : cl x = cl y) : lnk cl i j x = lnk cl i j y := by unfold lnk; rw [h]
theorem clsQ_keep (n1 : Nat) : ∀ (T Q : List Ent) (x y : Nat), clsQ n1 Q x = clsQ n1 Q y → clsQ n1 (Q ++ T) x = clsQ n1 (Q ++ T) y
  | [], Q, x, y, h => by rw [List.append_nil]; exact h
  | e :: T, Q, x, y, h => by
    have e2 : Q ++ e :: T = (Q ++ [e]) ++ T := by simp
    rw [e2]
    refine clsQ_keep n1 T (Q ++ [e]) x y ?_
    rw [clsQ_snoc]
    exact lnk_keep h
theorem clsQ_mem (n1 : Nat) {Q : List Ent} {e : Ent} (h : e ∈ Q) : clsQ n1 Q e.a = clsQ n1 Q (n1 + e.b) := by
  obtain ⟨S, T, rfl⟩ := List.append_of_mem h
  have e2 : S ++ e :: T = (S ++ [e]) ++ T := by simp
  rw [e2]
  refine clsQ_keep n1 T (S ++ [e]) _ _ ?_
  rw [clsQ_snoc]
  exact lnk_two _ _ _
/-- What a number takes: a state of the first machine, or of the second. -/
def vlU (M1 M2 : Mach) (x : Nat) (w : List Nat) : Bool := if x < M1.n then M1.tk x w else M2.tk (x - M1.n) w
theorem cls_val (M1 M2 : Mach) (w : List Nat) : ∀ (Q : List Ent), GoodE M1 M2 Q → (∀ e ∈ Q, M1.tk e.a w = M2.tk e.b w) → ∀ x, vlU M1 M2 (clsQ M1.n Q x) w = vlU M1 M2 x w := by
  have key : ∀ (T Q : List Ent), GoodE M1 M2 (Q ++ T) → (∀ e ∈ Q ++ T, M1.tk e.a w = M2.tk e.b w) → (∀ x, vlU M1 M2 (clsQ M1.n Q x) w = vlU M1 M2 x w) → ∀ x, vlU M1 M2 (clsQ M1.n (Q ++ T) x) w = vlU M1 M2 x w := by
    intro T
    induction T with
    | nil => intro Q _ _ h; rw [List.append_nil]; exact h
    | cons e T ih =>
      intro Q hg hv h
      have e2 : Q ++ e :: T = (Q ++ [e]) ++ T := by simp
      rw [e2] at hg hv ⊢
      refine ih (Q ++ [e]) hg hv (fun x => ?_)
      have he : e ∈ Q ++ [e] ++ T := by simp
      obtain ⟨_, _, _, g4, g5⟩ := hg e he
      have hve := hv e he
      have h1 : vlU M1 M2 e.a w = M1.tk e.a w := if_pos g4
      have h2 : vlU M1 M2 (M1.n + e.b) w = M2.tk e.b w := by
        unfold vlU
        rw [if_neg (by omega)]
        congr 1
        omega
      rw [clsQ_snoc]
      unfold lnk
      split
      · rename_i q
        rw [h, h2, ← hve, ← h1, ← h e.a, ← q, h]
      · exact h x
  intro Q hg hv
  have := key Q [] (by simpa using hg) (by simpa using hv) (fun x => rfl)
  simpa using this
theorem skU_ok (M1 M2 : Mach) : SkOk M1 M2 (skU M1.n) := ⟨fun Q a b hg ha hb h x hx hne => by
    refine Decidable.byContradiction (fun hno => hne ?_)
    have hv : ∀ e ∈ Q, M1.tk e.a x = M2.tk e.b x := fun e he => by
      refine Decidable.byContradiction (fun q => hno ⟨e, he, q⟩)
    have hc := cls_val M1 M2 x Q hg hv
    have e := of_decide_eq_true h
    have h1 := hc a
    have h2 := hc (M1.n + b)
    rw [e, h2] at h1
    unfold vlU at h1
    rw [if_pos ha, if_neg (by omega)] at h1
    rw [← h1]
    congr 1
    omega, fun Q _ e he => decide_eq_true (clsQ_mem _ he)⟩
/-- A forest of links. -/
structure Uf (N : Nat) (L cl h : Nat → Nat) (B : Nat) : Prop where
  lt : ∀ x, x < N → L x < N
  eq : ∀ x, x < N → cl (L x) = cl x
  root : ∀ x, x < N → L x = x → cl x = x
  up : ∀ x, x < N → L x ≠ x → h x < h (L x)
  top : ∀ x, x < N → h x ≤ B
def upN (L : Nat → Nat) (i v : Nat) : Nat → Nat := fun x => if x = i then v else L x
section
variable {N : Nat} {L cl h : Nat → Nat} {B : Nat}
theorem uf_init (N : Nat) : Uf N id id (fun _ => 0) 0 := ⟨fun x h => h, fun x _ => rfl, fun x _ _ => rfl, fun x _ h => absurd rfl h, fun x _ => Nat.le_refl _⟩
theorem Uf.halve (u : Uf N L cl h B) {i : Nat} (hi : i < N) (hne : L i ≠ i) : Uf N (upN L i (L (L i))) cl h B ∧ L (L i) < N ∧ cl (L (L i)) = cl i ∧ h i < h (L (L i)) := by
  have a1 := u.lt i hi
  have a2 := u.lt _ a1
  have e1 := u.eq i hi
  have e2 := u.eq _ a1
  have b1 := u.up i hi hne
  have b2 : h (L i) ≤ h (L (L i)) := by
    by_cases q : L (L i) = L i
    · rw [q]; exact Nat.le_refl _
    · exact Nat.le_of_lt (u.up _ a1 q)
  refine ⟨⟨fun x hx => ?_, fun x hx => ?_, fun x hx => ?_, fun x hx => ?_, u.top⟩, a2, e2.trans e1, by omega⟩
  · unfold upN; split
    · exact a2
    · exact u.lt x hx
  · unfold upN; split
    · rename_i q; rw [q]; exact e2.trans e1
    · exact u.eq x hx
  · unfold upN; split
    · rename_i q
      intro e
      subst q
      rw [e] at b2
      omega
    · exact u.root x hx
  · unfold upN; split
    · rename_i q
      intro e
      subst q
      omega
    · exact u.up x hx
theorem Uf.link (u : Uf N L cl h B) {i j : Nat} (hi : i < N) (hj : j < N) (ri : cl i < N) (rj : cl j < N) (li : L (cl i) = cl i) (lj : L (cl j) = cl j) : ∃ h' B', Uf N (upN L (cl i) (cl j)) (lnk cl i j) h' B' := by
  by_cases e : cl i = cl j
  · refine ⟨h, B, ?_⟩
    have e1 : upN L (cl i) (cl j) = L := funext fun x => by
      unfold upN
      split
      · rename_i q; rw [q, li, e]
      · rfl
    rw [e1, lnk_same e]
    exact u
  · have hjj : cl (cl j) = cl j := u.root _ rj lj
    have hii : cl (cl i) = cl i := u.root _ ri li
    refine ⟨fun x => if x = cl j then h (cl j) + h (cl i) + 1 else h x, 2 * B + 1, fun x hx => ?_, fun x hx => ?_, fun x hx => ?_, fun x hx => ?_, fun x hx => ?_⟩
    · unfold upN; split
      · exact rj
      · exact u.lt x hx
    · unfold upN lnk; split
      · rename_i q
        rw [hjj, q, hii, if_neg (Ne.symm e), if_pos rfl]
      · rw [u.eq x hx]
    · unfold upN lnk; split
      · rename_i q
        intro q2
        exact absurd (q.symm.trans q2.symm) e
      · rename_i q
        intro q2
        have := u.root x hx q2
        rw [if_neg (by rw [this]; exact q)]
        exact this
    · unfold upN; split
      · rename_i q
        intro _
        subst q
        rw [if_neg e, if_pos rfl]
        omega
      · rename_i q
        intro q2
        have := u.up x hx q2
        have hxj : x ≠ cl j := fun e2 => q2 (by rw [e2]; exact lj)
        rw [if_neg hxj]
        split
        · rename_i q3
          rw [q3] at this
          omega
        · exact this
    · have t1 := u.top x hx
      have t2 := u.top _ ri
      have t3 := u.top _ rj
      show (if x = cl j then h (cl j) + h (cl i) + 1 else h x) ≤ _
      split <;> omega
end
end Go.Proofs.YtklhjjgnhigbiaaGreatDoor
