/-
  Pairs of states as they are met: the first word that tells two machines apart. Plain mathematics.
-/
import Derived.Test.YtklhjjgnhigbiaaGreatDoorLsMach
import Derived.Test.YtklhjjgnhigbiaaGreatDoorLsBfs
namespace Go.Proofs.YtklhjjgnhigbiaaGreatDoor
set_option linter.unusedVariables false

/-- A pair of states, and the word that led to it. -/
structure Ent where
  a : Nat
  b : Nat
  w : List Nat
def metE (Q : List Ent) (a b : Nat) : Bool := Q.any fun e => e.a == a && e.b == b
def addE (M1 M2 : Mach) (x : Ent) (Q : List Ent) (c : Nat) : List Ent := if metE Q (M1.d x.a c) (M2.d x.b c) then Q else Q ++ [⟨M1.d x.a c, M2.d x.b c, x.w ++ [c]⟩]
def rowE (M1 M2 : Mach) (x : Ent) (Q : List Ent) : Nat → List Ent
  | 0 => Q
  | i + 1 => addE M1 M2 x (rowE M1 M2 x Q i) i
def qE (M1 M2 : Mach) : Nat → List Ent
  | 0 => [⟨0, 0, []⟩]
  | j + 1 => rowE M1 M2 ((qE M1 M2 j).getD j ⟨0, 0, []⟩) (qE M1 M2 j) M1.k
/-- The first j pairs were gone through. -/
def Vq (M1 M2 : Mach) (j : Nat) : Prop := ∀ i, i < j → i < (qE M1 M2 i).length
/-- .. and none of them tells the machines apart. -/
def Eq1 (M1 M2 : Mach) (j : Nat) : Prop := ∀ i, i < j → M1.f ((qE M1 M2 i).getD i ⟨0, 0, []⟩).a = M2.f ((qE M1 M2 i).getD i ⟨0, 0, []⟩).b
def apR (M1 M2 : Mach) : Nat → Nat → Option (List Nat)
  | 0, _ => none
  | q + 1, j => if j < (qE M1 M2 j).length then (if M1.f ((qE M1 M2 j).getD j ⟨0, 0, []⟩).a != M2.f ((qE M1 M2 j).getD j ⟨0, 0, []⟩).b then some ((qE M1 M2 j).getD j ⟨0, 0, []⟩).w else apR M1 M2 q (j + 1)) else none
/-- The first word that tells them apart. -/
def apD (M1 M2 : Mach) : Option (List Nat) := apR M1 M2 (M1.n * M2.n + 1) 0
section
variable {M1 M2 : Mach} {Q : List Ent} {x : Ent}
theorem metE_iff {a b : Nat} : metE Q a b = true ↔ ∃ e ∈ Q, e.a = a ∧ e.b = b := by
  unfold metE
  simp [List.any_eq_true]
def GoodE (M1 M2 : Mach) (Q : List Ent) : Prop := ∀ e ∈ Q, M1.wd e.w ∧ M1.run 0 e.w = e.a ∧ M2.run 0 e.w = e.b ∧ e.a < M1.n ∧ e.b < M2.n
def DistE (Q : List Ent) : Prop := Q.Pairwise fun e e' => ¬ (e.a = e'.a ∧ e.b = e'.b)
def SrtE (Q : List Ent) : Prop := Q.Pairwise fun e e' => e.w.length ≤ e'.w.length
def TopE (Q : List Ent) (m : Nat) : Prop := ∀ e ∈ Q, e.w.length ≤ m
theorem addE_pre (x : Ent) (Q : List Ent) (c : Nat) : ∃ T, addE M1 M2 x Q c = Q ++ T := by
  unfold addE
  split
  · exact ⟨[], by simp⟩
  · exact ⟨_, rfl⟩
theorem rowE_pre (x : Ent) (Q : List Ent) : ∀ i, ∃ T, rowE M1 M2 x Q i = Q ++ T
  | 0 => ⟨[], by simp [rowE]⟩
  | i + 1 => by
    obtain ⟨T, h⟩ := rowE_pre x Q i
    obtain ⟨T2, h2⟩ := addE_pre (M1 := M1) (M2 := M2) x (rowE M1 M2 x Q i) i
    exact ⟨T ++ T2, by show addE M1 M2 x (rowE M1 M2 x Q i) i = _; rw [h2, h, List.append_assoc]⟩
theorem qE_pre (j : Nat) : ∀ m, ∃ T, qE M1 M2 (j + m) = qE M1 M2 j ++ T
  | 0 => ⟨[], by simp⟩
  | m + 1 => by
    obtain ⟨T, h⟩ := qE_pre j m
    obtain ⟨T2, h2⟩ := rowE_pre (M1 := M1) (M2 := M2) ((qE M1 M2 (j + m)).getD (j + m) ⟨0, 0, []⟩) (qE M1 M2 (j + m)) M1.k
    exact ⟨T ++ T2, h2.trans (by rw [← List.append_assoc, ← h])⟩
theorem addE_ok (h1 : M1.Ok) (h2 : M2.Ok) (hk : M1.k = M2.k) {c : Nat} (hc : c < M1.k) (hx : x ∈ Q) (hg : GoodE M1 M2 Q) (hd : DistE Q) (hs : SrtE Q) (ht : TopE Q (x.w.length + 1)) :
    GoodE M1 M2 (addE M1 M2 x Q c) ∧ DistE (addE M1 M2 x Q c) ∧ SrtE (addE M1 M2 x Q c) ∧ TopE (addE M1 M2 x Q c) (x.w.length + 1) ∧ ∃ e ∈ addE M1 M2 x Q c, e.a = M1.d x.a c ∧ e.b = M2.d x.b c := by
  obtain ⟨x1, x2, x3, x4, x5⟩ := hg x hx
  by_cases hm : metE Q (M1.d x.a c) (M2.d x.b c) = true
  · have e : addE M1 M2 x Q c = Q := by unfold addE; rw [if_pos hm]
    rw [e]
    exact ⟨hg, hd, hs, ht, metE_iff.1 hm⟩
  · have e : addE M1 M2 x Q c = Q ++ [⟨M1.d x.a c, M2.d x.b c, x.w ++ [c]⟩] := by unfold addE; rw [if_neg hm]
    rw [e]
    refine ⟨fun y hy => ?_, ?_, ?_, fun y hy => ?_, ⟨_, List.mem_append_right _ (List.mem_singleton.2 rfl), rfl, rfl⟩⟩
    · rcases List.mem_append.1 hy with q | q
      · exact hg y q
      · rw [List.mem_singleton.1 q]
        refine ⟨fun u hu => ?_, ?_, ?_, h1.cl _ _ x4 hc, h2.cl _ _ x5 (by rw [← hk]; exact hc)⟩
        · rcases List.mem_append.1 hu with r | r
          · exact x1 u r
          · rw [List.mem_singleton.1 r]; exact hc
        · show M1.run 0 (x.w ++ [c]) = M1.d x.a c
          unfold Mach.run at x2 ⊢
          rw [List.foldl_append, x2]; rfl
        · show M2.run 0 (x.w ++ [c]) = M2.d x.b c
          unfold Mach.run at x3 ⊢
          rw [List.foldl_append, x3]; rfl
    · unfold DistE
      rw [List.pairwise_append]
      refine ⟨hd, List.pairwise_singleton _ _, fun y hy z hz => ?_⟩
      rw [List.mem_singleton.1 hz]
      rintro ⟨p, q⟩
      exact hm (metE_iff.2 ⟨y, hy, p, q⟩)
    · unfold SrtE
      rw [List.pairwise_append]
      refine ⟨hs, List.pairwise_singleton _ _, fun y hy z hz => ?_⟩
      rw [List.mem_singleton.1 hz]
      have := ht y hy
      simpa using this
    · rcases List.mem_append.1 hy with q | q
      · exact ht y q
      · rw [List.mem_singleton.1 q]
        simp
theorem rowE_ok (h1 : M1.Ok) (h2 : M2.Ok) (hk : M1.k = M2.k) (hx : x ∈ Q) (hg : GoodE M1 M2 Q) (hd : DistE Q) (hs : SrtE Q) (ht : TopE Q (x.w.length + 1)) : ∀ i, i ≤ M1.k →
    GoodE M1 M2 (rowE M1 M2 x Q i) ∧ DistE (rowE M1 M2 x Q i) ∧ SrtE (rowE M1 M2 x Q i) ∧ TopE (rowE M1 M2 x Q i) (x.w.length + 1) ∧ ∀ c, c < i → ∃ e ∈ rowE M1 M2 x Q i, e.a = M1.d x.a c ∧ e.b = M2.d x.b c
  | 0, _ => ⟨hg, hd, hs, ht, fun c h => absurd h (by omega)⟩
  | i + 1, hi => by
    obtain ⟨a1, a2, a3, a4, a5⟩ := rowE_ok h1 h2 hk hx hg hd hs ht i (by omega)
    obtain ⟨T, hT⟩ := rowE_pre (M1 := M1) (M2 := M2) x Q i
    have hx2 : x ∈ rowE M1 M2 x Q i := by rw [hT]; exact List.mem_append_left _ hx
    obtain ⟨b1, b2, b3, b4, b5⟩ := addE_ok h1 h2 hk (show i < M1.k by omega) hx2 a1 a2 a3 a4
    refine ⟨b1, b2, b3, b4, fun c hc => ?_⟩
    by_cases e : c = i
    · subst e; exact b5
    · obtain ⟨y, hy, p⟩ := a5 c (by omega)
      obtain ⟨T2, hT2⟩ := addE_pre (M1 := M1) (M2 := M2) x (rowE M1 M2 x Q i) i
      exact ⟨y, by show y ∈ addE M1 M2 x (rowE M1 M2 x Q i) i; rw [hT2]; exact List.mem_append_left _ hy, p⟩
theorem Vq.le {i j : Nat} (h : Vq M1 M2 j) (hi : i ≤ j) : Vq M1 M2 i := fun q hq => h q (by omega)
theorem Vq.succ {j : Nat} (h : Vq M1 M2 j) (h1 : j < (qE M1 M2 j).length) : Vq M1 M2 (j + 1) := fun i hi => by
  by_cases e : i = j
  · subst e; exact h1
  · exact h i (by omega)
theorem qE_at {i j : Nat} (hij : i ≤ j) (hi : i < (qE M1 M2 i).length) : (qE M1 M2 j)[i]? = some ((qE M1 M2 i).getD i ⟨0, 0, []⟩) := by
  obtain ⟨m, rfl⟩ := Nat.exists_eq_add_of_le hij
  obtain ⟨T, h⟩ := qE_pre (M1 := M1) (M2 := M2) i m
  rw [h, List.getElem?_append_left hi, List.getD_eq_getElem?_getD, List.getElem?_eq_getElem hi]
  rfl
theorem srt_at (h : SrtE Q) {i j : Nat} {y z : Ent} (hi : Q[i]? = some y) (hj : Q[j]? = some z) (hl : y.w.length < z.w.length) : i < j := by
  obtain ⟨i1, rfl⟩ := List.getElem?_eq_some_iff.1 hi
  obtain ⟨j1, rfl⟩ := List.getElem?_eq_some_iff.1 hj
  rcases Nat.lt_trichotomy i j with q | q | q
  · exact q
  · subst q; omega
  · have := List.pairwise_iff_getElem.1 h j i j1 i1 q
    omega
theorem qE_ok (h1 : M1.Ok) (h2 : M2.Ok) (hk : M1.k = M2.k) : ∀ j, Vq M1 M2 j →
    GoodE M1 M2 (qE M1 M2 j) ∧ DistE (qE M1 M2 j) ∧ SrtE (qE M1 M2 j) ∧ (∀ x, (qE M1 M2 j)[j]? = some x → TopE (qE M1 M2 j) (x.w.length + 1)) ∧
      ∀ i, i < j → ∀ c, c < M1.k → ∃ e ∈ qE M1 M2 j, e.a = M1.d ((qE M1 M2 i).getD i ⟨0, 0, []⟩).a c ∧ e.b = M2.d ((qE M1 M2 i).getD i ⟨0, 0, []⟩).b c ∧ e.w.length ≤ ((qE M1 M2 i).getD i ⟨0, 0, []⟩).w.length + 1
  | 0, _ => by
    refine ⟨fun e he => ?_, List.pairwise_singleton _ _, List.pairwise_singleton _ _, fun x hx e he => ?_, fun i hi => absurd hi (by omega)⟩
    · rw [List.mem_singleton.1 he]
      exact ⟨wd_nil, rfl, rfl, h1.ne, h2.ne⟩
    · rw [List.mem_singleton.1 he]
      exact Nat.zero_le _
  | j + 1, hv => by
    obtain ⟨a1, a2, a3, a4, a5⟩ := qE_ok h1 h2 hk j (hv.le (by omega))
    have hj := hv j (by omega)
    have hat := qE_at (M1 := M1) (M2 := M2) (Nat.le_refl j) hj
    have hx : (qE M1 M2 j).getD j ⟨0, 0, []⟩ ∈ qE M1 M2 j := List.mem_of_getElem? hat
    obtain ⟨b1, b2, b3, b4, b5⟩ := rowE_ok h1 h2 hk hx a1 a2 a3 (a4 _ hat) M1.k (Nat.le_refl _)
    obtain ⟨T, hT⟩ := qE_pre (M1 := M1) (M2 := M2) j 1
    refine ⟨b1, b2, b3, fun x hx2 e he => ?_, fun i hi c hc => ?_⟩
    · have h3 := b4 e he
      have h4 : (qE M1 M2 (j + 1))[j]? = some ((qE M1 M2 j).getD j ⟨0, 0, []⟩) := qE_at (Nat.le_succ j) hj
      by_cases hl : x.w.length < ((qE M1 M2 j).getD j ⟨0, 0, []⟩).w.length
      · have := srt_at b3 hx2 h4 hl
        omega
      · omega
    · by_cases e : i = j
      · subst e
        obtain ⟨y, hy, p, q⟩ := b5 c hc
        exact ⟨y, hy, p, q, b4 y hy⟩
      · obtain ⟨y, hy, p⟩ := a5 i (by omega) c hc
        exact ⟨y, by rw [hT]; exact List.mem_append_left _ hy, p⟩
/-- There are no more pairs than there may be. -/
theorem Vq.bound (h1 : M1.Ok) (h2 : M2.Ok) (hk : M1.k = M2.k) {j : Nat} (h : Vq M1 M2 j) : (qE M1 M2 j).length ≤ M1.n * M2.n := by
  obtain ⟨a1, a2, _⟩ := qE_ok h1 h2 hk j h
  have hm : ((qE M1 M2 j).map fun e => e.a * M2.n + e.b).Nodup := by
    unfold List.Nodup
    rw [List.pairwise_map]
    refine List.Pairwise.imp_of_mem ?_ a2
    intro y z hy hz hne e
    obtain ⟨_, _, _, y1, y2⟩ := a1 y hy
    obtain ⟨_, _, _, z1, z2⟩ := a1 z hz
    have hb : y.b = z.b := by
      have := congrArg (· % M2.n) e
      simpa [Nat.mul_add_mod_of_lt, Nat.mod_eq_of_lt, y2, z2, Nat.add_comm, Nat.add_mul_mod_self_right] using this
    have ha : y.a = z.a := by
      rw [hb] at e
      have h3 : y.a * M2.n = z.a * M2.n := by omega
      exact Nat.eq_of_mul_eq_mul_right h2.ne h3
    exact hne ⟨ha, hb⟩
  have := nodup_len (n := M1.n * M2.n) hm (fun y hy => by
    obtain ⟨e, he, rfl⟩ := List.mem_map.1 hy
    obtain ⟨_, _, _, y1, y2⟩ := a1 e he
    have h3 : (e.a + 1) * M2.n ≤ M1.n * M2.n := Nat.mul_le_mul_right _ y1
    rw [Nat.add_mul, Nat.one_mul] at h3
    omega)
  rwa [List.length_map] at this
theorem Vq.lt (h1 : M1.Ok) (h2 : M2.Ok) (hk : M1.k = M2.k) {j : Nat} (h : Vq M1 M2 j) (hj : j < (qE M1 M2 j).length) : j < M1.n * M2.n := Nat.lt_of_lt_of_le hj (h.bound h1 h2 hk)
theorem run_snoc (M : Mach) (s : Nat) (v : List Nat) (c : Nat) : M.run s (v ++ [c]) = M.d (M.run s v) c := by unfold Mach.run; rw [List.foldl_append]; rfl
/-- All words' pairs are met, at words that are no longer. -/
theorem qE_all (h1 : M1.Ok) (h2 : M2.Ok) (hk : M1.k = M2.k) {j m : Nat} (h : Vq M1 M2 j) (hm : ∀ i e, (qE M1 M2 j)[i]? = some e → e.w.length < m → i < j) (h0 : 0 < m → 0 < j) : ∀ (q : Nat) (v : List Nat), v.length = q → M1.wd v → v.length < m → ∃ i, i < j ∧ ((qE M1 M2 i).getD i ⟨0, 0, []⟩).a = M1.run 0 v ∧ ((qE M1 M2 i).getD i ⟨0, 0, []⟩).b = M2.run 0 v ∧ ((qE M1 M2 i).getD i ⟨0, 0, []⟩).w.length ≤ v.length
  | 0, v, hq, hw, hl => by
    have : v = [] := List.length_eq_zero_iff.1 hq
    subst this
    exact ⟨0, h0 (by simpa using hl), rfl, rfl, Nat.le_refl _⟩
  | q + 1, v, hq, hw, hl => by
    obtain ⟨u, c, rfl⟩ : ∃ u c, v = u ++ [c] := by
      have hne : v ≠ [] := fun e => by rw [e] at hq; simp at hq
      exact ⟨v.dropLast, v.getLast hne, (List.dropLast_concat_getLast hne).symm⟩
    have hlu : u.length = q := by simpa using hq
    have hcu : M1.wd u := fun a ha => hw a (List.mem_append_left _ ha)
    have hc : c < M1.k := hw c (List.mem_append_right _ (List.mem_singleton.2 rfl))
    have hl2 : u.length + 1 < m := by simpa using hl
    obtain ⟨i, hi, e1, e2, e3⟩ := qE_all h1 h2 hk h hm h0 q u hlu hcu (by omega)
    obtain ⟨e, he, p1, p2, p3⟩ := (qE_ok h1 h2 hk j h).2.2.2.2 i hi c hc
    obtain ⟨i2, hi2, rfl⟩ := List.mem_iff_getElem.1 he
    have hlt : i2 < j := hm i2 _ (List.getElem?_eq_getElem hi2) (by omega)
    have hat := qE_at (M1 := M1) (M2 := M2) (Nat.le_of_lt hlt) (h i2 hlt)
    rw [List.getElem?_eq_getElem hi2] at hat
    injection hat with hat
    refine ⟨i2, hlt, ?_, ?_, ?_⟩
    · rw [← hat, p1, e1, run_snoc]
    · rw [← hat, p2, e2, run_snoc]
    · rw [← hat]
      simp
      omega
theorem all_eq (h1 : M1.Ok) (h2 : M2.Ok) (hk : M1.k = M2.k) {j : Nat} (h : Vq M1 M2 j) (he : Eq1 M1 M2 j) (hj : ¬ j < (qE M1 M2 j).length) : ∀ v, M1.wd v → M1.tk 0 v = M2.tk 0 v := fun v hv => by
  have h0 : 0 < j := by
    cases j with
    | zero => exact absurd (show 0 < [(⟨0, 0, []⟩ : Ent)].length by simp) hj
    | succ j => omega
  obtain ⟨i, hi, e1, e2, _⟩ := qE_all h1 h2 hk h (m := v.length + 1) (fun i e hi _ => by
    have := (List.getElem?_eq_some_iff.1 hi).1
    omega) (fun _ => h0) v.length v rfl hv (by omega)
  have := he i hi
  rw [e1, e2] at this
  exact this
theorem first_ne (h1 : M1.Ok) (h2 : M2.Ok) (hk : M1.k = M2.k) {j : Nat} (h : Vq M1 M2 j) (he : Eq1 M1 M2 j) (hj : j < (qE M1 M2 j).length) (hne : M1.f ((qE M1 M2 j).getD j ⟨0, 0, []⟩).a ≠ M2.f ((qE M1 M2 j).getD j ⟨0, 0, []⟩).b) :
    M1.wd ((qE M1 M2 j).getD j ⟨0, 0, []⟩).w ∧ M1.tk 0 ((qE M1 M2 j).getD j ⟨0, 0, []⟩).w ≠ M2.tk 0 ((qE M1 M2 j).getD j ⟨0, 0, []⟩).w ∧ ∀ v, M1.wd v → v.length < ((qE M1 M2 j).getD j ⟨0, 0, []⟩).w.length → M1.tk 0 v = M2.tk 0 v := by
  obtain ⟨a1, a2, a3, _⟩ := qE_ok h1 h2 hk j h
  have hat := qE_at (M1 := M1) (M2 := M2) (Nat.le_refl j) hj
  obtain ⟨x1, x2, x3, _⟩ := a1 _ (List.mem_of_getElem? hat)
  refine ⟨x1, ?_, fun v hv hl => ?_⟩
  · unfold Mach.tk
    rw [x2, x3]
    exact hne
  · obtain ⟨i, hi, e1, e2, _⟩ := qE_all h1 h2 hk h (m := ((qE M1 M2 j).getD j ⟨0, 0, []⟩).w.length) (fun i e hi hlt => srt_at a3 hi hat hlt) (fun hp => by
      cases j with
      | zero => exact absurd hp (by show ¬ 0 < ([] : List Nat).length; simp)
      | succ j => omega) v.length v rfl hv hl
    have := he i hi
    rw [e1, e2] at this
    exact this
/-- What it is. -/
theorem apR_spec (h1 : M1.Ok) (h2 : M2.Ok) (hk : M1.k = M2.k) : ∀ q j, Vq M1 M2 j → Eq1 M1 M2 j → M1.n * M2.n < j + q →
    (match apR M1 M2 q j with
      | none => ∀ v, M1.wd v → M1.tk 0 v = M2.tk 0 v
      | some w => M1.wd w ∧ M1.tk 0 w ≠ M2.tk 0 w ∧ ∀ v, M1.wd v → v.length < w.length → M1.tk 0 v = M2.tk 0 v)
  | 0, j, hv, he, hq => by
    have hj : ¬ j < (qE M1 M2 j).length := fun h => by
      have := hv.lt h1 h2 hk h
      omega
    exact all_eq h1 h2 hk hv he hj
  | q + 1, j, hv, he, hq => by
    unfold apR
    by_cases hj : j < (qE M1 M2 j).length
    · rw [if_pos hj]
      by_cases hne : (M1.f ((qE M1 M2 j).getD j ⟨0, 0, []⟩).a != M2.f ((qE M1 M2 j).getD j ⟨0, 0, []⟩).b) = true
      · rw [if_pos hne]
        exact first_ne h1 h2 hk hv he hj (bne_iff_ne.1 hne)
      · rw [if_neg hne]
        refine apR_spec h1 h2 hk q (j + 1) (hv.succ hj) (fun i hi => ?_) (by omega)
        by_cases e : i = j
        · subst e
          simpa using hne
        · exact he i (by omega)
    · rw [if_neg hj]
      exact all_eq h1 h2 hk hv he hj
theorem apD_none (h1 : M1.Ok) (h2 : M2.Ok) (hk : M1.k = M2.k) : apD M1 M2 = none ↔ ∀ v, M1.wd v → M1.tk 0 v = M2.tk 0 v := by
  have := apR_spec h1 h2 hk (M1.n * M2.n + 1) 0 (fun i h => absurd h (by omega)) (fun i h => absurd h (by omega)) (by omega)
  unfold apD
  cases hq : apR M1 M2 (M1.n * M2.n + 1) 0 with
  | none =>
    rw [hq] at this
    exact ⟨fun _ => this, fun _ => rfl⟩
  | some w =>
    rw [hq] at this
    exact ⟨fun h => (by cases h), fun h => absurd (h w this.1) this.2.1⟩
theorem apD_some (h1 : M1.Ok) (h2 : M2.Ok) (hk : M1.k = M2.k) {w : List Nat} (h : apD M1 M2 = some w) : M1.wd w ∧ M1.tk 0 w ≠ M2.tk 0 w ∧ ∀ v, M1.wd v → v.length < w.length → M1.tk 0 v = M2.tk 0 v := by
  have := apR_spec h1 h2 hk (M1.n * M2.n + 1) 0 (fun i h => absurd h (by omega)) (fun i h => absurd h (by omega)) (by omega)
  unfold apD at h
  rw [h] at this
  exact this
/-- How a walk through the pairs finds it. -/
theorem apR_at {j : Nat} (hv : Vq M1 M2 j) (he : Eq1 M1 M2 j) {q : Nat} (hq : j ≤ q) : apR M1 M2 q 0 = apR M1 M2 (q - j) j := by
  induction j with
  | zero => rfl
  | succ j ih =>
    rw [ih (hv.le (by omega)) (fun i hi => he i (by omega)) (by omega)]
    obtain ⟨r, hr⟩ : ∃ r, q - j = r + 1 := ⟨q - j - 1, by omega⟩
    rw [hr]
    show (if _ then _ else _) = _
    rw [if_pos (hv j (by omega)), if_neg (fun q => bne_iff_ne.1 q (he j (by omega)))]
    congr 1
    omega
theorem apD_found (h1 : M1.Ok) (h2 : M2.Ok) (hk : M1.k = M2.k) {j : Nat} (hv : Vq M1 M2 j) (he : Eq1 M1 M2 j) (hj : j < (qE M1 M2 j).length) (hne : M1.f ((qE M1 M2 j).getD j ⟨0, 0, []⟩).a ≠ M2.f ((qE M1 M2 j).getD j ⟨0, 0, []⟩).b) : apD M1 M2 = some ((qE M1 M2 j).getD j ⟨0, 0, []⟩).w := by
  have hlt := hv.lt h1 h2 hk hj
  unfold apD
  rw [apR_at hv he (by omega)]
  obtain ⟨r, hr⟩ : ∃ r, M1.n * M2.n + 1 - j = r + 1 := ⟨M1.n * M2.n - j, by omega⟩
  rw [hr]
  show (if _ then _ else _) = _
  rw [if_pos hj, if_pos (bne_iff_ne.2 hne)]
theorem apD_through (h1 : M1.Ok) (h2 : M2.Ok) (hk : M1.k = M2.k) {j : Nat} (hv : Vq M1 M2 j) (he : Eq1 M1 M2 j) (hj : ¬ j < (qE M1 M2 j).length) : apD M1 M2 = none := (apD_none h1 h2 hk).2 (all_eq h1 h2 hk hv he hj)
end
end Go.Proofs.YtklhjjgnhigbiaaGreatDoor
