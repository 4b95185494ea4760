/-
  Machines: states that take words; which are apart, and by how long a word. Plain mathematics.
-/
namespace Go.Proofs.YtklhjjgnhigbiaaGreatDoor
set_option linter.unusedVariables false

/-- So many states, so many classes, where each leads, and which are final. -/
structure Mach where
  n : Nat
  k : Nat
  d : Nat → Nat → Nat
  f : Nat → Bool
namespace Mach
variable (M : Mach)
structure Ok : Prop where
  ne : 0 < M.n
  cl : ∀ s c, s < M.n → c < M.k → M.d s c < M.n
def run (s : Nat) (w : List Nat) : Nat := w.foldl M.d s
def wd (w : List Nat) : Prop := ∀ c ∈ w, c < M.k
def tk (s : Nat) (w : List Nat) : Bool := M.f (M.run s w)
def apt : Nat → Nat → Nat → Bool
  | 0, s, t => M.f s != M.f t
  | r + 1, s, t => apt r s t || (List.range M.k).any fun c => apt r (M.d s c) (M.d t c)
end Mach
section
variable {M : Mach}
theorem wd_nil : M.wd [] := fun c h => by cases h
theorem wd_cons {c : Nat} {w : List Nat} : M.wd (c :: w) ↔ c < M.k ∧ M.wd w := by
  unfold Mach.wd
  simp
theorem run_lt (h : M.Ok) : ∀ (w : List Nat) (s : Nat), s < M.n → M.wd w → M.run s w < M.n
  | [], s, hs, _ => hs
  | c :: w, s, hs, hw => run_lt h w _ (h.cl s c hs (wd_cons.1 hw).1) (wd_cons.1 hw).2
theorem apt_iff : ∀ (r s t : Nat), M.apt r s t = true ↔ ∃ w, M.wd w ∧ w.length ≤ r ∧ M.tk s w ≠ M.tk t w
  | 0, s, t => by
    unfold Mach.apt
    constructor
    · intro h
      exact ⟨[], wd_nil, Nat.le_refl _, bne_iff_ne.1 h⟩
    · rintro ⟨w, _, hl, hw⟩
      have : w = [] := List.length_eq_zero_iff.1 (by omega)
      subst this
      exact bne_iff_ne.2 hw
  | r + 1, s, t => by
    unfold Mach.apt
    rw [Bool.or_eq_true, apt_iff r s t, List.any_eq_true]
    constructor
    · rintro (⟨w, h1, h2, h3⟩ | ⟨c, hc, h⟩)
      · exact ⟨w, h1, by omega, h3⟩
      · obtain ⟨w, h1, h2, h3⟩ := (apt_iff r _ _).1 h
        exact ⟨c :: w, wd_cons.2 ⟨List.mem_range.1 hc, h1⟩, by simpa using h2, h3⟩
    · rintro ⟨w, h1, h2, h3⟩
      cases w with
      | nil => exact .inl ⟨[], wd_nil, Nat.zero_le _, h3⟩
      | cons c w =>
        right
        obtain ⟨h4, h5⟩ := wd_cons.1 h1
        exact ⟨c, List.mem_range.2 h4, (apt_iff r _ _).2 ⟨w, h5, by simpa using h2, h3⟩⟩
theorem apt_more {r q s t : Nat} (h : r ≤ q) (k : M.apt r s t = true) : M.apt q s t = true := by
  obtain ⟨w, h1, h2, h3⟩ := (apt_iff r s t).1 k
  exact (apt_iff q s t).2 ⟨w, h1, by omega, h3⟩
theorem apt_not {r s t : Nat} : M.apt r s t = false ↔ ∀ w, M.wd w → w.length ≤ r → M.tk s w = M.tk t w := by
  rw [← Bool.not_eq_true, apt_iff]
  constructor
  · intro h w h1 h2
    cases hb : (M.tk s w == M.tk t w) with
    | true => simpa using hb
    | false => exact absurd ⟨w, h1, h2, by simpa using hb⟩ h
  · rintro h ⟨w, h1, h2, h3⟩
    exact h3 (h w h1 h2)
theorem apt_refl (r s : Nat) : M.apt r s s = false := apt_not.2 fun _ _ _ => rfl
theorem apt_symm {r s t : Nat} (h : M.apt r s t = false) : M.apt r t s = false := apt_not.2 fun w h1 h2 => (apt_not.1 h w h1 h2).symm
theorem apt_tran {r s t u : Nat} (h : M.apt r s t = false) (k : M.apt r t u = false) : M.apt r s u = false := apt_not.2 fun w h1 h2 => (apt_not.1 h w h1 h2).trans (apt_not.1 k w h1 h2)

/-- The least one that is not apart by so many signs. -/
def repR (M : Mach) (r s : Nat) : Nat := ((List.range M.n).find? fun t => !M.apt r t s).getD s
theorem find_range {p : Nat → Bool} : ∀ (n s : Nat), s < n → p s = true → ∃ t, (List.range n).find? p = some t ∧ t ≤ s ∧ p t = true ∧ ∀ q, q < t → p q = false := fun n s hs hp => by
  cases h : (List.range n).find? p with
  | none =>
    have := List.find?_eq_none.1 h s (List.mem_range.2 hs)
    rw [hp] at this
    exact absurd rfl this
  | some t =>
    rw [List.find?_range_eq_some] at h
    obtain ⟨h1, h2, h3⟩ := h
    have h3' : ∀ q, q < t → p q = false := fun q hq => by
      have := h3 q hq
      simpa using this
    refine ⟨t, rfl, ?_, h1, h3'⟩
    by_cases e : t ≤ s
    · exact e
    · have := h3' s (by omega)
      rw [hp] at this
      cases this
theorem rep_spec {r s : Nat} (hs : s < M.n) : repR M r s ≤ s ∧ M.apt r (repR M r s) s = false ∧ ∀ q, q < repR M r s → M.apt r q s = true := by
  obtain ⟨t, h1, h2, h3, h4⟩ := find_range (p := fun t => !M.apt r t s) M.n s hs (by simp [apt_refl])
  have e : repR M r s = t := by unfold repR; rw [h1]; rfl
  rw [e]
  exact ⟨h2, by simpa using h3, fun q hq => by simpa using h4 q hq⟩
theorem rep_eq {r s t : Nat} (hs : s < M.n) (ht : t < M.n) : repR M r s = repR M r t ↔ M.apt r s t = false := by
  obtain ⟨h1, h2, h3⟩ := rep_spec (r := r) hs
  obtain ⟨k1, k2, k3⟩ := rep_spec (r := r) ht
  constructor
  · intro e
    rw [← e] at k2
    exact apt_tran (apt_symm h2) k2
  · intro h
    have a1 : M.apt r (repR M r s) t = false := apt_tran h2 h
    have a2 : M.apt r (repR M r t) s = false := apt_tran k2 (apt_symm h)
    rcases Nat.lt_trichotomy (repR M r s) (repR M r t) with q | q | q
    · have := k3 _ q
      rw [a1] at this
      cases this
    · exact q
    · have := h3 _ q
      rw [a2] at this
      cases this
theorem rep_rep {r s : Nat} (hs : s < M.n) : repR M r (repR M r s) = repR M r s := by
  obtain ⟨h1, h2, h3⟩ := rep_spec (r := r) hs
  exact (rep_eq (by omega) hs).2 h2

/-- How many are the least of those that they are not apart from. -/
def cntR (M : Mach) (r : Nat) : Nat := (List.range M.n).countP fun s => decide (repR M r s = s)
theorem count_same {α : Type} {p q : α → Bool} : ∀ (l : List α), (∀ x ∈ l, p x = true → q x = true) → l.countP p = l.countP q → ∀ x ∈ l, q x = true → p x = true
  | [], _, _, x, hx, _ => by cases hx
  | y :: l, h, e, x, hx, hq => by
    have hle : l.countP p ≤ l.countP q := List.countP_mono_left (fun z hz => h z (List.mem_cons_of_mem _ hz))
    rw [List.countP_cons, List.countP_cons] at e
    have hy := h y (List.mem_cons_self ..)
    cases hpy : p y with
    | true =>
      rw [hpy, hy hpy] at e
      simp at e
      rcases List.mem_cons.1 hx with rfl | hx
      · exact hpy
      · exact count_same l (fun z hz => h z (List.mem_cons_of_mem _ hz)) e x hx hq
    | false =>
      cases hqy : q y with
      | true =>
        rw [hpy, hqy] at e
        simp at e
        omega
      | false =>
        rw [hpy, hqy] at e
        simp at e
        rcases List.mem_cons.1 hx with rfl | hx
        · rw [hqy] at hq; cases hq
        · exact count_same l (fun z hz => h z (List.mem_cons_of_mem _ hz)) e x hx hq
theorem rep_stays {r q s : Nat} (hrq : r ≤ q) (hs : s < M.n) (h : repR M r s = s) : repR M q s = s := by
  obtain ⟨h1, h2, h3⟩ := rep_spec (r := q) hs
  obtain ⟨k1, k2, k3⟩ := rep_spec (r := r) hs
  rw [h] at k3
  by_cases e : repR M q s = s
  · exact e
  · have := apt_more hrq (k3 (repR M q s) (by omega))
    rw [h2] at this
    cases this
theorem cnt_mono (r : Nat) : cntR M r ≤ cntR M (r + 1) := List.countP_mono_left (fun s hs h => by
  simp only [decide_eq_true_eq] at h ⊢
  exact rep_stays (Nat.le_succ r) (List.mem_range.1 hs) h)
/-- No more are told apart by a sign more. -/
def Stab (M : Mach) (r : Nat) : Prop := ∀ s t, s < M.n → t < M.n → M.apt r s t = false → M.apt (r + 1) s t = false
theorem stab_of {r : Nat} (h : cntR M r = cntR M (r + 1)) : Stab M r := fun s t hs ht he => by
  have key : ∀ u, u < M.n → repR M (r + 1) u = u → repR M r u = u := fun u hu h2 => by
    have := count_same (p := fun s => decide (repR M r s = s)) (q := fun s => decide (repR M (r + 1) s = s)) (List.range M.n) (fun z hz hp => by
      simp only [decide_eq_true_eq] at hp ⊢
      exact rep_stays (Nat.le_succ r) (List.mem_range.1 hz) hp) h u (List.mem_range.2 hu) (by simpa using h2)
    simpa using this
  obtain ⟨a1, a2, a3⟩ := rep_spec (r := r + 1) hs
  obtain ⟨b1, b2, b3⟩ := rep_spec (r := r + 1) ht
  have e1 := key _ (by omega) (rep_rep (r := r + 1) hs)
  have e2 := key _ (by omega) (rep_rep (r := r + 1) ht)
  have lo : ∀ x y, M.apt (r + 1) x y = false → M.apt r x y = false := fun x y h => by
    cases hb : M.apt r x y with
    | false => rfl
    | true =>
      have := apt_more (Nat.le_succ r) hb
      rw [h] at this
      cases this
  have hst : M.apt r (repR M (r + 1) s) (repR M (r + 1) t) = false := apt_tran (lo _ _ a2) (apt_tran he (apt_symm (lo _ _ b2)))
  have e3 := (rep_eq (r := r) (by omega) (by omega)).2 hst
  rw [e1, e2] at e3
  rw [e3] at a2
  exact apt_tran (apt_symm a2) b2
theorem stab_next (h : M.Ok) {r : Nat} (hr : Stab M r) : ∀ q s t, s < M.n → t < M.n → M.apt r s t = false → M.apt (r + q) s t = false
  | 0, s, t, _, _, e => e
  | q + 1, s, t, hs, ht, e => by
    have h1 := stab_next h hr q s t hs ht e
    have h2 := hr s t hs ht e
    show (M.apt (r + q) s t || (List.range M.k).any fun c => M.apt (r + q) (M.d s c) (M.d t c)) = false
    rw [h1, Bool.false_or, List.any_eq_false]
    intro c hc
    have hck := List.mem_range.1 hc
    unfold Mach.apt at h2
    rw [Bool.or_eq_false_iff, List.any_eq_false] at h2
    have h3 := h2.2 c hc
    have h4 : M.apt r (M.d s c) (M.d t c) = false := by simpa using h3
    rw [stab_next h hr q _ _ (h.cl s c hs hck) (h.cl t c ht hck) h4]
    simp
theorem cnt_up : ∀ r, (∃ q, q ≤ r ∧ Stab M q) ∨ cntR M 0 + r ≤ cntR M r
  | 0 => .inr (Nat.le_refl _)
  | r + 1 => by
    rcases cnt_up r with ⟨q, h1, h2⟩ | h
    · exact .inl ⟨q, by omega, h2⟩
    · by_cases e : cntR M r = cntR M (r + 1)
      · exact .inl ⟨r, by omega, stab_of e⟩
      · have := cnt_mono (M := M) r
        right; omega
theorem cnt_le (r : Nat) : cntR M r ≤ M.n := by
  have := List.countP_le_length (p := fun s => decide (repR M r s = s)) (l := List.range M.n)
  rw [List.length_range] at this
  exact this
theorem cnt_pos (h : 0 < M.n) (r : Nat) : 1 ≤ cntR M r := by
  refine List.countP_pos_iff.2 ⟨0, List.mem_range.2 h, ?_⟩
  have := (rep_spec (M := M) (r := r) h).1
  simp; omega
/-- What a word tells apart, one of no more signs than there are states does. -/
theorem apt_all (h : M.Ok) {s t : Nat} (hs : s < M.n) (ht : t < M.n) {w : List Nat} (hw : M.wd w) (hd : M.tk s w ≠ M.tk t w) : M.apt M.n s t = true := by
  rcases cnt_up (M := M) M.n with ⟨q, h1, h2⟩ | h1
  · cases hb : M.apt M.n s t with
    | true => rfl
    | false =>
      have hq : M.apt q s t = false := by
        cases hc : M.apt q s t with
        | false => rfl
        | true =>
          have := apt_more h1 hc
          rw [hb] at this
          cases this
      have := stab_next h h2 w.length s t hs ht hq
      exact absurd (apt_not.1 this w hw (by omega)) hd
  · have h2 := cnt_le (M := M) M.n
    have h3 := cnt_pos (M := M) h.ne 0
    omega
/-- Two that take the same words. -/
def alk (M : Mach) (s t : Nat) : Prop := ∀ w, M.wd w → M.tk s w = M.tk t w
theorem alk_iff (h : M.Ok) {s t : Nat} (hs : s < M.n) (ht : t < M.n) : M.apt M.n s t = false ↔ alk M s t := by
  constructor
  · intro e w hw
    cases hb : (M.tk s w == M.tk t w) with
    | true => simpa using hb
    | false =>
      have := apt_all h hs ht hw (by simpa using hb)
      rw [e] at this
      cases this
  · intro e
    exact apt_not.2 fun w h1 _ => e w h1
def rep (M : Mach) (s : Nat) : Nat := repR M M.n s
theorem rep_lt {s : Nat} (hs : s < M.n) : rep M s < M.n := by have := (rep_spec (M := M) (r := M.n) hs).1; unfold rep; omega
theorem rep_alk (h : M.Ok) {s : Nat} (hs : s < M.n) : alk M (rep M s) s := (alk_iff h (rep_lt hs) hs).1 (rep_spec (M := M) (r := M.n) hs).2.1
theorem rep_iff (h : M.Ok) {s t : Nat} (hs : s < M.n) (ht : t < M.n) : rep M s = rep M t ↔ alk M s t := (rep_eq hs ht).trans (alk_iff h hs ht)
theorem rep_id {s : Nat} (hs : s < M.n) : rep M (rep M s) = rep M s := rep_rep hs
theorem alk_step (h : M.Ok) {s t c : Nat} (hc : c < M.k) (e : alk M s t) : alk M (M.d s c) (M.d t c) := fun w hw => e (c :: w) (wd_cons.2 ⟨hc, hw⟩)
end
end Go.Proofs.YtklhjjgnhigbiaaGreatDoor
