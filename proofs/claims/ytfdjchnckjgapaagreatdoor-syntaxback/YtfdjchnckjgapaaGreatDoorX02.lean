/-
  Plain mathematics: what the program's own steps on ranges make (adding one behind others, going through a stretch), held against the one list of a set. Plain mathematics of lexing: what the units of a text are as tokens; no program is named here.
-/
import Derived.Test.YtfdjchnckjgapaaGreatDoorX01
import Derived.Test.YtfdjchnckjgapaaGreatDoorX00
namespace Go.Proofs.YtfdjchnckjgapaaGreatDoor
open Go.RowKit
set_option linter.unusedVariables false

/-- A range more, behind others none of which begins behind it. -/
def addL (out : List Rg) (r : Rg) : List Rg := match out.getLast? with
  | some s => if r.lo ≤ s.hi + 1 then out.dropLast ++ [⟨s.lo, max s.hi r.hi⟩] else out ++ [r]
  | none => out ++ [r]

theorem addL_nil (r : Rg) : addL [] r = [r] := rfl
theorem addL_join {ini : List Rg} {s r : Rg} (h : r.lo ≤ s.hi + 1) : addL (ini ++ [s]) r = ini ++ [⟨s.lo, max s.hi r.hi⟩] := by
  unfold addL
  rw [List.getLast?_concat]
  simp [h]
theorem addL_snoc {ini : List Rg} {s r : Rg} (h : ¬ r.lo ≤ s.hi + 1) : addL (ini ++ [s]) r = ini ++ [s] ++ [r] := by
  unfold addL
  rw [List.getLast?_concat]
  simp [h]
theorem withL_nil (lo hi : Int) : withL [] lo hi = [⟨lo, hi⟩] := rfl
theorem withL_join {ini : List Rg} {s : Rg} {lo hi : Int} (h : s.hi = lo - 1) : withL (ini ++ [s]) lo hi = ini ++ [⟨s.lo, hi⟩] := by
  unfold withL
  rw [List.getLast?_concat]
  simp [h]
theorem withL_snoc {ini : List Rg} {s : Rg} {lo hi : Int} (h : ¬ s.hi = lo - 1) : withL (ini ++ [s]) lo hi = ini ++ [s] ++ [⟨lo, hi⟩] := by
  unfold withL
  rw [List.getLast?_concat]
  simp [h]

theorem list_last {α : Type} (l : List α) : l = [] ∨ ∃ ini s, l = ini ++ [s] := by
  cases h : l.getLast? with
  | none => exact .inl (List.getLast?_eq_none_iff.1 h)
  | some s =>
    obtain ⟨ini, e⟩ := List.getLast?_eq_some_iff.1 h
    exact .inr ⟨ini, s, e⟩

theorem add_with {f : Int → Bool} {out : List Rg} {lo hi : Int} (h : Upto f out lo) (hl : lo ≤ hi) : addL out ⟨lo, hi⟩ = withL out lo hi := by
  rcases list_last out with rfl | ⟨ini, s, rfl⟩
  · rfl
  · have hs := h.hi s (by simp)
    by_cases q : s.hi = lo - 1
    · rw [withL_join q, addL_join (by show lo ≤ s.hi + 1; omega)]
      have : max s.hi hi = hi := Int.max_eq_right (by omega)
      show _ = _
      dsimp only
      rw [this]
    · rw [withL_snoc q, addL_snoc (by show ¬ lo ≤ s.hi + 1; omega)]

/-- What add has made of the ranges pre. -/
def Grown (pre out : List Rg) (b : Int) : Prop := NormFrom 0 out ∧ (∀ x, hasR out x = hasR pre x) ∧ (∀ s ∈ out, s.lo ≤ b)

theorem Grown.add {pre out : List Rg} {b : Int} (h : Grown pre out b) (r : Rg) (h0 : 0 ≤ r.lo) (hb : b ≤ r.lo) (hr : r.lo ≤ r.hi) : Grown (pre ++ [r]) (addL out r) r.lo := by
  obtain ⟨hn, hx, hs⟩ := h
  rcases list_last out with rfl | ⟨ini, s, rfl⟩
  · rw [addL_nil]
    refine ⟨⟨h0, hr, trivial⟩, fun x => ?_, fun s hs => ?_⟩
    · rw [hasR_append, ← hx x]; rfl
    · rw [List.mem_singleton.1 hs]; exact Int.le_refl _
  · have hla := hn.last
    have hsl : s.lo ≤ r.lo := by have := hs s (by simp); omega
    by_cases q : r.lo ≤ s.hi + 1
    · rw [addL_join q]
      have hm1 : s.hi ≤ max s.hi r.hi := Int.le_max_left _ _
      have hm2 : r.hi ≤ max s.hi r.hi := Int.le_max_right _ _
      have hm3 : max s.hi r.hi = s.hi ∨ max s.hi r.hi = r.hi := by rcases Int.le_total s.hi r.hi with z | z; exact .inr (Int.max_eq_right z); exact .inl (Int.max_eq_left z)
      refine ⟨NormFrom.snoc hn.front hla.1 (show s.lo ≤ max s.hi r.hi by have := hla.2.1; omega) hla.2.2, fun x => ?_, fun t ht => ?_⟩
      · rw [hasR_append pre, ← hx x, hasR_append, hasR_append, Bool.or_assoc]
        congr 1
        simp only [hasR, List.any_cons, List.any_nil, Bool.or_false]
        rw [Bool.eq_iff_iff]
        simp only [Bool.or_eq_true, decide_eq_true_eq]
        constructor
        · rintro ⟨z1, z2⟩
          by_cases z : x ≤ s.hi
          · exact .inl ⟨z1, z⟩
          · exact .inr ⟨by omega, by omega⟩
        · rintro (z | z)
          · exact ⟨z.1, by omega⟩
          · exact ⟨by omega, by omega⟩
      · rcases List.mem_append.1 ht with z | z
        · have := hs t (List.mem_append.2 (.inl z)); omega
        · rw [List.mem_singleton.1 z]; exact hsl
    · rw [addL_snoc q]
      refine ⟨NormFrom.snoc hn h0 hr (fun x z => ?_), fun x => ?_, fun t ht => ?_⟩
      · rw [hasR_append, Bool.or_eq_true] at z
        rcases z with z | z
        · have := hla.2.2 x z
          have := hla.2.1; omega
        · simp only [hasR, List.any_cons, List.any_nil, Bool.or_false, decide_eq_true_eq] at z
          omega
      · rw [hasR_append, hasR_append pre, hx x]
      · rcases List.mem_append.1 ht with z | z
        · have := hs t z; omega
        · rw [List.mem_singleton.1 z]; exact Int.le_refl _

/-- A set is told by its numbers. -/
theorem Grown.upto {pre out : List Rg} {b : Int} (h : Grown pre out b) (hf : Fits pre) : Upto (hasR pre) out 1114112 := by
  refine ⟨h.1, fun x => ?_⟩
  rw [h.2.1 x]
  cases q : hasR pre x with
  | false => exact (decide_eq_false (fun z => by cases z.2.2)).symm
  | true =>
    obtain ⟨r, hr, z1, z2⟩ := hasR_iff.1 q
    have := hf r hr
    exact (decide_eq_true ⟨by omega, by omega, rfl⟩).symm

theorem hasR_perm {a c : List Rg} (h : ∀ r, r ∈ a ↔ r ∈ c) (x : Int) : hasR a x = hasR c x := by
  rw [Bool.eq_iff_iff, hasR_iff, hasR_iff]
  constructor
  · rintro ⟨r, hr, z⟩; exact ⟨r, (h r).1 hr, z⟩
  · rintro ⟨r, hr, z⟩; exact ⟨r, (h r).2 hr, z⟩

theorem Upto.congr {f g : Int → Bool} {a : List Rg} {e : Int} (h : Upto f a e) (k : ∀ x, 0 ≤ x → x < e → f x = g x) : Upto g a e := by
  refine ⟨h.1, fun x => ?_⟩
  rw [h.2 x]
  apply decide_eq_decide.2
  constructor
  · rintro ⟨a, b, c⟩; exact ⟨a, b, by rw [← k x a b]; exact c⟩
  · rintro ⟨a, b, c⟩; exact ⟨a, b, by rw [k x a b]; exact c⟩
theorem Upto.fits {f : Int → Bool} {a : List Rg} (h : Upto f a 1114112) : Fits a := fun r hr => by
  have := h.hi r hr; omega
/-- A set is the set of its own numbers. -/
theorem Upto.self {f : Int → Bool} {a : List Rg} {e : Int} (h : Upto f a e) : Upto (hasR a) a e := by
  refine ⟨h.1, fun x => ?_⟩
  cases q : hasR a x with
  | false => exact (decide_eq_false (fun z => by cases z.2.2)).symm
  | true =>
    have := h.2 x
    rw [q] at this
    have := of_decide_eq_true this.symm
    exact (decide_eq_true ⟨this.1, this.2.1, rfl⟩).symm

theorem NormFrom.len : ∀ {l : List Rg} {b : Int}, NormFrom b l → ∀ (e : Int), b ≤ e → (∀ r ∈ l, r.hi < e) → 2 * (l.length : Int) ≤ e - b + 1
  | [], b, _, e, hb, _ => by simp; omega
  | r :: l, b, h, e, hb, he => by
    have h1 := h.1
    have h2 := h.2.1
    have h3 := he r (by simp)
    by_cases q : r.hi + 2 ≤ e
    · have := NormFrom.len h.2.2 e q (fun s hs => he s (by simp [hs]))
      simp only [List.length_cons]; omega
    · cases l with
      | nil => simp; omega
      | cons s l =>
        have := h.2.2.1
        have := h.2.2.2.1
        have := he s (by simp)
        omega
theorem Upto.len {f : Int → Bool} {a : List Rg} {e : Int} (h : Upto f a e) (h0 : 0 ≤ e) (he : e ≤ 1114112) : a.length ≤ 557056 := by
  have := h.1.len e h0 (fun r hr => (h.hi r hr).2.2)
  omega

/-- What is told of a list from low on: whether low is in it, and up to which number that stays so; rest has the numbers from low on. -/
structure Stretch (a : List Rg) (low : Int) (is : Bool) (high : Int) (rest : List Rg) : Prop where
  ge : low ≤ high
  le : high ≤ 1114111
  same : ∀ x, low ≤ x → x ≤ high → hasR a x = is
  left : ∀ x, low ≤ x → hasR rest x = hasR a x
  fits : NormFrom 0 rest ∧ ∀ r ∈ rest, r.hi ≤ 1114111

theorem hasR_drop {a : List Rg} {k : Nat} {low : Int} (h : ∀ r ∈ a.take k, r.hi < low) (x : Int) (hx : low ≤ x) : hasR (a.drop k) x = hasR a x := by
  conv => rhs; rw [← List.take_append_drop k a]
  rw [hasR_append]
  have : hasR (a.take k) x = false := by
    cases q : hasR (a.take k) x with
    | false => rfl
    | true =>
      obtain ⟨r, hr, z1, z2⟩ := hasR_iff.1 q
      have := h r hr; omega
  rw [this]; rfl

theorem NormFrom.drop : ∀ {a : List Rg} {b : Int} (k : Nat), NormFrom b a → NormFrom b (a.drop k)
  | a, b, 0, h => h
  | [], b, k + 1, h => trivial
  | r :: a, b, k + 1, h => by
    exact (NormFrom.drop k h.2.2).mono (by have := h.1; have := h.2.1; omega)

theorem below_norm {l : List Rg} {t x : Int} (hn : NormFrom t l) (hx : x < t) : hasR l x = false := by
  cases q : hasR l x with
  | false => rfl
  | true => have := NormFrom.ge hn q; omega

theorem stretch_none {a : List Rg} {k : Nat} {low : Int} (hlow : low ≤ 1114111) (h : ∀ r ∈ a.take k, r.hi < low) (hk : a.drop k = []) : Stretch a low false 1114111 [] := by
  refine ⟨hlow, Int.le_refl _, fun x h1 h2 => ?_, fun x h1 => ?_, trivial, fun r hr => by cases hr⟩
  · rw [← hasR_drop h x h1, hk]; rfl
  · rw [← hasR_drop h x h1, hk]
theorem stretch_out {a : List Rg} {k : Nat} {low : Int} {r : Rg} {t : List Rg} (hlow : low ≤ 1114111) (hn : NormFrom 0 a) (hf : ∀ r ∈ a, r.hi ≤ 1114111) (h : ∀ r ∈ a.take k, r.hi < low) (hk : a.drop k = r :: t) (hl : low < r.lo) : Stretch a low false (min (r.lo - 1) 1114111) (r :: t) := by
  have hnd := hn.drop k
  rw [hk] at hnd
  have hr : r.hi ≤ 1114111 := hf r (List.mem_of_mem_drop (i := k) (by rw [hk]; simp))
  have hm : min (r.lo - 1) 1114111 = r.lo - 1 := Int.min_eq_left (by have := hnd.2.1; omega)
  rw [hm]
  refine ⟨by omega, by have := hnd.2.1; omega, fun x h1 h2 => ?_, fun x h1 => ?_, hnd, fun s hs => hf s (List.mem_of_mem_drop (i := k) (by rw [hk]; exact hs))⟩
  · rw [← hasR_drop h x h1, hk]
    exact below_norm (t := r.lo) ⟨Int.le_refl _, hnd.2⟩ (by omega)
  · rw [← hasR_drop h x h1, hk]
theorem stretch_in {a : List Rg} {k : Nat} {low : Int} {r : Rg} {t : List Rg} (hlow : low ≤ 1114111) (hn : NormFrom 0 a) (hf : ∀ r ∈ a, r.hi ≤ 1114111) (h : ∀ r ∈ a.take k, r.hi < low) (hk : a.drop k = r :: t) (hl : ¬ low < r.lo) (hh : low ≤ r.hi) : Stretch a low true (min r.hi 1114111) (r :: t) := by
  have hnd := hn.drop k
  rw [hk] at hnd
  have hr : r.hi ≤ 1114111 := hf r (List.mem_of_mem_drop (i := k) (by rw [hk]; simp))
  have hm : min r.hi 1114111 = r.hi := Int.min_eq_left hr
  rw [hm]
  refine ⟨by omega, by omega, fun x h1 h2 => ?_, fun x h1 => ?_, hnd, fun s hs => hf s (List.mem_of_mem_drop (i := k) (by rw [hk]; exact hs))⟩
  · rw [← hasR_drop h x h1, hk, hasR_cons, decide_eq_true (by omega)]; rfl
  · rw [← hasR_drop h x h1, hk]

/-- One round of choose. -/
theorem choose_step {g : Bool → Bool → Bool} {a b ra rb out ra' rb' : List Rg} {low ha hb : Int} {ia ib : Bool} (h0 : 0 ≤ low) (hu : Upto (fun x => g (hasR a x) (hasR b x)) out low)
    (ea : ∀ x, low ≤ x → hasR ra x = hasR a x) (eb : ∀ x, low ≤ x → hasR rb x = hasR b x) (sa : Stretch ra low ia ha ra') (sb : Stretch rb low ib hb rb') :
    low ≤ min ha hb ∧ min ha hb ≤ 1114111 ∧ Upto (fun x => g (hasR a x) (hasR b x)) (if g ia ib = true then addL out ⟨low, min ha hb⟩ else out) (min ha hb + 1) := by
  have hl : low ≤ min ha hb := by have := sa.ge; have := sb.ge; exact Int.le_min.2 ⟨by omega, by omega⟩
  have hm1 : min ha hb ≤ ha := Int.min_le_left _ _
  have hm2 : min ha hb ≤ hb := Int.min_le_right _ _
  have hv : ∀ x, low ≤ x → x ≤ min ha hb → g (hasR a x) (hasR b x) = g ia ib := fun x h1 h2 => by
    rw [← ea x h1, ← eb x h1, sa.same x h1 (by omega), sb.same x h1 (by omega)]
  refine ⟨hl, by have := sa.le; omega, ?_⟩
  by_cases q : g ia ib = true
  · rw [if_pos q, add_with hu hl]
    exact hu.with h0 hl (fun x h1 h2 => by rw [hv x h1 h2]; exact q)
  · rw [if_neg q]
    exact hu.skip (by omega) (fun x h1 h2 => by rw [hv x h1 (by omega)]; simpa using q)

/-- The n-th number. -/
def nthL : List Rg → Int → Option Int
  | [], _ => none
  | r :: l, n => if n < r.hi - r.lo + 1 then some (r.lo + n) else nthL l (n - (r.hi - r.lo + 1))

theorem nthL_some : ∀ {l : List Rg} {b n : Int}, NormFrom b l → 0 ≤ n → ((nthL l n).isSome = true ↔ n < sumR l)
  | [], b, n, _, h0 => by simp [nthL, sumR]; omega
  | r :: l, b, n, h, h0 => by
    unfold nthL sumR
    have h2 := h.2.1
    by_cases q : n < r.hi - r.lo + 1
    · rw [if_pos q]
      have hs : 0 ≤ sumR l := by
        have key : ∀ {l : List Rg} {b : Int}, NormFrom b l → 0 ≤ sumR l := by
          intro l
          induction l with
          | nil => intro b _; exact Int.le_refl _
          | cons s l ih =>
            intro b k
            have := ih k.2.2
            have := k.2.1
            unfold sumR; omega
        exact key h.2.2
      simp; omega
    · rw [if_neg q, nthL_some h.2.2 (by omega)]
      omega
theorem nthL_has : ∀ {l : List Rg} {b n x : Int}, NormFrom b l → 0 ≤ n → nthL l n = some x → hasR l x = true
  | [], b, n, x, _, _, h => by cases h
  | r :: l, b, n, x, hn, h0, h => by
    unfold nthL at h
    by_cases q : n < r.hi - r.lo + 1
    · rw [if_pos q] at h
      cases h
      rw [hasR_cons, decide_eq_true (by omega)]; rfl
    · rw [if_neg q] at h
      rw [hasR_cons, nthL_has hn.2.2 (by omega) h]; simp
theorem nthL_lt : ∀ {l : List Rg} {b m n x y : Int}, NormFrom b l → 0 ≤ m → m < n → nthL l m = some y → nthL l n = some x → y < x
  | [], b, m, n, x, y, _, _, _, h, _ => by cases h
  | r :: l, b, m, n, x, y, hn, h0, hlt, h, k => by
    unfold nthL at h k
    by_cases q : n < r.hi - r.lo + 1
    · rw [if_pos q] at k
      rw [if_pos (by omega)] at h
      cases h; cases k; omega
    · rw [if_neg q] at k
      by_cases q2 : m < r.hi - r.lo + 1
      · rw [if_pos q2] at h
        cases h
        have := NormFrom.ge hn.2.2 (nthL_has hn.2.2 (by omega) k)
        omega
      · rw [if_neg q2] at h
        exact nthL_lt hn.2.2 (by omega) (by omega) h k
theorem nthL_at : ∀ {l : List Rg} {b : Int} (i : Nat) (h : i < l.length), NormFrom b l → nthL l (sumR (l.take i)) = some l[i].lo
  | r :: l, b, 0, h, hn => by
    have := hn.2.1
    unfold nthL
    rw [List.take_zero, sumR, if_pos (by omega)]
    simp
  | r :: l, b, i + 1, h, hn => by
    have h2 := hn.2.1
    have ih := nthL_at i (by simpa using h) hn.2.2
    have hs : 0 ≤ sumR (l.take i) := by
      have key : ∀ {l : List Rg} {b : Int}, NormFrom b l → 0 ≤ sumR l := by
        intro l
        induction l with
        | nil => intro b _; exact Int.le_refl _
        | cons s l ih =>
          intro b k
          have := ih k.2.2
          have := k.2.1
          unfold sumR; omega
      exact key (NormFrom.front (m := l.drop i) (b := r.hi + 2) (by rw [List.take_append_drop]; exact hn.2.2))
    unfold nthL
    rw [List.take_succ_cons, sumR, if_neg (by omega)]
    have e : r.hi - r.lo + 1 + sumR (l.take i) - (r.hi - r.lo + 1) = sumR (l.take i) := by omega
    rw [e, ih]
    simp

theorem sumR_append : ∀ (a c : List Rg), sumR (a ++ c) = sumR a + sumR c
  | [], c => by simp [sumR]
  | r :: a, c => by
    show (r.hi - r.lo + 1) + sumR (a ++ c) = (r.hi - r.lo + 1) + sumR a + sumR c
    rw [sumR_append a c]; omega
theorem cntI_le (f : Int → Bool) (lo : Int) : ∀ n, cntI f lo n ≤ n
  | 0 => Nat.le_refl _
  | n + 1 => by
    have := cntI_le f lo n
    show cntI f lo n + _ ≤ n + 1
    split <;> omega
theorem sumR_bound {f : Int → Bool} {a : List Rg} (h : Upto f a 1114112) (k : Nat) : 0 ≤ sumR (a.take k) ∧ sumR (a.take k) ≤ 1114112 := by
  have hn : NormFrom 0 (a.take k) := NormFrom.front (m := a.drop k) (by rw [List.take_append_drop]; exact h.1)
  have e := sum_cnt (n := 1114112) hn (fun r hr => by have := h.hi r (List.mem_of_mem_take hr); omega)
  have := cntI_le (hasR (a.take k)) 0 1114112
  omega

/-- The ranges of a set stand apart. -/
theorem NormFrom.apart : ∀ {l : List Rg} {b : Int} (i j : Nat) (hi : i < l.length) (hj : j < l.length), NormFrom b l → i < j → l[i].hi + 2 ≤ l[j].lo
  | r :: l, b, 0, j + 1, hi, hj, h, hlt => by
    have hj' : j < l.length := by simpa using hj
    have hm : l[j] ∈ l := List.getElem_mem _
    have := NormFrom.ge (x := l[j].lo) h.2.2 (hasR_iff.2 ⟨l[j], hm, Int.le_refl _, by
      have key : ∀ {l : List Rg} {b : Int}, NormFrom b l → ∀ s ∈ l, s.lo ≤ s.hi := by
        intro l
        induction l with
        | nil => intro b _ s hs; cases hs
        | cons t l ih =>
          intro b k s hs
          rcases List.mem_cons.1 hs with q | q
          · rw [q]; exact k.2.1
          · exact ih k.2.2 s q
      exact key h.2.2 _ hm⟩)
    simpa using this
  | r :: l, b, i + 1, j + 1, hi, hj, h, hlt => by
    have := NormFrom.apart i j (by simpa using hi) (by simpa using hj) h.2.2 (by omega)
    simpa using this
theorem NormFrom.ord : ∀ {l : List Rg} {b : Int}, NormFrom b l → ∀ s ∈ l, b ≤ s.lo ∧ s.lo ≤ s.hi
  | [], b, _, s, hs => by cases hs
  | t :: l, b, k, s, hs => by
    rcases List.mem_cons.1 hs with q | q
    · rw [q]; exact ⟨k.1, k.2.1⟩
    · have := NormFrom.ord k.2.2 s q
      have := k.1; have := k.2.1; omega
end Go.Proofs.YtfdjchnckjgapaaGreatDoor

namespace Go.Proofs.YtfdjchnckjgapaaGreatDoor
open Go.RowKit S1
set_option linter.unusedVariables false

/-- The rules for signs. -/
def isC (c : Int) (r : Int) : Bool := r == c
def nameB (r : Int) : Bool := decide (97 ≤ r) && decide (r ≤ 122)
def decB (r : Int) : Bool := decide (48 ≤ r) && decide (r ≤ 57)
def nameR (r : Int) : Bool := nameB r || decB r || r == 95
def figR (r : Int) : Bool := decB r || (decide (65 ≤ r) && decide (r ≤ 70))
def blankR (r : Int) : Bool := r == 32 || r == 9 || r == 13 || r == 10
def noteR (r : Int) : Bool := r != 10
def tokR (r : Int) : Bool := r == 61 || r == 59 || r == 47 || r == 124 || r == 42 || r == 43 || r == 63 || r == 40 || r == 41 || r == 46 || r == 126 || r == 38 || r == 45
def guardR (r : Int) : Bool := r == 91 || r == 93 || r == 45 || r == 92
def plainR (r : Int) : Bool := decide (32 ≤ r) && !guardR r

/-- A unit fits a rule: it is not bad, and its number fits. -/
def fitU (p : Int → Bool) (u : U) : Bool := !u.bad && p u.r

/-- The next sign, if it fits; and what is left. -/
def sgn (p : Int → Bool) : List U → Option Int × List U
  | [] => (none, [])
  | u :: t => if fitU p u = true then (some u.r, t) else (none, u :: t)

/-- What is left behind at most n figures, and these. -/
def figsD : Nat → List U → List U
  | 0, us => us
  | _ + 1, [] => []
  | n + 1, u :: t => if fitU figR u = true then figsD n t else u :: t
def figsL : Nat → List U → List Int
  | 0, _ => []
  | _ + 1, [] => []
  | n + 1, u :: t => if fitU figR u = true then u.r :: figsL n t else []

/-- What a figure tells; the number that figures are. -/
def figV (c : Int) : Int := if c ≤ 57 then c - 48 else c - 55
def hexV (l : List Int) : Int := l.foldl (fun n c => n * 16 + figV c) 0

def numL (us : List U) : Option Int × List U :=
  if (figsL 6 us).isEmpty = true then (none, us)
  else match sgn (isC 125) (figsD 6 us) with
    | (some _, r) => (some (hexV (figsL 6 us)), r)
    | (none, r) => (none, r)

def letL (us : List U) : Option Int × List U :=
  match sgn (isC 92) us with
  | (none, _) => sgn plainR us
  | (some _, a) => match sgn (isC 120) a with
    | (none, _) => sgn guardR a
    | (some _, b) => match sgn (isC 123) b with
      | (none, _) => (none, b)
      | (some _, c) => numL c

def entL (us : List U) : Option Rg × List U :=
  match letL us with
  | (none, r) => (none, r)
  | (some lo, r) => match sgn (isC 45) r with
    | (none, _) => (some ⟨lo, lo⟩, r)
    | (some _, a) => match letL a with
      | (none, b) => (none, b)
      | (some hi, b) => (some ⟨lo, hi⟩, b)

/-- Where the units begin, in a text of n bytes. -/
def atL (n : Nat) : List U → Nat
  | [] => n
  | u :: _ => u.p

/-- What stands there that does not fit: the end, or a sign. -/
def stuckE : List U → Int
  | [] => 7
  | _ :: _ => 6

/-- A set: an error and its place, or the entries and what is left. -/
abbrev SR := (Nat × Int) ⊕ (List Rg × List U)
abbrev SR.bad (a : Nat) (e : Int) : SR := Sum.inl (a, e)
abbrev SR.good (l : List Rg) (r : List U) : SR := Sum.inr (l, r)

/-- The set from behind its bracket on, with the entries that it has already. -/
def setF (n : Nat) : Nat → List U → List Rg → SR
  | 0, _, _ => SR.bad 0 0
  | k + 1, us, acc => match sgn (isC 93) us with
    | (some _, r) => SR.good acc r
    | (none, _) => match entL us with
      | (none, r) => SR.bad (atL n r) (stuckE r)
      | (some e, r) => if (decide (e.hi < e.lo) || decide (1114111 < e.hi)) = true then SR.bad (atL n us) 1 else setF n k r (acc ++ [e])

/-- What is left behind blanks and notes; b: within a note. -/
def blankL : Bool → List U → List U
  | _, [] => []
  | true, u :: t => if u.bad = true then u :: t else if u.r = 10 then blankL false t else blankL true t
  | false, u :: t => if u.bad = true then u :: t else if u.r = 35 then blankL true t else if blankR u.r = true then blankL false t else u :: t

structure Tok where
  k : Int
  p : Nat
  t : List Int
  s : List Rg

/-- A token: an error and its place, or the token and what is left. -/
abbrev OR := (Nat × Int) ⊕ (Tok × List U)
abbrev OR.bad (a : Nat) (e : Int) : OR := Sum.inl (a, e)
abbrev OR.good (t : Tok) (r : List U) : OR := Sum.inr (t, r)

def ofSet (p : Nat) : SR → OR
  | .inl (a, e) => OR.bad a e
  | .inr (l, r) => OR.good ⟨3, p, [], l⟩ r

/-- The token with which the units begin. -/
def tokO (n : Nat) : List U → OR
  | [] => OR.good ⟨4, n, [], []⟩ []
  | u :: t => if fitU nameB u = true then OR.good ⟨1, u.p, u.r :: (t.takeWhile (fitU nameR)).map U.r, []⟩ (t.dropWhile (fitU nameR))
    else if fitU tokR u = true then OR.good ⟨2, u.p, [u.r], []⟩ t
    else if fitU (isC 91) u = true then ofSet u.p (setF n (t.length + 1) t [])
    else OR.bad u.p 6

/-- Tokens: an error and its place, or all of them. -/
abbrev TR := (Nat × Int) ⊕ List Tok
abbrev TR.bad (a : Nat) (e : Int) : TR := Sum.inl (a, e)
abbrev TR.good (l : List Tok) : TR := Sum.inr l

def toksF (n : Nat) : Nat → List U → List Tok → TR
  | 0, _, _ => TR.bad 0 0
  | k + 1, us, acc => match tokO n (blankL false us) with
    | .inl (a, e) => TR.bad a e
    | .inr (t, r) => if t.k = 4 then TR.good (acc ++ [t]) else toksF n k r (acc ++ [t])

/-- The tokens of the units of a text of n bytes. -/
def toksL (n : Nat) (us : List U) : TR := toksF n (us.length + 1) us []

theorem sgn_cons (p : Int → Bool) (u : U) (t : List U) : sgn p (u :: t) = if fitU p u = true then (some u.r, t) else (none, u :: t) := rfl
theorem sgn_some {p : Int → Bool} {us r : List U} {x : Int} (h : sgn p us = (some x, r)) : ∃ u, us = u :: r ∧ fitU p u = true ∧ u.r = x := by
  match us with
  | [] => simp [sgn] at h
  | u :: t =>
    rw [sgn_cons] at h
    split at h
    · rename_i q
      simp only [Prod.mk.injEq, Option.some.injEq] at h
      exact ⟨u, by rw [h.2], q, h.1⟩
    · simp at h
theorem sgn_none {p : Int → Bool} {us r : List U} (h : sgn p us = (none, r)) : r = us ∧ (us = [] ∨ ∃ u t, us = u :: t ∧ fitU p u = false) := by
  match us with
  | [] => simp [sgn] at h; exact ⟨h.symm ▸ rfl, .inl rfl⟩
  | u :: t =>
    rw [sgn_cons] at h
    split at h
    · simp at h
    · rename_i q
      simp only [Prod.mk.injEq, true_and] at h
      exact ⟨h.symm, .inr ⟨u, t, rfl, by simpa using q⟩⟩
theorem sgn_len {p : Int → Bool} {us r : List U} {x : Int} (h : sgn p us = (some x, r)) : r.length + 1 = us.length := by
  obtain ⟨u, rfl, _⟩ := sgn_some h; rfl

theorem figsD_le : ∀ (n : Nat) (us : List U), (figsD n us).length ≤ us.length
  | 0, us => Nat.le_refl _
  | n + 1, [] => Nat.le_refl _
  | n + 1, u :: t => by
    unfold figsD
    split
    · have := figsD_le n t; simp only [List.length_cons]; omega
    · exact Nat.le_refl _

theorem numL_len {us r : List U} {x : Int} (h : numL us = (some x, r)) : r.length < us.length := by
  unfold numL at h
  split at h
  · simp at h
  · split at h
    · rename_i a b c
      have h2 := sgn_len c
      simp only [Prod.mk.injEq] at h
      have := figsD_le 6 us
      rw [← h.2]; omega
    · simp at h
theorem letL_len {us r : List U} {x : Int} (h : letL us = (some x, r)) : r.length < us.length := by
  unfold letL at h
  split at h
  · have := sgn_len h; omega
  · rename_i a c
    have h1 := sgn_len c
    split at h
    · have := sgn_len h; omega
    · rename_i a2 c2
      have h2 := sgn_len c2
      split at h
      · simp at h
      · rename_i a3 c3
        have h3 := sgn_len c3
        have := numL_len h
        omega
theorem entL_len {us r : List U} {x : Rg} (h : entL us = (some x, r)) : r.length < us.length := by
  unfold entL at h
  split at h
  · simp at h
  · rename_i lo a c
    have h1 := letL_len c
    split at h
    · simp only [Prod.mk.injEq] at h
      rw [← h.2]; exact h1
    · rename_i a2 c2
      have h2 := sgn_len c2
      split at h
      · simp at h
      · rename_i hi b c3
        have h3 := letL_len c3
        simp only [Prod.mk.injEq] at h
        rw [← h.2]; omega

/-- One round of a set. -/
theorem setF_end {n k : Nat} {us r : List U} {x : Int} {acc : List Rg} (h : sgn (isC 93) us = (some x, r)) : setF n (k + 1) us acc = SR.good acc r := by
  unfold setF; rw [h]
theorem setF_stuck {n k : Nat} {us r s : List U} {acc : List Rg} (h : sgn (isC 93) us = (none, s)) (h2 : entL us = (none, r)) : setF n (k + 1) us acc = SR.bad (atL n r) (stuckE r) := by
  unfold setF; rw [h]; simp only; rw [h2]
theorem setF_arg {n k : Nat} {us r s : List U} {acc : List Rg} {e : Rg} (h : sgn (isC 93) us = (none, s)) (h2 : entL us = (some e, r)) (h3 : (decide (e.hi < e.lo) || decide (1114111 < e.hi)) = true) : setF n (k + 1) us acc = SR.bad (atL n us) 1 := by
  unfold setF; rw [h]; simp only; rw [h2]; simp only; rw [if_pos h3]
theorem setF_on {n k : Nat} {us r s : List U} {acc : List Rg} {e : Rg} (h : sgn (isC 93) us = (none, s)) (h2 : entL us = (some e, r)) (h3 : (decide (e.hi < e.lo) || decide (1114111 < e.hi)) = false) : setF n (k + 1) us acc = setF n k r (acc ++ [e]) := by
  rw [setF]; rw [h]; simp only; rw [h2]; simp only; rw [h3]; simp

theorem setF_len {n : Nat} : ∀ {k : Nat} {us r : List U} {acc l : List Rg}, setF n k us acc = SR.good l r → r.length < us.length
  | 0, us, r, acc, l, h => by cases h
  | k + 1, us, r, acc, l, h => by
    cases h1 : sgn (isC 93) us with
    | mk o s => cases o with
      | some x => rw [setF_end h1] at h; obtain ⟨e1, e2⟩ := Prod.mk.inj (Sum.inr.inj h); have := sgn_len h1; rw [← e2]; omega
      | none => cases h2 : entL us with
        | mk o2 r2 => cases o2 with
          | none => rw [setF_stuck h1 h2] at h; cases h
          | some e =>
            cases h3 : (decide (e.hi < e.lo) || decide (1114111 < e.hi)) with
            | true => rw [setF_arg h1 h2 h3] at h; cases h
            | false => rw [setF_on h1 h2 h3] at h; have := setF_len h; have := entL_len h2; omega

theorem blankL_le : ∀ (b : Bool) (us : List U), (blankL b us).length ≤ us.length
  | _, [] => by simp [blankL]
  | true, u :: t => by
    unfold blankL
    have h1 := blankL_le true t
    have h2 := blankL_le false t
    repeat' split
    all_goals simp only [List.length_cons]
    all_goals omega
  | false, u :: t => by
    unfold blankL
    have h1 := blankL_le true t
    have h2 := blankL_le false t
    repeat' split
    all_goals simp only [List.length_cons]
    all_goals omega

theorem dropWhile_le (p : U → Bool) : ∀ (l : List U), (l.dropWhile p).length ≤ l.length
  | [] => by simp
  | u :: t => by
    simp only [List.dropWhile_cons]
    have := dropWhile_le p t
    split
    · simp only [List.length_cons]; omega
    · exact Nat.le_refl _

theorem tokO_cons (n : Nat) (u : U) (t : List U) : tokO n (u :: t) = if fitU nameB u = true then OR.good ⟨1, u.p, u.r :: (t.takeWhile (fitU nameR)).map U.r, []⟩ (t.dropWhile (fitU nameR))
    else if fitU tokR u = true then OR.good ⟨2, u.p, [u.r], []⟩ t
    else if fitU (isC 91) u = true then ofSet u.p (setF n (t.length + 1) t [])
    else OR.bad u.p 6 := rfl
theorem tokO_len {n : Nat} {us r : List U} {t : Tok} (h : tokO n us = OR.good t r) : (t.k = 4 ∧ us = [] ∧ t = ⟨4, n, [], []⟩) ∨ (t.k ≠ 4 ∧ r.length < us.length) := by
  match us with
  | [] =>
    left
    have h' : OR.good ⟨4, n, [], []⟩ [] = OR.good t r := h
    obtain ⟨e1, e2⟩ := Prod.mk.inj (Sum.inr.inj h')
    exact ⟨by rw [← e1], rfl, e1.symm⟩
  | u :: t' =>
    right
    rw [tokO_cons] at h
    split at h
    · obtain ⟨e1, e2⟩ := Prod.mk.inj (Sum.inr.inj h)
      refine ⟨by rw [← e1]; exact (by decide : (1 : Int) ≠ 4), ?_⟩
      rw [← e2]
      have := dropWhile_le (fitU nameR) t'
      simp only [List.length_cons]; omega
    · split at h
      · obtain ⟨e1, e2⟩ := Prod.mk.inj (Sum.inr.inj h)
        exact ⟨by rw [← e1]; exact (by decide : (2 : Int) ≠ 4), by rw [← e2]; simp⟩
      · split at h
        · cases h1 : setF n (t'.length + 1) t' [] with
          | inl x => rw [h1] at h; cases h
          | inr x =>
            obtain ⟨l, s⟩ := x
            rw [h1] at h
            have h := Prod.mk.inj (Sum.inr.inj h)
            have := setF_len h1
            exact ⟨by rw [← h.1]; exact (by decide : (3 : Int) ≠ 4), by rw [← h.2]; simp only [List.length_cons]; omega⟩
        · cases h

theorem toksF_bad {n k : Nat} {us : List U} {acc : List Tok} {a : Nat} {e : Int} (h : tokO n (blankL false us) = OR.bad a e) : toksF n (k + 1) us acc = TR.bad a e := by
  unfold toksF; rw [h]
theorem toksF_end {n k : Nat} {us r : List U} {acc : List Tok} {t : Tok} (h : tokO n (blankL false us) = OR.good t r) (h4 : t.k = 4) : toksF n (k + 1) us acc = TR.good (acc ++ [t]) := by
  unfold toksF; rw [h]; simp only; rw [if_pos h4]
theorem toksF_on {n k : Nat} {us r : List U} {acc : List Tok} {t : Tok} (h : tokO n (blankL false us) = OR.good t r) (h4 : t.k ≠ 4) : toksF n (k + 1) us acc = toksF n k r (acc ++ [t]) := by
  rw [toksF]; rw [h]; simp only; rw [if_neg h4]

/-- A unit of one byte: what is below 128, and not bad, is its byte. -/
theorem unit_ascii {zs : List Int} {p : Nat} (hp : p < zs.length) {u : U} (hu : u = unitAt zs p) (hb : u.bad = false) (hr : u.r < 128) : u.w = 1 ∧ u.p = p ∧ zs[p]? = some u.r := by
  have hl : 1 ≤ (zs.drop p).length := by rw [List.length_drop]; omega
  have e := unD_good hl (show (unD (zs.drop p)).bad = false by rw [hu] at hb; exact hb)
  have er : (unD (zs.drop p)).r = u.r := by rw [hu]; rfl
  have ew : (unD (zs.drop p)).w = u.w := by rw [hu]; rfl
  rw [er, ew] at e
  have e1 : encR u.r = [u.r] := by unfold encR; rw [if_pos hr]
  rw [e1] at e
  have hw : u.w = 1 := by
    have h5 := congrArg List.length e.2.1
    have h6 := e.2.2
    rw [List.length_take, List.length_singleton] at h5
    omega
  refine ⟨hw, by rw [hu]; rfl, ?_⟩
  have e2 := e.2.1
  rw [hw, List.drop_eq_getElem_cons hp, List.take_succ_cons] at e2
  injection e2 with e3 e4
  rw [List.getElem?_eq_getElem hp, e3]

theorem run_bad {zs : List Int} : ∀ {us : List U} {p q : Nat}, Run zs p us q → ∀ u ∈ us, u.bad = true → u.r = 65533
  | [], _, _, _, u, h, _ => by cases h
  | v :: us, p, q, hr, u, h, hb => by
    rcases List.mem_cons.1 h with e | e
    · rw [e, hr.2.1] at hb ⊢
      exact (unD_bad hb).1
    · exact run_bad hr.2.2 u e hb
theorem run_range {zs : List Int} : ∀ {us : List U} {p q : Nat}, Run zs p us q → ∀ u ∈ us, 0 ≤ u.r ∧ u.r ≤ 1114111
  | [], _, _, _, u, h => by cases h
  | v :: us, p, q, hr, u, h => by
    rcases List.mem_cons.1 h with e | e
    · rw [e, hr.2.1]; exact unitAt_r hr.1
    · exact run_range hr.2.2 u e
theorem run_at {zs : List Int} {us : List U} {p : Nat} (h : Run zs p us zs.length) : atL zs.length us = p := by
  match us, h with
  | [], h => exact (show p = zs.length from h).symm
  | u :: t, h => show u.p = p; rw [h.2.1]; rfl

/-- Signs of one byte each, taken off the units: their bytes. -/
theorem run_take {zs : List Int} : ∀ {a b : List U} {p q : Nat}, Run zs p (a ++ b) q → (∀ u ∈ a, u.bad = false ∧ u.r < 128) → Run zs (p + a.length) b q ∧ (zs.drop p).take a.length = a.map U.r ∧ p + a.length ≤ zs.length ∨ a = [] ∧ Run zs p b q
  | [], b, p, q, h, _ => .inr ⟨rfl, h⟩
  | u :: a, b, p, q, h, ha => by
    left
    have hu := ha u (by simp)
    obtain ⟨hw, hp, hz⟩ := unit_ascii h.1 h.2.1 hu.1 hu.2
    have h2 : Run zs (p + 1) (a ++ b) q := by have := h.2.2; rw [hw] at this; exact this
    obtain ⟨hlt, hzv⟩ := List.getElem?_eq_some_iff.1 hz
    rcases run_take h2 (fun v hv => ha v (by simp [hv])) with ⟨h3, h4, h5⟩ | ⟨rfl, h3⟩
    · refine ⟨by simp only [List.length_cons]; rw [show p + (a.length + 1) = p + 1 + a.length by omega]; exact h3, ?_, by simp only [List.length_cons]; omega⟩
      rw [List.drop_eq_getElem_cons hlt, List.length_cons, List.take_succ_cons, h4, hzv]
      rfl
    · refine ⟨by simpa using h3, ?_, by simp only [List.length_cons, List.length_nil]; omega⟩
      rw [List.drop_eq_getElem_cons hlt, hzv]
      simp
end Go.Proofs.YtfdjchnckjgapaaGreatDoor
