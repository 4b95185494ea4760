/-
  RMath Mem
-/
import Derived.Test.YtfdjchnckjgapaaGreatDoorX03
import Derived.Test.YtfdjchnckjgapaaGreatDoorRows
import Derived.WalkKit
import Derived.WalkSpells
import Derived.OwnWalk
import Derived.Outline
import Derived.Maps.AppendAt
import Derived.Deep.RegionHeld3
import Derived.Deep.AppendLies
import Derived.Laws.Rows
import Derived.Laws.AppendOwnNone
import Derived.RangeFuncBox
import Derived.Deep.QuietTactic
namespace Go.Proofs.YtfdjchnckjgapaaGreatDoor
open Go.RowKit
set_option linter.unusedVariables false
def addL (out : List Rg) (r : Rg) : List Rg := match out.getLast? with
  | some s => if r.lo ≤ s.hi + 1 then out.dropLast ++ [⟨s.lo, max s.hi r.hi⟩] else out ++ [r]
  | none => out ++ [r]
theorem addL_nil (r : Rg) : addL [] r = [r] := rfl
theorem addL_join {ini : List Rg} {s r : Rg} (h : r.lo ≤ s.hi + 1) : addL (ini ++ [s]) r = ini ++ [⟨s.lo, max s.hi r.hi⟩] := by
  unfold addL
  rw [List.getLast?_concat]
  simp [h]
theorem addL_snoc {ini : List Rg} {s r : Rg} (h : ¬ r.lo ≤ s.hi + 1) : addL (ini ++ [s]) r = ini ++ [s] ++ [r] := by
  unfold addL
  rw [List.getLast?_concat]
  simp [h]
theorem withL_join {ini : List Rg} {s : Rg} {lo hi : Int} (h : s.hi = lo - 1) : withL (ini ++ [s]) lo hi = ini ++ [⟨s.lo, hi⟩] := by
  unfold withL
  rw [List.getLast?_concat]
  simp [h]
theorem withL_snoc {ini : List Rg} {s : Rg} {lo hi : Int} (h : ¬ s.hi = lo - 1) : withL (ini ++ [s]) lo hi = ini ++ [s] ++ [⟨lo, hi⟩] := by
  unfold withL
  rw [List.getLast?_concat]
  simp [h]
theorem list_last {α : Type} (l : List α) : l = [] ∨ ∃ ini s, l = ini ++ [s] := by
  cases h : l.getLast? with
  | none => exact .inl (List.getLast?_eq_none_iff.1 h)
  | some s =>
    obtain ⟨ini, e⟩ := List.getLast?_eq_some_iff.1 h
    exact .inr ⟨ini, s, e⟩
theorem add_with {f : Int → Bool} {out : List Rg} {lo hi : Int} (h : Upto f out lo) (hl : lo ≤ hi) : addL out ⟨lo, hi⟩ = withL out lo hi := by
  rcases list_last out with rfl | ⟨ini, s, rfl⟩
  · rfl
  · have hs := h.hi s (by simp)
    by_cases q : s.hi = lo - 1
    · rw [withL_join q, addL_join (by show lo ≤ s.hi + 1; omega)]
      have : max s.hi hi = hi := Int.max_eq_right (by omega)
      show _ = _
      dsimp only
      rw [this]
    · rw [withL_snoc q, addL_snoc (by show ¬ lo ≤ s.hi + 1; omega)]
def Grown (pre out : List Rg) (b : Int) : Prop := NormFrom 0 out ∧ (∀ x, hasR out x = hasR pre x) ∧ (∀ s ∈ out, s.lo ≤ b)
theorem Grown.add {pre out : List Rg} {b : Int} (h : Grown pre out b) (r : Rg) (h0 : 0 ≤ r.lo) (hb : b ≤ r.lo) (hr : r.lo ≤ r.hi) : Grown (pre ++ [r]) (addL out r) r.lo := by
  obtain ⟨hn, hx, hs⟩ := h
  rcases list_last out with rfl | ⟨ini, s, rfl⟩
  · rw [addL_nil]
    refine ⟨⟨h0, hr, trivial⟩, fun x => ?_, fun s hs => ?_⟩
    · rw [hasR_append, ← hx x]; rfl
    · rw [List.mem_singleton.1 hs]; exact Int.le_refl _
  · have hla := hn.last
    have hsl : s.lo ≤ r.lo := by have := hs s (by simp); omega
    by_cases q : r.lo ≤ s.hi + 1
    · rw [addL_join q]
      have hm1 : s.hi ≤ max s.hi r.hi := Int.le_max_left _ _
      have hm2 : r.hi ≤ max s.hi r.hi := Int.le_max_right _ _
      have hm3 : max s.hi r.hi = s.hi ∨ max s.hi r.hi = r.hi := by rcases Int.le_total s.hi r.hi with z | z; exact .inr (Int.max_eq_right z); exact .inl (Int.max_eq_left z)
      refine ⟨NormFrom.snoc hn.front hla.1 (show s.lo ≤ max s.hi r.hi by have := hla.2.1; omega) hla.2.2, fun x => ?_, fun t ht => ?_⟩
      · rw [hasR_append pre, ← hx x, hasR_append, hasR_append, Bool.or_assoc]
        congr 1
        simp only [hasR, List.any_cons, List.any_nil, Bool.or_false]
        rw [Bool.eq_iff_iff]
        simp only [Bool.or_eq_true, decide_eq_true_eq]
        constructor
        · rintro ⟨z1, z2⟩
          by_cases z : x ≤ s.hi
          · exact .inl ⟨z1, z⟩
          · exact .inr ⟨by omega, by omega⟩
        · rintro (z | z)
          · exact ⟨z.1, by omega⟩
          · exact ⟨by omega, by omega⟩
      · rcases List.mem_append.1 ht with z | z
        · have := hs t (List.mem_append.2 (.inl z)); omega
        · rw [List.mem_singleton.1 z]; exact hsl
    · rw [addL_snoc q]
      refine ⟨NormFrom.snoc hn h0 hr (fun x z => ?_), fun x => ?_, fun t ht => ?_⟩
      · rw [hasR_append, Bool.or_eq_true] at z
        rcases z with z | z
        · have := hla.2.2 x z
          have := hla.2.1; omega
        · simp only [hasR, List.any_cons, List.any_nil, Bool.or_false, decide_eq_true_eq] at z
          omega
      · rw [hasR_append, hasR_append pre, hx x]
      · rcases List.mem_append.1 ht with z | z
        · have := hs t z; omega
        · rw [List.mem_singleton.1 z]; exact Int.le_refl _
theorem Grown.upto {pre out : List Rg} {b : Int} (h : Grown pre out b) (hf : Fits pre) : Upto (hasR pre) out 1114112 := by
  refine ⟨h.1, fun x => ?_⟩
  rw [h.2.1 x]
  cases q : hasR pre x with
  | false => exact (decide_eq_false (fun z => by cases z.2.2)).symm
  | true =>
    obtain ⟨r, hr, z1, z2⟩ := hasR_iff.1 q
    have := hf r hr
    exact (decide_eq_true ⟨by omega, by omega, rfl⟩).symm
theorem hasR_perm {a c : List Rg} (h : ∀ r, r ∈ a ↔ r ∈ c) (x : Int) : hasR a x = hasR c x := by
  rw [Bool.eq_iff_iff, hasR_iff, hasR_iff]
  constructor
  · rintro ⟨r, hr, z⟩; exact ⟨r, (h r).1 hr, z⟩
  · rintro ⟨r, hr, z⟩; exact ⟨r, (h r).2 hr, z⟩
theorem Upto.congr {f g : Int → Bool} {a : List Rg} {e : Int} (h : Upto f a e) (k : ∀ x, 0 ≤ x → x < e → f x = g x) : Upto g a e := by
  refine ⟨h.1, fun x => ?_⟩
  rw [h.2 x]
  apply decide_eq_decide.2
  constructor
  · rintro ⟨a, b, c⟩; exact ⟨a, b, by rw [← k x a b]; exact c⟩
  · rintro ⟨a, b, c⟩; exact ⟨a, b, by rw [k x a b]; exact c⟩
theorem NormFrom.len : ∀ {l : List Rg} {b : Int}, NormFrom b l → ∀ (e : Int), b ≤ e → (∀ r ∈ l, r.hi < e) → 2 * (l.length : Int) ≤ e - b + 1
  | [], b, _, e, hb, _ => by simp; omega
  | r :: l, b, h, e, hb, he => by
    have h1 := h.1
    have h2 := h.2.1
    have h3 := he r (by simp)
    by_cases q : r.hi + 2 ≤ e
    · have := NormFrom.len h.2.2 e q (fun s hs => he s (by simp [hs]))
      simp only [List.length_cons]; omega
    · cases l with
      | nil => simp; omega
      | cons s l =>
        have := h.2.2.1
        have := h.2.2.2.1
        have := he s (by simp)
        omega
theorem Upto.len {f : Int → Bool} {a : List Rg} {e : Int} (h : Upto f a e) (h0 : 0 ≤ e) (he : e ≤ 1114112) : a.length ≤ 557056 := by
  have := h.1.len e h0 (fun r hr => (h.hi r hr).2.2)
  omega
structure Stretch (a : List Rg) (low : Int) (is : Bool) (high : Int) (rest : List Rg) : Prop where
  ge : low ≤ high
  le : high ≤ 1114111
  same : ∀ x, low ≤ x → x ≤ high → hasR a x = is
  left : ∀ x, low ≤ x → hasR rest x = hasR a x
  fits : NormFrom 0 rest ∧ ∀ r ∈ rest, r.hi ≤ 1114111
theorem hasR_drop {a : List Rg} {k : Nat} {low : Int} (h : ∀ r ∈ a.take k, r.hi < low) (x : Int) (hx : low ≤ x) : hasR (a.drop k) x = hasR a x := by
  conv => rhs; rw [← List.take_append_drop k a]
  rw [hasR_append]
  have : hasR (a.take k) x = false := by
    cases q : hasR (a.take k) x with
    | false => rfl
    | true =>
      obtain ⟨r, hr, z1, z2⟩ := hasR_iff.1 q
      have := h r hr; omega
  rw [this]; rfl
theorem NormFrom.drop : ∀ {a : List Rg} {b : Int} (k : Nat), NormFrom b a → NormFrom b (a.drop k)
  | a, b, 0, h => h
  | [], b, k + 1, h => trivial
  | r :: a, b, k + 1, h => by
    exact (NormFrom.drop k h.2.2).mono (by have := h.1; have := h.2.1; omega)
theorem below_norm {l : List Rg} {t x : Int} (hn : NormFrom t l) (hx : x < t) : hasR l x = false := by
  cases q : hasR l x with
  | false => rfl
  | true => have := NormFrom.ge hn q; omega
theorem stretch_none {a : List Rg} {k : Nat} {low : Int} (hlow : low ≤ 1114111) (h : ∀ r ∈ a.take k, r.hi < low) (hk : a.drop k = []) : Stretch a low false 1114111 [] := by
  refine ⟨hlow, Int.le_refl _, fun x h1 h2 => ?_, fun x h1 => ?_, trivial, fun r hr => by cases hr⟩
  · rw [← hasR_drop h x h1, hk]; rfl
  · rw [← hasR_drop h x h1, hk]
theorem stretch_out {a : List Rg} {k : Nat} {low : Int} {r : Rg} {t : List Rg} (hlow : low ≤ 1114111) (hn : NormFrom 0 a) (hf : ∀ r ∈ a, r.hi ≤ 1114111) (h : ∀ r ∈ a.take k, r.hi < low) (hk : a.drop k = r :: t) (hl : low < r.lo) : Stretch a low false (min (r.lo - 1) 1114111) (r :: t) := by
  have hnd := hn.drop k
  rw [hk] at hnd
  have hr : r.hi ≤ 1114111 := hf r (List.mem_of_mem_drop (i := k) (by rw [hk]; simp))
  have hm : min (r.lo - 1) 1114111 = r.lo - 1 := Int.min_eq_left (by have := hnd.2.1; omega)
  rw [hm]
  refine ⟨by omega, by have := hnd.2.1; omega, fun x h1 h2 => ?_, fun x h1 => ?_, hnd, fun s hs => hf s (List.mem_of_mem_drop (i := k) (by rw [hk]; exact hs))⟩
  · rw [← hasR_drop h x h1, hk]
    exact below_norm (t := r.lo) ⟨Int.le_refl _, hnd.2⟩ (by omega)
  · rw [← hasR_drop h x h1, hk]
theorem stretch_in {a : List Rg} {k : Nat} {low : Int} {r : Rg} {t : List Rg} (hlow : low ≤ 1114111) (hn : NormFrom 0 a) (hf : ∀ r ∈ a, r.hi ≤ 1114111) (h : ∀ r ∈ a.take k, r.hi < low) (hk : a.drop k = r :: t) (hl : ¬ low < r.lo) (hh : low ≤ r.hi) : Stretch a low true (min r.hi 1114111) (r :: t) := by
  have hnd := hn.drop k
  rw [hk] at hnd
  have hr : r.hi ≤ 1114111 := hf r (List.mem_of_mem_drop (i := k) (by rw [hk]; simp))
  have hm : min r.hi 1114111 = r.hi := Int.min_eq_left hr
  rw [hm]
  refine ⟨by omega, by omega, fun x h1 h2 => ?_, fun x h1 => ?_, hnd, fun s hs => hf s (List.mem_of_mem_drop (i := k) (by rw [hk]; exact hs))⟩
  · rw [← hasR_drop h x h1, hk, hasR_cons, decide_eq_true (by omega)]; rfl
  · rw [← hasR_drop h x h1, hk]
theorem choose_step {g : Bool → Bool → Bool} {a b ra rb out ra' rb' : List Rg} {low ha hb : Int} {ia ib : Bool} (h0 : 0 ≤ low) (hu : Upto (fun x => g (hasR a x) (hasR b x)) out low)
    (ea : ∀ x, low ≤ x → hasR ra x = hasR a x) (eb : ∀ x, low ≤ x → hasR rb x = hasR b x) (sa : Stretch ra low ia ha ra') (sb : Stretch rb low ib hb rb') :
    low ≤ min ha hb ∧ min ha hb ≤ 1114111 ∧ Upto (fun x => g (hasR a x) (hasR b x)) (if g ia ib = true then addL out ⟨low, min ha hb⟩ else out) (min ha hb + 1) := by
  have hl : low ≤ min ha hb := by have := sa.ge; have := sb.ge; exact Int.le_min.2 ⟨by omega, by omega⟩
  have hm1 : min ha hb ≤ ha := Int.min_le_left _ _
  have hm2 : min ha hb ≤ hb := Int.min_le_right _ _
  have hv : ∀ x, low ≤ x → x ≤ min ha hb → g (hasR a x) (hasR b x) = g ia ib := fun x h1 h2 => by
    rw [← ea x h1, ← eb x h1, sa.same x h1 (by omega), sb.same x h1 (by omega)]
  refine ⟨hl, by have := sa.le; omega, ?_⟩
  by_cases q : g ia ib = true
  · rw [if_pos q, add_with hu hl]
    exact hu.with h0 hl (fun x h1 h2 => by rw [hv x h1 h2]; exact q)
  · rw [if_neg q]
    exact hu.skip (by omega) (fun x h1 h2 => by rw [hv x h1 (by omega)]; simpa using q)
theorem NormFrom.ord : ∀ {l : List Rg} {b : Int}, NormFrom b l → ∀ s ∈ l, b ≤ s.lo ∧ s.lo ≤ s.hi
  | [], b, _, s, hs => by cases hs
  | t :: l, b, k, s, hs => by
    rcases List.mem_cons.1 hs with q | q
    · rw [q]; exact ⟨k.1, k.2.1⟩
    · have := NormFrom.ord k.2.2 s q
      have := k.1; have := k.2.1; omega
end Go.Proofs.YtfdjchnckjgapaaGreatDoor

namespace Go.Proofs.YtfdjchnckjgapaaGreatDoor
open Go.RowKit
set_option linter.unusedVariables false
def cellsR (r : Rg) : List Value := [.int .i64 r.lo, .int .i64 r.hi]
def cellsRs (l : List Rg) : List Value := l.flatMap cellsR
theorem cellsRs_snoc (l : List Rg) (r : Rg) : cellsRs (l ++ [r]) = cellsRs l ++ cellsR r := by simp [cellsRs]
theorem cellsRs_length : ∀ (l : List Rg), (cellsRs l).length = l.length * 2
  | [] => rfl
  | r :: l => by
    have e : cellsRs (r :: l) = cellsR r ++ cellsRs l := rfl
    rw [e, List.length_append, cellsRs_length l]
    simp [cellsR]; omega
theorem cellsRs_at : ∀ (l : List Rg) (i j : Nat) (h : i < l.length), j < 2 → (cellsRs l)[i * 2 + j]? = (cellsR l[i])[j]?
  | u :: us, 0, j, h, hj => by
    have e : cellsRs (u :: us) = cellsR u ++ cellsRs us := rfl
    rw [e, Nat.zero_mul, Nat.zero_add, List.getElem?_append_left (by simpa [cellsR] using hj)]
    rfl
  | u :: us, i + 1, j, h, hj => by
    have e : cellsRs (u :: us) = cellsR u ++ cellsRs us := rfl
    rw [e, List.getElem?_append_right (by simp [cellsR]; omega)]
    have e2 : (i + 1) * 2 + j - (cellsR u).length = i * 2 + j := by simp [cellsR]; omega
    rw [e2, cellsRs_at us i j (by simpa using h) hj]
    rfl
theorem cellsRs_one (l : List Rg) : ∀ u ∈ cellsRs l, u.oneCell' = true := fun u hu => by
  obtain ⟨r, _, h⟩ := List.mem_flatMap.1 hu
  simp [cellsR] at h
  rcases h with rfl | rfl <;> rfl
def RngAt (n : Nat) (w : World) (v : Value) (l : List Rg) : Prop :=
  ∃ a cap, v = .slice a l.length cap ∧ l.length ≤ cap ∧ ∀ i, (h : i < l.length) → ∃ g off, a = some ⟨g, off, none⟩ ∧ g < n ∧ w.cell? ⟨g, off + i * 2, none⟩ = some (.int .i64 l[i].lo) ∧ w.cell? ⟨g, off + i * 2 + 1, none⟩ = some (.int .i64 l[i].hi)
abbrev RngIn (w : World) (v : Value) (l : List Rg) : Prop := RngAt w.heap.size w v l
theorem RngAt.below {n : Nat} {w w' : World} {v : Value} {l : List Rg} (h : RngAt n w v l) (hb : Below n w w') : RngAt n w' v l := by
  obtain ⟨a, cap, rfl, hc, hi⟩ := h
  refine ⟨a, cap, rfl, hc, fun i hlt => ?_⟩
  obtain ⟨g, off, rfl, hg, h0, h1⟩ := hi i hlt
  exact ⟨g, off, rfl, hg, (hb.cell (p := ⟨g, off + i * 2, none⟩) hg).trans h0, (hb.cell (p := ⟨g, off + i * 2 + 1, none⟩) hg).trans h1⟩
theorem RngAt.mono {n m : Nat} {w : World} {v : Value} {l : List Rg} (h : RngAt n w v l) (hm : n ≤ m) : RngAt m w v l := by
  obtain ⟨a, cap, rfl, hc, hi⟩ := h
  refine ⟨a, cap, rfl, hc, fun i hlt => ?_⟩
  obtain ⟨g, off, rfl, hg, h0, h1⟩ := hi i hlt
  exact ⟨g, off, rfl, by omega, h0, h1⟩
theorem add_lit' (g j : Nat) : (⟨g, 0, none⟩ : Addr).add j = ⟨g, 0 + j, none⟩ := by unfold Addr.add; split <;> simp_all
theorem rng_of_row {w : World} {base : Nat} {v : Value} {l : List Rg} (h : w.ownsRow base 94 2 v l.length (cellsRs l)) : RngIn w v l := by
  rcases h.2 with ⟨rfl, h0⟩ | ⟨g, cap, cur, rfl, hb, hg, hc, hm, hs, ht⟩
  · exact ⟨none, 0, by rw [h0], by omega, fun i hi => by omega⟩
  · refine ⟨_, cap, rfl, hc, fun i hi => ⟨g, 0, rfl, (Array.getElem?_eq_some_iff.1 hg).1, ?_, ?_⟩⟩
    · have hx := cellsRs_at l i 0 hi (by omega)
      have := h.cells (g := g) rfl (i * 2 + 0) (.int .i64 l[i].lo) (by rw [hx]; rfl)
      rw [add_lit'] at this
      exact this
    · have hx := cellsRs_at l i 1 hi (by omega)
      have := h.cells (g := g) rfl (i * 2 + 1) (.int .i64 l[i].hi) (by rw [hx]; rfl)
      rw [add_lit'] at this
      exact this
theorem RngIn.below {w w' : World} {v : Value} {l : List Rg} (h : RngIn w v l) (hb : Below w.heap.size w w') : RngIn w' v l := (RngAt.below h hb).mono hb.size
theorem RngAt.nil (n : Nat) (w : World) : RngAt n w (.slice none 0 0) [] := ⟨none, 0, rfl, Nat.le_refl _, fun i hi => by cases hi⟩
theorem RngAt.empty {n : Nat} {w : World} (a : Option Addr) (cap : Nat) : RngAt n w (.slice a 0 cap) [] := ⟨a, cap, rfl, Nat.zero_le _, fun i hi => by cases hi⟩
theorem RngAt.tail {n : Nat} {w : World} {g off cap : Nat} {r : Rg} {l : List Rg} (h : RngAt n w (.slice (some ⟨g, off, none⟩) (l.length + 1) cap) (r :: l)) : RngAt n w (.slice (some ⟨g, off + 2, none⟩) l.length (cap - 1)) l := by
  obtain ⟨a, c, e, hc, hi⟩ := h
  obtain ⟨rfl, _, rfl⟩ : some ⟨g, off, none⟩ = a ∧ l.length + 1 = (r :: l).length ∧ cap = c := by simpa using e
  refine ⟨_, _, rfl, by simp at hc; omega, fun i hlt => ?_⟩
  obtain ⟨g', off', e2, hg, h0, h1⟩ := hi (i + 1) (by simpa using hlt)
  obtain ⟨rfl, rfl⟩ : g = g' ∧ off = off' := by simpa using e2
  refine ⟨g, off + 2, rfl, hg, ?_, ?_⟩
  · have : off + 2 + i * 2 = off + (i + 1) * 2 := by omega
    rw [this]; simpa using h0
  · have : off + 2 + i * 2 + 1 = off + (i + 1) * 2 + 1 := by omega
    rw [this]; simpa using h1
theorem ownsRow_below {w w' : World} {base e size n : Nat} {v : Value} {xs : List Value} (h : w.ownsRow base e size v n xs) (hb : Below w.heap.size w w') : w'.ownsRow base e size v n xs :=
  World.ownsRow.kept (row := none) h ⟨hb.os, hb.tape, hb.output, hb.size, fun k hk _ => hb.block k hk⟩ (by cases v.ownBlock <;> simp)
theorem below_drewN' {B : Nat} {a w : World} (h : Below B a w) : ∀ k, Below B a (w.drewN k)
  | 0 => h
  | k + 1 => (below_drewN' h k).drew
theorem ownsRow_drewN {w : World} {base e size n : Nat} {v : Value} {xs : List Value} (h : w.ownsRow base e size v n xs) (k : Nat) : (w.drewN k).ownsRow base e size v n xs :=
  ownsRow_below h (below_drewN' (Below.refl _ _) k)
theorem heap_new' (w : World) (o : Obj) : (w.alloc o).heap[w.heap.size]? = some o := World.alloc_heap_new w o
theorem own_grow {w : World} {base g cap : Nat} {ini : List Rg} {s : Rg} (h : w.ownsRow base 94 2 (.slice (some ⟨g, 0, none⟩) (ini ++ [s]).length cap) (ini ++ [s]).length (cellsRs (ini ++ [s]))) (hi : Int) :
    (w.setCell ⟨g, ini.length * 2 + 1, none⟩ (.int .i64 hi)).ownsRow base 94 2 (.slice (some ⟨g, 0, none⟩) (ini ++ [s]).length cap) (ini ++ [(⟨s.lo, hi⟩ : Rg)]).length (cellsRs (ini ++ [⟨s.lo, hi⟩])) := by
  have hl : (ini ++ [(⟨s.lo, hi⟩ : Rg)]).length = (ini ++ [s]).length := by simp
  refine ⟨by rw [cellsRs_length], .inr ?_⟩
  rcases h.2 with ⟨e, _⟩ | ⟨g', cap', cur, e, hb, hg, hc, hm, hs, ht⟩
  · cases e
  · obtain ⟨rfl, rfl⟩ : g = g' ∧ cap = cap' := by simpa using e
    refine ⟨g, cap, cur.setIfInBounds (ini.length * 2 + 1) (.int .i64 hi), by rw [hl], hb, heap_setCell_same _ _ _ _ _ _ hg, by rw [hl]; exact hc, hm, by simp [hs], ?_⟩
    rw [hl]
    have e1 : (cur.setIfInBounds (ini.length * 2 + 1) (.int .i64 hi)).toList = cur.toList.set (ini.length * 2 + 1) (.int .i64 hi) := by simp
    rw [e1, List.take_set, ht, cellsRs_snoc, cellsRs_snoc, List.set_append_right _ _ (by rw [cellsRs_length]; omega), cellsRs_length]
    have e2 : ini.length * 2 + 1 - ini.length * 2 = 1 := by omega
    rw [e2]
    rfl
theorem Tryz.infoRange : (Tryz.prog.info? 94).map (fun i => (i.zero, i.size, i.bytes)) = some (some (.agg #[.int .i64 0, .int .i64 0]), 2, 16) := by kernel_rfl
end Go.Proofs.YtfdjchnckjgapaaGreatDoor
