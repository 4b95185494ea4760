/-
  A step that is taken until it leads no further.
-/
import Derived.Test.YtklhjjgnhigbiaaGreatDoorMtTurn
import Derived.Test.YtklhjjgnhigbiaaGreatDoorMtSort
namespace Go.Proofs.YtklhjjgnhigbiaaGreatDoor
open Go.RowKit Go.Shelf
set_option linter.unusedVariables false

/-- From S, once, never or more often. -/
def ClS (R : Nat → Nat → Prop) (S : Nat → Prop) : Nat → Prop := fun x => S x ∨ ∃ q, S q ∧ Pl R q x
def cntM (M : Nat) : Nat := (List.range 64).countP fun x => M.testBit x
theorem cntM_le (M : Nat) : cntM M ≤ 64 := by
  have := List.countP_le_length (p := fun x => M.testBit x) (l := List.range 64)
  simpa [cntM] using this
theorem cnt_lt {p q : Nat → Bool} (hpq : ∀ x, p x = true → q x = true) : ∀ (l : List Nat), (∃ x ∈ l, q x = true ∧ p x = false) → l.countP p < l.countP q
  | [], ⟨x, h, _⟩ => by cases h
  | y :: l, ⟨x, h, h1, h2⟩ => by
    have hle : l.countP p ≤ l.countP q := List.countP_mono_left (fun x _ => hpq x)
    rw [List.countP_cons, List.countP_cons]
    rcases List.mem_cons.1 h with rfl | h
    · rw [h1, h2]; simp; omega
    · have := cnt_lt hpq l ⟨x, h, h1, h2⟩
      by_cases e : p y = true
      · rw [e, hpq y e]; simp; omega
      · rw [show p y = false by simpa using e]; simp; omega
def markN (w : World) (mb : Nat) : Nat := match w.cell? ⟨mb, 0, none⟩ with
  | some (.int _ q) => q.toNat
  | _ => 0
theorem markN_at {w : World} {mb M : Nat} (h : MkAt w mb M) : markN w mb = M := by
  unfold markN
  rw [show w.cell? ⟨mb, 0, none⟩ = some (.int .u64 (M : Int)) from cell_in h 0]
  simp

def IAg (hi b1 b2 mb : Nat) (d : Sd) (w : World) (S : Nat → Prop) : Prop :=
  hi ≤ w.heap.size ∧ w.cell? ⟨b1, 0, none⟩ = some (.slice (some ⟨mb, 0, none⟩) 1 1) ∧ w.cell? ⟨b2, 0, none⟩ = some (funV d) ∧ ∃ m, m < 2 ^ 64 ∧ MkAt w mb m ∧ (∀ x, m.testBit x = true ↔ ClS d.R S x) ∧ d.I w (fun x => m.testBit x = true)

/-- What stands at the top of a round. -/
structure AgR (L : Nat) (d : Sd) (S : Nat → Prop) (l : List Nat) (m M : Nat) (Z : Nat → Prop) (tl fl : List Nat) : Prop where
  m64 : M < 2 ^ 64
  seen : ∀ x, M.testBit x = true ↔ Z x ∨ x ∈ fl
  img : ∀ p, ImgS d.R Z p ↔ ImgS d.R (fun x => m.testBit x = true) p ∨ p ∈ tl
  told : ∀ p ∈ tl, ∃ q ∈ l, Pl d.R q p
  most : ∀ x, M.testBit x = true → m.testBit x = true ∨ x ∈ l ∨ x ∈ tl
  low : ∀ x, m.testBit x = true ∨ x ∈ l ∨ x ∈ tl → M.testBit x = true
  news : ∀ x ∈ fl, x ∈ l ∨ ∃ q ∈ l, Pl d.R q x
  top : ∀ x ∈ tl, x ≤ L
  len : tl.length + (if fl.length = 0 then 0 else 64) ≤ 64 * cntM M
theorem AgR.start {L : Nat} {d : Sd} {S : Nat → Prop} {l : List Nat} {m : Nat} (hm : m < 2 ^ 64) (hr : Ris L l) (hL : L < 64) : AgR L d S l m (putM m l) (fun x => m.testBit x = true) [] (l.filter fun x => !m.testBit x) where
  m64 := putM_lt _ _ hm (fun x hx => by have := hr.2 x hx; omega)
  seen x := by
    rw [putM_bit]
    simp only [Bool.or_eq_true, decide_eq_true_eq, List.mem_filter, Bool.not_eq_true']
    cases h : m.testBit x <;> simp
  img p := by simp
  told p hp := by cases hp
  most x h := by
    rw [putM_bit] at h
    simp only [Bool.or_eq_true, decide_eq_true_eq] at h
    exact h.imp id .inl
  low x h := by
    rw [putM_bit]
    simp only [Bool.or_eq_true, decide_eq_true_eq]
    rcases h with h | h | h
    · exact .inl h
    · exact .inr h
    · cases h
  news x hx := .inl ((List.mem_filter.1 hx).1)
  top x hx := by cases hx
  len := by
    by_cases h0 : (l.filter fun x => !m.testBit x).length = 0
    · rw [if_pos h0]; simp
    · rw [if_neg h0]
      have hne : l.filter (fun x => !m.testBit x) ≠ [] := fun e => h0 (by rw [e]; rfl)
      obtain ⟨x, hx⟩ := List.exists_mem_of_ne_nil _ hne
      have hxl := (List.mem_filter.1 hx).1
      have h1 : 0 < cntM (putM m l) := by
        unfold cntM
        rw [List.countP_pos_iff]
        exact ⟨x, by have := hr.2 x hxl; simp; omega, by rw [putM_bit]; simp [hxl]⟩
      simp; omega
theorem AgR.next {L : Nat} {d : Sd} {S : Nat → Prop} {l : List Nat} {m M : Nat} {Z : Nat → Prop} {tl fl l1 : List Nat} (h : AgR L d S l m M Z tl fl) (hf : ¬ fl.length = 0) (hr : Ris L l1) (hL : L < 64) (ht : Tells d.R Z fl l1) :
    AgR L d S l m (putM M l1) (SU Z fl) (tl ++ l1) (l1.filter fun x => !M.testBit x) ∧ (¬ (l1.filter fun x => !M.testBit x).length = 0 → cntM M < cntM (putM M l1)) := by
  have hcnt : ¬ (l1.filter fun x => !M.testBit x).length = 0 → cntM M < cntM (putM M l1) := fun h0 => by
    have hne : l1.filter (fun x => !M.testBit x) ≠ [] := fun e => h0 (by rw [e]; rfl)
    obtain ⟨x, hx⟩ := List.exists_mem_of_ne_nil _ hne
    have hxl := (List.mem_filter.1 hx).1
    have hxm : M.testBit x = false := by have := (List.mem_filter.1 hx).2; simpa using this
    refine cnt_lt (fun y hy => by rw [putM_bit, hy]; rfl) _ ⟨x, by have := hr.2 x hxl; simp; omega, by rw [putM_bit]; simp [hxl], hxm⟩
  refine ⟨⟨putM_lt _ _ h.m64 (fun x hx => by have := hr.2 x hx; omega), fun x => ?_, fun p => ?_, fun p hp => ?_, fun x hx => ?_, fun x hx => ?_, fun x hx => ?_, fun x hx => ?_, ?_⟩, hcnt⟩
  · rw [putM_bit]
    simp only [Bool.or_eq_true, decide_eq_true_eq, List.mem_filter, Bool.not_eq_true']
    have := h.seen x
    constructor
    · rintro (a | a)
      · exact .inl (this.1 a)
      · cases e : M.testBit x with
        | true => exact .inl (this.1 e)
        | false => exact .inr ⟨a, rfl⟩
    · rintro (a | a)
      · exact .inl (this.2 a)
      · exact .inr a.1
  · have := h.img p
    rw [List.mem_append]
    constructor
    · rintro ⟨q, a | a, hR⟩
      · exact (this.1 ⟨q, a, hR⟩).imp id .inl
      · rcases ht.2 q a p hR with b | ⟨q', b, c⟩
        · exact .inr (.inr b)
        · exact (this.1 ⟨q', b, c⟩).imp id .inl
    · rintro (a | a | a)
      · obtain ⟨q, b, c⟩ := this.2 (.inl a)
        exact ⟨q, .inl b, c⟩
      · obtain ⟨q, b, c⟩ := this.2 (.inr a)
        exact ⟨q, .inl b, c⟩
      · obtain ⟨q, b, c⟩ := ht.1 p a
        exact ⟨q, .inr b, c⟩
  · rcases List.mem_append.1 hp with a | a
    · exact h.told p a
    · obtain ⟨q, b, c⟩ := ht.1 p a
      rcases h.news q b with e | ⟨q', e, f⟩
      · exact ⟨q, e, .one c⟩
      · exact ⟨q', e, .more f c⟩
  · rw [putM_bit] at hx
    simp only [Bool.or_eq_true, decide_eq_true_eq] at hx
    rw [List.mem_append]
    rcases hx with a | a
    · rcases h.most x a with b | b | b
      · exact .inl b
      · exact .inr (.inl b)
      · exact .inr (.inr (.inl b))
    · exact .inr (.inr (.inr a))
  · rw [putM_bit]
    simp only [Bool.or_eq_true, decide_eq_true_eq]
    rw [List.mem_append] at hx
    rcases hx with a | a | a | a
    · exact .inl (h.low x (.inl a))
    · exact .inl (h.low x (.inr (.inl a)))
    · exact .inl (h.low x (.inr (.inr a)))
    · exact .inr a
  · obtain ⟨q, b, c⟩ := ht.1 x (List.mem_filter.1 hx).1
    rcases h.news q b with e | ⟨q', e, f⟩
    · exact .inr ⟨q, e, .one c⟩
    · exact .inr ⟨q', e, .more f c⟩
  · rcases List.mem_append.1 hx with a | a
    · exact h.top x a
    · exact hr.2 x a
  · have hl := hr.len
    have h0 := h.len
    rw [if_neg hf] at h0
    rw [List.length_append]
    by_cases q : (l1.filter fun x => !M.testBit x).length = 0
    · rw [if_pos q]
      have : cntM M ≤ cntM (putM M l1) := List.countP_mono_left (fun x _ hx => by rw [putM_bit, hx]; rfl)
      omega
    · rw [if_neg q]
      have := hcnt q
      omega
theorem AgR.done {L : Nat} {d : Sd} {S : Nat → Prop} {l : List Nat} {m M : Nat} {Z : Nat → Prop} {tl : List Nat} (h : AgR L d S l m M Z tl []) (hm : ∀ x, m.testBit x = true ↔ ClS d.R S x) :
    (∀ x, M.testBit x = true ↔ ClS d.R (SU S l) x) ∧ Z = (fun x => M.testBit x = true) ∧ ∀ cl : List Nat, (∀ x, x ∈ cl ↔ x ∈ tl) → Tells (Pl d.R) S l cl := by
  have hz : ∀ x, M.testBit x = true ↔ Z x := fun x => by rw [h.seen x]; simp
  have hclo : ∀ x p, M.testBit x = true → d.R x p → M.testBit p = true := fun x p hx hR => by
    rcases (h.img p).1 ⟨x, (hz x).1 hx, hR⟩ with ⟨q, a, b⟩ | a
    · refine h.low p (.inl ?_)
      rcases (hm q).1 a with c | ⟨q', c, e⟩
      · exact (hm p).2 (.inr ⟨q, c, .one b⟩)
      · exact (hm p).2 (.inr ⟨q', c, .more e b⟩)
    · exact h.low p (.inr (.inr a))
  have hpl : ∀ x p, M.testBit x = true → Pl d.R x p → M.testBit p = true := fun x p hx k => by
    induction k using Pl.ind with
    | one a => exact hclo _ _ hx a
    | more _ a ih => exact hclo _ _ ih a
  refine ⟨fun x => ⟨fun hx => ?_, fun hx => ?_⟩, funext fun x => propext (hz x).symm, fun cl hc => ⟨fun p hp => h.told p ((hc p).1 hp), fun q hq p hR => ?_⟩⟩
  · rcases h.most x hx with a | a | a
    · rcases (hm x).1 a with c | ⟨q', c, e⟩
      · exact .inl (.inl c)
      · exact .inr ⟨q', .inl c, e⟩
    · exact .inl (.inr a)
    · obtain ⟨q, b, c⟩ := h.told x a
      exact .inr ⟨q, .inr b, c⟩
  · have hS : ∀ y, SU S l y → M.testBit y = true := fun y hy => h.low y (hy.elim (fun a => .inl ((hm y).2 (.inl a))) (fun a => .inr (.inl a)))
    rcases hx with a | ⟨q, a, b⟩
    · exact hS x a
    · exact hpl q x (hS q a) b
  · have hqM : M.testBit q = true := h.low q (.inr (.inl hq))
    obtain ⟨x, hxM, hxp⟩ : ∃ x, M.testBit x = true ∧ d.R x p := by
      induction hR using Pl.ind with
      | one a => exact ⟨q, hqM, a⟩
      | more k a _ => exact ⟨_, hpl q _ hqM k, a⟩
    rcases (h.img p).1 ⟨x, (hz x).1 hxM, hxp⟩ with ⟨z, a, b⟩ | a
    · rcases (hm z).1 a with c | ⟨q', c, e⟩
      · exact .inr ⟨z, c, .one b⟩
      · exact .inr ⟨q', c, .more e b⟩
    · exact .inl ((hc p).2 a)
end Go.Proofs.YtklhjjgnhigbiaaGreatDoor
