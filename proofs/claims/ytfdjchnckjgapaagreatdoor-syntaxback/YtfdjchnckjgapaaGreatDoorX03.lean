/-
  Rng RngCount
-/
import Derived.WalkKit
namespace Go.Proofs.YtfdjchnckjgapaaGreatDoor
open Go.RowKit
set_option linter.unusedVariables false
structure Rg where
  lo : Int
  hi : Int
def hasR (a : List Rg) (x : Int) : Bool := a.any fun r => decide (r.lo ≤ x ∧ x ≤ r.hi)
theorem hasR_iff {a : List Rg} {x : Int} : hasR a x = true ↔ ∃ r ∈ a, r.lo ≤ x ∧ x ≤ r.hi := by
  simp [hasR]
theorem hasR_cons (r : Rg) (a : List Rg) (x : Int) : hasR (r :: a) x = (decide (r.lo ≤ x ∧ x ≤ r.hi) || hasR a x) := rfl
theorem hasR_append (a b : List Rg) (x : Int) : hasR (a ++ b) x = (hasR a x || hasR b x) := by simp [hasR]
def NormFrom (b : Int) : List Rg → Prop
  | [] => True
  | r :: l => b ≤ r.lo ∧ r.lo ≤ r.hi ∧ NormFrom (r.hi + 2) l
theorem NormFrom.mono {b c : Int} (h : c ≤ b) : ∀ {l : List Rg}, NormFrom b l → NormFrom c l
  | [], _ => trivial
  | r :: l, k => ⟨Int.le_trans h k.1, k.2⟩
theorem NormFrom.ge : ∀ {l : List Rg} {b x : Int}, NormFrom b l → hasR l x = true → b ≤ x
  | [], b, x, _, h => by simp [hasR] at h
  | r :: l, b, x, k, h => by
    rw [hasR_cons, Bool.or_eq_true] at h
    rcases h with h | h
    · have := of_decide_eq_true h
      have := k.1; omega
    · have := NormFrom.ge k.2.2 h
      have := k.1; have := k.2.1; omega
theorem NormFrom.unique : ∀ {a c : List Rg} {b : Int}, NormFrom b a → NormFrom b c → (∀ x, hasR a x = hasR c x) → a = c
  | [], [], _, _, _, _ => rfl
  | [], s :: c, b, _, k, h => by
    have := h s.lo
    rw [hasR_cons, decide_eq_true (⟨Int.le_refl _, k.2.1⟩ : s.lo ≤ s.lo ∧ s.lo ≤ s.hi)] at this
    simp [hasR] at this
  | r :: a, [], b, k, _, h => by
    have := h r.lo
    rw [hasR_cons, decide_eq_true (⟨Int.le_refl _, k.2.1⟩ : r.lo ≤ r.lo ∧ r.lo ≤ r.hi)] at this
    simp [hasR] at this
  | r :: a, s :: c, b, k, m, h => by
    have hr : hasR (r :: a) r.lo = true := by rw [hasR_cons, decide_eq_true (⟨Int.le_refl _, k.2.1⟩ : r.lo ≤ r.lo ∧ r.lo ≤ r.hi)]; rfl
    have hs : hasR (s :: c) s.lo = true := by rw [hasR_cons, decide_eq_true (⟨Int.le_refl _, m.2.1⟩ : s.lo ≤ s.lo ∧ s.lo ≤ s.hi)]; rfl
    have e1 : r.lo = s.lo := by
      have h1 : s.lo ≤ r.lo := NormFrom.ge (b := s.lo) (l := s :: c) ⟨Int.le_refl _, m.2⟩ (by rw [← h]; exact hr)
      have h2 : r.lo ≤ s.lo := NormFrom.ge (b := r.lo) (l := r :: a) ⟨Int.le_refl _, k.2⟩ (by rw [h]; exact hs)
      omega
    have below : ∀ {l : List Rg} {t x : Int}, NormFrom t l → x < t → hasR l x = false := by
      intro l t x hn hx
      cases q : hasR l x with
      | false => rfl
      | true => have := NormFrom.ge hn q; omega
    have e2 : r.hi = s.hi := by
      rcases Int.lt_trichotomy r.hi s.hi with q | q | q
      · have h3 := h (r.hi + 1)
        have f1 : hasR (r :: a) (r.hi + 1) = false := by
          rw [hasR_cons, below k.2.2 (by omega), decide_eq_false (by omega)]; rfl
        have f2 : hasR (s :: c) (r.hi + 1) = true := by
          rw [hasR_cons, decide_eq_true (by have := k.2.1; omega)]; rfl
        rw [f1, f2] at h3; cases h3
      · exact q
      · have h3 := h (s.hi + 1)
        have f1 : hasR (s :: c) (s.hi + 1) = false := by
          rw [hasR_cons, below m.2.2 (by omega), decide_eq_false (by omega)]; rfl
        have f2 : hasR (r :: a) (s.hi + 1) = true := by
          rw [hasR_cons, decide_eq_true (by have := m.2.1; omega)]; rfl
        rw [f1, f2] at h3; cases h3
    have er : r = s := by cases r; cases s; simp only at e1 e2; rw [e1, e2]
    subst er
    have ht : ∀ x, hasR a x = hasR c x := by
      intro x
      by_cases q : x < r.hi + 2
      · rw [below k.2.2 q, below m.2.2 q]
      · have := h x
        rw [hasR_cons, hasR_cons, decide_eq_false (by omega)] at this
        simpa using this
    rw [NormFrom.unique k.2.2 m.2.2 ht]
theorem NormFrom.snoc : ∀ {l : List Rg} {b : Int} {r : Rg}, NormFrom b l → b ≤ r.lo → r.lo ≤ r.hi → (∀ x, hasR l x = true → x + 2 ≤ r.lo) → NormFrom b (l ++ [r])
  | [], b, r, _, hb, hr, _ => ⟨hb, hr, trivial⟩
  | s :: l, b, r, h, hb, hr, hx => by
    refine ⟨h.1, h.2.1, NormFrom.snoc h.2.2 ?_ hr (fun x q => hx x (by rw [hasR_cons, q]; simp))⟩
    exact hx s.hi (by rw [hasR_cons, decide_eq_true (⟨h.2.1, Int.le_refl _⟩ : s.lo ≤ s.hi ∧ s.hi ≤ s.hi)]; rfl)
def insE : List Int → Int → List Int
  | [], n => [n]
  | y :: l, n => if y < n then y :: insE l n else if y = n then y :: l else n :: y :: l
def Up : List Int → Prop
  | [] => True
  | [_] => True
  | a :: b :: l => a < b ∧ Up (b :: l)
theorem mem_insE : ∀ {l : List Int} {n x : Int}, x ∈ insE l n ↔ x = n ∨ x ∈ l
  | [], n, x => by simp [insE]
  | y :: l, n, x => by
    unfold insE
    split
    · rw [List.mem_cons, mem_insE, List.mem_cons]
      constructor
      · rintro (h | h | h)
        · exact .inr (.inl h)
        · exact .inl h
        · exact .inr (.inr h)
      · rintro (h | h | h)
        · exact .inr (.inl h)
        · exact .inl h
        · exact .inr (.inr h)
    · split
      · rename_i q
        subst q
        simp
      · simp
theorem Up.lt : ∀ {l : List Int} {a : Int}, Up (a :: l) → ∀ x ∈ l, a < x
  | [], a, _, x, h => by cases h
  | b :: l, a, h, x, hx => by
    rcases List.mem_cons.1 hx with e | e
    · rw [e]; exact h.1
    · have := Up.lt h.2 x e
      have := h.1; omega
theorem Up.cons {a : Int} : ∀ {l : List Int}, Up l → (∀ x ∈ l, a < x) → Up (a :: l)
  | [], _, _ => trivial
  | b :: l, h, ha => ⟨ha b (by simp), h⟩
theorem Up.tail {a : Int} : ∀ {l : List Int}, Up (a :: l) → Up l
  | [], _ => trivial
  | b :: l, h => h.2
theorem up_insE : ∀ {l : List Int} {n : Int}, Up l → Up (insE l n)
  | [], n, _ => trivial
  | y :: l, n, h => by
    unfold insE
    split
    · rename_i q
      refine Up.cons (up_insE h.tail) (fun x hx => ?_)
      rcases mem_insE.1 hx with e | e
      · rw [e]; exact q
      · exact h.lt x e
    · split
      · exact h
      · refine Up.cons h (fun x hx => ?_)
        rcases List.mem_cons.1 hx with e | e
        · omega
        · have := h.lt x e; omega
def stepE (out : List Int) (r : Rg) : List Int := if r.hi < 1114111 then insE (insE out r.lo) (r.hi + 1) else insE out r.lo
def edgesL (l : List Rg) : List Int := l.foldl stepE [0]
theorem up_step {out : List Int} (r : Rg) (h : Up out) : Up (stepE out r) := by
  unfold stepE
  split
  · exact up_insE (up_insE h)
  · exact up_insE h
theorem mem_step {out : List Int} {r : Rg} {x : Int} : x ∈ stepE out r ↔ x = r.lo ∨ (x = r.hi + 1 ∧ r.hi < 1114111) ∨ x ∈ out := by
  unfold stepE
  split
  · rename_i q
    rw [mem_insE, mem_insE]
    constructor
    · rintro (h | h | h)
      · exact .inr (.inl ⟨h, q⟩)
      · exact .inl h
      · exact .inr (.inr h)
    · rintro (h | ⟨h, _⟩ | h)
      · exact .inr (.inl h)
      · exact .inl h
      · exact .inr (.inr h)
  · rename_i q
    rw [mem_insE]
    constructor
    · rintro (h | h)
      · exact .inl h
      · exact .inr (.inr h)
    · rintro (h | ⟨_, h⟩ | h)
      · exact .inl h
      · exact absurd h q
      · exact .inr h
theorem edges_facts : ∀ (l : List Rg) (out : List Int), Up out → Up (l.foldl stepE out) ∧ ∀ x, x ∈ l.foldl stepE out ↔ x ∈ out ∨ ∃ r ∈ l, x = r.lo ∨ (x = r.hi + 1 ∧ r.hi < 1114111)
  | [], out, h => ⟨h, fun x => by simp⟩
  | r :: l, out, h => by
    obtain ⟨h1, h2⟩ := edges_facts l (stepE out r) (up_step r h)
    refine ⟨h1, fun x => ?_⟩
    rw [List.foldl_cons, h2 x, mem_step]
    constructor
    · rintro ((q | q | q) | ⟨s, hs, q⟩)
      · exact .inr ⟨r, by simp, .inl q⟩
      · exact .inr ⟨r, by simp, .inr q⟩
      · exact .inl q
      · exact .inr ⟨s, by simp [hs], q⟩
    · rintro (q | ⟨s, hs, q⟩)
      · exact .inl (.inr (.inr q))
      · rcases List.mem_cons.1 hs with e | e
        · subst e
          rcases q with q | q
          · exact .inl (.inl q)
          · exact .inl (.inr (.inl q))
        · exact .inr ⟨s, e, q⟩
def withL (out : List Rg) (lo hi : Int) : List Rg := match out.getLast? with
  | some r => if r.hi = lo - 1 then out.dropLast ++ [⟨r.lo, hi⟩] else out ++ [⟨lo, hi⟩]
  | none => out ++ [⟨lo, hi⟩]
def pickGo (f : Int → Bool) : List Int → List Rg → List Rg
  | [], out => out
  | [e], out => if f e = true then withL out e 1114111 else out
  | e :: e' :: l, out => pickGo f (e' :: l) (if f e = true then withL out e (e' - 1) else out)
def Upto (f : Int → Bool) (out : List Rg) (e : Int) : Prop := NormFrom 0 out ∧ ∀ x, hasR out x = decide (0 ≤ x ∧ x < e ∧ f x = true)
theorem NormFrom.front : ∀ {l m : List Rg} {b : Int}, NormFrom b (l ++ m) → NormFrom b l
  | [], m, b, _ => trivial
  | r :: l, m, b, h => ⟨h.1, h.2.1, NormFrom.front h.2.2⟩
theorem NormFrom.last : ∀ {l : List Rg} {b : Int} {r : Rg}, NormFrom b (l ++ [r]) → b ≤ r.lo ∧ r.lo ≤ r.hi ∧ ∀ x, hasR l x = true → x + 2 ≤ r.lo
  | [], b, r, h => ⟨h.1, h.2.1, fun x q => by simp [hasR] at q⟩
  | s :: l, b, r, h => by
    have ih := NormFrom.last h.2.2
    have h1 := h.1
    have h2 := h.2.1
    refine ⟨by have := ih.1; omega, ih.2.1, fun x q => ?_⟩
    rw [hasR_cons, Bool.or_eq_true] at q
    rcases q with q | q
    · have := of_decide_eq_true q
      have := ih.1; omega
    · exact ih.2.2 x q
theorem Upto.with {f : Int → Bool} {out : List Rg} {lo hi : Int} (h : Upto f out lo) (h0 : 0 ≤ lo) (hl : lo ≤ hi) (hf : ∀ x, lo ≤ x → x ≤ hi → f x = true) : Upto f (withL out lo hi) (hi + 1) := by
  have hx : ∀ x, hasR out x = true → x < lo := fun x q => by
    rw [h.2 x] at q
    exact (of_decide_eq_true q).2.1
  have hno : ∀ x, hasR out x = false → 0 ≤ x → x < lo → f x = false := fun x q q0 q1 => by
    rw [h.2 x] at q
    have := of_decide_eq_false q
    cases e : f x with
    | false => rfl
    | true => exact absurd ⟨q0, q1, e⟩ this
  have fin : ∀ (res : List Rg), NormFrom 0 res → (∀ x, hasR res x = true ↔ hasR out x = true ∨ (lo ≤ x ∧ x ≤ hi)) → Upto f res (hi + 1) := by
    intro res hn hr
    refine ⟨hn, fun x => ?_⟩
    rw [Bool.eq_iff_iff, hr x, h.2 x, decide_eq_true_eq, decide_eq_true_eq]
    constructor
    · rintro (⟨q0, q1, q2⟩ | ⟨q0, q1⟩)
      · exact ⟨q0, by omega, q2⟩
      · exact ⟨by omega, by omega, hf x q0 q1⟩
    · rintro ⟨q0, q1, q2⟩
      by_cases q : x < lo
      · exact .inl ⟨q0, q, q2⟩
      · exact .inr ⟨by omega, by omega⟩
  unfold withL
  cases hg : out.getLast? with
  | none =>
    have e : out = [] := List.getLast?_eq_none_iff.1 hg
    subst e
    refine fin _ ⟨h0, hl, trivial⟩ (fun x => ?_)
    simp [hasR]
  | some r =>
    obtain ⟨ini, rfl⟩ := List.getLast?_eq_some_iff.1 hg
    have hla := h.1.last
    have hlt : r.hi < lo := hx r.hi (by rw [hasR_append]; simp [hasR, hla.2.1])
    dsimp only
    split
    · rename_i q
      rw [List.dropLast_concat]
      refine fin _ (NormFrom.snoc h.1.front hla.1 (show r.lo ≤ hi by have := hla.2.1; omega) hla.2.2) (fun x => ?_)
      rw [hasR_append, hasR_append]
      simp only [hasR, List.any_cons, List.any_nil, Bool.or_false, Bool.or_eq_true, decide_eq_true_eq]
      constructor
      · rintro (z | z)
        · exact .inl (.inl z)
        · by_cases w : x ≤ r.hi
          · exact .inl (.inr ⟨z.1, w⟩)
          · exact .inr ⟨by omega, z.2⟩
      · rintro ((z | z) | z)
        · exact .inl z
        · exact .inr ⟨z.1, by omega⟩
        · exact .inr ⟨by have := hla.2.1; omega, z.2⟩
    · rename_i q
      refine fin _ (NormFrom.snoc h.1 h0 hl (fun x z => ?_)) (fun x => ?_)
      · rw [hasR_append, Bool.or_eq_true] at z
        rcases z with z | z
        · have := hla.2.2 x z
          have := hla.2.1; show x + 2 ≤ lo; omega
        · simp only [hasR, List.any_cons, List.any_nil, Bool.or_false, decide_eq_true_eq] at z
          show x + 2 ≤ lo; omega
      · rw [hasR_append]
        simp [hasR]
def Still (f : Int → Bool) : List Int → Prop
  | [] => True
  | [e] => e ≤ 1114111 ∧ ∀ x, e ≤ x → x ≤ 1114111 → f x = f e
  | e :: e' :: l => e < e' ∧ (∀ x, e ≤ x → x < e' → f x = f e) ∧ Still f (e' :: l)
theorem Upto.skip {f : Int → Bool} {out : List Rg} {lo hi : Int} (h : Upto f out lo) (hl : lo ≤ hi) (hf : ∀ x, lo ≤ x → x < hi → f x = false) : Upto f out hi := by
  refine ⟨h.1, fun x => ?_⟩
  rw [h.2 x]
  apply decide_eq_decide.2
  constructor
  · rintro ⟨a, b, c⟩
    exact ⟨a, by omega, c⟩
  · rintro ⟨a, b, c⟩
    refine ⟨a, ?_, c⟩
    by_cases q : x < lo
    · exact q
    · have := hf x (by omega) b
      rw [this] at c; cases c
theorem pickGo_spec {f : Int → Bool} : ∀ (l : List Int) (e : Int) (out : List Rg), 0 ≤ e → Still f (e :: l) → Upto f out e → Upto f (pickGo f (e :: l) out) 1114112
  | [], e, out, h0, hs, hu => by
    unfold pickGo
    split
    · rename_i q
      exact hu.with h0 hs.1 (fun x a b => by rw [hs.2 x a b]; exact q)
    · rename_i q
      exact hu.skip (by have := hs.1; omega) (fun x a b => by rw [hs.2 x a (by omega)]; simpa using q)
  | e' :: l, e, out, h0, hs, hu => by
    unfold pickGo
    refine pickGo_spec l e' _ (by have := hs.1; omega) hs.2.2 ?_
    have h1 := hs.1
    split
    · rename_i q
      have := hu.with (hi := e' - 1) h0 (by omega) (fun x a b => by rw [hs.2.1 x a (by omega)]; exact q)
      rwa [Int.sub_add_cancel] at this
    · rename_i q
      exact hu.skip (by omega) (fun x a b => by rw [hs.2.1 x a b]; simpa using q)
theorem still_of {f : Int → Bool} : ∀ (l : List Int) (e : Int) (E : Int → Prop), Up (e :: l) → (∀ y ∈ e :: l, y ≤ 1114111) → (∀ y, E y → y ≤ e ∨ y ∈ l) → (∀ d x, d ≤ x → x ≤ 1114111 → d ∈ e :: l → (∀ y, E y → y ≤ d ∨ x < y) → f x = f d) → Still f (e :: l)
  | [], e, E, hu, hm, hE, hf => ⟨hm e (by simp), fun x a b => hf e x a b (by simp) (fun y hy => by
      rcases hE y hy with q | q
      · exact .inl q
      · cases q)⟩
  | e' :: l, e, E, hu, hm, hE, hf => by
    refine ⟨hu.1, fun x a b => hf e x a (by have := hm e' (by simp); omega) (by simp) (fun y hy => ?_), still_of l e' E hu.2 (fun y hy => hm y (by simp [List.mem_cons.1 hy])) (fun y hy => ?_) (fun d x a b c k => hf d x a b (by simp [List.mem_cons.1 c]) k)⟩
    · rcases hE y hy with q | q
      · exact .inl q
      · rcases List.mem_cons.1 q with q | q
        · exact .inr (by omega)
        · have := hu.2.lt y q
          exact .inr (by omega)
    · rcases hE y hy with q | q
      · exact .inl (by have := hu.1; omega)
      · rcases List.mem_cons.1 q with q | q
        · exact .inl (by omega)
        · exact .inr q
def Fits (l : List Rg) : Prop := ∀ r ∈ l, 0 ≤ r.lo ∧ r.lo ≤ r.hi ∧ r.hi ≤ 1114111
theorem pick_spec (a b : List Rg) (ha : Fits a) (hb : Fits b) (g : Bool → Bool → Bool) :
    Upto (fun x => g (hasR a x) (hasR b x)) (pickGo (fun x => g (hasR a x) (hasR b x)) (edgesL (a ++ b)) []) 1114112 := by
  obtain ⟨hu, hm⟩ := edges_facts (a ++ b) [0] trivial
  have hfit : Fits (a ++ b) := fun r hr => (List.mem_append.1 hr).elim (ha r) (hb r)
  have hge : ∀ x ∈ edgesL (a ++ b), 0 ≤ x ∧ x ≤ 1114111 := fun x hx => by
    rcases (hm x).1 hx with q | ⟨r, hr, q | ⟨q, q2⟩⟩
    · have : x = 0 := by simpa using q
      omega
    · have := hfit r hr; omega
    · have := hfit r hr; omega
  have h0 : (0 : Int) ∈ edgesL (a ++ b) := (hm 0).2 (.inl (by simp))
  show Upto _ (pickGo _ (edgesL (a ++ b)) []) 1114112
  cases hE : edgesL (a ++ b) with
  | nil => rw [hE] at h0; cases h0
  | cons e l =>
    have hup : Up (e :: l) := by rw [← hE]; exact hu
    have he : e = 0 := by
      rw [hE] at h0
      have h1 := (hge e (by rw [hE]; simp)).1
      rcases List.mem_cons.1 h0 with q | q
      · exact q.symm
      · have := hup.lt 0 q; omega
    subst he
    have key : ∀ (c : List Rg), (∀ r ∈ c, r ∈ a ++ b) → ∀ d x : Int, d ≤ x → x ≤ 1114111 → (∀ y, y ∈ edgesL (a ++ b) → y ≤ d ∨ x < y) → hasR c x = hasR c d := by
      intro c hc d x h1 h2 h3
      rw [Bool.eq_iff_iff, hasR_iff, hasR_iff]
      constructor
      · rintro ⟨r, hr, q1, q2⟩
        refine ⟨r, hr, ?_, by omega⟩
        rcases h3 r.lo ((hm _).2 (.inr ⟨r, hc r hr, .inl rfl⟩)) with z | z
        · exact z
        · omega
      · rintro ⟨r, hr, q1, q2⟩
        refine ⟨r, hr, by omega, ?_⟩
        have hf := hfit r (hc r hr)
        by_cases z : r.hi < 1114111
        · rcases h3 (r.hi + 1) ((hm _).2 (.inr ⟨r, hc r hr, .inr ⟨rfl, z⟩⟩)) with y | y
          · omega
          · omega
        · omega
    refine pickGo_spec l 0 [] (Int.le_refl _) (still_of l 0 (fun y => y ∈ edgesL (a ++ b)) hup (fun y hy => (hge y (by rw [hE]; exact hy)).2) (fun y hy => ?_) (fun d x h1 h2 _ h3 => ?_)) ⟨trivial, fun x => ?_⟩
    · rw [hE] at hy
      rcases List.mem_cons.1 hy with q | q
      · exact .inl (by omega)
      · exact .inr q
    · show g (hasR a x) (hasR b x) = g (hasR a d) (hasR b d)
      rw [key a (fun r hr => List.mem_append.2 (.inl hr)) d x h1 h2 h3, key b (fun r hr => List.mem_append.2 (.inr hr)) d x h1 h2 h3]
    · symm
      have : hasR ([] : List Rg) x = false := rfl
      rw [this]
      apply decide_eq_false
      omega
theorem Upto.unique {f : Int → Bool} {a c : List Rg} {e : Int} (h : Upto f a e) (k : Upto f c e) : a = c :=
  NormFrom.unique h.1 k.1 (fun x => by rw [h.2 x, k.2 x])
end Go.Proofs.YtfdjchnckjgapaaGreatDoor

namespace Go.Proofs.YtfdjchnckjgapaaGreatDoor
open Go.RowKit
set_option linter.unusedVariables false
theorem Upto.hi {f : Int → Bool} {a : List Rg} {e : Int} (h : Upto f a e) : ∀ r ∈ a, 0 ≤ r.lo ∧ r.lo ≤ r.hi ∧ r.hi < e := by
  have key : ∀ {l : List Rg} {b : Int}, NormFrom b l → ∀ r ∈ l, b ≤ r.lo ∧ r.lo ≤ r.hi := by
    intro l
    induction l with
    | nil => intro b _ r hr; cases hr
    | cons s l ih =>
      intro b k r hr
      rcases List.mem_cons.1 hr with q | q
      · rw [q]; exact ⟨k.1, k.2.1⟩
      · have := ih k.2.2 r q
        have := k.1; have := k.2.1; omega
  intro r hr
  have h1 := key h.1 r hr
  refine ⟨h1.1, h1.2, ?_⟩
  have h2 : hasR a r.hi = true := hasR_iff.2 ⟨r, hr, h1.2, Int.le_refl _⟩
  rw [h.2 r.hi] at h2
  exact (of_decide_eq_true h2).2.1
end Go.Proofs.YtfdjchnckjgapaaGreatDoor
