/-
  The words of an expression, as places of a word that lead to places. Plain mathematics.
-/
import Derived.Below
namespace Go.Proofs.YtehkaiohmcenbaaDoor
open Go.RowKit
set_option linter.unusedVariables false

/-- An expression: its kind, its set, its parts. -/
structure Nd where
  k : Int
  s : Int
  kids : List Nd

/-- The sign at the place q is in the set s. -/
def bitW (ws : List Nat) (s : Int) (q : Nat) : Bool := match ws[q]? with
  | some x => x.testBit s.toNat
  | none => false
theorem Nd.ind {P : Nd → Prop} (h : ∀ k s l, (∀ x ∈ l, P x) → P ⟨k, s, l⟩) (n : Nd) : P n :=
  Nd.rec (motive_1 := P) (motive_2 := fun l => ∀ x ∈ l, P x) (fun k s l ih => h k s l ih) (fun x hx => by cases hx) (fun x l h1 h2 y hy => by
    rcases List.mem_cons.1 hy with rfl | g
    · exact h1
    · exact h2 y g) n
/-- Once or more often. -/
def Pl (R : Nat → Nat → Prop) (q p : Nat) : Prop := ∀ S : Nat → Prop, (∀ p, R q p → S p) → (∀ m p, S m → R m p → S p) → S p
theorem Pl.one {R : Nat → Nat → Prop} {q p : Nat} (h : R q p) : Pl R q p := fun S h1 _ => h1 p h
theorem Pl.more {R : Nat → Nat → Prop} {q m p : Nat} (k : Pl R q m) (h : R m p) : Pl R q p := fun S h1 h2 => h2 m p (k S h1 h2) h
theorem Pl.ind {R : Nat → Nat → Prop} {q : Nat} {motive : ∀ p, Pl R q p → Prop} (one : ∀ {p : Nat} (a : R q p), motive p (Pl.one a)) (more : ∀ {m p : Nat} (b : Pl R q m) (a : R m p) (ih : motive m b), motive p (Pl.more b a)) {p : Nat} (k : Pl R q p) : motive p k := by
  have h := k (fun p => ∃ k : Pl R q p, motive p k) (fun p a => ⟨Pl.one a, one a⟩) (fun m p ⟨b, ih⟩ a => ⟨Pl.more b a, more b a ih⟩)
  exact h.2
def relS (ws : List Nat) (s : Int) (q p : Nat) : Prop := p = q + 1 ∧ bitW ws s q = true
/-- What an expression does, by what its parts do in turn (C), each (A), the first of them (H). -/
def relK (ws : List Nat) (k s : Int) (C A H : Nat → Nat → Prop) (q p : Nat) : Prop :=
  if k = 0 then C q p else if k = 1 then relS ws s q p else if k = 2 then A q p else if k = 3 then p = q ∨ Pl H q p else if k = 4 then Pl H q p else if k = 5 then p = q ∨ H q p else False
def relCf : List (Nat → Nat → Prop) → Nat → Nat → Prop
  | [] => fun q p => p = q
  | x :: l => fun q p => ∃ m, x q m ∧ relCf l m p
def relAf : List (Nat → Nat → Prop) → Nat → Nat → Prop
  | [] => fun _ _ => False
  | x :: l => fun q p => x q p ∨ relAf l q p
def relHf : List (Nat → Nat → Prop) → Nat → Nat → Prop
  | [] => fun _ _ => False
  | x :: _ => x
/-- A word of the expression leads from the place q to the place p. -/
def relN (ws : List Nat) : Nd → Nat → Nat → Prop
  | ⟨k, s, l⟩ => relK ws k s (relCf (l.map (relN ws))) (relAf (l.map (relN ws))) (relHf (l.map (relN ws)))
def relC (ws : List Nat) : List Nd → Nat → Nat → Prop
  | [] => fun q p => p = q
  | x :: l => fun q p => ∃ m, relN ws x q m ∧ relC ws l m p
def relA (ws : List Nat) : List Nd → Nat → Nat → Prop
  | [] => fun _ _ => False
  | x :: l => fun q p => relN ws x q p ∨ relA ws l q p
def relH (ws : List Nat) : List Nd → Nat → Nat → Prop
  | [] => fun _ _ => False
  | x :: _ => relN ws x
theorem relC_map (ws : List Nat) : ∀ l, relCf (l.map (relN ws)) = relC ws l
  | [] => rfl
  | x :: l => by rw [List.map_cons, relCf, relC_map ws l, relC]
theorem relA_map (ws : List Nat) : ∀ l, relAf (l.map (relN ws)) = relA ws l
  | [] => rfl
  | x :: l => by rw [List.map_cons, relAf, relA_map ws l, relA]
theorem relH_map (ws : List Nat) : ∀ l, relHf (l.map (relN ws)) = relH ws l
  | [] => rfl
  | x :: l => by rw [List.map_cons, relHf, relH]
theorem relN_mk (ws : List Nat) (k s : Int) (l : List Nd) : relN ws ⟨k, s, l⟩ = relK ws k s (relC ws l) (relA ws l) (relH ws l) := by
  rw [relN, relC_map, relA_map, relH_map]
theorem relN_eq (ws : List Nat) (n : Nd) : relN ws n = relK ws n.k n.s (relC ws n.kids) (relA ws n.kids) (relH ws n.kids) := by
  cases n; rw [relN_mk]

/-- May it be, whatever its parts are? -/
def mayK (k s : Int) (m : Nat) : Bool :=
  if k = 0 then true else if k = 1 then decide (m = 0) && (decide (0 ≤ s) && decide (s < 64)) else if k = 2 then decide (1 ≤ m) else if k = 3 ∨ k = 4 ∨ k = 5 then decide (m = 1) else false
def rightN : Nd → Bool
  | ⟨k, s, l⟩ => mayK k s l.length && (l.map rightN).all id
def rightL : List Nd → Bool
  | [] => true
  | x :: l => rightN x && rightL l
theorem rightL_map : ∀ l, (l.map rightN).all id = rightL l
  | [] => rfl
  | x :: l => by rw [List.map_cons, List.all_cons, rightL_map l, rightL]; rfl
theorem rightN_mk (k s : Int) (l : List Nd) : rightN ⟨k, s, l⟩ = (mayK k s l.length && rightL l) := by
  rw [rightN, rightL_map]
theorem rightN_eq (n : Nd) : rightN n = (mayK n.k n.s n.kids.length && rightL n.kids) := by cases n; rw [rightN_mk]
theorem rightL_iff : ∀ (l : List Nd), rightL l = true ↔ ∀ x ∈ l, rightN x = true
  | [] => by simp [rightL]
  | x :: l => by rw [rightL, Bool.and_eq_true, rightL_iff l]; simp

theorem Pl.map {R T : Nat → Nat → Prop} {f : Nat → Nat} (h : ∀ q p, R q p → T (f q) (f p)) {q p : Nat} (k : Pl R q p) : Pl T (f q) (f p) := by
  induction k using Pl.ind with
  | one a => exact .one (h _ _ a)
  | more _ a ih => exact .more ih (h _ _ a)
theorem Pl.mono {R T : Nat → Nat → Prop} (h : ∀ q p, R q p → T q p) {q p : Nat} (k : Pl R q p) : Pl T q p := Pl.map (f := fun x => x) h k
theorem Pl.cons {R : Nat → Nat → Prop} {q m p : Nat} (a : R q m) (k : Pl R m p) : Pl R q p := by
  induction k using Pl.ind with
  | one b => exact .more (.one a) b
  | more _ b ih => exact .more ih b
theorem Pl.le {R : Nat → Nat → Prop} (h : ∀ q p, R q p → q ≤ p) {q p : Nat} (k : Pl R q p) : q ≤ p := by
  induction k using Pl.ind with
  | one a => exact h _ _ a
  | more _ a ih => exact Nat.le_trans ih (h _ _ a)
theorem Pl.trans {R : Nat → Nat → Prop} {q m p : Nat} (a : Pl R q m) (k : Pl R m p) : Pl R q p := by
  induction k using Pl.ind with
  | one b => exact .more a b
  | more _ b ih => exact .more ih b
theorem Pl.inv {R : Nat → Nat → Prop} {q p : Nat} (k : Pl R q p) : R q p ∨ ∃ m, R q m ∧ Pl R m p := by
  induction k using Pl.ind with
  | one a => exact .inl a
  | more _ b ih =>
    rcases ih with a | ⟨m, a, c⟩
    · exact .inr ⟨_, a, .one b⟩
    · exact .inr ⟨m, a, .more c b⟩
theorem Pl.rev {R T : Nat → Nat → Prop} {f : Nat → Nat} (h : ∀ q p, R q p → T (f p) (f q)) {q p : Nat} (k : Pl R q p) : Pl T (f p) (f q) := by
  induction k using Pl.ind with
  | one a => exact .one (h _ _ a)
  | more _ a ih => exact .cons (h _ _ a) ih

theorem bitW_lt {ws : List Nat} {s : Int} {q : Nat} (h : bitW ws s q = true) : q < ws.length := by
  unfold bitW at h
  rcases Nat.lt_or_ge q ws.length with g | g
  · exact g
  · rw [List.getElem?_eq_none g] at h; cases h
theorem bitW_at {ws : List Nat} {s : Int} {q : Nat} (h : q < ws.length) : bitW ws s q = ws[q].testBit s.toNat := by
  unfold bitW; rw [List.getElem?_eq_getElem h]

/-- What leads, leads forward, and not past the end. -/
def Fwd (L : Nat) (R : Nat → Nat → Prop) : Prop := ∀ q p, R q p → q ≤ p ∧ (q ≤ L → p ≤ L)
theorem Fwd.pl {L : Nat} {R : Nat → Nat → Prop} (h : Fwd L R) : Fwd L (Pl R) := fun q p k => by
  induction k using Pl.ind with
  | one a => exact h _ _ a
  | more _ a ih => exact ⟨Nat.le_trans ih.1 (h _ _ a).1, fun g => (h _ _ a).2 (ih.2 g)⟩
theorem fwdC_of (ws : List Nat) : ∀ l, (∀ x ∈ l, Fwd ws.length (relN ws x)) → Fwd ws.length (relC ws l)
  | [], _ => fun q p h => by
    rw [relC] at h
    subst h; exact ⟨Nat.le_refl _, id⟩
  | x :: l, ih => fun q p h => by
    rw [relC] at h
    obtain ⟨m, h1, h2⟩ := h
    have a := ih x (by simp) q m h1
    have b := fwdC_of ws l (fun y hy => ih y (by simp [hy])) m p h2
    exact ⟨Nat.le_trans a.1 b.1, fun g => b.2 (a.2 g)⟩
theorem fwdA_of (ws : List Nat) : ∀ l, (∀ x ∈ l, Fwd ws.length (relN ws x)) → Fwd ws.length (relA ws l)
  | [], _ => fun q p h => by
    rw [relA] at h
    cases h
  | x :: l, ih => fun q p h => by
    rw [relA] at h
    rcases h with h | h
    · exact ih x (by simp) q p h
    · exact fwdA_of ws l (fun y hy => ih y (by simp [hy])) q p h
theorem fwdH_of (ws : List Nat) : ∀ l, (∀ x ∈ l, Fwd ws.length (relN ws x)) → Fwd ws.length (relH ws l)
  | [], _ => fun q p h => by
    rw [relH] at h
    cases h
  | x :: l, ih => fun q p h => by
    rw [relH] at h
    exact ih x (by simp) q p h
theorem fwdN (ws : List Nat) : ∀ n, Fwd ws.length (relN ws n) :=
  Nd.ind fun k s l ih q p h => by
    rw [relN_mk] at h
    unfold relK at h
    split at h
    · exact fwdC_of ws l ih q p h
    split at h
    · obtain ⟨rfl, hb⟩ := h
      have := bitW_lt hb
      exact ⟨by omega, fun _ => by omega⟩
    split at h
    · exact fwdA_of ws l ih q p h
    split at h
    · rcases h with rfl | h
      · exact ⟨Nat.le_refl _, id⟩
      · exact (fwdH_of ws l ih).pl q p h
    split at h
    · exact (fwdH_of ws l ih).pl q p h
    split at h
    · rcases h with rfl | h
      · exact ⟨Nat.le_refl _, id⟩
      · exact fwdH_of ws l ih q p h
    · cases h
theorem fwdC (ws : List Nat) (l : List Nd) : Fwd ws.length (relC ws l) := fwdC_of ws l fun x _ => fwdN ws x
theorem fwdA (ws : List Nat) (l : List Nd) : Fwd ws.length (relA ws l) := fwdA_of ws l fun x _ => fwdN ws x
theorem fwdH (ws : List Nat) (l : List Nd) : Fwd ws.length (relH ws l) := fwdH_of ws l fun x _ => fwdN ws x

theorem Pl.agr {R T : Nat → Nat → Prop} {i b : Nat} (fw : ∀ q p, R q p → q ≤ p) (ft : ∀ q p, T q p → q ≤ p) (h : ∀ q p, p ≤ b → (R q p ↔ T (q + i) (p + i))) (q p : Nat) (hp : p ≤ b) : Pl R q p ↔ Pl T (q + i) (p + i) := by
  constructor
  · intro k
    induction k using Pl.ind with
    | one a => exact .one ((h _ _ hp).1 a)
    | more _ a ih => exact .more (ih (Nat.le_trans (fw _ _ a) hp)) ((h _ _ hp).1 a)
  · intro k
    have key : ∀ x y, Pl T x y → ∀ q p, x = q + i → y = p + i → p ≤ b → Pl R q p := by
      intro x y k
      induction k using Pl.ind with
      | one a => rintro q p rfl rfl hp; exact .one ((h _ _ hp).2 a)
      | more k a ih =>
        rename_i x m y
        rintro q p rfl rfl hp
        have h1 := k.le ft
        have h2 := ft _ _ a
        obtain ⟨m', rfl⟩ : ∃ m', m = m' + i := ⟨m - i, by omega⟩
        exact .more (ih q m' rfl rfl (by omega)) ((h _ _ hp).2 a)
    exact key _ _ k q p rfl rfl hp

/-- Two words that agree, with their places moved, lead alike. -/
def Agr (ws us : List Nat) (i b : Nat) : Prop := ∀ s q, q < b → bitW ws s q = bitW us s (q + i)
theorem agrC_of {ws us : List Nat} {i b : Nat} : ∀ l, (∀ x ∈ l, ∀ q p, p ≤ b → (relN ws x q p ↔ relN us x (q + i) (p + i))) → ∀ q p, p ≤ b → (relC ws l q p ↔ relC us l (q + i) (p + i))
  | [], _ => fun q p hp => by
    rw [relC, relC]; show p = q ↔ p + i = q + i; omega
  | x :: l, ih => fun q p hp => by
    rw [relC, relC]
    show (∃ m, relN ws x q m ∧ relC ws l m p) ↔ (∃ m, relN us x (q + i) m ∧ relC us l m (p + i))
    have ihl := agrC_of l (fun y hy => ih y (by simp [hy]))
    have ihx := ih x (by simp)
    constructor
    · rintro ⟨m, a, c⟩
      have := (fwdC ws l m p c).1
      exact ⟨m + i, (ihx q m (by omega)).1 a, (ihl m p hp).1 c⟩
    · rintro ⟨m, a, c⟩
      have h1 := (fwdC us l m _ c).1
      have h2 := (fwdN us x _ _ a).1
      obtain ⟨m', rfl⟩ : ∃ m', m = m' + i := ⟨m - i, by omega⟩
      exact ⟨m', (ihx q m' (by omega)).2 a, (ihl m' p hp).2 c⟩
theorem agrA_of {ws us : List Nat} {i b : Nat} : ∀ l, (∀ x ∈ l, ∀ q p, p ≤ b → (relN ws x q p ↔ relN us x (q + i) (p + i))) → ∀ q p, p ≤ b → (relA ws l q p ↔ relA us l (q + i) (p + i))
  | [], _ => fun q p hp => by
    rw [relA, relA]
  | x :: l, ih => fun q p hp => by
    rw [relA, relA]
    show (relN ws x q p ∨ relA ws l q p) ↔ (relN us x (q + i) (p + i) ∨ relA us l (q + i) (p + i))
    rw [ih x (by simp) q p hp, agrA_of l (fun y hy => ih y (by simp [hy])) q p hp]
theorem agrH_of {ws us : List Nat} {i b : Nat} : ∀ l, (∀ x ∈ l, ∀ q p, p ≤ b → (relN ws x q p ↔ relN us x (q + i) (p + i))) → ∀ q p, p ≤ b → (relH ws l q p ↔ relH us l (q + i) (p + i))
  | [], _ => fun q p hp => by
    rw [relH, relH]
  | x :: l, ih => fun q p hp => by
    rw [relH, relH, ih x (by simp) q p hp]
theorem agrN {ws us : List Nat} {i b : Nat} (h : Agr ws us i b) : ∀ n q p, p ≤ b → (relN ws n q p ↔ relN us n (q + i) (p + i)) :=
  Nd.ind fun k s l ih q p hp => by
    have hC := agrC_of l ih q p hp
    have hA := agrA_of l ih q p hp
    have hH := agrH_of l ih q p hp
    have hP := Pl.agr (fun q p g => (fwdH ws l q p g).1) (fun q p g => (fwdH us l q p g).1) (agrH_of l ih) q p hp
    have hS : relS ws s q p ↔ relS us s (q + i) (p + i) := by
      unfold relS
      constructor
      · rintro ⟨rfl, g⟩; exact ⟨by omega, by rw [← h s q (by omega)]; exact g⟩
      · rintro ⟨e, g⟩; exact ⟨by omega, by rw [h s q (by omega)]; exact g⟩
    have hE : p = q ↔ p + i = q + i := by omega
    rw [relN_mk, relN_mk]
    unfold relK
    rw [hC, hA, hH, hP, hS, hE]
theorem agr_drop (ws : List Nat) (i : Nat) : Agr (ws.drop i) ws i (ws.length) := fun s q _ => by
  unfold bitW; rw [List.getElem?_drop, Nat.add_comm]
theorem agr_take (ws : List Nat) (i : Nat) : Agr (ws.take i) ws 0 i := fun s q h => by
  unfold bitW; rw [List.getElem?_take, if_pos h]; rfl
theorem rel_drop (ws : List Nat) (n : Nd) (i : Nat) (h : i ≤ ws.length) : relN (ws.drop i) n 0 (ws.drop i).length ↔ relN ws n i ws.length := by
  rw [agrN (agr_drop ws i) n 0 _ (by simp), List.length_drop, Nat.zero_add, Nat.sub_add_cancel h]
theorem rel_take (ws : List Nat) (n : Nd) (i : Nat) (h : i ≤ ws.length) : relN (ws.take i) n 0 (ws.take i).length ↔ relN ws n 0 i := by
  rw [List.length_take, Nat.min_eq_left h]
  exact agrN (agr_take ws i) n 0 i (Nat.le_refl _)

/-- A word is one of an expression's; it ends with one; it begins with one. -/
def wholeP (ws : List Nat) (n : Nd) : Prop := rightN n = true ∧ relN ws n 0 ws.length
def suffP (ws : List Nat) (n : Nd) : Prop := rightN n = true ∧ ∃ i, i ≤ ws.length ∧ relN ws n i ws.length
def prefP (ws : List Nat) (n : Nd) : Prop := rightN n = true ∧ ∃ i, relN ws n 0 i
def wholeB (ws : List Nat) (n : Nd) (d : ∀ p : Prop, Decidable p := fun p => Classical.propDecidable p) : Bool := @decide (wholeP ws n) (d _)
def suffB (ws : List Nat) (n : Nd) (d : ∀ p : Prop, Decidable p := fun p => Classical.propDecidable p) : Bool := @decide (suffP ws n) (d _)
def prefB (ws : List Nat) (n : Nd) (d : ∀ p : Prop, Decidable p := fun p => Classical.propDecidable p) : Bool := @decide (prefP ws n) (d _)
theorem wholeB_iff {ws : List Nat} {n : Nd} : wholeB ws n = true ↔ wholeP ws n := by unfold wholeB; simp
theorem suffB_iff {ws : List Nat} {n : Nd} : suffB ws n = true ↔ suffP ws n := by unfold suffB; simp
theorem prefB_iff {ws : List Nat} {n : Nd} : prefB ws n = true ↔ prefP ws n := by unfold prefB; simp

/-- The signs' laws. -/
theorem right_star (n : Nd) (s : Int) (k : Int) (hk : k = 3 ∨ k = 4 ∨ k = 5) : rightN ⟨k, s, [n]⟩ = rightN n := by
  rw [rightN_mk, rightL, rightL]
  rcases hk with rfl | rfl | rfl <;> simp [mayK]
theorem right_cat (s : Int) (l : List Nd) : rightN ⟨0, s, l⟩ = rightL l := by
  rw [rightN_mk]; simp [mayK]
theorem rel_star (ws : List Nat) (s : Int) (n : Nd) (q p : Nat) : relN ws ⟨3, s, [n]⟩ q p ↔ (p = q ∨ Pl (relN ws n) q p) := by
  rw [relN_mk]; simp [relK, relH]
theorem rel_plus (ws : List Nat) (s : Int) (n : Nd) (q p : Nat) : relN ws ⟨4, s, [n]⟩ q p ↔ Pl (relN ws n) q p := by
  rw [relN_mk]; simp [relK, relH]
theorem rel_opt (ws : List Nat) (s : Int) (n : Nd) (q p : Nat) : relN ws ⟨5, s, [n]⟩ q p ↔ (p = q ∨ relN ws n q p) := by
  rw [relN_mk]; simp [relK, relH]
theorem rel_cat2 (ws : List Nat) (s : Int) (a b : Nd) (q p : Nat) : relN ws ⟨0, s, [a, b]⟩ q p ↔ ∃ m, relN ws a q m ∧ relN ws b m p := by
  rw [relN_mk]; simp [relK, relC]
theorem rel_set (ws : List Nat) (s : Int) (l : List Nd) (q p : Nat) : relN ws ⟨1, s, l⟩ q p ↔ (p = q + 1 ∧ bitW ws s q = true) := by
  rw [relN_mk]; simp [relK, relS]
theorem rel_alt (ws : List Nat) (s : Int) (l : List Nd) (q p : Nat) : relN ws ⟨2, s, l⟩ q p ↔ relA ws l q p := by
  rw [relN_mk]; simp [relK]
theorem relA_iff (ws : List Nat) : ∀ (l : List Nd) (q p : Nat), relA ws l q p ↔ ∃ x ∈ l, relN ws x q p
  | [], q, p => by rw [relA]; simp
  | x :: l, q, p => by
    rw [relA]
    show (relN ws x q p ∨ relA ws l q p) ↔ _
    rw [relA_iff ws l]; simp
theorem signs_plus (ws : List Nat) (n : Nd) : wholeP ws ⟨4, 0, [n]⟩ ↔ wholeP ws ⟨0, 0, [n, ⟨3, 0, [n]⟩]⟩ := by
  unfold wholeP
  rw [right_star n 0 4 (by omega), right_cat, rel_plus, rel_cat2]
  have e : rightL [n, ⟨3, 0, [n]⟩] = rightN n := by simp [rightL, right_star n 0 3 (by omega)]
  rw [e]
  refine and_congr_right fun _ => ?_
  constructor
  · intro h
    rcases h.inv with h | ⟨m, h1, h2⟩
    · exact ⟨_, h, (rel_star _ _ _ _ _).2 (.inl rfl)⟩
    · exact ⟨m, h1, (rel_star _ _ _ _ _).2 (.inr h2)⟩
  · rintro ⟨m, h1, h2⟩
    rcases (rel_star _ _ _ _ _).1 h2 with e | h
    · rw [e]; exact .one h1
    · exact .cons h1 h
theorem signs_opt (ws : List Nat) (n : Nd) : wholeP ws ⟨5, 0, [n]⟩ ↔ (rightN n = true ∧ (ws.length = 0 ∨ wholeP ws n)) := by
  unfold wholeP
  rw [right_star n 0 5 (by omega), rel_opt]
  constructor
  · rintro ⟨h, e | g⟩
    · exact ⟨h, .inl e⟩
    · exact ⟨h, .inr ⟨h, g⟩⟩
  · rintro ⟨h, e | ⟨_, g⟩⟩
    · exact ⟨h, .inl e⟩
    · exact ⟨h, .inr g⟩
theorem signs_star (ws : List Nat) (n : Nd) (k : Int) (hk : k = 3 ∨ k = 4 ∨ k = 5) : wholeP ws ⟨3, 0, [⟨k, 0, [n]⟩]⟩ ↔ wholeP ws ⟨3, 0, [n]⟩ := by
  unfold wholeP
  rw [right_star _ 0 3 (by omega), right_star n 0 k hk, right_star n 0 3 (by omega), rel_star, rel_star]
  refine and_congr_right fun _ => ?_
  have up : ∀ q p, relN ws ⟨k, 0, [n]⟩ q p → (p = q ∨ Pl (relN ws n) q p) := fun q p h => by
    rcases hk with rfl | rfl | rfl
    · exact (rel_star _ _ _ _ _).1 h
    · exact .inr ((rel_plus _ _ _ _ _).1 h)
    · exact ((rel_opt _ _ _ _ _).1 h).imp id .one
  have down : ∀ q p, relN ws n q p → relN ws ⟨k, 0, [n]⟩ q p := fun q p h => by
    rcases hk with rfl | rfl | rfl
    · exact (rel_star _ _ _ _ _).2 (.inr (.one h))
    · exact (rel_plus _ _ _ _ _).2 (.one h)
    · exact (rel_opt _ _ _ _ _).2 (.inr h)
  constructor
  · rintro (e | h)
    · exact .inl e
    · have key : ∀ q p, Pl (relN ws ⟨k, 0, [n]⟩) q p → (p = q ∨ Pl (relN ws n) q p) := by
        intro q p h
        induction h using Pl.ind with
        | one a => exact up _ _ a
        | more _ a ih =>
          rcases up _ _ a with e | c
          · rw [e]; exact ih
          · rcases ih with e | d
            · rw [e] at c; exact .inr c
            · exact .inr (d.trans c)
      exact key _ _ h
  · rintro (e | h)
    · exact .inl e
    · exact .inr (h.mono down)
theorem parts_cat (ws : List Nat) (a b : Nd) : wholeP ws ⟨0, 0, [a, b]⟩ ↔ ∃ i, i ≤ ws.length ∧ wholeP (ws.take i) a ∧ wholeP (ws.drop i) b := by
  unfold wholeP
  rw [right_cat, rel_cat2]
  have e : rightL [a, b] = (rightN a && rightN b) := by simp [rightL]
  rw [e, Bool.and_eq_true]
  constructor
  · rintro ⟨⟨ha, hb⟩, m, h1, h2⟩
    have hm := (fwdN ws b m _ h2).1
    exact ⟨m, hm, ⟨ha, (rel_take ws a m hm).2 h1⟩, hb, (rel_drop ws b m hm).2 h2⟩
  · rintro ⟨m, hm, ⟨ha, h1⟩, hb, h2⟩
    exact ⟨⟨ha, hb⟩, m, (rel_take ws a m hm).1 h1, (rel_drop ws b m hm).1 h2⟩
theorem right_alt (s : Int) (x : Nd) (l : List Nd) : rightN ⟨2, s, x :: l⟩ = rightL (x :: l) := by
  rw [rightN_mk]; simp [mayK]
theorem whole_alt (ws : List Nat) (x : Nd) (l : List Nd) : wholeP ws ⟨2, 0, x :: l⟩ ↔ ((∀ y ∈ x :: l, rightN y = true) ∧ ∃ y ∈ x :: l, wholeP ws y) := by
  unfold wholeP
  rw [right_alt, rightL_iff, rel_alt, relA_iff]
  exact ⟨fun ⟨h, y, hy, g⟩ => ⟨h, y, hy, h y hy, g⟩, fun ⟨h, y, hy, _, g⟩ => ⟨h, y, hy, g⟩⟩
end Go.Proofs.YtehkaiohmcenbaaDoor
