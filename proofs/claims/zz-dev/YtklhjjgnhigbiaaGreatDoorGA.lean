/-
  The words of an expression, as places of a word that lead to places. Plain mathematics. Memory of the matcher: places, words, expressions, what a step may write.
-/
import Derived.Below
import Derived.Test.YtklhjjgnhigbiaaGreatDoorRows
import Derived.WalkKit
import Derived.WalkSpells
import Derived.OwnWalk
import Derived.Outline
import Derived.Deep.RegionHeld3
import Derived.Laws.AppendOwnNone
import Derived.Maps.AppendAt
import Derived.Deep.AppendLies
import Derived.Laws.Rows
import Derived.BigQuiet
import Derived.Lib.OwnBridge
import Derived.Laws.Bits64b
namespace Go.Proofs.YtklhjjgnhigbiaaGreatDoor
open Go.RowKit
set_option linter.unusedVariables false

/-- An expression: its kind, its set, its parts. -/
structure Nd where
  k : Int
  s : Int
  kids : List Nd

/-- The sign at the place q is in the set s. -/
def bitW (ws : List Nat) (s : Int) (q : Nat) : Bool := match ws[q]? with
  | some x => x.testBit s.toNat
  | none => false
theorem Nd.ind {P : Nd → Prop} (h : ∀ k s l, (∀ x ∈ l, P x) → P ⟨k, s, l⟩) (n : Nd) : P n :=
  Nd.rec (motive_1 := P) (motive_2 := fun l => ∀ x ∈ l, P x) (fun k s l ih => h k s l ih) (fun x hx => by cases hx) (fun x l h1 h2 y hy => by
    rcases List.mem_cons.1 hy with rfl | g
    · exact h1
    · exact h2 y g) n
/-- Once or more often. -/
def Pl (R : Nat → Nat → Prop) (q p : Nat) : Prop := ∀ S : Nat → Prop, (∀ p, R q p → S p) → (∀ m p, S m → R m p → S p) → S p
theorem Pl.one {R : Nat → Nat → Prop} {q p : Nat} (h : R q p) : Pl R q p := fun S h1 _ => h1 p h
theorem Pl.more {R : Nat → Nat → Prop} {q m p : Nat} (k : Pl R q m) (h : R m p) : Pl R q p := fun S h1 h2 => h2 m p (k S h1 h2) h
theorem Pl.ind {R : Nat → Nat → Prop} {q : Nat} {motive : ∀ p, Pl R q p → Prop} (one : ∀ {p : Nat} (a : R q p), motive p (Pl.one a)) (more : ∀ {m p : Nat} (b : Pl R q m) (a : R m p) (ih : motive m b), motive p (Pl.more b a)) {p : Nat} (k : Pl R q p) : motive p k := by
  have h := k (fun p => ∃ k : Pl R q p, motive p k) (fun p a => ⟨Pl.one a, one a⟩) (fun m p ⟨b, ih⟩ a => ⟨Pl.more b a, more b a ih⟩)
  exact h.2
def relS (ws : List Nat) (s : Int) (q p : Nat) : Prop := p = q + 1 ∧ bitW ws s q = true
/-- What an expression does, by what its parts do in turn (C), each (A), the first of them (H). -/
def relK (ws : List Nat) (k s : Int) (C A H : Nat → Nat → Prop) (q p : Nat) : Prop :=
  if k = 0 then C q p else if k = 1 then relS ws s q p else if k = 2 then A q p else if k = 3 then p = q ∨ Pl H q p else if k = 4 then Pl H q p else if k = 5 then p = q ∨ H q p else False
def relCf : List (Nat → Nat → Prop) → Nat → Nat → Prop
  | [] => fun q p => p = q
  | x :: l => fun q p => ∃ m, x q m ∧ relCf l m p
def relAf : List (Nat → Nat → Prop) → Nat → Nat → Prop
  | [] => fun _ _ => False
  | x :: l => fun q p => x q p ∨ relAf l q p
def relHf : List (Nat → Nat → Prop) → Nat → Nat → Prop
  | [] => fun _ _ => False
  | x :: _ => x
/-- A word of the expression leads from the place q to the place p. -/
def relN (ws : List Nat) : Nd → Nat → Nat → Prop
  | ⟨k, s, l⟩ => relK ws k s (relCf (l.map (relN ws))) (relAf (l.map (relN ws))) (relHf (l.map (relN ws)))
def relC (ws : List Nat) : List Nd → Nat → Nat → Prop
  | [] => fun q p => p = q
  | x :: l => fun q p => ∃ m, relN ws x q m ∧ relC ws l m p
def relA (ws : List Nat) : List Nd → Nat → Nat → Prop
  | [] => fun _ _ => False
  | x :: l => fun q p => relN ws x q p ∨ relA ws l q p
def relH (ws : List Nat) : List Nd → Nat → Nat → Prop
  | [] => fun _ _ => False
  | x :: _ => relN ws x
theorem relC_map (ws : List Nat) : ∀ l, relCf (l.map (relN ws)) = relC ws l
  | [] => rfl
  | x :: l => by rw [List.map_cons, relCf, relC_map ws l, relC]
theorem relA_map (ws : List Nat) : ∀ l, relAf (l.map (relN ws)) = relA ws l
  | [] => rfl
  | x :: l => by rw [List.map_cons, relAf, relA_map ws l, relA]
theorem relH_map (ws : List Nat) : ∀ l, relHf (l.map (relN ws)) = relH ws l
  | [] => rfl
  | x :: l => by rw [List.map_cons, relHf, relH]
theorem relN_mk (ws : List Nat) (k s : Int) (l : List Nd) : relN ws ⟨k, s, l⟩ = relK ws k s (relC ws l) (relA ws l) (relH ws l) := by
  rw [relN, relC_map, relA_map, relH_map]
theorem relN_eq (ws : List Nat) (n : Nd) : relN ws n = relK ws n.k n.s (relC ws n.kids) (relA ws n.kids) (relH ws n.kids) := by
  cases n; rw [relN_mk]

/-- May it be, whatever its parts are? -/
def mayK (k s : Int) (m : Nat) : Bool :=
  if k = 0 then true else if k = 1 then decide (m = 0) && (decide (0 ≤ s) && decide (s < 64)) else if k = 2 then decide (1 ≤ m) else if k = 3 ∨ k = 4 ∨ k = 5 then decide (m = 1) else false
def rightN : Nd → Bool
  | ⟨k, s, l⟩ => mayK k s l.length && (l.map rightN).all id
def rightL : List Nd → Bool
  | [] => true
  | x :: l => rightN x && rightL l
theorem rightL_map : ∀ l, (l.map rightN).all id = rightL l
  | [] => rfl
  | x :: l => by rw [List.map_cons, List.all_cons, rightL_map l, rightL]; rfl
theorem rightN_mk (k s : Int) (l : List Nd) : rightN ⟨k, s, l⟩ = (mayK k s l.length && rightL l) := by
  rw [rightN, rightL_map]
theorem rightN_eq (n : Nd) : rightN n = (mayK n.k n.s n.kids.length && rightL n.kids) := by cases n; rw [rightN_mk]
theorem rightL_iff : ∀ (l : List Nd), rightL l = true ↔ ∀ x ∈ l, rightN x = true
  | [] => by simp [rightL]
  | x :: l => by rw [rightL, Bool.and_eq_true, rightL_iff l]; simp

theorem Pl.map {R T : Nat → Nat → Prop} {f : Nat → Nat} (h : ∀ q p, R q p → T (f q) (f p)) {q p : Nat} (k : Pl R q p) : Pl T (f q) (f p) := by
  induction k using Pl.ind with
  | one a => exact .one (h _ _ a)
  | more _ a ih => exact .more ih (h _ _ a)
theorem Pl.mono {R T : Nat → Nat → Prop} (h : ∀ q p, R q p → T q p) {q p : Nat} (k : Pl R q p) : Pl T q p := Pl.map (f := fun x => x) h k
theorem Pl.cons {R : Nat → Nat → Prop} {q m p : Nat} (a : R q m) (k : Pl R m p) : Pl R q p := by
  induction k using Pl.ind with
  | one b => exact .more (.one a) b
  | more _ b ih => exact .more ih b
theorem Pl.le {R : Nat → Nat → Prop} (h : ∀ q p, R q p → q ≤ p) {q p : Nat} (k : Pl R q p) : q ≤ p := by
  induction k using Pl.ind with
  | one a => exact h _ _ a
  | more _ a ih => exact Nat.le_trans ih (h _ _ a)
theorem Pl.trans {R : Nat → Nat → Prop} {q m p : Nat} (a : Pl R q m) (k : Pl R m p) : Pl R q p := by
  induction k using Pl.ind with
  | one b => exact .more a b
  | more _ b ih => exact .more ih b
theorem Pl.inv {R : Nat → Nat → Prop} {q p : Nat} (k : Pl R q p) : R q p ∨ ∃ m, R q m ∧ Pl R m p := by
  induction k using Pl.ind with
  | one a => exact .inl a
  | more _ b ih =>
    rcases ih with a | ⟨m, a, c⟩
    · exact .inr ⟨_, a, .one b⟩
    · exact .inr ⟨m, a, .more c b⟩
theorem Pl.rev {R T : Nat → Nat → Prop} {f : Nat → Nat} (h : ∀ q p, R q p → T (f p) (f q)) {q p : Nat} (k : Pl R q p) : Pl T (f p) (f q) := by
  induction k using Pl.ind with
  | one a => exact .one (h _ _ a)
  | more _ a ih => exact .cons (h _ _ a) ih

theorem bitW_lt {ws : List Nat} {s : Int} {q : Nat} (h : bitW ws s q = true) : q < ws.length := by
  unfold bitW at h
  rcases Nat.lt_or_ge q ws.length with g | g
  · exact g
  · rw [List.getElem?_eq_none g] at h; cases h
theorem bitW_at {ws : List Nat} {s : Int} {q : Nat} (h : q < ws.length) : bitW ws s q = ws[q].testBit s.toNat := by
  unfold bitW; rw [List.getElem?_eq_getElem h]

/-- What leads, leads forward, and not past the end. -/
def Fwd (L : Nat) (R : Nat → Nat → Prop) : Prop := ∀ q p, R q p → q ≤ p ∧ (q ≤ L → p ≤ L)
theorem Fwd.pl {L : Nat} {R : Nat → Nat → Prop} (h : Fwd L R) : Fwd L (Pl R) := fun q p k => by
  induction k using Pl.ind with
  | one a => exact h _ _ a
  | more _ a ih => exact ⟨Nat.le_trans ih.1 (h _ _ a).1, fun g => (h _ _ a).2 (ih.2 g)⟩
theorem fwdC_of (ws : List Nat) : ∀ l, (∀ x ∈ l, Fwd ws.length (relN ws x)) → Fwd ws.length (relC ws l)
  | [], _ => fun q p h => by
    rw [relC] at h
    subst h; exact ⟨Nat.le_refl _, id⟩
  | x :: l, ih => fun q p h => by
    rw [relC] at h
    obtain ⟨m, h1, h2⟩ := h
    have a := ih x (by simp) q m h1
    have b := fwdC_of ws l (fun y hy => ih y (by simp [hy])) m p h2
    exact ⟨Nat.le_trans a.1 b.1, fun g => b.2 (a.2 g)⟩
theorem fwdA_of (ws : List Nat) : ∀ l, (∀ x ∈ l, Fwd ws.length (relN ws x)) → Fwd ws.length (relA ws l)
  | [], _ => fun q p h => by
    rw [relA] at h
    cases h
  | x :: l, ih => fun q p h => by
    rw [relA] at h
    rcases h with h | h
    · exact ih x (by simp) q p h
    · exact fwdA_of ws l (fun y hy => ih y (by simp [hy])) q p h
theorem fwdH_of (ws : List Nat) : ∀ l, (∀ x ∈ l, Fwd ws.length (relN ws x)) → Fwd ws.length (relH ws l)
  | [], _ => fun q p h => by
    rw [relH] at h
    cases h
  | x :: l, ih => fun q p h => by
    rw [relH] at h
    exact ih x (by simp) q p h
theorem fwdN (ws : List Nat) : ∀ n, Fwd ws.length (relN ws n) :=
  Nd.ind fun k s l ih q p h => by
    rw [relN_mk] at h
    unfold relK at h
    split at h
    · exact fwdC_of ws l ih q p h
    split at h
    · obtain ⟨rfl, hb⟩ := h
      have := bitW_lt hb
      exact ⟨by omega, fun _ => by omega⟩
    split at h
    · exact fwdA_of ws l ih q p h
    split at h
    · rcases h with rfl | h
      · exact ⟨Nat.le_refl _, id⟩
      · exact (fwdH_of ws l ih).pl q p h
    split at h
    · exact (fwdH_of ws l ih).pl q p h
    split at h
    · rcases h with rfl | h
      · exact ⟨Nat.le_refl _, id⟩
      · exact fwdH_of ws l ih q p h
    · cases h
theorem fwdC (ws : List Nat) (l : List Nd) : Fwd ws.length (relC ws l) := fwdC_of ws l fun x _ => fwdN ws x
theorem fwdA (ws : List Nat) (l : List Nd) : Fwd ws.length (relA ws l) := fwdA_of ws l fun x _ => fwdN ws x
theorem fwdH (ws : List Nat) (l : List Nd) : Fwd ws.length (relH ws l) := fwdH_of ws l fun x _ => fwdN ws x

theorem Pl.agr {R T : Nat → Nat → Prop} {i b : Nat} (fw : ∀ q p, R q p → q ≤ p) (ft : ∀ q p, T q p → q ≤ p) (h : ∀ q p, p ≤ b → (R q p ↔ T (q + i) (p + i))) (q p : Nat) (hp : p ≤ b) : Pl R q p ↔ Pl T (q + i) (p + i) := by
  constructor
  · intro k
    induction k using Pl.ind with
    | one a => exact .one ((h _ _ hp).1 a)
    | more _ a ih => exact .more (ih (Nat.le_trans (fw _ _ a) hp)) ((h _ _ hp).1 a)
  · intro k
    have key : ∀ x y, Pl T x y → ∀ q p, x = q + i → y = p + i → p ≤ b → Pl R q p := by
      intro x y k
      induction k using Pl.ind with
      | one a => rintro q p rfl rfl hp; exact .one ((h _ _ hp).2 a)
      | more k a ih =>
        rename_i x m y
        rintro q p rfl rfl hp
        have h1 := k.le ft
        have h2 := ft _ _ a
        obtain ⟨m', rfl⟩ : ∃ m', m = m' + i := ⟨m - i, by omega⟩
        exact .more (ih q m' rfl rfl (by omega)) ((h _ _ hp).2 a)
    exact key _ _ k q p rfl rfl hp

/-- Two words that agree, with their places moved, lead alike. -/
def Agr (ws us : List Nat) (i b : Nat) : Prop := ∀ s q, q < b → bitW ws s q = bitW us s (q + i)
theorem agrC_of {ws us : List Nat} {i b : Nat} : ∀ l, (∀ x ∈ l, ∀ q p, p ≤ b → (relN ws x q p ↔ relN us x (q + i) (p + i))) → ∀ q p, p ≤ b → (relC ws l q p ↔ relC us l (q + i) (p + i))
  | [], _ => fun q p hp => by
    rw [relC, relC]; show p = q ↔ p + i = q + i; omega
  | x :: l, ih => fun q p hp => by
    rw [relC, relC]
    show (∃ m, relN ws x q m ∧ relC ws l m p) ↔ (∃ m, relN us x (q + i) m ∧ relC us l m (p + i))
    have ihl := agrC_of l (fun y hy => ih y (by simp [hy]))
    have ihx := ih x (by simp)
    constructor
    · rintro ⟨m, a, c⟩
      have := (fwdC ws l m p c).1
      exact ⟨m + i, (ihx q m (by omega)).1 a, (ihl m p hp).1 c⟩
    · rintro ⟨m, a, c⟩
      have h1 := (fwdC us l m _ c).1
      have h2 := (fwdN us x _ _ a).1
      obtain ⟨m', rfl⟩ : ∃ m', m = m' + i := ⟨m - i, by omega⟩
      exact ⟨m', (ihx q m' (by omega)).2 a, (ihl m' p hp).2 c⟩
theorem agrA_of {ws us : List Nat} {i b : Nat} : ∀ l, (∀ x ∈ l, ∀ q p, p ≤ b → (relN ws x q p ↔ relN us x (q + i) (p + i))) → ∀ q p, p ≤ b → (relA ws l q p ↔ relA us l (q + i) (p + i))
  | [], _ => fun q p hp => by
    rw [relA, relA]
  | x :: l, ih => fun q p hp => by
    rw [relA, relA]
    show (relN ws x q p ∨ relA ws l q p) ↔ (relN us x (q + i) (p + i) ∨ relA us l (q + i) (p + i))
    rw [ih x (by simp) q p hp, agrA_of l (fun y hy => ih y (by simp [hy])) q p hp]
theorem agrH_of {ws us : List Nat} {i b : Nat} : ∀ l, (∀ x ∈ l, ∀ q p, p ≤ b → (relN ws x q p ↔ relN us x (q + i) (p + i))) → ∀ q p, p ≤ b → (relH ws l q p ↔ relH us l (q + i) (p + i))
  | [], _ => fun q p hp => by
    rw [relH, relH]
  | x :: l, ih => fun q p hp => by
    rw [relH, relH, ih x (by simp) q p hp]
theorem agrN {ws us : List Nat} {i b : Nat} (h : Agr ws us i b) : ∀ n q p, p ≤ b → (relN ws n q p ↔ relN us n (q + i) (p + i)) :=
  Nd.ind fun k s l ih q p hp => by
    have hC := agrC_of l ih q p hp
    have hA := agrA_of l ih q p hp
    have hH := agrH_of l ih q p hp
    have hP := Pl.agr (fun q p g => (fwdH ws l q p g).1) (fun q p g => (fwdH us l q p g).1) (agrH_of l ih) q p hp
    have hS : relS ws s q p ↔ relS us s (q + i) (p + i) := by
      unfold relS
      constructor
      · rintro ⟨rfl, g⟩; exact ⟨by omega, by rw [← h s q (by omega)]; exact g⟩
      · rintro ⟨e, g⟩; exact ⟨by omega, by rw [h s q (by omega)]; exact g⟩
    have hE : p = q ↔ p + i = q + i := by omega
    rw [relN_mk, relN_mk]
    unfold relK
    rw [hC, hA, hH, hP, hS, hE]
theorem agr_drop (ws : List Nat) (i : Nat) : Agr (ws.drop i) ws i (ws.length) := fun s q _ => by
  unfold bitW; rw [List.getElem?_drop, Nat.add_comm]
theorem agr_take (ws : List Nat) (i : Nat) : Agr (ws.take i) ws 0 i := fun s q h => by
  unfold bitW; rw [List.getElem?_take, if_pos h]; rfl
theorem rel_drop (ws : List Nat) (n : Nd) (i : Nat) (h : i ≤ ws.length) : relN (ws.drop i) n 0 (ws.drop i).length ↔ relN ws n i ws.length := by
  rw [agrN (agr_drop ws i) n 0 _ (by simp), List.length_drop, Nat.zero_add, Nat.sub_add_cancel h]
theorem rel_take (ws : List Nat) (n : Nd) (i : Nat) (h : i ≤ ws.length) : relN (ws.take i) n 0 (ws.take i).length ↔ relN ws n 0 i := by
  rw [List.length_take, Nat.min_eq_left h]
  exact agrN (agr_take ws i) n 0 i (Nat.le_refl _)

/-- A word is one of an expression's; it ends with one; it begins with one. -/
def wholeP (ws : List Nat) (n : Nd) : Prop := rightN n = true ∧ relN ws n 0 ws.length
def suffP (ws : List Nat) (n : Nd) : Prop := rightN n = true ∧ ∃ i, i ≤ ws.length ∧ relN ws n i ws.length
def prefP (ws : List Nat) (n : Nd) : Prop := rightN n = true ∧ ∃ i, relN ws n 0 i
def wholeB (ws : List Nat) (n : Nd) (d : ∀ p : Prop, Decidable p := fun p => Classical.propDecidable p) : Bool := @decide (wholeP ws n) (d _)
def suffB (ws : List Nat) (n : Nd) (d : ∀ p : Prop, Decidable p := fun p => Classical.propDecidable p) : Bool := @decide (suffP ws n) (d _)
def prefB (ws : List Nat) (n : Nd) (d : ∀ p : Prop, Decidable p := fun p => Classical.propDecidable p) : Bool := @decide (prefP ws n) (d _)
theorem wholeB_iff {ws : List Nat} {n : Nd} : wholeB ws n = true ↔ wholeP ws n := by unfold wholeB; simp
theorem suffB_iff {ws : List Nat} {n : Nd} : suffB ws n = true ↔ suffP ws n := by unfold suffB; simp
theorem prefB_iff {ws : List Nat} {n : Nd} : prefB ws n = true ↔ prefP ws n := by unfold prefB; simp

/-- The signs' laws. -/
theorem right_star (n : Nd) (s : Int) (k : Int) (hk : k = 3 ∨ k = 4 ∨ k = 5) : rightN ⟨k, s, [n]⟩ = rightN n := by
  rw [rightN_mk, rightL, rightL]
  rcases hk with rfl | rfl | rfl <;> simp [mayK]
theorem right_cat (s : Int) (l : List Nd) : rightN ⟨0, s, l⟩ = rightL l := by
  rw [rightN_mk]; simp [mayK]
theorem rel_star (ws : List Nat) (s : Int) (n : Nd) (q p : Nat) : relN ws ⟨3, s, [n]⟩ q p ↔ (p = q ∨ Pl (relN ws n) q p) := by
  rw [relN_mk]; simp [relK, relH]
theorem rel_plus (ws : List Nat) (s : Int) (n : Nd) (q p : Nat) : relN ws ⟨4, s, [n]⟩ q p ↔ Pl (relN ws n) q p := by
  rw [relN_mk]; simp [relK, relH]
theorem rel_opt (ws : List Nat) (s : Int) (n : Nd) (q p : Nat) : relN ws ⟨5, s, [n]⟩ q p ↔ (p = q ∨ relN ws n q p) := by
  rw [relN_mk]; simp [relK, relH]
theorem rel_cat2 (ws : List Nat) (s : Int) (a b : Nd) (q p : Nat) : relN ws ⟨0, s, [a, b]⟩ q p ↔ ∃ m, relN ws a q m ∧ relN ws b m p := by
  rw [relN_mk]; simp [relK, relC]
theorem rel_set (ws : List Nat) (s : Int) (l : List Nd) (q p : Nat) : relN ws ⟨1, s, l⟩ q p ↔ (p = q + 1 ∧ bitW ws s q = true) := by
  rw [relN_mk]; simp [relK, relS]
theorem rel_alt (ws : List Nat) (s : Int) (l : List Nd) (q p : Nat) : relN ws ⟨2, s, l⟩ q p ↔ relA ws l q p := by
  rw [relN_mk]; simp [relK]
theorem relA_iff (ws : List Nat) : ∀ (l : List Nd) (q p : Nat), relA ws l q p ↔ ∃ x ∈ l, relN ws x q p
  | [], q, p => by rw [relA]; simp
  | x :: l, q, p => by
    rw [relA]
    show (relN ws x q p ∨ relA ws l q p) ↔ _
    rw [relA_iff ws l]; simp
theorem signs_plus (ws : List Nat) (n : Nd) : wholeP ws ⟨4, 0, [n]⟩ ↔ wholeP ws ⟨0, 0, [n, ⟨3, 0, [n]⟩]⟩ := by
  unfold wholeP
  rw [right_star n 0 4 (by omega), right_cat, rel_plus, rel_cat2]
  have e : rightL [n, ⟨3, 0, [n]⟩] = rightN n := by simp [rightL, right_star n 0 3 (by omega)]
  rw [e]
  refine and_congr_right fun _ => ?_
  constructor
  · intro h
    rcases h.inv with h | ⟨m, h1, h2⟩
    · exact ⟨_, h, (rel_star _ _ _ _ _).2 (.inl rfl)⟩
    · exact ⟨m, h1, (rel_star _ _ _ _ _).2 (.inr h2)⟩
  · rintro ⟨m, h1, h2⟩
    rcases (rel_star _ _ _ _ _).1 h2 with e | h
    · rw [e]; exact .one h1
    · exact .cons h1 h
theorem signs_opt (ws : List Nat) (n : Nd) : wholeP ws ⟨5, 0, [n]⟩ ↔ (rightN n = true ∧ (ws.length = 0 ∨ wholeP ws n)) := by
  unfold wholeP
  rw [right_star n 0 5 (by omega), rel_opt]
  constructor
  · rintro ⟨h, e | g⟩
    · exact ⟨h, .inl e⟩
    · exact ⟨h, .inr ⟨h, g⟩⟩
  · rintro ⟨h, e | ⟨_, g⟩⟩
    · exact ⟨h, .inl e⟩
    · exact ⟨h, .inr g⟩
theorem signs_star (ws : List Nat) (n : Nd) (k : Int) (hk : k = 3 ∨ k = 4 ∨ k = 5) : wholeP ws ⟨3, 0, [⟨k, 0, [n]⟩]⟩ ↔ wholeP ws ⟨3, 0, [n]⟩ := by
  unfold wholeP
  rw [right_star _ 0 3 (by omega), right_star n 0 k hk, right_star n 0 3 (by omega), rel_star, rel_star]
  refine and_congr_right fun _ => ?_
  have up : ∀ q p, relN ws ⟨k, 0, [n]⟩ q p → (p = q ∨ Pl (relN ws n) q p) := fun q p h => by
    rcases hk with rfl | rfl | rfl
    · exact (rel_star _ _ _ _ _).1 h
    · exact .inr ((rel_plus _ _ _ _ _).1 h)
    · exact ((rel_opt _ _ _ _ _).1 h).imp id .one
  have down : ∀ q p, relN ws n q p → relN ws ⟨k, 0, [n]⟩ q p := fun q p h => by
    rcases hk with rfl | rfl | rfl
    · exact (rel_star _ _ _ _ _).2 (.inr (.one h))
    · exact (rel_plus _ _ _ _ _).2 (.one h)
    · exact (rel_opt _ _ _ _ _).2 (.inr h)
  constructor
  · rintro (e | h)
    · exact .inl e
    · have key : ∀ q p, Pl (relN ws ⟨k, 0, [n]⟩) q p → (p = q ∨ Pl (relN ws n) q p) := by
        intro q p h
        induction h using Pl.ind with
        | one a => exact up _ _ a
        | more _ a ih =>
          rcases up _ _ a with e | c
          · rw [e]; exact ih
          · rcases ih with e | d
            · rw [e] at c; exact .inr c
            · exact .inr (d.trans c)
      exact key _ _ h
  · rintro (e | h)
    · exact .inl e
    · exact .inr (h.mono down)
theorem parts_cat (ws : List Nat) (a b : Nd) : wholeP ws ⟨0, 0, [a, b]⟩ ↔ ∃ i, i ≤ ws.length ∧ wholeP (ws.take i) a ∧ wholeP (ws.drop i) b := by
  unfold wholeP
  rw [right_cat, rel_cat2]
  have e : rightL [a, b] = (rightN a && rightN b) := by simp [rightL]
  rw [e, Bool.and_eq_true]
  constructor
  · rintro ⟨⟨ha, hb⟩, m, h1, h2⟩
    have hm := (fwdN ws b m _ h2).1
    exact ⟨m, hm, ⟨ha, (rel_take ws a m hm).2 h1⟩, hb, (rel_drop ws b m hm).2 h2⟩
  · rintro ⟨m, hm, ⟨ha, h1⟩, hb, h2⟩
    exact ⟨⟨ha, hb⟩, m, (rel_take ws a m hm).1 h1, (rel_drop ws b m hm).1 h2⟩
theorem right_alt (s : Int) (x : Nd) (l : List Nd) : rightN ⟨2, s, x :: l⟩ = rightL (x :: l) := by
  rw [rightN_mk]; simp [mayK]
theorem whole_alt (ws : List Nat) (x : Nd) (l : List Nd) : wholeP ws ⟨2, 0, x :: l⟩ ↔ ((∀ y ∈ x :: l, rightN y = true) ∧ ∃ y ∈ x :: l, wholeP ws y) := by
  unfold wholeP
  rw [right_alt, rightL_iff, rel_alt, relA_iff]
  exact ⟨fun ⟨h, y, hy, g⟩ => ⟨h, y, hy, h y hy, g⟩, fun ⟨h, y, hy, _, g⟩ => ⟨h, y, hy, g⟩⟩
end Go.Proofs.YtklhjjgnhigbiaaGreatDoor

namespace Go.Proofs.YtklhjjgnhigbiaaGreatDoor
open Go.RowKit
set_option linter.unusedVariables false

theorem below_alloc (w : World) (o : Obj) : Below w.heap.size w (w.alloc o) := (Below.refl _ _).alloc (Nat.le_refl _) o
theorem below_after {a b c : World} (h : Below a.heap.size a b) (k : Below b.heap.size b c) : Below a.heap.size a c := h.trans (k.mono h.size)
theorem heap_new' (w : World) (o : Obj) : (w.alloc o).heap[w.heap.size]? = some o := by
  show (w.heap.push o)[w.heap.size]? = _
  simp
theorem below_drewN' {B : Nat} {a w : World} (h : Below B a w) : ∀ k, Below B a (w.drewN k)
  | 0 => h
  | k + 1 => (below_drewN' h k).drew
theorem add_lit' (g j : Nat) : (⟨g, 0, none⟩ : Addr).add j = ⟨g, 0 + j, none⟩ := by unfold Addr.add; split <;> simp_all
theorem addr_add (g off j : Nat) : (⟨g, off, none⟩ : Addr).add j = ⟨g, off + j, none⟩ := by unfold Addr.add; split <;> simp_all
theorem cell_some_lt {w : World} {a : Addr} {v : Value} (h : w.cell? a = some v) : a.block < w.heap.size := by
  rcases Nat.lt_or_ge a.block w.heap.size with q | q
  · exact q
  · simp [World.cell?, Array.getElem?_eq_none q] at h
theorem cell_in {w : World} {b : Nat} {cs : Array Value} {t : TypeId} {fr : Nat × Nat} (h : w.heap[b]? = some (.cells cs t fr)) (i : Nat) : w.cell? ⟨b, i, none⟩ = cs[i]? := by
  simp [World.cell?, h]
theorem lt_of_heap {w : World} {b : Nat} {o : Obj} (h : w.heap[b]? = some o) : b < w.heap.size := (Array.getElem?_eq_some_iff.1 h).1
theorem ownsRow_below {w w' : World} {base e size n : Nat} {v : Value} {xs : List Value} (h : w.ownsRow base e size v n xs) (hb : Below w.heap.size w w') : w'.ownsRow base e size v n xs :=
  World.ownsRow.kept (row := none) h ⟨hb.os, hb.tape, hb.output, hb.size, fun k hk _ => hb.block k hk⟩ (by cases v.ownBlock <;> simp)
theorem info_parts {t : TypeId} {z : Value} {s b : Nat} (h : (Tryz.prog.info? t).map (fun i => (i.zero, i.size, i.bytes)) = some (some z, s, b)) : ∃ i, Tryz.prog.info? t = some i ∧ i.zero = some z ∧ i.size = s ∧ i.bytes = b := by
  cases hi : Tryz.prog.info? t with
  | none => rw [hi] at h; cases h
  | some i =>
    rw [hi] at h
    simp only [Option.map_some, Option.some.injEq, Prod.mk.injEq] at h
    exact ⟨i, rfl, h.1, h.2.1, h.2.2⟩
theorem Tryz.infoInt : (Tryz.prog.info? 3).map (fun i => (i.zero, i.size, i.bytes)) = some (some (.int .i64 0), 1, 8) := by kernel_rfl

/-- What is appended: nothing, of a nil slice; or the cells news. -/
def SrcIs (w : World) (x : Value) (m size : Nat) (news : List Value) : Prop :=
  (x = .slice none 0 0 ∧ m = 0 ∧ news = []) ∨ ∃ ad c, x = .slice (some ad) m c ∧ news.length = m * size ∧ (∀ j u, news[j]? = some u → w.cell? (ad.add j) = some u) ∧ ∀ u ∈ news, u.oneCell' = true
theorem wpList_append_src {P : Program} (w : World) {ops : Array Oper} {rest : List Oper} {o : Oper} {a : Act} {Q : Exit → Act → World → Prop} (hgd : o.guard = none) (s x : Operand) (t : TypeId)
    (ho : o.op = .call { callee := .builtin .append, args := #[s, x], argTypes := #[t, t] })
    (base : Nat) (e : TypeId) (i : TypeInfo) (z : Value) (size bytes : Nat) (ht : P.underlying t = some (.slice e)) (hi : P.info? e = some i) (hz : i.zero = some z)
    (hsize : i.size = size) (hby : i.bytes = bytes) (hzs : z.cells.size = size) (hsz : 0 < size)
    (v : Value) (n : Nat) (xs : List Value) (hs : a.eval s = v) (hown : w.ownsRow base e size v n xs) (y : Value) (hx : a.eval x = y)
    (m : Nat) (news : List Value) (hsrc : SrcIs w y m size news) (h63 : n + m ≤ maxLen) (hbytes : (n + m) * bytes ≤ 140737488355328) (hbase : base ≤ w.heap.size)
    (h : ∀ v' w', w'.ownsRow base e size v' (n + m) (xs ++ news) → w.grownBy w' v.ownBlock → wpList P ops Q rest (a.put o.dst v') w') : wpList P ops Q (o :: rest) a w := by
  subst hx
  rcases hsrc with ⟨hx, rfl, rfl⟩ | ⟨ad, c, hx, hl, hc, h1⟩
  · refine wpList_append_own_none hgd s x t ho base e i size ht hi v n xs hs hown hx ?_
    refine h v w (by simpa using hown) ⟨rfl, rfl, rfl, Nat.le_refl _, fun _ _ _ => rfl⟩
  · exact wpList_append_own w hgd s x t ho base e i z size bytes ht hi hz hsize hby hzs hsz v n xs hs hown ad m c news hx hl hc h1 h63 hbytes hbase fun v' w' h2 h3 _ => h v' w' h2 h3

/-- Places as cells. -/
def cellP (l : List Nat) : List Value := l.map fun (n : Nat) => Value.int .i64 (n : Int)
theorem cellP_snoc (l : List Nat) (x : Nat) : cellP (l ++ [x]) = cellP l ++ [.int .i64 (x : Int)] := by simp [cellP]
theorem cellP_append (a b : List Nat) : cellP (a ++ b) = cellP a ++ cellP b := by simp [cellP]
theorem cellP_length (a : List Nat) : (cellP a).length = a.length := by simp [cellP]
theorem cellP_one (l : List Nat) : ∀ u ∈ cellP l, u.oneCell' = true := fun u hu => by
  obtain ⟨n, _, rfl⟩ := List.mem_map.1 hu
  rfl
/-- The slice value v holds the places l, in a block from B on, or in an old one. -/
def PlcAt (b0 B : Nat) (w : World) (v : Value) (l : List Nat) : Prop :=
  ∃ a cap, v = .slice a l.length cap ∧ l.length ≤ cap ∧ (a = none → cap = 0) ∧ ∀ i, (h : i < l.length) → ∃ g off, a = some ⟨g, off, none⟩ ∧ (g < b0 ∨ B ≤ g) ∧ g < w.heap.size ∧ w.cell? ⟨g, off + i, none⟩ = some (.int .i64 (l[i] : Int))
theorem PlcAt.nil (b0 B : Nat) (w : World) : PlcAt b0 B w (.slice none 0 0) [] := ⟨none, 0, rfl, Nat.le_refl _, fun _ => rfl, fun i h => (by cases h)⟩
theorem PlcAt.to {b0 B : Nat} {w w' : World} {v : Value} {l : List Nat} (h : PlcAt b0 B w v l) (hq : ∀ k, (k < b0 ∨ B ≤ k) → k < w.heap.size → w'.heap[k]? = w.heap[k]?) (hs : w.heap.size ≤ w'.heap.size) : PlcAt b0 B w' v l := by
  obtain ⟨a, cap, rfl, hc, hn, hi⟩ := h
  refine ⟨a, cap, rfl, hc, hn, fun i hlt => ?_⟩
  obtain ⟨g, off, rfl, hg, hg2, h0⟩ := hi i hlt
  exact ⟨g, off, rfl, hg, Nat.lt_of_lt_of_le hg2 hs, (World.cell?_of_block (a := ⟨g, _, none⟩) (hq g hg hg2)).trans h0⟩
theorem PlcAt.below {b0 B : Nat} {w w' : World} {v : Value} {l : List Nat} (h : PlcAt b0 B w v l) (hb : Below w.heap.size w w') : PlcAt b0 B w' v l := h.to (fun k _ hk => hb.block k hk) hb.size
theorem PlcAt.less {b0 B C : Nat} {w : World} {v : Value} {l : List Nat} (h : PlcAt b0 B w v l) (hc : C ≤ B) : PlcAt b0 C w v l := by
  obtain ⟨a, cap, rfl, hc', hn, hi⟩ := h
  refine ⟨a, cap, rfl, hc', hn, fun i hlt => ?_⟩
  obtain ⟨g, off, rfl, hg, hg2, h0⟩ := hi i hlt
  exact ⟨g, off, rfl, hg.imp id (Nat.le_trans hc), hg2, h0⟩
theorem PlcAt.src {b0 B : Nat} {w : World} {v : Value} {l : List Nat} (h : PlcAt b0 B w v l) : SrcIs w v l.length 1 (cellP l) := by
  obtain ⟨a, cap, rfl, hc, hn, hi⟩ := h
  cases a with
  | none =>
    have h0 : l = [] := by
      cases l with
      | nil => rfl
      | cons x l => obtain ⟨g, off, e, _⟩ := hi 0 (by simp); cases e
    subst h0
    exact .inl ⟨by rw [hn rfl]; rfl, rfl, rfl⟩
  | some ad =>
    refine .inr ⟨ad, cap, rfl, by rw [cellP_length, Nat.mul_one], fun j u hj => ?_, cellP_one l⟩
    have hlt : j < l.length := by
      have := (List.getElem?_eq_some_iff.1 hj).1
      rwa [cellP_length] at this
    obtain ⟨g', off', e, _, _, hcell⟩ := hi j hlt
    cases e
    rw [addr_add, hcell]
    simp only [cellP, List.getElem?_map, List.getElem?_eq_getElem hlt, Option.map_some] at hj
    exact hj
theorem plc_of_row {w : World} {b0 B base : Nat} {v : Value} {l : List Nat} (h : w.ownsRow base 3 1 v l.length (cellP l)) (hB : B ≤ base) : PlcAt b0 B w v l := by
  rcases h.2 with ⟨rfl, h0⟩ | ⟨g, cap, cur, rfl, hb, hg, hc, hm, hs, ht⟩
  · obtain rfl : l = [] := List.length_eq_zero_iff.1 h0
    exact PlcAt.nil _ _ _
  · refine ⟨_, cap, rfl, hc, fun e => (by cases e), fun i hi => ⟨g, 0, rfl, .inr (Nat.le_trans hB hb), lt_of_heap hg, ?_⟩⟩
    have := h.cells (g := g) rfl i (.int .i64 (l[i] : Int)) (by simp [cellP, hi])
    rw [add_lit'] at this
    exact this

/-- Rising, none past L. -/
def Ris (L : Nat) (l : List Nat) : Prop := l.Pairwise (· < ·) ∧ ∀ x ∈ l, x ≤ L
theorem ris_len : ∀ (l : List Nat) (a L : Nat), l.Pairwise (· < ·) → (∀ x ∈ l, a ≤ x ∧ x ≤ L) → a ≤ L + 1 → l.length + a ≤ L + 1
  | [], a, L, _, _, h => by simpa using h
  | x :: l, a, L, hp, h, _ => by
    rw [List.pairwise_cons] at hp
    have hx := h x (by simp)
    have := ris_len l (x + 1) L hp.2 (fun y hy => ⟨hp.1 y hy, (h y (by simp [hy])).2⟩) (by omega)
    simp; omega
theorem Ris.len {L : Nat} {l : List Nat} (h : Ris L l) : l.length ≤ L + 1 := by
  have := ris_len l 0 L h.1 (fun x hx => ⟨Nat.zero_le _, h.2 x hx⟩) (by omega)
  omega
theorem Ris.nil (L : Nat) : Ris L [] := ⟨List.Pairwise.nil, fun x hx => (by cases hx)⟩
theorem Ris.sub {L : Nat} {l k : List Nat} (h : Ris L l) (hs : k.Sublist l) : Ris L k := ⟨h.1.sublist hs, fun x hx => h.2 x (hs.subset hx)⟩

/-- What lies outside lo .. hi stays. -/
def FrI (lo hi : Nat) (w w' : World) : Prop := Below lo w w' ∧ ∀ k, hi ≤ k → k < w.heap.size → w'.heap[k]? = w.heap[k]?
theorem FrI.refl (lo hi : Nat) (w : World) : FrI lo hi w w := ⟨Below.refl _ _, fun _ _ _ => rfl⟩
theorem FrI.trans {lo hi : Nat} {a b c : World} (h : FrI lo hi a b) (k : FrI lo hi b c) : FrI lo hi a c :=
  ⟨h.1.trans k.1, fun i h1 h2 => (k.2 i h1 (Nat.lt_of_lt_of_le h2 h.1.size)).trans (h.2 i h1 h2)⟩
theorem FrI.wide {lo hi lo' hi' : Nat} {w w' : World} (h : FrI lo hi w w') (h1 : lo' ≤ lo) (h2 : hi ≤ hi') : FrI lo' hi' w w' := ⟨h.1.mono h1, fun k hk => h.2 k (Nat.le_trans h2 hk)⟩
theorem FrI.of {lo hi : Nat} {w w' : World} (h : Below w.heap.size w w') (hl : lo ≤ w.heap.size) : FrI lo hi w w' := ⟨h.mono hl, fun k _ hk => h.block k hk⟩
theorem FrI.size {lo hi : Nat} {w w' : World} (h : FrI lo hi w w') : w.heap.size ≤ w'.heap.size := h.1.size
theorem FrI.block {lo hi : Nat} {w w' : World} (h : FrI lo hi w w') {k : Nat} (hk : k < lo ∨ (hi ≤ k ∧ k < w.heap.size)) : w'.heap[k]? = w.heap[k]? := hk.elim (h.1.block k) (fun q => h.2 k q.1 q.2)
theorem PlcAt.fr {b0 B lo hi : Nat} {w w' : World} {v : Value} {l : List Nat} (h : PlcAt b0 B w v l) (hf : FrI lo hi w w') (hb : hi ≤ B) (h0 : b0 ≤ lo) : PlcAt b0 B w' v l := h.to (fun k h1 h2 => hf.block (h1.elim (fun q => .inl (Nat.lt_of_lt_of_le q h0)) (fun q => .inr ⟨Nat.le_trans hb q, h2⟩))) hf.size

/-- The slice value v holds the word ws, in a block below B. -/
def WrdAt (B : Nat) (w : World) (v : Value) (ws : List Nat) : Prop :=
  ∃ a cap, v = .slice a ws.length cap ∧ ws.length ≤ cap ∧ ∀ i, (h : i < ws.length) → ws[i] < 18446744073709551616 ∧ ∃ g off, a = some ⟨g, off, none⟩ ∧ g < B ∧ w.cell? ⟨g, off + i, none⟩ = some (.int .u64 (ws[i] : Int))
theorem WrdAt.to {B C : Nat} {w w' : World} {v : Value} {ws : List Nat} (h : WrdAt B w v ws) (hq : ∀ k, k < B → w'.heap[k]? = w.heap[k]?) (hC : B ≤ C) : WrdAt C w' v ws := by
  obtain ⟨a, cap, rfl, hc, hi⟩ := h
  refine ⟨a, cap, rfl, hc, fun i hlt => ?_⟩
  obtain ⟨h64, g, off, rfl, hg, h0⟩ := hi i hlt
  exact ⟨h64, g, off, rfl, Nat.lt_of_lt_of_le hg hC, (World.cell?_of_block (a := ⟨g, _, none⟩) (hq g hg)).trans h0⟩

/-- The slice value z holds the parts l, and all that these have, in blocks that Q lets. -/
def KidS (Q : Nat → Prop) (w : World) : Nat → Value → List Nd → Prop
  | 0, z, l => l = [] ∧ ∃ a cap, z = .slice a 0 cap
  | f + 1, z, l => ∃ a cap, z = .slice a l.length cap ∧ l.length ≤ cap ∧ ∀ i, (h : i < l.length) → ∃ g off z', a = some ⟨g, off, none⟩ ∧ Q g ∧ w.cell? ⟨g, off + i * 3, none⟩ = some (.int .i64 l[i].k) ∧ w.cell? ⟨g, off + i * 3 + 1, none⟩ = some (.int .i64 l[i].s) ∧ w.cell? ⟨g, off + i * 3 + 2, none⟩ = some z' ∧ KidS Q w f z' l[i].kids
theorem KidS.up {Q : Nat → Prop} {w : World} : ∀ {f : Nat} {z : Value} {l : List Nd}, KidS Q w f z l → KidS Q w (f + 1) z l
  | 0, z, l, ⟨h, a, cap, e⟩ => by
    subst h
    exact ⟨a, cap, e, Nat.zero_le _, fun i h => (by cases h)⟩
  | f + 1, z, l, ⟨a, cap, e, hc, hi⟩ => ⟨a, cap, e, hc, fun i h => by
    obtain ⟨g, off, z', h1, h2, h3, h4, h5, h6⟩ := hi i h
    exact ⟨g, off, z', h1, h2, h3, h4, h5, h6.up⟩⟩
theorem KidS.le {Q : Nat → Prop} {w : World} {z : Value} {l : List Nd} {f : Nat} (h : KidS Q w f z l) : ∀ k, KidS Q w (f + k) z l
  | 0 => h
  | k + 1 => (KidS.le h k).up
theorem KidS.to {Q Q' : Nat → Prop} {w w' : World} (hq : ∀ k, Q k → w'.heap[k]? = w.heap[k]? ∧ Q' k) : ∀ {f : Nat} {z : Value} {l : List Nd}, KidS Q w f z l → KidS Q' w' f z l
  | 0, z, l, h => h
  | f + 1, z, l, ⟨a, cap, e, hc, hi⟩ => ⟨a, cap, e, hc, fun i h => by
    obtain ⟨g, off, z', h1, h2, h3, h4, h5, h6⟩ := hi i h
    obtain ⟨hb, hg⟩ := hq g h2
    exact ⟨g, off, z', h1, hg, (World.cell?_of_block (a := ⟨g, _, none⟩) hb).trans h3, (World.cell?_of_block (a := ⟨g, _, none⟩) hb).trans h4, (World.cell?_of_block (a := ⟨g, _, none⟩) hb).trans h5, h6.to hq⟩⟩
/-- .. however deep. -/
def KdX (Q : Nat → Prop) (w : World) (z : Value) (l : List Nd) : Prop := ∃ f, KidS Q w f z l
theorem KdX.to {Q Q' : Nat → Prop} {w w' : World} {z : Value} {l : List Nd} (h : KdX Q w z l) (hq : ∀ k, Q k → w'.heap[k]? = w.heap[k]? ∧ Q' k) : KdX Q' w' z l := by
  obtain ⟨f, h⟩ := h; exact ⟨f, h.to hq⟩
theorem KdX.nil (Q : Nat → Prop) (w : World) : KdX Q w (.slice none 0 0) [] := ⟨0, rfl, _, _, rfl⟩
theorem KdX.slice {Q : Nat → Prop} {w : World} {z : Value} {l : List Nd} (h : KdX Q w z l) : ∃ a cap, z = .slice a l.length cap ∧ (l.length ≤ cap ∨ l = []) := by
  obtain ⟨f, h⟩ := h
  cases f with
  | zero => obtain ⟨rfl, a, cap, e⟩ := h; exact ⟨a, cap, e, .inr rfl⟩
  | succ f => obtain ⟨a, cap, e, hc, _⟩ := h; exact ⟨a, cap, e, .inl hc⟩
theorem KdX.at {Q : Nat → Prop} {w : World} {z : Value} {l : List Nd} (h : KdX Q w z l) (i : Nat) (hi : i < l.length) : ∃ g off cap z', z = .slice (some ⟨g, off, none⟩) l.length cap ∧ l.length ≤ cap ∧ Q g ∧ w.cell? ⟨g, off + i * 3, none⟩ = some (.int .i64 l[i].k) ∧ w.cell? ⟨g, off + i * 3 + 1, none⟩ = some (.int .i64 l[i].s) ∧ w.cell? ⟨g, off + i * 3 + 2, none⟩ = some z' ∧ KdX Q w z' l[i].kids := by
  obtain ⟨f, h⟩ := h
  cases f with
  | zero => obtain ⟨rfl, _⟩ := h; cases hi
  | succ f =>
    obtain ⟨a, cap, rfl, hc, hx⟩ := h
    obtain ⟨g, off, z', rfl, h2, h3, h4, h5, h6⟩ := hx i hi
    exact ⟨g, off, cap, z', rfl, hc, h2, h3, h4, h5, f, h6⟩

/-- An expression as it is handed on, and its cells. -/
def ndV (n : Nd) (z : Value) : Value := .agg #[.int .i64 n.k, .int .i64 n.s, z]
def cellsN (x : Nd × Value) : List Value := [.int .i64 x.1.k, .int .i64 x.1.s, x.2]
def cellsNs (l : List (Nd × Value)) : List Value := l.flatMap cellsN
theorem cellsNs_snoc (l : List (Nd × Value)) (x : Nd × Value) : cellsNs (l ++ [x]) = cellsNs l ++ cellsN x := by simp [cellsNs]
theorem cellsNs_length : ∀ (l : List (Nd × Value)), (cellsNs l).length = l.length * 3
  | [] => rfl
  | x :: l => by
    have e : cellsNs (x :: l) = cellsN x ++ cellsNs l := rfl
    rw [e, List.length_append, cellsNs_length l]
    simp [cellsN]; omega
theorem cellsNs_at : ∀ (l : List (Nd × Value)) (i j : Nat) (h : i < l.length), j < 3 → (cellsNs l)[i * 3 + j]? = (cellsN l[i])[j]?
  | u :: us, 0, j, h, hj => by
    have e : cellsNs (u :: us) = cellsN u ++ cellsNs us := rfl
    rw [e, Nat.zero_mul, Nat.zero_add, List.getElem?_append_left (by simpa [cellsN] using hj)]
    rfl
  | u :: us, i + 1, j, h, hj => by
    have e : cellsNs (u :: us) = cellsN u ++ cellsNs us := rfl
    rw [e, List.getElem?_append_right (by simp [cellsN]; omega)]
    have e2 : (i + 1) * 3 + j - (cellsN u).length = i * 3 + j := by simp [cellsN]; omega
    rw [e2, cellsNs_at us i j (by simpa using h) hj]
    rfl
/-- Parts that are told one by one. -/
def KidsX (Q : Nat → Prop) (w : World) (l : List (Nd × Value)) : Prop := ∀ x ∈ l, KdX Q w x.2 x.1.kids
theorem KidsX.to {Q Q' : Nat → Prop} {w w' : World} {l : List (Nd × Value)} (h : KidsX Q w l) (hq : ∀ k, Q k → w'.heap[k]? = w.heap[k]? ∧ Q' k) : KidsX Q' w' l := fun x hx => (h x hx).to hq
theorem kids_fuel {Q : Nat → Prop} {w : World} : ∀ {l : List (Nd × Value)}, KidsX Q w l → ∃ f, ∀ x ∈ l, KidS Q w f x.2 x.1.kids
  | [], _ => ⟨0, fun x h => (by cases h)⟩
  | y :: l, h => by
    obtain ⟨f, hf⟩ := kids_fuel (l := l) (fun x hx => h x (by simp [hx]))
    obtain ⟨g, hg⟩ := h y (by simp)
    refine ⟨f + g, fun x hx => ?_⟩
    rcases List.mem_cons.1 hx with rfl | hx
    · rw [Nat.add_comm]; exact hg.le f
    · exact (hf x hx).le g
theorem kids_of_row {Q : Nat → Prop} {w : World} {base : Nat} {v : Value} {l : List (Nd × Value)} (h : w.ownsRow base 24 3 v l.length (cellsNs l)) (hk : KidsX Q w l) (hq : ∀ g, v.ownBlock = some g → Q g) : KdX Q w v (l.map Prod.fst) := by
  obtain ⟨f, hf⟩ := kids_fuel hk
  rcases h.2 with ⟨rfl, h0⟩ | ⟨g, cap, cur, rfl, hb, hg, hc, hm, hs, ht⟩
  · obtain rfl : l = [] := List.length_eq_zero_iff.1 h0
    exact KdX.nil _ _
  · have key : ∀ i j x, i < l.length → (cellsNs l)[i * 3 + j]? = some x → w.cell? ⟨g, 0 + i * 3 + j, none⟩ = some x := fun i j x hi hx => by
      have := h.cells (g := g) rfl (i * 3 + j) x hx
      rw [add_lit'] at this
      rw [Nat.add_assoc]
      exact this
    refine ⟨f + 1, some ⟨g, 0, none⟩, cap, by simp, by simpa using hc, fun i hi => ?_⟩
    have hi' : i < l.length := by simpa using hi
    have el : (l.map Prod.fst)[i] = l[i].1 := by simp
    rw [el]
    exact ⟨g, 0, l[i].2, rfl, hq g rfl, key i 0 _ hi' (by rw [cellsNs_at l i 0 hi' (by omega)]; rfl), key i 1 _ hi' (by rw [cellsNs_at l i 1 hi' (by omega)]; rfl), key i 2 _ hi' (by rw [cellsNs_at l i 2 hi' (by omega)]; rfl), hf _ (List.getElem_mem hi')⟩
theorem kidS_nil (Q : Nat → Prop) (w : World) (f : Nat) (a : Option Addr) (cap : Nat) : KidS Q w f (.slice a 0 cap) [] := by
  cases f with
  | zero => exact ⟨rfl, a, cap, rfl⟩
  | succ f => exact ⟨a, cap, rfl, Nat.zero_le _, fun i h => (by cases h)⟩
theorem KidS.slice {Q : Nat → Prop} {w : World} {f : Nat} {z : Value} {l : List Nd} (h : KidS Q w f z l) : ∃ a cap, z = .slice a l.length cap := by
  cases f with
  | zero => obtain ⟨rfl, a, cap, e⟩ := h; exact ⟨a, cap, e⟩
  | succ f => obtain ⟨a, cap, e, hc, _⟩ := h; exact ⟨a, cap, e⟩
end Go.Proofs.YtklhjjgnhigbiaaGreatDoor
