/-
  A matrix of Booleans in memory, row by row.
-/
import Derived.Test.YtklhjjgnhigbiaaGreatDoorLsMem
import Derived.Laws.MakeOwn
namespace Go.Proofs.YtklhjjgnhigbiaaGreatDoor
open Go.RowKit Go.Shelf
set_option linter.unusedVariables false

theorem Tryz.infoBools13 : (Tryz.prog.info? 33).map (fun i => (i.zero, i.size, i.bytes)) = some (some (.slice none 0 0), 1, 24) := by kernel_rfl
theorem made_one (v : Value) (n : Nat) : (madeCells #[v] n).toList = (List.range n).map fun _ => v := by
  unfold madeCells
  refine List.ext_getElem (by simp) (fun i h1 h2 => ?_)
  simp [Nat.mod_one]
def rowB (n : Nat) (f : Nat → Bool) : List Value := (List.range n).map fun k => Value.bool (f k)
def outB (n j : Nat) (g : Nat → Nat) : List Value := (List.range n).map fun q => if q < j then Value.slice (some ⟨g q, 0, none⟩) n n else .slice none 0 0
def upB (m : Nat → Nat → Bool) (q k : Nat) (b : Bool) (x y : Nat) : Bool := if x = q ∧ y = k then b else m x y
/-- The first j rows of a matrix of n by n are made. -/
structure MatI (w : World) (base og n j : Nat) (g : Nat → Nat) (m : Nat → Nat → Bool) : Prop where
  out : w.ownsRow base 33 1 (.slice (some ⟨og, 0, none⟩) n n) n (outB n j g)
  row : ∀ q, q < j → w.ownsRow base 4 1 (.slice (some ⟨g q, 0, none⟩) n n) n (rowB n (m q))
  inj : ∀ p q, p < j → q < j → g p = g q → p = q
section
variable {w w' : World} {base og n j : Nat} {g : Nat → Nat} {m : Nat → Nat → Bool}
theorem rowB_set {f : Nat → Bool} {k : Nat} (hk : k < n) (b : Bool) : (rowB n f).set k (.bool b) = rowB n (fun y => if y = k then b else f y) := by
  refine List.ext_getElem (by simp [rowB]) (fun i h1 h2 => ?_)
  rw [List.getElem_set]
  by_cases e : k = i
  · subst e
    simp [rowB]
  · have e2 : ¬ i = k := fun q => e q.symm
    simp [rowB, e, e2]
theorem outB_set (hj : j < n) (G : Nat) : (outB n j g).set j (.slice (some ⟨G, 0, none⟩) n n) = outB n (j + 1) (fun q => if q = j then G else g q) := by
  refine List.ext_getElem (by simp [outB]) (fun i h1 h2 => ?_)
  rw [List.getElem_set]
  by_cases e : j = i
  · subst e
    simp [outB]
  · have e2 : ¬ i = j := fun q => e q.symm
    by_cases h : i < j
    · have h3 : i < j + 1 := by omega
      simp [outB, e, e2, h, h3]
    · have h3 : ¬ i < j + 1 := by omega
      simp [outB, e, h, h3]
theorem MatI.below (h : MatI w base og n j g m) (hb : Below w.heap.size w w') : MatI w' base og n j g m := ⟨ownsRow_below h.out hb, fun q hq => ownsRow_below (h.row q hq) hb, h.inj⟩
theorem MatI.ltO (h : MatI w base og n j g m) : og < w.heap.size ∧ base ≤ og := by
  have := h.out.lt og rfl
  exact ⟨this.2, this.1⟩
theorem MatI.ltR (h : MatI w base og n j g m) {q : Nat} (hq : q < j) : g q < w.heap.size ∧ base ≤ g q := by
  have := (h.row q hq).lt (g q) rfl
  exact ⟨this.2, this.1⟩
theorem MatI.ne (h : MatI w base og n j g m) {q : Nat} (hq : q < j) : g q ≠ og := fun e => by
  obtain ⟨c1, h1⟩ := own_typed h.out (k := og) rfl
  obtain ⟨c2, h2⟩ := own_typed (h.row q hq) (k := g q) rfl
  rw [e] at h2
  exact absurd (typ_ne h1 h2) (by decide)
theorem MatI.atO (h : MatI w base og n j g m) {q : Nat} (hq : q < j) (hn : q < n) : w.cell? ⟨og, q, none⟩ = some (.slice (some ⟨g q, 0, none⟩) n n) := by
  have := h.out.cells (g := og) rfl q (.slice (some ⟨g q, 0, none⟩) n n) (by simp [outB, hq, hn])
  rw [add_lit', Nat.zero_add] at this
  exact this
theorem MatI.atR (h : MatI w base og n j g m) {q k : Nat} (hq : q < j) (hk : k < n) : w.cell? ⟨g q, k, none⟩ = some (.bool (m q k)) := by
  have := (h.row q hq).cells (g := g q) rfl k (.bool (m q k)) (by simp [rowB, hk])
  rw [add_lit', Nat.zero_add] at this
  exact this
theorem nf_own {e : TypeId} {G N C : Nat} {xs : List Value} (h : w.ownsRow base e 1 (.slice (some ⟨G, 0, none⟩) N C) N xs) (i : Nat) : w.frozen? ⟨G, i, none⟩ = false := by
  obtain ⟨c, hc⟩ := own_typed h (k := G) rfl
  simp [World.frozen?, hc]
/-- An entry is turned. -/
theorem MatI.set (h : MatI w base og n j g m) {q k : Nat} (hq : q < j) (hk : k < n) (b : Bool) : MatI (w.setCell ⟨g q, k, none⟩ (.bool b)) base og n j g (upB m q k b) := by
  have hO : OnlyB (g q) w (w.setCell ⟨g q, k, none⟩ (.bool b)) := (OnlyB.refl _ _).set _ _
  refine ⟨own_blk h.out (fun x e => hO.block x (fun e2 => h.ne hq (e2.symm.trans ?_))), fun p hp => ?_, h.inj⟩
  · have : og = x := by injection e
    exact this.symm
  · by_cases e : p = q
    · subst e
      have := own_set (i := k) (h.row p hp) (.bool b)
      rw [rowB_set hk] at this
      have e3 : (fun y => if y = k then b else m p y) = upB m p k b p := by
        funext y
        simp [upB]
      rw [e3] at this
      exact this
    · have e3 : upB m q k b p = m p := by
        funext y
        simp [upB, e]
      rw [e3]
      refine own_blk (h.row p hp) (fun x e2 => hO.block x (fun e4 => e (h.inj p q hp hq ?_)))
      have : g p = x := by injection e2
      rw [this, e4]
/-- A row more. -/
theorem MatI.push (h : MatI w base og n j g m) (hj : j < n) (hn : n ≤ maxLen) : MatI ((w.alloc (.cells (madeCells #[.bool false] n) 4)).setCell ⟨og, j, none⟩ (.slice (some ⟨w.heap.size, 0, none⟩) n n)) base og n (j + 1) (fun q => if q = j then w.heap.size else g q) (fun x y => if x = j then false else m x y) := by
  obtain ⟨V, hV⟩ : ∃ V, V = w.alloc (.cells (madeCells #[.bool false] n) 4) := ⟨_, rfl⟩
  have hb : Below w.heap.size w V := by rw [hV]; exact below_alloc _ _
  have h2 := h.below hb
  have hO : OnlyB og V (V.setCell ⟨og, j, none⟩ (.slice (some ⟨w.heap.size, 0, none⟩) n n)) := (OnlyB.refl _ _).set _ _
  have hbs : base ≤ w.heap.size := by have := h.ltO; omega
  have hnew : V.ownsRow base 4 1 (.slice (some ⟨w.heap.size, 0, none⟩) n n) n (rowB n fun _ => false) := by
    have := World.ownsRow_lit (base := base) (e := 4) (size := 1) w (madeCells #[.bool false] n) n hbs hn (by simp [size_madeCells])
    rw [made_one, ← hV] at this
    exact this
  rw [← hV]
  refine ⟨?_, fun q hq => ?_, fun p q hp hq e => ?_⟩
  · have := own_set (i := j) h2.out (.slice (some ⟨w.heap.size, 0, none⟩) n n)
    rw [outB_set hj] at this
    exact this
  · by_cases e : q = j
    · subst e
      simp only [if_true]
      refine own_blk hnew (fun x e2 => hO.block x (fun e3 => ?_))
      have h3 : w.heap.size = x := by injection e2
      have := h.ltO
      omega
    · have hq2 : q < j := by omega
      simp only [if_neg e]
      refine own_blk (h2.row q hq2) (fun x e2 => hO.block x (fun e3 => h2.ne hq2 ?_))
      have h3 : g q = x := by injection e2
      rw [h3, e3]
  · by_cases ep : p = j
    · by_cases eq : q = j
      · omega
      · simp only [ep, if_true, if_neg eq] at e
        have := (h.ltR (show q < j by omega)).1
        omega
    · by_cases eq : q = j
      · simp only [eq, if_true, if_neg ep] at e
        have := (h.ltR (show p < j by omega)).1
        omega
      · simp only [if_neg ep, if_neg eq] at e
        exact h.inj p q (by omega) (by omega) e
theorem mat_made (w : World) (hb : base ≤ w.heap.size) (hn : n ≤ maxLen) (g : Nat → Nat) (m : Nat → Nat → Bool) : MatI (w.alloc (.cells (madeCells #[.slice none 0 0] n) 33)) base w.heap.size n 0 g m := by
  refine ⟨?_, fun q h => absurd h (by omega), fun p q h => absurd h (by omega)⟩
  have := World.ownsRow_lit (base := base) (e := 33) (size := 1) w (madeCells #[.slice none 0 0] n) n hb hn (by simp [size_madeCells])
  rw [made_one] at this
  have e : outB n 0 g = (List.range n).map fun _ => Value.slice none 0 0 := by simp [outB]
  rw [e]
  exact this
end
end Go.Proofs.YtklhjjgnhigbiaaGreatDoor
