/-
  Lists that rise, and what is read of them.
-/
import Derived.Test.YtklhjjgnhigbiaaGreatDoorGD
import Derived.Deep.AppendLies
namespace Go.Proofs.YtklhjjgnhigbiaaGreatDoor
open Go.RowKit Go.Shelf
set_option linter.unusedVariables false

/-- A rising list is its members. -/
theorem ris_same : ∀ (a b : List Nat), a.Pairwise (· < ·) → b.Pairwise (· < ·) → (∀ x, x ∈ a ↔ x ∈ b) → a = b
  | [], [], _, _, _ => rfl
  | [], y :: b, _, _, h => absurd ((h y).2 (by simp)) (by simp)
  | x :: a, [], _, _, h => absurd ((h x).1 (by simp)) (by simp)
  | x :: a, y :: b, ha, hb, h => by
    obtain ⟨a1, a2⟩ := List.pairwise_cons.1 ha
    obtain ⟨b1, b2⟩ := List.pairwise_cons.1 hb
    have e : x = y := by
      have h1 := (h x).1 (by simp)
      have h2 := (h y).2 (by simp)
      rcases List.mem_cons.1 h1 with h1 | h1
      · exact h1
      · rcases List.mem_cons.1 h2 with h2 | h2
        · exact h2.symm
        · have := b1 _ h1; have := a1 _ h2; omega
    subst e
    rw [ris_same a b a2 b2 (fun z => ?_)]
    have := h z
    simp only [List.mem_cons] at this
    constructor
    · intro hz
      rcases this.1 (.inr hz) with q | q
      · have := a1 z hz; omega
      · exact q
    · intro hz
      rcases this.2 (.inr hz) with q | q
      · have := b1 z hz; omega
      · exact q
theorem risN_len {l : List Nat} (h : l.Pairwise (· < ·)) {N : Nat} (hN : ∀ x ∈ l, x < N) : l.length ≤ N := by
  have e : l = rgF (fun x => l.contains x) N := ris_same _ _ h (rgF_ris _ _) (fun x => by
    rw [rgF_mem]; simp
    exact fun hx => hN x hx)
  rw [e]; exact rgF_len _ _
/-- The list l' is l with p, rising. -/
def PutR (l : List Nat) (p : Nat) (l' : List Nat) : Prop := l'.Pairwise (· < ·) ∧ ∀ x, x ∈ l' ↔ (x ∈ l ∨ x = p)
theorem put_in {l : List Nat} {p : Nat} (hr : l.Pairwise (· < ·)) (hp : p ∈ l) : PutR l p l := ⟨hr, fun x => ⟨fun h => .inl h, fun h => by rcases h with h | rfl; exact h; exact hp⟩⟩
theorem put_mid {l : List Nat} {p j : Nat} (hr : l.Pairwise (· < ·)) (hlo : ∀ x ∈ l.take j, x < p) (hhi : ∀ x ∈ l.drop j, p < x) : PutR l p (l.take j ++ [p] ++ l.drop j) := by
  refine ⟨?_, fun x => ?_⟩
  · rw [List.append_assoc, List.pairwise_append]
    refine ⟨hr.sublist (List.take_sublist _ _), ?_, fun a ha b hb => ?_⟩
    · rw [List.singleton_append, List.pairwise_cons]
      exact ⟨hhi, hr.sublist (List.drop_sublist _ _)⟩
    · have h1 := hlo a ha
      rcases List.mem_cons.1 hb with rfl | hb
      · exact h1
      · have := hhi b hb; omega
  · have e : x ∈ l ↔ (x ∈ l.take j ∨ x ∈ l.drop j) := by rw [← List.mem_append, List.take_append_drop]
    rw [e]
    simp only [List.mem_append, List.mem_singleton]
    constructor
    · rintro ((h | h) | h)
      · exact .inl (.inl h)
      · exact .inr h
      · exact .inl (.inr h)
    · rintro ((h | h) | h)
      · exact .inl (.inl h)
      · exact .inr h
      · exact .inl (.inr h)
theorem drop_hi {l : List Nat} {p j : Nat} (hr : l.Pairwise (· < ·)) (hj : j < l.length) (h : p < l[j]) : ∀ x ∈ l.drop j, p < x := fun x hx => by
  obtain ⟨i, hi, rfl⟩ := List.getElem_of_mem hx
  rw [List.getElem_drop]
  by_cases q : i = 0
  · subst q; exact h
  · have hi2 : j + i < l.length := by rw [List.length_drop] at hi; omega
    have := (List.pairwise_iff_getElem.1 hr) j (j + i) hj hi2 (by omega)
    omega
theorem src_take {w : World} {B : Nat} {ad : Addr} {len cap : Nat} {l : List Nat} (h : LstAt B w (.slice (some ad) len cap) l) (hl : len = l.length) {j : Nat} (hj : j ≤ len) : SrcIs w (.slice (some ad) j cap) j 1 (cellP (l.take j)) := by
  have hp := h.plc.src
  rw [← hl] at hp
  rcases hp with ⟨e, _⟩ | ⟨ad', c, e, h1, h2, h3⟩
  · cases e
  · obtain ⟨rfl, rfl⟩ : ad = ad' ∧ cap = c := by simpa using e
    have hle : (l.take j).length = j := by rw [List.length_take]; omega
    refine .inr ⟨ad, cap, rfl, by simp [cellP]; omega, fun i u hu => ?_, fun u hu => ?_⟩
    · refine h2 i u ?_
      have hi : i < j := by
        have := (List.getElem?_eq_some_iff.1 hu).1
        simp [cellP] at this; omega
      simp only [cellP, List.getElem?_map, List.getElem?_take, if_pos hi] at hu ⊢
      exact hu
    · simp only [cellP, List.mem_map] at hu
      obtain ⟨x, _, rfl⟩ := hu
      rfl
theorem src_drop {w : World} {B : Nat} {ad : Addr} {len cap : Nat} {l : List Nat} (h : LstAt B w (.slice (some ad) len cap) l) (hl : len = l.length) {j : Nat} (hj : j ≤ len) : SrcIs w (.slice (if cap = j then some ad else some (ad.add j)) (len - j) (cap - j)) (len - j) 1 (cellP (l.drop j)) := by
  have hp := h.plc.src
  have hcap : len ≤ cap := by
    obtain ⟨a, c, e, hc, _⟩ := h
    obtain ⟨_, _, rfl⟩ : some ad = a ∧ len = l.length ∧ cap = c := by simpa using e
    omega
  rw [← hl] at hp
  rcases hp with ⟨e, _⟩ | ⟨ad', c, e, h1, h2, h3⟩
  · cases e
  · obtain ⟨rfl, rfl⟩ : ad = ad' ∧ cap = c := by simpa using e
    have hle : (l.drop j).length = len - j := by rw [List.length_drop]; omega
    have ex : (if cap = j then some ad else some (ad.add j)) = some (if cap = j then ad else ad.add j) := by split <;> rfl
    rw [ex]
    refine .inr ⟨_, cap - j, rfl, by simp [cellP]; omega, fun i u hu => ?_, fun u hu => ?_⟩
    · have hi : i < len - j := by
        have := (List.getElem?_eq_some_iff.1 hu).1
        simp [cellP] at this; omega
      rw [if_neg (by omega)]
      have := h2 (j + i) u (by
        simp only [cellP, List.getElem?_map, List.getElem?_drop] at hu ⊢
        exact hu)
      have ea : (ad.add j).add i = ad.add (j + i) := by
        obtain ⟨g, off, cs, fr, e2, _⟩ := (show ∃ g off cs fr, some ad = some ⟨g, off, none⟩ ∧ B ≤ g ∧ w.heap[g]? = some (.cells cs 3 fr) ∧ True from by
          obtain ⟨a, c, e, hc, hn, hx⟩ := h
          obtain ⟨rfl, _, rfl⟩ : some ad = a ∧ len = l.length ∧ cap = c := by simpa using e
          obtain ⟨g, off, cs, fr, r1, r2, r3, _⟩ := hx (by omega)
          exact ⟨g, off, cs, fr, r1, r2, r3, trivial⟩)
        injection e2 with e2
        subst e2
        simp [addr_add, Nat.add_assoc]
      rw [ea]
      exact this
    · simp only [cellP, List.mem_map] at hu
      obtain ⟨x, _, rfl⟩ := hu
      rfl

theorem src_as {w : World} {x y : Value} {m s : Nat} {l : List Value} (h : SrcIs w x m s l) (e : y = x) : SrcIs w y m s l := e ▸ h
end Go.Proofs.YtklhjjgnhigbiaaGreatDoor
