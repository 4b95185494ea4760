/-
  Plain mathematics: the first of each of a list's elements, in their order, and which one each element is like.
-/
import Derived.WalkKit
namespace Go.Proofs.Ytmknifnhcgdkaaa.S3
open Go.RowKit
set_option linter.unusedVariables false

variable {β : Type} [DecidableEq β]

/-- One element more. -/
def addF (acc : List β) (b : β) : List β := if b ∈ acc then acc else acc ++ [b]
/-- Those that are unlike all ahead of them, in their order. -/
def firstsF (acc : List β) (bs : List β) : List β := bs.foldl addF acc
def firstsOf (bs : List β) : List β := firstsF [] bs
/-- Which one each is like. -/
def likeOf (bs : List β) : List Nat := bs.map fun b => (firstsOf bs).idxOf b

theorem addF_mem {acc : List β} {b x : β} : x ∈ addF acc b ↔ x ∈ acc ∨ x = b := by
  unfold addF
  split
  · rename_i h
    constructor
    · intro q; exact .inl q
    · rintro (q | q)
      · exact q
      · rw [q]; exact h
  · simp
theorem addF_nodup {acc : List β} {b : β} (h : acc.Nodup) : (addF acc b).Nodup := by
  unfold addF
  split
  · exact h
  · rename_i q
    rw [List.nodup_append]
    refine ⟨h, by simp, fun x hx y hy => ?_⟩
    rw [List.mem_singleton.1 hy]
    intro e
    rw [e] at hx
    exact q hx
theorem addF_ahead (acc : List β) (b : β) : ∃ t, addF acc b = acc ++ t := by
  unfold addF
  split
  · exact ⟨[], by simp⟩
  · exact ⟨[b], rfl⟩
theorem firstsF_mem {x : β} : ∀ {bs acc : List β}, x ∈ firstsF acc bs ↔ x ∈ acc ∨ x ∈ bs
  | [], acc => by simp [firstsF]
  | b :: bs, acc => by
    have ih := firstsF_mem (x := x) (bs := bs) (acc := addF acc b)
    show x ∈ firstsF (addF acc b) bs ↔ _
    rw [ih, addF_mem, List.mem_cons]
    constructor
    · rintro ((h | h) | h)
      · exact .inl h
      · exact .inr (.inl h)
      · exact .inr (.inr h)
    · rintro (h | h | h)
      · exact .inl (.inl h)
      · exact .inl (.inr h)
      · exact .inr h
theorem firstsF_nodup : ∀ {bs acc : List β}, acc.Nodup → (firstsF acc bs).Nodup
  | [], acc, h => h
  | b :: bs, acc, h => firstsF_nodup (bs := bs) (addF_nodup h)
theorem firstsF_ahead : ∀ (bs acc : List β), ∃ t, firstsF acc bs = acc ++ t
  | [], acc => ⟨[], by simp [firstsF]⟩
  | b :: bs, acc => by
    obtain ⟨t1, h1⟩ := addF_ahead acc b
    obtain ⟨t2, h2⟩ := firstsF_ahead bs (addF acc b)
    exact ⟨t1 ++ t2, by show firstsF (addF acc b) bs = _; rw [h2, h1, List.append_assoc]⟩
theorem firstsF_append (acc bs cs : List β) : firstsF acc (bs ++ cs) = firstsF (firstsF acc bs) cs := by simp [firstsF]

theorem firsts_mem {x : β} {bs : List β} : x ∈ firstsOf bs ↔ x ∈ bs := by
  unfold firstsOf
  rw [firstsF_mem]
  simp
theorem firsts_nodup (bs : List β) : (firstsOf bs).Nodup := firstsF_nodup List.nodup_nil
/-- The first ones of the elements up to a place stand ahead in all first ones. -/
theorem firsts_ahead (bs cs : List β) : ∃ t, firstsOf (bs ++ cs) = firstsOf bs ++ t := by
  unfold firstsOf
  rw [firstsF_append]
  exact firstsF_ahead _ _
theorem firsts_snoc (bs : List β) (b : β) : firstsOf (bs ++ [b]) = if b ∈ bs then firstsOf bs else firstsOf bs ++ [b] := by
  unfold firstsOf
  rw [firstsF_append]
  show addF _ b = _
  unfold addF
  by_cases h : b ∈ bs
  · rw [if_pos h, if_pos (by rw [firstsF_mem]; exact .inr h)]
  · rw [if_neg h, if_neg (by rw [firstsF_mem]; simp [h])]

theorem idx_ahead {l t : List β} {b : β} (h : b ∈ l) : (l ++ t).idxOf b = l.idxOf b := by
  rw [List.idxOf_append, if_pos h]
/-- Which one an element is like is known as soon as it has been met. -/
theorem idx_firsts {bs cs : List β} {b : β} (h : b ∈ bs) : (firstsOf (bs ++ cs)).idxOf b = (firstsOf bs).idxOf b := by
  obtain ⟨t, e⟩ := firsts_ahead bs cs
  rw [e, idx_ahead (firsts_mem.2 h)]
theorem idx_new {bs : List β} {b : β} (h : ¬ b ∈ bs) : (firstsOf (bs ++ [b])).idxOf b = (firstsOf bs).length := by
  rw [firsts_snoc, if_neg h, List.idxOf_append, if_neg (fun q => h (firsts_mem.1 q))]
  simp
theorem like_snoc (bs : List β) (b : β) : likeOf (bs ++ [b]) = likeOf bs ++ [(firstsOf (bs ++ [b])).idxOf b] := by
  unfold likeOf
  rw [List.map_append]
  congr 1
  refine List.map_congr_left (fun x hx => ?_)
  exact idx_firsts hx
theorem like_length (bs : List β) : (likeOf bs).length = bs.length := by simp [likeOf]
theorem like_lt {bs : List β} {k : Nat} (h : k < bs.length) : (likeOf bs)[k]'(by rw [like_length]; exact h) < (firstsOf bs).length := by
  simp only [likeOf, List.getElem_map]
  exact List.idxOf_lt_length_of_mem (firsts_mem.2 (List.getElem_mem h))
/-- An element is told by which one it is like. -/
theorem firsts_like {bs : List β} {k : Nat} (h : k < bs.length) : (firstsOf bs)[(likeOf bs)[k]'(by rw [like_length]; exact h)]'(like_lt h) = bs[k] := by
  simp only [likeOf, List.getElem_map]
  exact List.getElem_idxOf _

/-- No more first ones than there are in a list that has them all. -/
theorem nodup_le : ∀ {l m : List β}, l.Nodup → (∀ x ∈ l, x ∈ m) → l.length ≤ m.length
  | [], m, _, _ => by simp
  | x :: l, m, hn, hs => by
    have hx : x ∈ m := hs x (by simp)
    have hn' := List.nodup_cons.1 hn
    have := nodup_le (l := l) (m := m.erase x) hn'.2 (fun y hy => by
      have h1 := hs y (by simp [hy])
      have hne : y ≠ x := fun e => hn'.1 (by rw [← e]; exact hy)
      exact (List.mem_erase_of_ne hne).2 h1)
    rw [List.length_erase_of_mem hx] at this
    have : 0 < m.length := List.length_pos_of_mem hx
    simp only [List.length_cons]; omega
theorem firsts_le {bs m : List β} (h : ∀ x ∈ bs, x ∈ m) : (firstsOf bs).length ≤ m.length :=
  nodup_le (firsts_nodup bs) (fun x hx => h x (firsts_mem.1 hx))
theorem firsts_more {bs cs m : List β} (h : ∀ x ∈ cs, x ∈ bs ∨ x ∈ m) : (firstsOf cs).length ≤ (firstsOf bs).length + m.length := by
  have := firsts_le (bs := cs) (m := firstsOf bs ++ m) (fun x hx => by
    rcases h x hx with q | q
    · exact List.mem_append.2 (.inl (firsts_mem.2 q))
    · exact List.mem_append.2 (.inr q))
  rwa [List.length_append] at this
theorem firsts_mono (bs cs : List β) : (firstsOf bs).length ≤ (firstsOf (bs ++ cs)).length := by
  obtain ⟨t, e⟩ := firsts_ahead bs cs
  rw [e, List.length_append]
  omega
theorem firsts_pos {bs : List β} (h : bs ≠ []) : 1 ≤ (firstsOf bs).length := by
  cases bs with
  | nil => exact absurd rfl h
  | cons b bs => exact List.length_pos_of_mem (firsts_mem.2 (by simp : b ∈ b :: bs))

/-- Elements that are told by numbers into a list: the list is that of the first ones, in their order, just if the numbers are those of likeOf. -/
theorem like_unique {F : List β} {bs : List β} (hF : firstsOf bs = F) : ∀ k, (h : k < bs.length) → (likeOf bs)[k]'(by rw [like_length]; exact h) = F.idxOf bs[k] := fun k h => by
  simp only [likeOf, List.getElem_map, hF]
end Go.Proofs.Ytmknifnhcgdkaaa.S3
