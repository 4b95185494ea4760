/-
  Plain mathematics: the first of each of a list's elements, in their order, and which one each element is like. Plain mathematics of tries: the value of a number by entries, blocks of values, how many first ones there are; runs of one value. Plain mathematics: the bytes of a trie, and the blocks that bytes tell.
-/
import Derived.WalkKit
namespace Go.Proofs.YtdjhgjnhfmggjabGreatDoor.S3
open Go.RowKit
set_option linter.unusedVariables false

variable {β : Type} [DecidableEq β]

/-- One element more. -/
def addF (acc : List β) (b : β) : List β := if b ∈ acc then acc else acc ++ [b]
/-- Those that are unlike all ahead of them, in their order. -/
def firstsF (acc : List β) (bs : List β) : List β := bs.foldl addF acc
def firstsOf (bs : List β) : List β := firstsF [] bs
/-- Which one each is like. -/
def likeOf (bs : List β) : List Nat := bs.map fun b => (firstsOf bs).idxOf b

theorem addF_mem {acc : List β} {b x : β} : x ∈ addF acc b ↔ x ∈ acc ∨ x = b := by
  unfold addF
  split
  · rename_i h
    constructor
    · intro q; exact .inl q
    · rintro (q | q)
      · exact q
      · rw [q]; exact h
  · simp
theorem addF_nodup {acc : List β} {b : β} (h : acc.Nodup) : (addF acc b).Nodup := by
  unfold addF
  split
  · exact h
  · rename_i q
    rw [List.nodup_append]
    refine ⟨h, by simp, fun x hx y hy => ?_⟩
    rw [List.mem_singleton.1 hy]
    intro e
    rw [e] at hx
    exact q hx
theorem addF_ahead (acc : List β) (b : β) : ∃ t, addF acc b = acc ++ t := by
  unfold addF
  split
  · exact ⟨[], by simp⟩
  · exact ⟨[b], rfl⟩
theorem firstsF_mem {x : β} : ∀ {bs acc : List β}, x ∈ firstsF acc bs ↔ x ∈ acc ∨ x ∈ bs
  | [], acc => by simp [firstsF]
  | b :: bs, acc => by
    have ih := firstsF_mem (x := x) (bs := bs) (acc := addF acc b)
    show x ∈ firstsF (addF acc b) bs ↔ _
    rw [ih, addF_mem, List.mem_cons]
    constructor
    · rintro ((h | h) | h)
      · exact .inl h
      · exact .inr (.inl h)
      · exact .inr (.inr h)
    · rintro (h | h | h)
      · exact .inl (.inl h)
      · exact .inl (.inr h)
      · exact .inr h
theorem firstsF_nodup : ∀ {bs acc : List β}, acc.Nodup → (firstsF acc bs).Nodup
  | [], acc, h => h
  | b :: bs, acc, h => firstsF_nodup (bs := bs) (addF_nodup h)
theorem firstsF_ahead : ∀ (bs acc : List β), ∃ t, firstsF acc bs = acc ++ t
  | [], acc => ⟨[], by simp [firstsF]⟩
  | b :: bs, acc => by
    obtain ⟨t1, h1⟩ := addF_ahead acc b
    obtain ⟨t2, h2⟩ := firstsF_ahead bs (addF acc b)
    exact ⟨t1 ++ t2, by show firstsF (addF acc b) bs = _; rw [h2, h1, List.append_assoc]⟩
theorem firstsF_append (acc bs cs : List β) : firstsF acc (bs ++ cs) = firstsF (firstsF acc bs) cs := by simp [firstsF]

theorem firsts_mem {x : β} {bs : List β} : x ∈ firstsOf bs ↔ x ∈ bs := by
  unfold firstsOf
  rw [firstsF_mem]
  simp
theorem firsts_nodup (bs : List β) : (firstsOf bs).Nodup := firstsF_nodup List.nodup_nil
/-- The first ones of the elements up to a place stand ahead in all first ones. -/
theorem firsts_ahead (bs cs : List β) : ∃ t, firstsOf (bs ++ cs) = firstsOf bs ++ t := by
  unfold firstsOf
  rw [firstsF_append]
  exact firstsF_ahead _ _
theorem firsts_snoc (bs : List β) (b : β) : firstsOf (bs ++ [b]) = if b ∈ bs then firstsOf bs else firstsOf bs ++ [b] := by
  unfold firstsOf
  rw [firstsF_append]
  show addF _ b = _
  unfold addF
  by_cases h : b ∈ bs
  · rw [if_pos h, if_pos (by rw [firstsF_mem]; exact .inr h)]
  · rw [if_neg h, if_neg (by rw [firstsF_mem]; simp [h])]

theorem idx_ahead {l t : List β} {b : β} (h : b ∈ l) : (l ++ t).idxOf b = l.idxOf b := by
  rw [List.idxOf_append, if_pos h]
/-- Which one an element is like is known as soon as it has been met. -/
theorem idx_firsts {bs cs : List β} {b : β} (h : b ∈ bs) : (firstsOf (bs ++ cs)).idxOf b = (firstsOf bs).idxOf b := by
  obtain ⟨t, e⟩ := firsts_ahead bs cs
  rw [e, idx_ahead (firsts_mem.2 h)]
theorem idx_new {bs : List β} {b : β} (h : ¬ b ∈ bs) : (firstsOf (bs ++ [b])).idxOf b = (firstsOf bs).length := by
  rw [firsts_snoc, if_neg h, List.idxOf_append, if_neg (fun q => h (firsts_mem.1 q))]
  simp
theorem like_snoc (bs : List β) (b : β) : likeOf (bs ++ [b]) = likeOf bs ++ [(firstsOf (bs ++ [b])).idxOf b] := by
  unfold likeOf
  rw [List.map_append]
  congr 1
  refine List.map_congr_left (fun x hx => ?_)
  exact idx_firsts hx
theorem like_length (bs : List β) : (likeOf bs).length = bs.length := by simp [likeOf]
theorem like_lt {bs : List β} {k : Nat} (h : k < bs.length) : (likeOf bs)[k]'(by rw [like_length]; exact h) < (firstsOf bs).length := by
  simp only [likeOf, List.getElem_map]
  exact List.idxOf_lt_length_of_mem (firsts_mem.2 (List.getElem_mem h))
/-- An element is told by which one it is like. -/
theorem firsts_like {bs : List β} {k : Nat} (h : k < bs.length) : (firstsOf bs)[(likeOf bs)[k]'(by rw [like_length]; exact h)]'(like_lt h) = bs[k] := by
  simp only [likeOf, List.getElem_map]
  exact List.getElem_idxOf _

/-- No more first ones than there are in a list that has them all. -/
theorem nodup_le : ∀ {l m : List β}, l.Nodup → (∀ x ∈ l, x ∈ m) → l.length ≤ m.length
  | [], m, _, _ => by simp
  | x :: l, m, hn, hs => by
    have hx : x ∈ m := hs x (by simp)
    have hn' := List.nodup_cons.1 hn
    have := nodup_le (l := l) (m := m.erase x) hn'.2 (fun y hy => by
      have h1 := hs y (by simp [hy])
      have hne : y ≠ x := fun e => hn'.1 (by rw [← e]; exact hy)
      exact (List.mem_erase_of_ne hne).2 h1)
    rw [List.length_erase_of_mem hx] at this
    have : 0 < m.length := List.length_pos_of_mem hx
    simp only [List.length_cons]; omega
theorem firsts_le {bs m : List β} (h : ∀ x ∈ bs, x ∈ m) : (firstsOf bs).length ≤ m.length :=
  nodup_le (firsts_nodup bs) (fun x hx => h x (firsts_mem.1 hx))
theorem firsts_more {bs cs m : List β} (h : ∀ x ∈ cs, x ∈ bs ∨ x ∈ m) : (firstsOf cs).length ≤ (firstsOf bs).length + m.length := by
  have := firsts_le (bs := cs) (m := firstsOf bs ++ m) (fun x hx => by
    rcases h x hx with q | q
    · exact List.mem_append.2 (.inl (firsts_mem.2 q))
    · exact List.mem_append.2 (.inr q))
  rwa [List.length_append] at this
theorem firsts_mono (bs cs : List β) : (firstsOf bs).length ≤ (firstsOf (bs ++ cs)).length := by
  obtain ⟨t, e⟩ := firsts_ahead bs cs
  rw [e, List.length_append]
  omega
theorem firsts_pos {bs : List β} (h : bs ≠ []) : 1 ≤ (firstsOf bs).length := by
  cases bs with
  | nil => exact absurd rfl h
  | cons b bs => exact List.length_pos_of_mem (firsts_mem.2 (by simp : b ∈ b :: bs))

/-- Elements that are told by numbers into a list: the list is that of the first ones, in their order, just if the numbers are those of likeOf. -/
theorem like_unique {F : List β} {bs : List β} (hF : firstsOf bs = F) : ∀ k, (h : k < bs.length) → (likeOf bs)[k]'(by rw [like_length]; exact h) = F.idxOf bs[k] := fun k h => by
  simp only [likeOf, List.getElem_map, hF]
end Go.Proofs.YtdjhgjnhfmggjabGreatDoor.S3

namespace Go.Proofs.YtdjhgjnhfmggjabGreatDoor.S3
open Go.RowKit
set_option linter.unusedVariables false

/-- An entry: the value of the numbers from lo to hi. -/
structure Pp where
  lo : Int
  hi : Int
  v : Int

def hasP (p : Pp) (r : Int) : Bool := decide (p.lo ≤ r ∧ r ≤ p.hi)
theorem hasP_iff {p : Pp} {r : Int} : hasP p r = true ↔ p.lo ≤ r ∧ r ≤ p.hi := by simp [hasP]
/-- The value of a number: that of the last entry that has it. -/
def stepV (r : Int) (v : Int) (p : Pp) : Int := if hasP p r = true then p.v else v
def valP (l : List Pp) (r : Int) : Int := l.foldl (stepV r) 0

theorem val_nil (r : Int) : valP [] r = 0 := rfl
theorem val_snoc (l : List Pp) (p : Pp) (r : Int) : valP (l ++ [p]) r = if hasP p r = true then p.v else valP l r := by
  unfold valP
  rw [List.foldl_append]
  rfl
theorem val_from : ∀ (l : List Pp) (r v : Int), (∀ p ∈ l, hasP p r = false) → l.foldl (stepV r) v = v
  | [], r, v, _ => rfl
  | p :: l, r, v, h => by
    have e : stepV r v p = v := by unfold stepV; rw [h p (by simp)]; rfl
    rw [List.foldl_cons, e]
    exact val_from l r v (fun q hq => h q (by simp [hq]))
theorem val_none {l : List Pp} {r : Int} (h : ∀ p ∈ l, hasP p r = false) : valP l r = 0 := val_from l r 0 h
/-- Only the entries that have a number tell its value. -/
theorem val_filter : ∀ (l : List Pp) (f : Pp → Bool) (r v : Int), (∀ p ∈ l, hasP p r = true → f p = true) → (l.filter f).foldl (stepV r) v = l.foldl (stepV r) v
  | [], f, r, v, _ => rfl
  | p :: l, f, r, v, h => by
    by_cases q : f p = true
    · rw [List.filter_cons_of_pos q, List.foldl_cons, List.foldl_cons]
      exact val_filter l f r _ (fun x hx => h x (by simp [hx]))
    · rw [List.filter_cons_of_neg q, List.foldl_cons]
      have e : stepV r v p = v := by
        unfold stepV
        rw [if_neg (fun z => q (h p (by simp) z))]
      rw [e]
      exact val_filter l f r v (fun x hx => h x (by simp [hx]))
theorem snoc_ind {P : List Pp → Prop} (h0 : P []) (hs : ∀ l x, P l → P (l ++ [x])) : ∀ l, P l := by
  have key : ∀ n (l : List Pp), l.length = n → P l := by
    intro n
    induction n with
    | zero => intro l hl; rw [List.length_eq_zero_iff.1 hl]; exact h0
    | succ n ih =>
      intro l hl
      cases q : l.getLast? with
      | none =>
        rw [List.getLast?_eq_none_iff.1 q] at hl
        cases hl
      | some x =>
        obtain ⟨ini, e⟩ := List.getLast?_eq_some_iff.1 q
        rw [e] at hl ⊢
        exact hs ini x (ih ini (by simpa using hl))
  exact fun l => key l.length l rfl
/-- Where one entry alone has a number, its value is told. -/
theorem val_one : ∀ {l : List Pp} {p : Pp} {r : Int}, p ∈ l → hasP p r = true → (∀ q ∈ l, hasP q r = true → q.v = p.v) → valP l r = p.v := by
  intro l
  refine snoc_ind (P := fun l => ∀ {p : Pp} {r : Int}, p ∈ l → hasP p r = true → (∀ q ∈ l, hasP q r = true → q.v = p.v) → valP l r = p.v) ?_ ?_ l
  · intro p r h; cases h
  · intro l x ih p r hp hr hq
    rw [val_snoc]
    by_cases z : hasP x r = true
    · rw [if_pos z]
      exact hq x (by simp) z
    · rw [if_neg z]
      rcases List.mem_append.1 hp with y | y
      · exact ih y hr (fun q hq' => hq q (by simp [hq']))
      · rw [List.mem_singleton.1 y] at hr
        exact absurd hr z
theorem val_cases (l : List Pp) (r : Int) : valP l r = 0 ∨ ∃ p ∈ l, hasP p r = true ∧ valP l r = p.v := by
  refine snoc_ind (P := fun l => valP l r = 0 ∨ ∃ p ∈ l, hasP p r = true ∧ valP l r = p.v) (.inl rfl) (fun l x ih => ?_) l
  · rw [val_snoc]
    by_cases z : hasP x r = true
    · rw [if_pos z]
      exact .inr ⟨x, by simp, z, rfl⟩
    · rw [if_neg z]
      rcases ih with h | ⟨p, hp, h1, h2⟩
      · exact .inl h
      · exact .inr ⟨p, by simp [hp], h1, h2⟩
/-- No two entries meet. -/
def Apart : List Pp → Prop
  | [] => True
  | p :: l => (∀ q ∈ l, ∀ r, hasP p r = true → hasP q r = false) ∧ Apart l
theorem Apart.one : ∀ {l : List Pp}, Apart l → ∀ {p q : Pp} {r : Int}, p ∈ l → q ∈ l → hasP p r = true → hasP q r = true → q.v = p.v
  | [], _, p, q, r, hp, _, _, _ => by cases hp
  | x :: l, h, p, q, r, hp, hq, zp, zq => by
    rcases List.mem_cons.1 hp with e | e <;> rcases List.mem_cons.1 hq with f | f
    · rw [e, f]
    · rw [e] at zp
      have := h.1 q f r zp
      rw [this] at zq; cases zq
    · rw [f] at zq
      have := h.1 p e r zq
      rw [this] at zp; cases zp
    · exact Apart.one h.2 e f zp zq
/-- The order of entries that do not meet plays no part. -/
theorem val_apart {l m : List Pp} (h : Apart l) (k : ∀ p, p ∈ l ↔ p ∈ m) (r : Int) : valP m r = valP l r := by
  rcases val_cases l r with e | ⟨p, hp, h1, h2⟩
  · by_cases z : ∃ p ∈ l, hasP p r = true
    · obtain ⟨p, hp, h1⟩ := z
      rw [val_one ((k p).1 hp) h1 (fun q hq hz => h.one hp ((k q).2 hq) h1 hz), val_one hp h1 (fun q hq hz => h.one hp hq h1 hz)]
    · have hn : ∀ p ∈ l, hasP p r = false := fun p hp => by
        cases q : hasP p r with
        | false => rfl
        | true => exact absurd ⟨p, hp, q⟩ z
      rw [val_none hn, val_none (fun p hp => hn p ((k p).2 hp))]
  · rw [h2]
    exact val_one ((k p).1 hp) h1 (fun q hq hz => h.one hp ((k q).2 hq) h1 hz)

/-- The values of 256 numbers. -/
def blkF (f : Int → Int) (k : Nat) : List Int := (List.range 256).map fun i => f ((k * 256 + i : Nat) : Int)
def blocksF (f : Int → Int) : List (List Int) := (List.range 4352).map (blkF f)
theorem blkF_length (f : Int → Int) (k : Nat) : (blkF f k).length = 256 := by simp [blkF]
theorem blocksF_length (f : Int → Int) : (blocksF f).length = 4352 := by simp [blocksF]
theorem blkF_congr {f g : Int → Int} {k : Nat} (h : ∀ r : Int, ((k * 256 : Nat) : Int) ≤ r → r < ((k * 256 + 256 : Nat) : Int) → f r = g r) : blkF f k = blkF g k := by
  unfold blkF
  refine List.map_congr_left (fun i hi => ?_)
  have := List.mem_range.1 hi
  exact h _ (by omega) (by omega)
theorem blocksF_congr {f g : Int → Int} (h : ∀ r : Int, 0 ≤ r → r ≤ 1114111 → f r = g r) : blocksF f = blocksF g := by
  unfold blocksF
  refine List.map_congr_left (fun k hk => ?_)
  have := List.mem_range.1 hk
  exact blkF_congr (fun r a b => h r (by omega) (by omega))
/-- The value of a number by its block and its place in it. -/
theorem blocksF_at (f : Int → Int) (r : Nat) (h : r ≤ 1114111) : ∃ (h1 : r / 256 < (blocksF f).length) (h2 : r % 256 < (blocksF f)[r / 256].length), (blocksF f)[r / 256][r % 256] = f (r : Int) := by
  have h1 : r / 256 < 4352 := by omega
  refine ⟨by rw [blocksF_length]; exact h1, by simp [blocksF, blkF_length]; omega, ?_⟩
  simp only [blocksF, List.getElem_map, List.getElem_range, blkF]
  congr 1
  omega

set_option maxRecDepth 20000 in
/-- An entry more makes no more than three blocks that were not there. -/
theorem blocks_later (l : List Pp) (p : Pp) : ∃ m : List (List Int), m.length = 3 ∧ ∀ x ∈ blocksF (valP (l ++ [p])), x ∈ blocksF (valP l) ∨ x ∈ m := by
  refine ⟨[List.replicate 256 p.v, blkF (valP (l ++ [p])) (p.lo / 256).toNat, blkF (valP (l ++ [p])) (p.hi / 256).toNat], rfl, fun x hx => ?_⟩
  obtain ⟨k, hk, rfl⟩ := List.mem_map.1 hx
  have hk' := List.mem_range.1 hk
  by_cases q : p.hi < ((k * 256 : Nat) : Int) ∨ ((k * 256 + 255 : Nat) : Int) < p.lo
  · left
    refine List.mem_map.2 ⟨k, hk, blkF_congr (fun r a b => ?_)⟩
    rw [val_snoc, if_neg]
    rw [hasP_iff]
    omega
  · right
    by_cases q2 : p.lo ≤ ((k * 256 : Nat) : Int) ∧ ((k * 256 + 255 : Nat) : Int) ≤ p.hi
    · have e : blkF (valP (l ++ [p])) k = List.replicate 256 p.v := by
        unfold blkF
        rw [List.eq_replicate_iff]
        refine ⟨by rw [List.length_map, List.length_range], fun y hy => ?_⟩
        obtain ⟨i, hi, rfl⟩ := List.mem_map.1 hy
        have hi' : i < 256 := List.mem_range.1 hi
        have h3 : p.lo ≤ ((k * 256 + i : Nat) : Int) ∧ ((k * 256 + i : Nat) : Int) ≤ p.hi := by
          clear hy hx
          omega
        rw [val_snoc, if_pos (hasP_iff.2 h3)]
      exact List.mem_cons.2 (.inl e)
    · by_cases q3 : ((k * 256 : Nat) : Int) < p.lo
      · have e : (p.lo / 256).toNat = k := by omega
        rw [e]
        exact List.mem_cons.2 (.inr (List.mem_cons.2 (.inl rfl)))
      · have e : (p.hi / 256).toNat = k := by omega
        rw [e]
        exact List.mem_cons.2 (.inr (List.mem_cons.2 (.inr (List.mem_cons.2 (.inl rfl)))))
theorem blocks_more (l : List Pp) (p : Pp) : (firstsOf (blocksF (valP (l ++ [p])))).length ≤ (firstsOf (blocksF (valP l))).length + 3 := by
  obtain ⟨m, hm, h⟩ := blocks_later l p
  have := firsts_more h
  omega
/-- Entries of low numbers touch four blocks alone. -/
theorem blocks_low {l : List Pp} (h : ∀ p ∈ l, 0 ≤ p.lo ∧ p.hi < 1024) : (firstsOf (blocksF (valP l))).length ≤ 5 := by
  have := firsts_le (bs := blocksF (valP l)) (m := [blkF (valP l) 0, blkF (valP l) 1, blkF (valP l) 2, blkF (valP l) 3, blkF (fun _ => 0) 0]) (fun x hx => by
    obtain ⟨k, hk, rfl⟩ := List.mem_map.1 hx
    by_cases q : k < 4
    · have : k = 0 ∨ k = 1 ∨ k = 2 ∨ k = 3 := by omega
      rcases this with rfl | rfl | rfl | rfl <;> simp
    · have e : blkF (valP l) k = blkF (fun _ => 0) 0 := by
        unfold blkF
        refine List.map_congr_left (fun i hi => ?_)
        exact val_none (fun p hp => by
          have := h p hp
          cases z : hasP p ((k * 256 + i : Nat) : Int) with
          | false => rfl
          | true => have := hasP_iff.1 z; omega)
      rw [e]; simp)
  simpa using this

/-- Runs of one value, none 0, from b on: each as long as can be. -/
def RunsFrom (b : Int) : List Pp → Prop
  | [] => True
  | p :: l => b ≤ p.lo ∧ p.lo ≤ p.hi ∧ p.v ≠ 0 ∧ RunsFrom (p.hi + 1) l ∧ ∀ q ∈ l, q.lo = p.hi + 1 → q.v ≠ p.v

theorem RunsFrom.mono {b c : Int} (h : c ≤ b) : ∀ {l : List Pp}, RunsFrom b l → RunsFrom c l
  | [], _ => trivial
  | p :: l, k => ⟨Int.le_trans h k.1, k.2⟩
theorem RunsFrom.ge : ∀ {l : List Pp} {b : Int}, RunsFrom b l → ∀ p ∈ l, b ≤ p.lo ∧ p.lo ≤ p.hi ∧ p.v ≠ 0
  | [], b, _, p, hp => by cases hp
  | x :: l, b, h, p, hp => by
    rcases List.mem_cons.1 hp with e | e
    · rw [e]; exact ⟨h.1, h.2.1, h.2.2.1⟩
    · have := RunsFrom.ge h.2.2.2.1 p e
      have := h.1
      have := h.2.1
      exact ⟨by omega, by omega, by simp_all⟩
theorem RunsFrom.apart : ∀ {l : List Pp} {b : Int}, RunsFrom b l → Apart l
  | [], b, _ => trivial
  | x :: l, b, h => by
    refine ⟨fun q hq r hr => ?_, RunsFrom.apart h.2.2.2.1⟩
    have h1 := RunsFrom.ge h.2.2.2.1 q hq
    have h2 := hasP_iff.1 hr
    cases z : hasP q r with
    | false => rfl
    | true => have := hasP_iff.1 z; omega
theorem RunsFrom.val {l : List Pp} {b : Int} (h : RunsFrom b l) {p : Pp} (hp : p ∈ l) {r : Int} (hr : p.lo ≤ r ∧ r ≤ p.hi) : valP l r = p.v :=
  val_one hp (hasP_iff.2 hr) (fun q hq hz => h.apart.one hp hq (hasP_iff.2 hr) hz)
theorem RunsFrom.below {l : List Pp} {b r : Int} (h : RunsFrom b l) (hr : r < b) : valP l r = 0 :=
  val_none (fun p hp => by
    have := h.ge p hp
    cases z : hasP p r with
    | false => rfl
    | true => have := hasP_iff.1 z; omega)
theorem val_cons_out {x : Pp} {l : List Pp} {r : Int} (h : hasP x r = false) : valP (x :: l) r = valP l r := by
  unfold valP
  rw [List.foldl_cons]
  have e : stepV r 0 x = 0 := by unfold stepV; rw [h]; rfl
  rw [e]
/-- The number behind a run has another value. -/
theorem RunsFrom.behind {x : Pp} {l : List Pp} {b : Int} (h : RunsFrom b (x :: l)) : valP (x :: l) (x.hi + 1) ≠ x.v := by
  have ho : hasP x (x.hi + 1) = false := by
    cases z : hasP x (x.hi + 1) with
    | false => rfl
    | true => have := hasP_iff.1 z; omega
  rw [val_cons_out ho]
  rcases val_cases l (x.hi + 1) with e | ⟨p, hp, h1, h2⟩
  · rw [e]; exact fun z => h.2.2.1 z.symm
  · rw [h2]
    have h3 := RunsFrom.ge h.2.2.2.1 p hp
    have h4 := hasP_iff.1 h1
    exact h.2.2.2.2 p hp (by omega)
/-- There is one list of runs. -/
theorem RunsFrom.unique : ∀ {l m : List Pp} {b : Int}, RunsFrom b l → RunsFrom b m → (∀ r, valP l r = valP m r) → l = m
  | [], [], _, _, _, _ => rfl
  | [], y :: m, b, _, k, h => by
    have := h y.lo
    rw [k.val (by simp) ⟨Int.le_refl _, k.2.1⟩] at this
    exact absurd this.symm k.2.2.1
  | x :: l, [], b, k, _, h => by
    have := h x.lo
    rw [k.val (by simp) ⟨Int.le_refl _, k.2.1⟩] at this
    exact absurd this k.2.2.1
  | x :: l, y :: m, b, k, n, h => by
    have hx : ∀ r, x.lo ≤ r → r ≤ x.hi → valP (y :: m) r = x.v := fun r a c => by rw [← h r]; exact k.val (by simp) ⟨a, c⟩
    have hy : ∀ r, y.lo ≤ r → r ≤ y.hi → valP (x :: l) r = y.v := fun r a c => by rw [h r]; exact n.val (by simp) ⟨a, c⟩
    have kx : RunsFrom x.lo (x :: l) := ⟨Int.le_refl _, k.2⟩
    have ny : RunsFrom y.lo (y :: m) := ⟨Int.le_refl _, n.2⟩
    have e1 : x.lo = y.lo := by
      rcases Int.lt_trichotomy x.lo y.lo with q | q | q
      · have h1 := hx x.lo (Int.le_refl _) k.2.1
        rw [ny.below q] at h1
        exact absurd h1.symm k.2.2.1
      · exact q
      · have h1 := hy y.lo (Int.le_refl _) n.2.1
        rw [kx.below q] at h1
        exact absurd h1.symm n.2.2.1
    have e2 : x.v = y.v := by
      have := hx x.lo (Int.le_refl _) k.2.1
      rw [e1, n.val (by simp) ⟨Int.le_refl _, n.2.1⟩] at this
      exact this.symm
    have e3 : x.hi = y.hi := by
      rcases Int.lt_trichotomy x.hi y.hi with q | q | q
      · have h1 := hy (x.hi + 1) (by have := k.2.1; omega) (by omega)
        have h2 := k.behind
        rw [h1, e2] at h2
        exact absurd rfl h2
      · exact q
      · have h1 := hx (y.hi + 1) (by have := n.2.1; omega) (by omega)
        have h2 := n.behind
        rw [h1, e2] at h2
        exact absurd rfl h2
    have er : x = y := by cases x; cases y; simp only at e1 e2 e3; rw [e1, e2, e3]
    subst er
    have ht : ∀ r, valP l r = valP m r := fun r => by
      by_cases q : r < x.hi + 1
      · rw [RunsFrom.below k.2.2.2.1 q, RunsFrom.below n.2.2.2.1 q]
      · have ho : hasP x r = false := by
          cases z : hasP x r with
          | false => rfl
          | true => have := hasP_iff.1 z; omega
        have := h r
        rwa [val_cons_out ho, val_cons_out ho] at this
    rw [RunsFrom.unique k.2.2.2.1 n.2.2.2.1 ht]
/-- A run more behind others. -/
theorem RunsFrom.snoc : ∀ {l : List Pp} {b : Int} {p : Pp}, RunsFrom b l → b ≤ p.lo → p.lo ≤ p.hi → p.v ≠ 0 → (∀ q ∈ l, q.hi < p.lo) → (∀ q ∈ l, p.lo = q.hi + 1 → p.v ≠ q.v) → RunsFrom b (l ++ [p])
  | [], b, p, _, h1, h2, h3, _, _ => ⟨h1, h2, h3, trivial, fun q hq => by cases hq⟩
  | x :: l, b, p, k, h1, h2, h3, h4, h5 => by
    have hx := h4 x (by simp)
    refine ⟨k.1, k.2.1, k.2.2.1, RunsFrom.snoc k.2.2.2.1 (by omega) h2 h3 (fun q hq => h4 q (by simp [hq])) (fun q hq => h5 q (by simp [hq])), fun q hq e => ?_⟩
    rcases List.mem_append.1 hq with z | z
    · exact k.2.2.2.2 q z e
    · rw [List.mem_singleton.1 z] at e ⊢
      exact h5 x (by simp) e
/-- A run begins where the value turns: so there are no more than two for an entry, and one. -/
theorem runs_length {l m : List Pp} {b : Int} (h : RunsFrom b m) (e : ∀ r, b ≤ r → valP m r = valP l r) (hb : ∀ p ∈ m, b ≤ p.lo) : m.length ≤ 2 * l.length + 1 := by
  have hnd : (m.map Pp.lo).Nodup := by
    have key : ∀ {m : List Pp} {b : Int}, RunsFrom b m → (m.map Pp.lo).Nodup := by
      intro m
      induction m with
      | nil => intro b _; exact List.nodup_nil
      | cons x m ih =>
        intro b k
        rw [List.map_cons, List.nodup_cons]
        refine ⟨fun hm => ?_, ih k.2.2.2.1⟩
        obtain ⟨q, hq, eq⟩ := List.mem_map.1 hm
        have := RunsFrom.ge k.2.2.2.1 q hq
        have := k.2.1
        omega
    exact key h
  have hle := nodup_le (m := b :: (l.map Pp.lo ++ l.map (fun p => p.hi + 1))) hnd (fun x hx => ?_)
  · simp only [List.length_map, List.length_cons, List.length_append] at hle
    omega
  · obtain ⟨p, hp, rfl⟩ := List.mem_map.1 hx
    by_cases q : p.lo = b
    · rw [q]; simp
    · have hpb := hb p hp
      have hpo := h.ge p hp
      have h1 : valP l p.lo = p.v := by rw [← e p.lo hpb]; exact h.val hp ⟨Int.le_refl _, hpo.2.1⟩
      have h2 : valP l (p.lo - 1) ≠ p.v := by
        rw [← e (p.lo - 1) (by omega)]
        intro z
        rcases val_cases m (p.lo - 1) with y | ⟨t, ht, z1, z2⟩
        · rw [y] at z; exact hpo.2.2 z.symm
        · have ht1 := hasP_iff.1 z1
          have hto := h.ge t ht
          have htp : ¬ (t.lo ≤ p.lo ∧ p.lo ≤ t.hi) := fun y => by
            have key : ∀ {m : List Pp} {b : Int}, RunsFrom b m → ∀ {s t : Pp}, s ∈ m → t ∈ m → s.lo < t.lo → s.hi < t.lo := by
              intro m
              induction m with
              | nil => intro b _ s t hs; cases hs
              | cons x m ih =>
                intro b k s t hs ht hlt
                rcases List.mem_cons.1 hs with e1 | e1 <;> rcases List.mem_cons.1 ht with e2 | e2
                · rw [e1, e2] at hlt; omega
                · have := RunsFrom.ge k.2.2.2.1 t e2
                  rw [e1]; omega
                · have := RunsFrom.ge k.2.2.2.1 s e1
                  have := k.2.1
                  rw [e2] at hlt; omega
                · exact ih k.2.2.2.1 e1 e2 hlt
            have := key h ht hp (by omega)
            omega
          have hte : p.lo = t.hi + 1 := by omega
          have key : ∀ {m : List Pp} {b : Int}, RunsFrom b m → ∀ {s t : Pp}, s ∈ m → t ∈ m → s.lo = t.hi + 1 → s.v ≠ t.v := by
            intro m
            induction m with
            | nil => intro b _ s t hs; cases hs
            | cons x m ih =>
              intro b k s t hs ht hlt
              rcases List.mem_cons.1 hs with e1 | e1 <;> rcases List.mem_cons.1 ht with e2 | e2
              · rw [e1, e2] at hlt
                have := k.2.1
                omega
              · have := RunsFrom.ge k.2.2.2.1 t e2
                rw [e1] at hlt
                have := k.2.1
                omega
              · rw [e2] at hlt ⊢
                exact k.2.2.2.2 s e1 hlt
              · exact ih k.2.2.2.1 e1 e2 hlt
          rw [z2] at z
          exact key h hp ht hte z.symm
      rcases val_cases l p.lo with y | ⟨t, ht, z1, z2⟩
      · rw [h1] at y; exact absurd y hpo.2.2
      · by_cases ho : ∃ s ∈ l, hasP s p.lo ≠ hasP s (p.lo - 1)
        · obtain ⟨s, hs, hne⟩ := ho
          by_cases a1 : hasP s p.lo = true
          · have a2 : hasP s (p.lo - 1) = false := by
              cases w : hasP s (p.lo - 1) with
              | false => rfl
              | true => rw [a1, w] at hne; exact absurd rfl hne
            have b1 := hasP_iff.1 a1
            have b2 : ¬ (s.lo ≤ p.lo - 1 ∧ p.lo - 1 ≤ s.hi) := fun w => by rw [hasP_iff.2 w] at a2; cases a2
            have : p.lo = s.lo := by omega
            rw [this]
            exact List.mem_cons.2 (.inr (List.mem_append.2 (.inl (List.mem_map.2 ⟨s, hs, rfl⟩))))
          · have a2 : hasP s (p.lo - 1) = true := by
              cases w : hasP s (p.lo - 1) with
              | true => rfl
              | false =>
                have : hasP s p.lo = false := by simpa using a1
                rw [this, w] at hne; exact absurd rfl hne
            have b1 := hasP_iff.1 a2
            have b2 : ¬ (s.lo ≤ p.lo ∧ p.lo ≤ s.hi) := fun w => a1 (hasP_iff.2 w)
            have : p.lo = s.hi + 1 := by omega
            rw [this]
            exact List.mem_cons.2 (.inr (List.mem_append.2 (.inr (List.mem_map.2 ⟨s, hs, rfl⟩))))
        · exfalso
          have hall : ∀ s ∈ l, hasP s p.lo = hasP s (p.lo - 1) := fun s hs => Classical.byContradiction fun w => ho ⟨s, hs, w⟩
          have hv : ∀ (l : List Pp) (v : Int), (∀ s ∈ l, hasP s p.lo = hasP s (p.lo - 1)) → l.foldl (stepV p.lo) v = l.foldl (stepV (p.lo - 1)) v := by
            intro l
            induction l with
            | nil => intro v _; rfl
            | cons s l ih =>
              intro v hs
              have e1 : stepV p.lo v s = stepV (p.lo - 1) v s := by unfold stepV; rw [hs s (by simp)]
              rw [List.foldl_cons, List.foldl_cons, e1]
              exact ih _ (fun x hx => hs x (by simp [hx]))
          have : valP l p.lo = valP l (p.lo - 1) := hv l 0 hall
          rw [h1] at this
          exact h2 this.symm
end Go.Proofs.YtdjhgjnhfmggjabGreatDoor.S3

namespace Go.Proofs.YtdjhgjnhfmggjabGreatDoor.S3
open Go.RowKit
set_option linter.unusedVariables false

/-- All blocks have 256 values. -/
def Even (F : List (List Int)) : Prop := ∀ x ∈ F, x.length = 256
theorem flat_length : ∀ {F : List (List Int)}, Even F → F.flatten.length = 256 * F.length
  | [], _ => rfl
  | x :: F, h => by
    have h1 := h x (by simp)
    have h2 := flat_length (F := F) (fun y hy => h y (by simp [hy]))
    rw [List.flatten_cons, List.length_append, h1, h2, List.length_cons]
    omega
theorem flat_block : ∀ {F : List (List Int)}, Even F → ∀ (i : Nat) (hi : i < F.length), (F.flatten.drop (256 * i)).take 256 = F[i]
  | [], _, i, hi => by cases hi
  | x :: F, h, 0, hi => by
    have h1 := h x (by simp)
    rw [Nat.mul_zero, List.drop_zero, List.flatten_cons, List.take_append_of_le_length (by omega), List.take_of_length_le (by omega)]
    rfl
  | x :: F, h, i + 1, hi => by
    have h1 := h x (by simp)
    have h2 := flat_block (F := F) (fun y hy => h y (by simp [hy])) i (by simpa using hi)
    have e : 256 * (i + 1) = x.length + 256 * i := by omega
    rw [List.flatten_cons, e, List.drop_append, List.drop_of_length_le (by omega), List.nil_append]
    have e2 : x.length + 256 * i - x.length = 256 * i := by omega
    rw [e2, h2]
    rfl

/-- The bytes of a trie of these blocks. -/
def saveL (bs : List (List Int)) : List Int := (((firstsOf bs).length : Int) - 1) :: ((likeOf bs).map (fun n : Nat => (n : Int)) ++ (firstsOf bs).flatten)
theorem save_length {bs : List (List Int)} (h : Even bs) (hl : bs.length = 4352) : (saveL bs).length = 4353 + 256 * (firstsOf bs).length := by
  have he : Even (firstsOf bs) := fun x hx => h x (firsts_mem.1 hx)
  unfold saveL
  rw [List.length_cons, List.length_append, List.length_map, like_length, hl, flat_length he]
  omega
theorem save_like {bs : List (List Int)} {k : Nat} (hk : k < bs.length) : (saveL bs)[1 + k]? = some (((likeOf bs)[k]'(by rw [like_length]; exact hk) : Nat) : Int) := by
  have hk' : k < (likeOf bs).length := by rw [like_length]; exact hk
  unfold saveL
  rw [Nat.add_comm, List.getElem?_cons_succ, List.getElem?_append_left (by rw [List.length_map]; exact hk'), List.getElem?_map, List.getElem?_eq_getElem hk']
  rfl
/-- The i-th block that bytes tell, and the block of each number. -/
def blkB (b : List Int) (i : Nat) : List Int := (b.drop (4353 + 256 * i)).take 256
def bsB (b : List Int) : List (List Int) := (List.range 4352).map fun k => blkB b (b[1 + k]?.getD 0).toNat
theorem save_block {bs : List (List Int)} (h : Even bs) (hl : bs.length = 4352) {i : Nat} (hi : i < (firstsOf bs).length) : blkB (saveL bs) i = (firstsOf bs)[i] := by
  have he : Even (firstsOf bs) := fun x hx => h x (firsts_mem.1 hx)
  unfold blkB saveL
  have e : 4353 + 256 * i = (4352 + 256 * i) + 1 := by omega
  rw [e, List.drop_succ_cons, List.drop_append, List.length_map, like_length, hl]
  have e2 : 4352 + 256 * i - 4352 = 256 * i := by omega
  rw [e2, List.drop_of_length_le (by rw [List.length_map, like_length, hl]; omega), List.nil_append]
  exact flat_block he i hi
theorem bsB_get (b : List Int) (k : Nat) (h : k < (bsB b).length) : (bsB b)[k] = blkB b (b[1 + k]?.getD 0).toNat := by simp [bsB]
theorem bsB_length (b : List Int) : (bsB b).length = 4352 := by unfold bsB; rw [List.length_map, List.length_range]
/-- What was saved is told as it was. -/
theorem save_back {bs : List (List Int)} (h : Even bs) (hl : bs.length = 4352) : bsB (saveL bs) = bs := by
  apply List.ext_getElem
  · rw [bsB_length, hl]
  · intro k h1 h2
    rw [bsB_get, save_like h2]
    show blkB (saveL bs) ((((likeOf bs)[k]'(by rw [like_length]; exact h2) : Nat) : Int)).toNat = _
    rw [Int.toNat_natCast, save_block h hl (like_lt h2)]
    exact firsts_like h2
/-- Two lists of blocks with the same bytes are one. -/
theorem save_inj {bs cs : List (List Int)} (h : Even bs) (hl : bs.length = 4352) (k : Even cs) (kl : cs.length = 4352) (e : saveL bs = saveL cs) : bs = cs := by
  rw [← save_back h hl, ← save_back k kl, e]
theorem even_blocks (f : Int → Int) : Even (blocksF f) := fun x hx => by
  obtain ⟨k, _, rfl⟩ := List.mem_map.1 hx
  exact blkF_length f k
/-- The blocks that bytes tell are whole, where the bytes are long enough. -/
theorem even_bytes {b : List Int} {n : Nat} (hb : b.length = 4353 + 256 * n) (hk : ∀ k, k < 4352 → (b[1 + k]?.getD 0).toNat < n) : Even (bsB b) := fun x hx => by
  obtain ⟨k, hk', rfl⟩ := List.mem_map.1 hx
  have := hk k (List.mem_range.1 hk')
  unfold blkB
  rw [List.length_take, List.length_drop, hb]
  have h2 : 256 * ((b[1 + k]?.getD 0).toNat + 1) ≤ 256 * n := Nat.mul_le_mul_left 256 this
  omega
end Go.Proofs.YtdjhgjnhfmggjabGreatDoor.S3
