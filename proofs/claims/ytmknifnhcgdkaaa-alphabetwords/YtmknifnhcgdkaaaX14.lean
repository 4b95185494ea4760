/-
  Plain mathematics of tries: the value of a number by entries, blocks of values, how many first ones there are; runs of one value.
-/
import Derived.Test.YtmknifnhcgdkaaaX13
namespace Go.Proofs.Ytmknifnhcgdkaaa.S3
open Go.RowKit
set_option linter.unusedVariables false

/-- An entry: the value of the numbers from lo to hi. -/
structure Pp where
  lo : Int
  hi : Int
  v : Int

def hasP (p : Pp) (r : Int) : Bool := decide (p.lo ≤ r ∧ r ≤ p.hi)
theorem hasP_iff {p : Pp} {r : Int} : hasP p r = true ↔ p.lo ≤ r ∧ r ≤ p.hi := by simp [hasP]
/-- The value of a number: that of the last entry that has it. -/
def stepV (r : Int) (v : Int) (p : Pp) : Int := if hasP p r = true then p.v else v
def valP (l : List Pp) (r : Int) : Int := l.foldl (stepV r) 0

theorem val_nil (r : Int) : valP [] r = 0 := rfl
theorem val_snoc (l : List Pp) (p : Pp) (r : Int) : valP (l ++ [p]) r = if hasP p r = true then p.v else valP l r := by
  unfold valP
  rw [List.foldl_append]
  rfl
theorem val_from : ∀ (l : List Pp) (r v : Int), (∀ p ∈ l, hasP p r = false) → l.foldl (stepV r) v = v
  | [], r, v, _ => rfl
  | p :: l, r, v, h => by
    have e : stepV r v p = v := by unfold stepV; rw [h p (by simp)]; rfl
    rw [List.foldl_cons, e]
    exact val_from l r v (fun q hq => h q (by simp [hq]))
theorem val_none {l : List Pp} {r : Int} (h : ∀ p ∈ l, hasP p r = false) : valP l r = 0 := val_from l r 0 h
/-- Only the entries that have a number tell its value. -/
theorem val_filter : ∀ (l : List Pp) (f : Pp → Bool) (r v : Int), (∀ p ∈ l, hasP p r = true → f p = true) → (l.filter f).foldl (stepV r) v = l.foldl (stepV r) v
  | [], f, r, v, _ => rfl
  | p :: l, f, r, v, h => by
    by_cases q : f p = true
    · rw [List.filter_cons_of_pos q, List.foldl_cons, List.foldl_cons]
      exact val_filter l f r _ (fun x hx => h x (by simp [hx]))
    · rw [List.filter_cons_of_neg q, List.foldl_cons]
      have e : stepV r v p = v := by
        unfold stepV
        rw [if_neg (fun z => q (h p (by simp) z))]
      rw [e]
      exact val_filter l f r v (fun x hx => h x (by simp [hx]))
theorem snoc_ind {P : List Pp → Prop} (h0 : P []) (hs : ∀ l x, P l → P (l ++ [x])) : ∀ l, P l := by
  have key : ∀ n (l : List Pp), l.length = n → P l := by
    intro n
    induction n with
    | zero => intro l hl; rw [List.length_eq_zero_iff.1 hl]; exact h0
    | succ n ih =>
      intro l hl
      cases q : l.getLast? with
      | none =>
        rw [List.getLast?_eq_none_iff.1 q] at hl
        cases hl
      | some x =>
        obtain ⟨ini, e⟩ := List.getLast?_eq_some_iff.1 q
        rw [e] at hl ⊢
        exact hs ini x (ih ini (by simpa using hl))
  exact fun l => key l.length l rfl
/-- Where one entry alone has a number, its value is told. -/
theorem val_one : ∀ {l : List Pp} {p : Pp} {r : Int}, p ∈ l → hasP p r = true → (∀ q ∈ l, hasP q r = true → q.v = p.v) → valP l r = p.v := by
  intro l
  refine snoc_ind (P := fun l => ∀ {p : Pp} {r : Int}, p ∈ l → hasP p r = true → (∀ q ∈ l, hasP q r = true → q.v = p.v) → valP l r = p.v) ?_ ?_ l
  · intro p r h; cases h
  · intro l x ih p r hp hr hq
    rw [val_snoc]
    by_cases z : hasP x r = true
    · rw [if_pos z]
      exact hq x (by simp) z
    · rw [if_neg z]
      rcases List.mem_append.1 hp with y | y
      · exact ih y hr (fun q hq' => hq q (by simp [hq']))
      · rw [List.mem_singleton.1 y] at hr
        exact absurd hr z
theorem val_cases (l : List Pp) (r : Int) : valP l r = 0 ∨ ∃ p ∈ l, hasP p r = true ∧ valP l r = p.v := by
  refine snoc_ind (P := fun l => valP l r = 0 ∨ ∃ p ∈ l, hasP p r = true ∧ valP l r = p.v) (.inl rfl) (fun l x ih => ?_) l
  · rw [val_snoc]
    by_cases z : hasP x r = true
    · rw [if_pos z]
      exact .inr ⟨x, by simp, z, rfl⟩
    · rw [if_neg z]
      rcases ih with h | ⟨p, hp, h1, h2⟩
      · exact .inl h
      · exact .inr ⟨p, by simp [hp], h1, h2⟩
/-- No two entries meet. -/
def Apart : List Pp → Prop
  | [] => True
  | p :: l => (∀ q ∈ l, ∀ r, hasP p r = true → hasP q r = false) ∧ Apart l
theorem Apart.one : ∀ {l : List Pp}, Apart l → ∀ {p q : Pp} {r : Int}, p ∈ l → q ∈ l → hasP p r = true → hasP q r = true → q.v = p.v
  | [], _, p, q, r, hp, _, _, _ => by cases hp
  | x :: l, h, p, q, r, hp, hq, zp, zq => by
    rcases List.mem_cons.1 hp with e | e <;> rcases List.mem_cons.1 hq with f | f
    · rw [e, f]
    · rw [e] at zp
      have := h.1 q f r zp
      rw [this] at zq; cases zq
    · rw [f] at zq
      have := h.1 p e r zq
      rw [this] at zp; cases zp
    · exact Apart.one h.2 e f zp zq
/-- The order of entries that do not meet plays no part. -/
theorem val_apart {l m : List Pp} (h : Apart l) (k : ∀ p, p ∈ l ↔ p ∈ m) (r : Int) : valP m r = valP l r := by
  rcases val_cases l r with e | ⟨p, hp, h1, h2⟩
  · by_cases z : ∃ p ∈ l, hasP p r = true
    · obtain ⟨p, hp, h1⟩ := z
      rw [val_one ((k p).1 hp) h1 (fun q hq hz => h.one hp ((k q).2 hq) h1 hz), val_one hp h1 (fun q hq hz => h.one hp hq h1 hz)]
    · have hn : ∀ p ∈ l, hasP p r = false := fun p hp => by
        cases q : hasP p r with
        | false => rfl
        | true => exact absurd ⟨p, hp, q⟩ z
      rw [val_none hn, val_none (fun p hp => hn p ((k p).2 hp))]
  · rw [h2]
    exact val_one ((k p).1 hp) h1 (fun q hq hz => h.one hp ((k q).2 hq) h1 hz)

/-- The values of 256 numbers. -/
def blkF (f : Int → Int) (k : Nat) : List Int := (List.range 256).map fun i => f ((k * 256 + i : Nat) : Int)
def blocksF (f : Int → Int) : List (List Int) := (List.range 4352).map (blkF f)
theorem blkF_length (f : Int → Int) (k : Nat) : (blkF f k).length = 256 := by simp [blkF]
theorem blocksF_length (f : Int → Int) : (blocksF f).length = 4352 := by simp [blocksF]
theorem blkF_congr {f g : Int → Int} {k : Nat} (h : ∀ r : Int, ((k * 256 : Nat) : Int) ≤ r → r < ((k * 256 + 256 : Nat) : Int) → f r = g r) : blkF f k = blkF g k := by
  unfold blkF
  refine List.map_congr_left (fun i hi => ?_)
  have := List.mem_range.1 hi
  exact h _ (by omega) (by omega)
theorem blocksF_congr {f g : Int → Int} (h : ∀ r : Int, 0 ≤ r → r ≤ 1114111 → f r = g r) : blocksF f = blocksF g := by
  unfold blocksF
  refine List.map_congr_left (fun k hk => ?_)
  have := List.mem_range.1 hk
  exact blkF_congr (fun r a b => h r (by omega) (by omega))
/-- The value of a number by its block and its place in it. -/
theorem blocksF_at (f : Int → Int) (r : Nat) (h : r ≤ 1114111) : ∃ (h1 : r / 256 < (blocksF f).length) (h2 : r % 256 < (blocksF f)[r / 256].length), (blocksF f)[r / 256][r % 256] = f (r : Int) := by
  have h1 : r / 256 < 4352 := by omega
  refine ⟨by rw [blocksF_length]; exact h1, by simp [blocksF, blkF_length]; omega, ?_⟩
  simp only [blocksF, List.getElem_map, List.getElem_range, blkF]
  congr 1
  omega

set_option maxRecDepth 20000 in
/-- An entry more makes no more than three blocks that were not there. -/
theorem blocks_later (l : List Pp) (p : Pp) : ∃ m : List (List Int), m.length = 3 ∧ ∀ x ∈ blocksF (valP (l ++ [p])), x ∈ blocksF (valP l) ∨ x ∈ m := by
  refine ⟨[List.replicate 256 p.v, blkF (valP (l ++ [p])) (p.lo / 256).toNat, blkF (valP (l ++ [p])) (p.hi / 256).toNat], rfl, fun x hx => ?_⟩
  obtain ⟨k, hk, rfl⟩ := List.mem_map.1 hx
  have hk' := List.mem_range.1 hk
  by_cases q : p.hi < ((k * 256 : Nat) : Int) ∨ ((k * 256 + 255 : Nat) : Int) < p.lo
  · left
    refine List.mem_map.2 ⟨k, hk, blkF_congr (fun r a b => ?_)⟩
    rw [val_snoc, if_neg]
    rw [hasP_iff]
    omega
  · right
    by_cases q2 : p.lo ≤ ((k * 256 : Nat) : Int) ∧ ((k * 256 + 255 : Nat) : Int) ≤ p.hi
    · have e : blkF (valP (l ++ [p])) k = List.replicate 256 p.v := by
        unfold blkF
        rw [List.eq_replicate_iff]
        refine ⟨by rw [List.length_map, List.length_range], fun y hy => ?_⟩
        obtain ⟨i, hi, rfl⟩ := List.mem_map.1 hy
        have hi' : i < 256 := List.mem_range.1 hi
        have h3 : p.lo ≤ ((k * 256 + i : Nat) : Int) ∧ ((k * 256 + i : Nat) : Int) ≤ p.hi := by
          clear hy hx
          omega
        rw [val_snoc, if_pos (hasP_iff.2 h3)]
      exact List.mem_cons.2 (.inl e)
    · by_cases q3 : ((k * 256 : Nat) : Int) < p.lo
      · have e : (p.lo / 256).toNat = k := by omega
        rw [e]
        exact List.mem_cons.2 (.inr (List.mem_cons.2 (.inl rfl)))
      · have e : (p.hi / 256).toNat = k := by omega
        rw [e]
        exact List.mem_cons.2 (.inr (List.mem_cons.2 (.inr (List.mem_cons.2 (.inl rfl)))))
theorem blocks_more (l : List Pp) (p : Pp) : (firstsOf (blocksF (valP (l ++ [p])))).length ≤ (firstsOf (blocksF (valP l))).length + 3 := by
  obtain ⟨m, hm, h⟩ := blocks_later l p
  have := firsts_more h
  omega
/-- Entries of low numbers touch four blocks alone. -/
theorem blocks_low {l : List Pp} (h : ∀ p ∈ l, 0 ≤ p.lo ∧ p.hi < 1024) : (firstsOf (blocksF (valP l))).length ≤ 5 := by
  have := firsts_le (bs := blocksF (valP l)) (m := [blkF (valP l) 0, blkF (valP l) 1, blkF (valP l) 2, blkF (valP l) 3, blkF (fun _ => 0) 0]) (fun x hx => by
    obtain ⟨k, hk, rfl⟩ := List.mem_map.1 hx
    by_cases q : k < 4
    · have : k = 0 ∨ k = 1 ∨ k = 2 ∨ k = 3 := by omega
      rcases this with rfl | rfl | rfl | rfl <;> simp
    · have e : blkF (valP l) k = blkF (fun _ => 0) 0 := by
        unfold blkF
        refine List.map_congr_left (fun i hi => ?_)
        exact val_none (fun p hp => by
          have := h p hp
          cases z : hasP p ((k * 256 + i : Nat) : Int) with
          | false => rfl
          | true => have := hasP_iff.1 z; omega)
      rw [e]; simp)
  simpa using this

/-- Runs of one value, none 0, from b on: each as long as can be. -/
def RunsFrom (b : Int) : List Pp → Prop
  | [] => True
  | p :: l => b ≤ p.lo ∧ p.lo ≤ p.hi ∧ p.v ≠ 0 ∧ RunsFrom (p.hi + 1) l ∧ ∀ q ∈ l, q.lo = p.hi + 1 → q.v ≠ p.v

theorem RunsFrom.mono {b c : Int} (h : c ≤ b) : ∀ {l : List Pp}, RunsFrom b l → RunsFrom c l
  | [], _ => trivial
  | p :: l, k => ⟨Int.le_trans h k.1, k.2⟩
theorem RunsFrom.ge : ∀ {l : List Pp} {b : Int}, RunsFrom b l → ∀ p ∈ l, b ≤ p.lo ∧ p.lo ≤ p.hi ∧ p.v ≠ 0
  | [], b, _, p, hp => by cases hp
  | x :: l, b, h, p, hp => by
    rcases List.mem_cons.1 hp with e | e
    · rw [e]; exact ⟨h.1, h.2.1, h.2.2.1⟩
    · have := RunsFrom.ge h.2.2.2.1 p e
      have := h.1
      have := h.2.1
      exact ⟨by omega, by omega, by simp_all⟩
theorem RunsFrom.apart : ∀ {l : List Pp} {b : Int}, RunsFrom b l → Apart l
  | [], b, _ => trivial
  | x :: l, b, h => by
    refine ⟨fun q hq r hr => ?_, RunsFrom.apart h.2.2.2.1⟩
    have h1 := RunsFrom.ge h.2.2.2.1 q hq
    have h2 := hasP_iff.1 hr
    cases z : hasP q r with
    | false => rfl
    | true => have := hasP_iff.1 z; omega
theorem RunsFrom.val {l : List Pp} {b : Int} (h : RunsFrom b l) {p : Pp} (hp : p ∈ l) {r : Int} (hr : p.lo ≤ r ∧ r ≤ p.hi) : valP l r = p.v :=
  val_one hp (hasP_iff.2 hr) (fun q hq hz => h.apart.one hp hq (hasP_iff.2 hr) hz)
theorem RunsFrom.below {l : List Pp} {b r : Int} (h : RunsFrom b l) (hr : r < b) : valP l r = 0 :=
  val_none (fun p hp => by
    have := h.ge p hp
    cases z : hasP p r with
    | false => rfl
    | true => have := hasP_iff.1 z; omega)
theorem val_cons_out {x : Pp} {l : List Pp} {r : Int} (h : hasP x r = false) : valP (x :: l) r = valP l r := by
  unfold valP
  rw [List.foldl_cons]
  have e : stepV r 0 x = 0 := by unfold stepV; rw [h]; rfl
  rw [e]
/-- The number behind a run has another value. -/
theorem RunsFrom.behind {x : Pp} {l : List Pp} {b : Int} (h : RunsFrom b (x :: l)) : valP (x :: l) (x.hi + 1) ≠ x.v := by
  have ho : hasP x (x.hi + 1) = false := by
    cases z : hasP x (x.hi + 1) with
    | false => rfl
    | true => have := hasP_iff.1 z; omega
  rw [val_cons_out ho]
  rcases val_cases l (x.hi + 1) with e | ⟨p, hp, h1, h2⟩
  · rw [e]; exact fun z => h.2.2.1 z.symm
  · rw [h2]
    have h3 := RunsFrom.ge h.2.2.2.1 p hp
    have h4 := hasP_iff.1 h1
    exact h.2.2.2.2 p hp (by omega)
/-- There is one list of runs. -/
theorem RunsFrom.unique : ∀ {l m : List Pp} {b : Int}, RunsFrom b l → RunsFrom b m → (∀ r, valP l r = valP m r) → l = m
  | [], [], _, _, _, _ => rfl
  | [], y :: m, b, _, k, h => by
    have := h y.lo
    rw [k.val (by simp) ⟨Int.le_refl _, k.2.1⟩] at this
    exact absurd this.symm k.2.2.1
  | x :: l, [], b, k, _, h => by
    have := h x.lo
    rw [k.val (by simp) ⟨Int.le_refl _, k.2.1⟩] at this
    exact absurd this k.2.2.1
  | x :: l, y :: m, b, k, n, h => by
    have hx : ∀ r, x.lo ≤ r → r ≤ x.hi → valP (y :: m) r = x.v := fun r a c => by rw [← h r]; exact k.val (by simp) ⟨a, c⟩
    have hy : ∀ r, y.lo ≤ r → r ≤ y.hi → valP (x :: l) r = y.v := fun r a c => by rw [h r]; exact n.val (by simp) ⟨a, c⟩
    have kx : RunsFrom x.lo (x :: l) := ⟨Int.le_refl _, k.2⟩
    have ny : RunsFrom y.lo (y :: m) := ⟨Int.le_refl _, n.2⟩
    have e1 : x.lo = y.lo := by
      rcases Int.lt_trichotomy x.lo y.lo with q | q | q
      · have h1 := hx x.lo (Int.le_refl _) k.2.1
        rw [ny.below q] at h1
        exact absurd h1.symm k.2.2.1
      · exact q
      · have h1 := hy y.lo (Int.le_refl _) n.2.1
        rw [kx.below q] at h1
        exact absurd h1.symm n.2.2.1
    have e2 : x.v = y.v := by
      have := hx x.lo (Int.le_refl _) k.2.1
      rw [e1, n.val (by simp) ⟨Int.le_refl _, n.2.1⟩] at this
      exact this.symm
    have e3 : x.hi = y.hi := by
      rcases Int.lt_trichotomy x.hi y.hi with q | q | q
      · have h1 := hy (x.hi + 1) (by have := k.2.1; omega) (by omega)
        have h2 := k.behind
        rw [h1, e2] at h2
        exact absurd rfl h2
      · exact q
      · have h1 := hx (y.hi + 1) (by have := n.2.1; omega) (by omega)
        have h2 := n.behind
        rw [h1, e2] at h2
        exact absurd rfl h2
    have er : x = y := by cases x; cases y; simp only at e1 e2 e3; rw [e1, e2, e3]
    subst er
    have ht : ∀ r, valP l r = valP m r := fun r => by
      by_cases q : r < x.hi + 1
      · rw [RunsFrom.below k.2.2.2.1 q, RunsFrom.below n.2.2.2.1 q]
      · have ho : hasP x r = false := by
          cases z : hasP x r with
          | false => rfl
          | true => have := hasP_iff.1 z; omega
        have := h r
        rwa [val_cons_out ho, val_cons_out ho] at this
    rw [RunsFrom.unique k.2.2.2.1 n.2.2.2.1 ht]
/-- A run more behind others. -/
theorem RunsFrom.snoc : ∀ {l : List Pp} {b : Int} {p : Pp}, RunsFrom b l → b ≤ p.lo → p.lo ≤ p.hi → p.v ≠ 0 → (∀ q ∈ l, q.hi < p.lo) → (∀ q ∈ l, p.lo = q.hi + 1 → p.v ≠ q.v) → RunsFrom b (l ++ [p])
  | [], b, p, _, h1, h2, h3, _, _ => ⟨h1, h2, h3, trivial, fun q hq => by cases hq⟩
  | x :: l, b, p, k, h1, h2, h3, h4, h5 => by
    have hx := h4 x (by simp)
    refine ⟨k.1, k.2.1, k.2.2.1, RunsFrom.snoc k.2.2.2.1 (by omega) h2 h3 (fun q hq => h4 q (by simp [hq])) (fun q hq => h5 q (by simp [hq])), fun q hq e => ?_⟩
    rcases List.mem_append.1 hq with z | z
    · exact k.2.2.2.2 q z e
    · rw [List.mem_singleton.1 z] at e ⊢
      exact h5 x (by simp) e
/-- A run begins where the value turns: so there are no more than two for an entry, and one. -/
theorem runs_length {l m : List Pp} {b : Int} (h : RunsFrom b m) (e : ∀ r, b ≤ r → valP m r = valP l r) (hb : ∀ p ∈ m, b ≤ p.lo) : m.length ≤ 2 * l.length + 1 := by
  have hnd : (m.map Pp.lo).Nodup := by
    have key : ∀ {m : List Pp} {b : Int}, RunsFrom b m → (m.map Pp.lo).Nodup := by
      intro m
      induction m with
      | nil => intro b _; exact List.nodup_nil
      | cons x m ih =>
        intro b k
        rw [List.map_cons, List.nodup_cons]
        refine ⟨fun hm => ?_, ih k.2.2.2.1⟩
        obtain ⟨q, hq, eq⟩ := List.mem_map.1 hm
        have := RunsFrom.ge k.2.2.2.1 q hq
        have := k.2.1
        omega
    exact key h
  have hle := nodup_le (m := b :: (l.map Pp.lo ++ l.map (fun p => p.hi + 1))) hnd (fun x hx => ?_)
  · simp only [List.length_map, List.length_cons, List.length_append] at hle
    omega
  · obtain ⟨p, hp, rfl⟩ := List.mem_map.1 hx
    by_cases q : p.lo = b
    · rw [q]; simp
    · have hpb := hb p hp
      have hpo := h.ge p hp
      have h1 : valP l p.lo = p.v := by rw [← e p.lo hpb]; exact h.val hp ⟨Int.le_refl _, hpo.2.1⟩
      have h2 : valP l (p.lo - 1) ≠ p.v := by
        rw [← e (p.lo - 1) (by omega)]
        intro z
        rcases val_cases m (p.lo - 1) with y | ⟨t, ht, z1, z2⟩
        · rw [y] at z; exact hpo.2.2 z.symm
        · have ht1 := hasP_iff.1 z1
          have hto := h.ge t ht
          have htp : ¬ (t.lo ≤ p.lo ∧ p.lo ≤ t.hi) := fun y => by
            have key : ∀ {m : List Pp} {b : Int}, RunsFrom b m → ∀ {s t : Pp}, s ∈ m → t ∈ m → s.lo < t.lo → s.hi < t.lo := by
              intro m
              induction m with
              | nil => intro b _ s t hs; cases hs
              | cons x m ih =>
                intro b k s t hs ht hlt
                rcases List.mem_cons.1 hs with e1 | e1 <;> rcases List.mem_cons.1 ht with e2 | e2
                · rw [e1, e2] at hlt; omega
                · have := RunsFrom.ge k.2.2.2.1 t e2
                  rw [e1]; omega
                · have := RunsFrom.ge k.2.2.2.1 s e1
                  have := k.2.1
                  rw [e2] at hlt; omega
                · exact ih k.2.2.2.1 e1 e2 hlt
            have := key h ht hp (by omega)
            omega
          have hte : p.lo = t.hi + 1 := by omega
          have key : ∀ {m : List Pp} {b : Int}, RunsFrom b m → ∀ {s t : Pp}, s ∈ m → t ∈ m → s.lo = t.hi + 1 → s.v ≠ t.v := by
            intro m
            induction m with
            | nil => intro b _ s t hs; cases hs
            | cons x m ih =>
              intro b k s t hs ht hlt
              rcases List.mem_cons.1 hs with e1 | e1 <;> rcases List.mem_cons.1 ht with e2 | e2
              · rw [e1, e2] at hlt
                have := k.2.1
                omega
              · have := RunsFrom.ge k.2.2.2.1 t e2
                rw [e1] at hlt
                have := k.2.1
                omega
              · rw [e2] at hlt ⊢
                exact k.2.2.2.2 s e1 hlt
              · exact ih k.2.2.2.1 e1 e2 hlt
          rw [z2] at z
          exact key h hp ht hte z.symm
      rcases val_cases l p.lo with y | ⟨t, ht, z1, z2⟩
      · rw [h1] at y; exact absurd y hpo.2.2
      · by_cases ho : ∃ s ∈ l, hasP s p.lo ≠ hasP s (p.lo - 1)
        · obtain ⟨s, hs, hne⟩ := ho
          by_cases a1 : hasP s p.lo = true
          · have a2 : hasP s (p.lo - 1) = false := by
              cases w : hasP s (p.lo - 1) with
              | false => rfl
              | true => rw [a1, w] at hne; exact absurd rfl hne
            have b1 := hasP_iff.1 a1
            have b2 : ¬ (s.lo ≤ p.lo - 1 ∧ p.lo - 1 ≤ s.hi) := fun w => by rw [hasP_iff.2 w] at a2; cases a2
            have : p.lo = s.lo := by omega
            rw [this]
            exact List.mem_cons.2 (.inr (List.mem_append.2 (.inl (List.mem_map.2 ⟨s, hs, rfl⟩))))
          · have a2 : hasP s (p.lo - 1) = true := by
              cases w : hasP s (p.lo - 1) with
              | true => rfl
              | false =>
                have : hasP s p.lo = false := by simpa using a1
                rw [this, w] at hne; exact absurd rfl hne
            have b1 := hasP_iff.1 a2
            have b2 : ¬ (s.lo ≤ p.lo ∧ p.lo ≤ s.hi) := fun w => a1 (hasP_iff.2 w)
            have : p.lo = s.hi + 1 := by omega
            rw [this]
            exact List.mem_cons.2 (.inr (List.mem_append.2 (.inr (List.mem_map.2 ⟨s, hs, rfl⟩))))
        · exfalso
          have hall : ∀ s ∈ l, hasP s p.lo = hasP s (p.lo - 1) := fun s hs => Classical.byContradiction fun w => ho ⟨s, hs, w⟩
          have hv : ∀ (l : List Pp) (v : Int), (∀ s ∈ l, hasP s p.lo = hasP s (p.lo - 1)) → l.foldl (stepV p.lo) v = l.foldl (stepV (p.lo - 1)) v := by
            intro l
            induction l with
            | nil => intro v _; rfl
            | cons s l ih =>
              intro v hs
              have e1 : stepV p.lo v s = stepV (p.lo - 1) v s := by unfold stepV; rw [hs s (by simp)]
              rw [List.foldl_cons, List.foldl_cons, e1]
              exact ih _ (fun x hx => hs x (by simp [hx]))
          have : valP l p.lo = valP l (p.lo - 1) := hv l 0 hall
          rw [h1] at this
          exact h2 this.symm
end Go.Proofs.Ytmknifnhcgdkaaa.S3
