/-
  Plain mathematics of All: the runs of one value, number by number.
-/
import Derived.Test.YtpnkljfgdbkffaaVals
namespace Go.Proofs.Ytpnkljfgdbkffaa
open Go.RowKit
set_option linter.unusedVariables false

def stepR (acc : List Pp) (x : Int × Int) : List Pp :=
  if x.2 = 0 then acc else match acc.getLast? with
    | some p => if p.hi = wrap64 (x.1 - 1) ∧ p.v = x.2 then acc.dropLast ++ [⟨p.lo, x.1, p.v⟩] else acc ++ [⟨x.1, x.1, x.2⟩]
    | none => acc ++ [⟨x.1, x.1, x.2⟩]
def runsL (xs : List (Int × Int)) : List Pp := xs.foldl stepR []
theorem runsL_snoc (xs : List (Int × Int)) (x : Int × Int) : runsL (xs ++ [x]) = stepR (runsL xs) x := by unfold runsL; rw [List.foldl_append]; rfl
theorem stepR_zero (acc : List Pp) (x : Int × Int) (h : x.2 = 0) : stepR acc x = acc := by unfold stepR; rw [if_pos h]
theorem stepR_grow {acc ini : List Pp} {p : Pp} {x : Int × Int} (e : acc = ini ++ [p]) (h : ¬ x.2 = 0) (h1 : p.hi = wrap64 (x.1 - 1)) (h2 : p.v = x.2) : stepR acc x = ini ++ [⟨p.lo, x.1, p.v⟩] := by
  unfold stepR
  rw [if_neg h, e, List.getLast?_append]
  simp [h1, h2]
theorem stepR_new {acc ini : List Pp} {p : Pp} {x : Int × Int} (e : acc = ini ++ [p]) (h : ¬ x.2 = 0) (h1 : ¬ (p.hi = wrap64 (x.1 - 1) ∧ p.v = x.2)) : stepR acc x = acc ++ [⟨x.1, x.1, x.2⟩] := by
  unfold stepR
  rw [if_neg h]
  have : acc.getLast? = some p := by rw [e]; simp
  rw [this]
  simp only
  rw [if_neg h1]
theorem stepR_first {acc : List Pp} {x : Int × Int} (e : acc = []) (h : ¬ x.2 = 0) : stepR acc x = [⟨x.1, x.1, x.2⟩] := by
  subst e; unfold stepR; rw [if_neg h]; rfl
theorem stepR_len (acc : List Pp) (x : Int × Int) : (stepR acc x).length ≤ acc.length + 1 := by
  unfold stepR
  split
  · omega
  · split
    · split
      · simp
      · simp
    · simp
theorem runsL_len (xs : List (Int × Int)) : (runsL xs).length ≤ xs.length := by
  have key : ∀ (xs : List (Int × Int)) (acc : List Pp), (xs.foldl stepR acc).length ≤ acc.length + xs.length := by
    intro xs
    induction xs with
    | nil => intro acc; simp
    | cons x xs ih =>
      intro acc
      have h1 := ih (stepR acc x)
      have h2 := stepR_len acc x
      rw [List.foldl_cons, List.length_cons]
      omega
  have := key xs []
  unfold runsL
  simpa using this

/-- A run whose end moves. -/
theorem RunsFrom.grow {ini : List Pp} {p : Pp} {b h : Int} (hr : RunsFrom b (ini ++ [p])) (hh : p.hi ≤ h) : RunsFrom b (ini ++ [⟨p.lo, h, p.v⟩]) := by
  induction ini generalizing b with
  | nil =>
    obtain ⟨h1, h2, h3, _, _⟩ := hr
    exact ⟨h1, by show p.lo ≤ h; omega, h3, trivial, fun q hq => by cases hq⟩
  | cons x ini ih =>
    obtain ⟨h1, h2, h3, h4, h5⟩ := hr
    refine ⟨h1, h2, h3, ih h4, fun q hq e => ?_⟩
    rcases List.mem_append.1 hq with z | z
    · exact h5 q (List.mem_append.2 (.inl z)) e
    · rw [List.mem_singleton.1 z] at e ⊢
      exact h5 p (by simp) e
theorem RunsFrom.last {ini : List Pp} {p : Pp} {b : Int} (hr : RunsFrom b (ini ++ [p])) : ∀ q ∈ ini, q.hi < p.lo := by
  induction ini generalizing b with
  | nil => intro q hq; cases hq
  | cons x ini ih =>
    obtain ⟨h1, h2, h3, h4, h5⟩ := hr
    intro q hq
    rcases List.mem_cons.1 hq with e | e
    · have := (h4.ge p (by simp)).1
      rw [e]; omega
    · exact ih h4 q e
/-- What the runs up to k are. -/
structure RunsOk (f : Int → Int) (k : Nat) (R : List Pp) : Prop where
  runs : RunsFrom 0 R
  lt : ∀ p ∈ R, p.hi < k
  val : ∀ r : Int, valP R r = if 0 ≤ r ∧ r < k then f r else 0
theorem val_grow {ini : List Pp} {p : Pp} {h r : Int} (hh : p.hi ≤ h) : valP (ini ++ [⟨p.lo, h, p.v⟩]) r = if p.hi < r ∧ r ≤ h ∧ p.lo ≤ r then p.v else valP (ini ++ [p]) r := by
  rw [val_snoc, val_snoc]
  by_cases q : p.hi < r ∧ r ≤ h ∧ p.lo ≤ r
  · rw [if_pos q, if_pos (hasP_iff.2 ⟨by show p.lo ≤ r; omega, by show r ≤ h; omega⟩)]
  · rw [if_neg q]
    by_cases z : hasP p r = true
    · have := hasP_iff.1 z
      rw [if_pos z, if_pos (hasP_iff.2 ⟨by show p.lo ≤ r; omega, by show r ≤ h; omega⟩)]
    · rw [if_neg z, if_neg]
      intro y
      have h1 : p.lo ≤ r ∧ r ≤ h := hasP_iff.1 y
      exact z (hasP_iff.2 ⟨h1.1, by omega⟩)
theorem wrap_small (k : Int) (h : 0 ≤ k) (h2 : k ≤ 1114112) : wrap64 (k - 1) = k - 1 := by rw [← IntWalk.i64_left]; exact IntWalk.i64_in _ (by omega)
theorem runs_ok (f : Int → Int) : ∀ k : Nat, k ≤ 1114112 → RunsOk f k (runsL ((List.range k).map fun (r : Nat) => ((r : Int), f (r : Int))))
  | 0, _ => ⟨trivial, fun p hp => (by cases hp), fun r => (by rw [if_neg (by omega)]; rfl)⟩
  | k + 1, hk => by
    have ih := runs_ok f k (by omega)
    have hws := wrap_small (k : Int) (by omega) (by omega)
    rw [List.range_succ, List.map_append, List.map_cons, List.map_nil, runsL_snoc]
    obtain ⟨R, hR⟩ : ∃ R, R = runsL ((List.range k).map fun (r : Nat) => ((r : Int), f (r : Int))) := ⟨_, rfl⟩
    rw [← hR] at ih ⊢
    by_cases h0 : f (k : Int) = 0
    · rw [stepR_zero _ _ h0]
      refine ⟨ih.runs, fun p hp => by have := ih.lt p hp; omega, fun r => ?_⟩
      rw [ih.val r]
      by_cases e : r = (k : Int)
      · rw [if_neg (by omega), e, if_pos (by omega), h0]
      · by_cases q : 0 ≤ r ∧ r < (k : Int)
        · rw [if_pos q, if_pos (by omega)]
        · rw [if_neg q, if_neg (by omega)]
    · have newcase : RunsOk f (k + 1) (R ++ [⟨(k : Int), (k : Int), f (k : Int)⟩]) ∨ ∃ ini p, R = ini ++ [p] ∧ p.hi = (k : Int) - 1 ∧ p.v = f (k : Int) := by
        by_cases q : ∃ ini p, R = ini ++ [p] ∧ p.hi = (k : Int) - 1 ∧ p.v = f (k : Int)
        · exact .inr q
        · left
          refine ⟨ih.runs.snoc (by show (0 : Int) ≤ (k : Int); omega) (Int.le_refl _) h0 (fun q hq => ih.lt q hq) (fun p hp e => ?_), fun p hp => ?_, fun r => ?_⟩
          · have e' : (k : Int) = p.hi + 1 := e
            intro hv
            have hv' : f (k : Int) = p.v := hv
            apply q
            cases hl : R.getLast? with
            | none => rw [List.getLast?_eq_none_iff.1 hl] at hp; cases hp
            | some y =>
              obtain ⟨ini, ei⟩ := List.getLast?_eq_some_iff.1 hl
              rw [ei] at hp
              rcases List.mem_append.1 hp with z | z
              · have h1 := RunsFrom.last (by rw [← ei]; exact ih.runs) p z
                have h2 := ih.lt y (by rw [ei]; simp)
                have h3 := (ih.runs.ge y (by rw [ei]; simp)).2.1
                omega
              · rw [List.mem_singleton.1 z] at e' hv'
                exact ⟨ini, y, ei, by omega, hv'.symm⟩
          · rcases List.mem_append.1 hp with z | z
            · have := ih.lt p z; omega
            · rw [List.mem_singleton.1 z]; show (k : Int) < ((k + 1 : Nat) : Int); omega
          · rw [val_snoc]
            by_cases e : r = (k : Int)
            · rw [if_pos (hasP_iff.2 ⟨by show (k : Int) ≤ r; omega, by show r ≤ (k : Int); omega⟩), e, if_pos (by omega)]
            · rw [if_neg (fun z => by have h1 : (k : Int) ≤ r ∧ r ≤ (k : Int) := hasP_iff.1 z; omega), ih.val r]
              by_cases q : 0 ≤ r ∧ r < (k : Int)
              · rw [if_pos q, if_pos (by omega)]
              · rw [if_neg q, if_neg (by omega)]
      by_cases q : ∃ ini p, R = ini ++ [p] ∧ p.hi = (k : Int) - 1 ∧ p.v = f (k : Int)
      · obtain ⟨ini, p, ei, h1, h2⟩ := q
        rw [stepR_grow ei h0 (by show p.hi = wrap64 ((k : Int) - 1); rw [hws]; exact h1) h2]
        have hpl := (ih.runs.ge p (by rw [ei]; simp)).2.1
        refine ⟨RunsFrom.grow (by rw [← ei]; exact ih.runs) (by show p.hi ≤ (k : Int); omega), fun x hx => ?_, fun r => ?_⟩
        · rcases List.mem_append.1 hx with z | z
          · have := ih.lt x (by rw [ei]; exact List.mem_append.2 (.inl z)); omega
          · rw [List.mem_singleton.1 z]; show (k : Int) < ((k + 1 : Nat) : Int); omega
        · show valP (ini ++ [⟨p.lo, (k : Int), p.v⟩]) r = _
          rw [val_grow (by omega), ← ei, ih.val r]
          by_cases e : r = (k : Int)
          · rw [if_pos (by omega), e, if_pos (by omega), h2]
          · rw [if_neg (by omega)]
            by_cases q : 0 ≤ r ∧ r < (k : Int)
            · rw [if_pos q, if_pos (by omega)]
            · rw [if_neg q, if_neg (by omega)]
      · rcases newcase with h | h
        · have e : stepR R ((k : Int), f (k : Int)) = R ++ [⟨(k : Int), (k : Int), f (k : Int)⟩] := by
            cases hl : R.getLast? with
            | none =>
              have := List.getLast?_eq_none_iff.1 hl
              rw [stepR_first this h0, this]; rfl
            | some y =>
              obtain ⟨ini, ei⟩ := List.getLast?_eq_some_iff.1 hl
              exact stepR_new ei h0 (fun z => q ⟨ini, y, ei, by have := z.1; simp only at this; rw [hws] at this; exact this, z.2⟩)
          rw [e]; exact h
        · exact absurd h q
end Go.Proofs.Ytpnkljfgdbkffaa
