/-
  A region that draws its order, whose loads all stand ahead of the operations that turn what they read: a condition on the world is held up to these.
-/
import Derived.WalkKit
import Derived.Deep.RegionHeld3
namespace Go.Proofs.Ytmknifnhcgdkaaa.S3
set_option linter.unusedVariables false

section
variable {P : Program} {ops : Array Oper} {Q : Exit → Act → World → Prop} {md : Region.Mode} {S : World → Prop} {bad : List Nat}

/-- None of them has come up. -/
def stillB (listed : Array Bool) (dep : List Nat) : Bool := dep.all fun j => listed.getD j false == false

/-- Whatever order is picked from here on, and S holds behind every operation as long as none of 'bad' has come up. -/
def wpAnyB (P : Program) (md : Region.Mode) (ops : Array Oper) (Q : Exit → Act → World → Prop) (S : World → Prop) (bad : List Nat) : Nat → Array Bool → Act → World → Prop
  | 0, listed, a, w => Region.ready md ops listed = [] ∧ Q .normal a w
  | fuel + 1, listed, a, w =>
    (Region.ready md ops listed = [] → Q .normal a w) ∧
    ∀ i ∈ Region.ready md ops listed, wpOp P ops Q i (fun a' w' => (stillB (listed.setIfInBounds i true) bad = true → S w') ∧ wpAnyB P md ops Q S bad fuel (listed.setIfInBounds i true) a' w') a w

theorem wpAny_of_bad : ∀ (fuel : Nat) (listed : Array Bool) (a : Act) (w : World), wpAnyB P md ops Q S bad fuel listed a w → wpAny P md ops Q fuel listed a w
  | 0, _, _, _, h => h
  | fuel + 1, _, _, _, h => ⟨h.1, fun i hi => wpOp_mono (fun a' w' h' => wpAny_of_bad fuel _ a' w' h'.2) (h.2 i hi)⟩

/-- Those that wait for number i, through one another. -/
def waitsB (md : Region.Mode) (ops : Array Oper) (dep : List Nat) (i : Nat) : Bool :=
  dep.all fun j => j == i || (match ops[j]? with | some o => o.after.any (fun e => Region.binds md e && dep.contains e.on) | none => true)

theorem wait_not_ready {dep : List Nat} {i j : Nat} {listed : Array Bool} (hw : waitsB md ops dep i = true) (hs : stillB listed dep = true) (hj : j ∈ dep) (hne : j ≠ i) : ¬ j ∈ Region.ready md ops listed := by
  intro h
  obtain ⟨_, o, ho, hall⟩ := mem_ready.1 h
  have h1 := List.all_eq_true.1 hw j hj
  rw [ho] at h1
  have hb : (j == i) = false := by simpa using hne
  rw [hb, Bool.false_or] at h1
  obtain ⟨e, he, h2⟩ := Array.any_eq_true.1 h1
  have hmem : o.after[e] ∈ o.after := Array.getElem_mem he
  obtain ⟨h3, h4⟩ := Bool.and_eq_true_iff.1 h2
  have h5 := hall _ hmem h3
  have h6 : dep.contains o.after[e].on = true := h4
  have h7 := List.all_eq_true.1 hs o.after[e].on (by simpa using h6)
  have h8 : listed.getD o.after[e].on false = false := by simpa using h7
  rw [h5] at h8
  cases h8

theorem still_set {dep : List Nat} {j : Nat} {listed : Array Bool} (hj : ¬ j ∈ dep) : stillB (listed.setIfInBounds j true) dep = stillB listed dep := by
  unfold stillB
  rw [Bool.eq_iff_iff, List.all_eq_true, List.all_eq_true]
  constructor <;> intro h k hk <;> have hne : j ≠ k := fun e => hj (by rw [e]; exact hk)
  · have := h k hk
    rwa [getD_set_ne false hne] at this
  · rw [getD_set_ne false hne]
    exact h k hk
theorem still_sub {dep bad : List Nat} {listed : Array Bool} (hs : stillB listed dep = true) (hb : ∀ j, j ∈ bad → j ∈ dep) : stillB listed bad = true :=
  List.all_eq_true.2 (fun k hk => List.all_eq_true.1 hs k (hb k hk))

theorem wpAnyB_first {i : Nat} {oi : Oper} {v : Value} {dep : List Nat} (hi : ops[i]? = some oi) (hsel : ∀ (j : Nat) (o : Oper) cs b, ops[j]? = some o → o.op ≠ .select cs b)
    (hQ : ∀ c a w, Q (.panic c) (a.put oi.dst v) w → Q (.panic c) a w) (hdep : waitsB md ops dep i = true) (hbad : ∀ j, j ∈ bad → j ∈ dep) (hni : ¬ i ∈ bad) :
    ∀ (fuel : Nat) (listed : Array Bool) (a : Act) (w : World),
      (∀ j oj, ops[j]? = some oj → j ≠ i → listed.getD j true = false → (∀ e ∈ oj.after, Region.binds md e = true → e.on ≠ i) → oi.apart ops oj = true) →
      i ∈ Region.ready md ops listed → stillB listed dep = true → YieldsIf P ops S oi v a → S w →
      wpAnyB P md ops Q S bad fuel (listed.setIfInBounds i true) (a.put oi.dst v) w → wpAnyB P md ops Q S bad (fuel + 1) listed a w := by
  intro fuel
  induction fuel with
  | zero =>
    intro listed a w _ hr hst hy hS H
    refine ⟨fun h => (by rw [h] at hr; cases hr), fun j hj => ?_⟩
    by_cases hji : j = i
    · subst hji; exact hy.wpOp hi hS ⟨fun _ => hS, H⟩
    · have := ready_mono hj hji
      rw [H.1] at this
      cases this
  | succ fuel ih =>
    intro listed a w hfree hr hst hy hS H
    refine ⟨fun h => (by rw [h] at hr; cases hr), fun j hj => ?_⟩
    by_cases hji : j = i
    · subst hji; exact hy.wpOp hi hS ⟨fun _ => hS, H⟩
    · have hjd : ¬ j ∈ dep := fun hd => wait_not_ready hdep hst hd hji hj
      have hjb : ¬ j ∈ bad := fun h => hjd (hbad j h)
      have h1 := H.2 j (ready_mono hj hji)
      obtain ⟨hjun, oj, hoj, hall⟩ := mem_ready.1 hj
      have hnot : ∀ e ∈ oj.after, Region.binds md e = true → e.on ≠ i := fun e he hb heq => by
        have h1 := hall e he hb
        have h0 := (mem_ready.1 hr).1
        rw [heq] at h1
        rcases Nat.lt_or_ge i listed.size with h' | h'
        · simp [h'] at h0 h1; rw [h0] at h1; cases h1
        · simp [Array.getElem?_eq_none h'] at h1
      have h2 := wpOp_putIf hoj (hfree j oj hoj hji hjun hnot) (fun cs b => hsel i oi cs b hi) (fun cs b => hsel j oj cs b hoj) hQ hy h1
      have hfree' : ∀ k ok, ops[k]? = some ok → k ≠ i → (listed.setIfInBounds j true).getD k true = false →
          (∀ e ∈ ok.after, Region.binds md e = true → e.on ≠ i) → oi.apart ops ok = true := fun k ok hk hki hun hno => by
        refine hfree k ok hk hki ?_ hno
        by_cases hjk : j = k
        · subst hjk; exact hjun
        · rw [getD_set_ne true hjk] at hun; exact hun
      have hall : stillB ((listed.setIfInBounds i true).setIfInBounds j true) bad = true := by
        rw [still_set hjb, still_set hni]; exact still_sub hst hbad
      refine wpOp_mono (fun a' w' h3 => ⟨fun _ => h3.2.1 hall, ih (listed.setIfInBounds j true) a' w' hfree' (ready_mono hr (Ne.symm hji)) (by rw [still_set hjd]; exact hst) h3.1 (h3.2.1 hall) ?_⟩) h2
      rw [Array.setIfInBounds_comm _ _ hji]
      exact h3.2.2

/-- Take number i first: nobody of 'bad' may come up ahead of it (dep: those that wait for it, through one another, all of 'bad' among them). -/
theorem wpAnyB_take {i : Nat} {oi : Oper} {v : Value} (dep : List Nat) {fuel : Nat} {listed : Array Bool} {a : Act} {w : World} (hi : ops[i]? = some oi)
    (hs : (Region.noSelect ops && Region.free md ops listed i && (Region.ready md ops listed).contains i && waitsB md ops dep i && stillB listed dep && bad.all dep.contains && !bad.contains i) = true)
    (hQ : ∀ c a w, Q (.panic c) (a.put oi.dst v) w → Q (.panic c) a w) (hy : YieldsIf P ops S oi v a) (hS : S w)
    (h : wpAnyB P md ops Q S bad fuel (listed.setIfInBounds i true) (a.put oi.dst v) w) : wpAnyB P md ops Q S bad (fuel + 1) listed a w := by
  simp only [Bool.and_eq_true] at hs
  obtain ⟨⟨⟨⟨⟨⟨h1, h2⟩, h3⟩, h4⟩, h5⟩, h6⟩, h7⟩ := hs
  refine wpAnyB_first hi (Region.noSelect_spec h1) hQ h4 (fun j hj => ?_) (by simpa using h7) fuel listed a w (Region.free_spec hi h2) (by simpa using h3) h5 hy hS h
  have := List.all_eq_true.1 h6 j hj
  simpa using this

theorem wpAnyB_firstPure {i : Nat} {oi : Oper} {v : Value} (hi : ops[i]? = some oi) (hsel : ∀ (j : Nat) (o : Oper) cs b, ops[j]? = some o → o.op ≠ .select cs b)
    (hQ : ∀ c a w, Q (.panic c) (a.put oi.dst v) w → Q (.panic c) a w) (hni : ¬ i ∈ bad) :
    ∀ (fuel : Nat) (listed : Array Bool) (a : Act) (w : World),
      (∀ j oj, ops[j]? = some oj → j ≠ i → listed.getD j true = false → (∀ e ∈ oj.after, Region.binds md e = true → e.on ≠ i) → oi.apart ops oj = true) →
      i ∈ Region.ready md ops listed → YieldsIf P ops (fun _ => True) oi v a → (stillB listed bad = true → S w) →
      wpAnyB P md ops Q S bad fuel (listed.setIfInBounds i true) (a.put oi.dst v) w → wpAnyB P md ops Q S bad (fuel + 1) listed a w := by
  intro fuel
  induction fuel with
  | zero =>
    intro listed a w _ hr hy hS H
    refine ⟨fun h => (by rw [h] at hr; cases hr), fun j hj => ?_⟩
    by_cases hji : j = i
    · subst hji; exact hy.wpOp hi trivial ⟨fun h => hS (by rw [still_set hni] at h; exact h), H⟩
    · have := ready_mono hj hji
      rw [H.1] at this
      cases this
  | succ fuel ih =>
    intro listed a w hfree hr hy hS H
    refine ⟨fun h => (by rw [h] at hr; cases hr), fun j hj => ?_⟩
    by_cases hji : j = i
    · subst hji; exact hy.wpOp hi trivial ⟨fun h => hS (by rw [still_set hni] at h; exact h), H⟩
    · have h1 := H.2 j (ready_mono hj hji)
      obtain ⟨hjun, oj, hoj, hall⟩ := mem_ready.1 hj
      have hnot : ∀ e ∈ oj.after, Region.binds md e = true → e.on ≠ i := fun e he hb heq => by
        have h1 := hall e he hb
        have h0 := (mem_ready.1 hr).1
        rw [heq] at h1
        rcases Nat.lt_or_ge i listed.size with h' | h'
        · simp [h'] at h0 h1; rw [h0] at h1; cases h1
        · simp [Array.getElem?_eq_none h'] at h1
      have h2 := wpOp_putIf hoj (hfree j oj hoj hji hjun hnot) (fun cs b => hsel i oi cs b hi) (fun cs b => hsel j oj cs b hoj) hQ hy h1
      have hfree' : ∀ k ok, ops[k]? = some ok → k ≠ i → (listed.setIfInBounds j true).getD k true = false →
          (∀ e ∈ ok.after, Region.binds md e = true → e.on ≠ i) → oi.apart ops ok = true := fun k ok hk hki hun hno => by
        refine hfree k ok hk hki ?_ hno
        by_cases hjk : j = k
        · subst hjk; exact hjun
        · rw [getD_set_ne true hjk] at hun; exact hun
      have hcm : stillB ((listed.setIfInBounds i true).setIfInBounds j true) bad = stillB (listed.setIfInBounds j true) bad := by
        rw [← Array.setIfInBounds_comm _ _ hji, still_set hni]
      refine wpOp_mono (fun a' w' h3 => ⟨fun q => h3.2.1 (by rw [hcm]; exact q), ih (listed.setIfInBounds j true) a' w' hfree' (ready_mono hr (Ne.symm hji)) h3.1 (fun q => h3.2.1 (by rw [hcm]; exact q)) ?_⟩) h2
      rw [Array.setIfInBounds_comm _ _ hji]
      exact h3.2.2

/-- An operation that yields its value in whatever world is taken whenever it may come up. -/
theorem wpAnyB_pure {i : Nat} {oi : Oper} {v : Value} {fuel : Nat} {listed : Array Bool} {a : Act} {w : World} (hi : ops[i]? = some oi)
    (hs : (Region.noSelect ops && Region.free md ops listed i && (Region.ready md ops listed).contains i && !bad.contains i) = true)
    (hQ : ∀ c a w, Q (.panic c) (a.put oi.dst v) w → Q (.panic c) a w) (hy : YieldsIf P ops (fun _ => True) oi v a) (hS : S w)
    (h : wpAnyB P md ops Q S bad fuel (listed.setIfInBounds i true) (a.put oi.dst v) w) : wpAnyB P md ops Q S bad (fuel + 1) listed a w := by
  simp only [Bool.and_eq_true] at hs
  obtain ⟨⟨⟨h1, h2⟩, h3⟩, h7⟩ := hs
  exact wpAnyB_firstPure hi (Region.noSelect_spec h1) hQ (by simpa using h7) fuel listed a w (Region.free_spec hi h2) (by simpa using h3) hy (fun _ => hS) h

/-- .. also behind one of 'bad'. -/
theorem wpAnyB_late {i : Nat} {oi : Oper} {v : Value} {fuel : Nat} {listed : Array Bool} {a : Act} {w : World} (hi : ops[i]? = some oi)
    (hs : (Region.noSelect ops && Region.free md ops listed i && (Region.ready md ops listed).contains i && !bad.contains i && !stillB listed bad) = true)
    (hQ : ∀ c a w, Q (.panic c) (a.put oi.dst v) w → Q (.panic c) a w) (hy : YieldsIf P ops (fun _ => True) oi v a)
    (h : wpAnyB P md ops Q S bad fuel (listed.setIfInBounds i true) (a.put oi.dst v) w) : wpAnyB P md ops Q S bad (fuel + 1) listed a w := by
  simp only [Bool.and_eq_true] at hs
  obtain ⟨⟨⟨⟨h1, h2⟩, h3⟩, h7⟩, h8⟩ := hs
  exact wpAnyB_firstPure hi (Region.noSelect_spec h1) hQ (by simpa using h7) fuel listed a w (Region.free_spec hi h2) (by simpa using h3) hy (fun q => by simp [q] at h8) h

/-- Number i alone may come up, and S is asked behind it. -/
theorem wpAnyB_one {i : Nat} {o : Oper} {fuel : Nat} {listed : Array Bool} {a : Act} {w : World} (ho : ops[i]? = some o) (hr : (Region.ready md ops listed == [i]) = true)
    (h : ∀ K' : Act → World → Prop, Shut (∀ a w, S w → wpAnyB P md ops Q S bad fuel (listed.setIfInBounds i true) a w → K' a w) → if Region.wanted o (yielded ops a.tmps) = true then Oper.wp P o a w K' Q else K' (a.put o.dst undef) w) : wpAnyB P md ops Q S bad (fuel + 1) listed a w := by
  have hr' : Region.ready md ops listed = [i] := by simpa using hr
  refine ⟨fun h0 => (by rw [hr'] at h0; cases h0), fun j hj => ?_⟩
  rw [hr'] at hj
  obtain rfl := List.mem_singleton.1 hj
  exact wpOp_step ho (fun K' hK => h K' (fun a w hS hW => hK a w ⟨fun _ => hS, hW⟩))

/-- Number i, one of 'bad' (or behind one of them), alone may come up: S is not asked any more. -/
theorem wpAnyB_last {i : Nat} {o : Oper} {fuel : Nat} {listed : Array Bool} {a : Act} {w : World} (ho : ops[i]? = some o) (hr : (Region.ready md ops listed == [i] && !stillB (listed.setIfInBounds i true) bad) = true)
    (h : ∀ K' : Act → World → Prop, Shut (∀ a w, wpAnyB P md ops Q S bad fuel (listed.setIfInBounds i true) a w → K' a w) → if Region.wanted o (yielded ops a.tmps) = true then Oper.wp P o a w K' Q else K' (a.put o.dst undef) w) : wpAnyB P md ops Q S bad (fuel + 1) listed a w := by
  obtain ⟨hr1, hr2⟩ := Bool.and_eq_true_iff.1 hr
  have hr' : Region.ready md ops listed = [i] := by simpa using hr1
  refine ⟨fun h0 => (by rw [hr'] at h0; cases h0), fun j hj => ?_⟩
  rw [hr'] at hj
  obtain rfl := List.mem_singleton.1 hj
  exact wpOp_step ho (fun K' hK => h K' (fun a w hW => hK a w ⟨fun q => (by simp [q] at hr2), hW⟩))

/-- All have come up. -/
theorem wpAnyB_done {listed : Array Bool} {a : Act} {w : World} (hr : (Region.ready md ops listed == []) = true) (h : Q .normal a w) :
    ∀ fuel, wpAnyB P md ops Q S bad fuel listed a w
  | 0 => ⟨by simpa using hr, h⟩
  | _ + 1 => ⟨fun _ => h, by have hr' : Region.ready md ops listed = [] := by simpa using hr
                             rw [hr']; simp⟩

/-- The beginning. -/
theorem wp_region_bad (S : World → Prop) (bad : List Nat) {id : Nat} {a : Act} {w : World} (hm : P.follows .mixedOrders = true) (hS : S w.drew)
    (h : S w.drew → wpAnyB P .any ops (NoPanic Q) S bad ops.size (Array.replicate ops.size false) a w.drew) : (Code.region id ops true).wp P Q a w :=
  wp_region_noPanic (wp_region_any hm (wpAny_of_bad _ _ _ _ (h hS)))
end
end Go.Proofs.Ytmknifnhcgdkaaa.S3
