/-
  What the fewest states of an expression's states tell of a word. (Out of stage 12's and 13's texts, but for the last.)
-/
import Derived.Test.YtklhjjgnhigbiaaGreatDoorSbTell
import Derived.Test.YtklhjjgnhigbiaaGreatDoorLsRLeast
namespace Go.Proofs.YtklhjjgnhigbiaaGreatDoor
open Go.RowKit Go.Shelf
set_option linter.unusedVariables false

/-- What the states of an expression tell of a word. -/
theorem words_tell {a : Nd} (he : errF a = 0) (free : Bool) (ms : List Nat) (cs : List Int) (h1 : 1 ≤ ms.length) (h2 : ms.length ≤ 200) (hc : cs.all (inB ms.length) = true) :
    errD (autF a) free ms 100 = 8 ∨ (errD (autF a) free ms 100 = 0 ∧ ∃ q : Nat, runV (intsL (dfaD (autF a) free ms 100).1) (dfaD (autF a) free ms 100).2 0 cs = (q : Int) ∧ runE (intsL (dfaD (autF a) free ms 100).1) (dfaD (autF a) free ms 100).2 0 cs = 0 ∧ ∃ hq : q < (dfaD (autF a) free ms 100).2.length, (dfaD (autF a) free ms 100).2[q] = (if free then suffB (wordL ms cs) a else wholeB (wordL ms cs) a)) := by
  have hbad : ¬ (ms.length < 1 ∨ 200 < ms.length ∨ (100 : Int) < 1 ∨ 5000 < (100 : Int)) := by omega
  cases hq : ansB (autF a) free ms 100 with
  | none => exact .inl (errD_none hbad hq).1
  | some b =>
    right
    obtain ⟨e1, e2⟩ := errD_some (lim := 100) hbad hq
    refine ⟨e1, ?_⟩
    rw [e2]
    obtain ⟨q, h3, h4, h5, h6⟩ := ans_run hq (by omega) (by omega) h1 h2 cs hc
    refine ⟨q, h3, h4, h5, ?_⟩
    rw [h6]
    cases free with
    | false => exact whole_run he _
    | true => exact suff_run he _
theorem wordL_len (ms : List Nat) (cs : List Int) : (wordL ms cs).length = cs.length := by simp [wordL]
theorem wordL_64 {w : World} {B : Nat} {mv : Value} {ms : List Nat} (hm : WrdAt B w mv ms) {cs : List Int} (hc : cs.all (inB ms.length) = true) : ∀ x ∈ wordL ms cs, x < 18446744073709551616 := fun x hx => by
  obtain ⟨c, hcs, rfl⟩ := List.mem_map.1 hx
  have := inB_iff.1 (List.all_eq_true.1 hc c hcs)
  have hlt : c.toNat < ms.length := by omega
  obtain ⟨a, cap, _, _, hi⟩ := hm
  rw [List.getD_eq_getElem?_getD, List.getElem?_eq_getElem hlt]
  exact (hi _ hlt).1

section
variable {N N' : List (List Int)} {F F' : List Bool}
theorem runE_bad (cs : List Int) (h : ¬ (rightD N F = true ∧ cs.all (inB (N.getD 0 []).length) = true)) : runE N F 0 cs = 1 := by
  unfold runE
  rw [if_neg]
  intro h2
  unfold runOk at h2
  simp only [Bool.and_eq_true] at h2
  exact h ⟨h2.1.1, h2.2⟩
/-- A run, and a run of the fewest. -/
theorem run_le (h : rightD N F = true) (cs : List Int) : (runE N F 0 cs = 1 ∧ runE (leN N F) (leF N F) 0 cs = 1) ∨ (runE N F 0 cs = 0 ∧ runE (leN N F) (leF N F) 0 cs = 0 ∧ ∃ q1 q2 : Nat, runV N F 0 cs = (q1 : Int) ∧ runV (leN N F) (leF N F) 0 cs = (q2 : Int) ∧ ∃ (h1 : q1 < F.length) (h2 : q2 < (leF N F).length), F[q1] = (leF N F)[q2]) := by
  by_cases hc : cs.all (inB (N.getD 0 []).length) = true
  · right
    have hc' : cs.all (inB ((leN N F).getD 0 []).length) = true := by rw [le_cls h]; exact hc
    obtain ⟨q1, a1, a2, a3, a4⟩ := runV_mch h hc
    obtain ⟨q2, b1, b2, b3, b4⟩ := runV_mch (le_right h) hc'
    exact ⟨a2, b2, q1, q2, a1, b1, a3, b3, by rw [a4, b4]; exact le_lng h _ (wd_natL hc)⟩
  · left
    exact ⟨runE_bad cs (fun q => hc q.2), runE_bad cs (fun q => hc (by rw [← le_cls h]; exact q.2))⟩
theorem les_of (h : rightD N F = true) : lesE N F = 0 ∧ lesN N F = leN N F ∧ lesF N F = leF N F := by
  unfold lesE lesN lesF
  rw [if_pos h, if_pos h, if_pos h]
  exact ⟨rfl, rfl, rfl⟩
/-- A final mark in memory. -/
theorem dfa_fin {w : World} {na fa : Option Addr} {n m nc fc : Nat} (h : DfaAt w (.agg #[.slice na n nc, .slice fa m fc]) N F) {q : Nat} (hq : q < F.length) : ∃ g off, fa = some ⟨g, off, none⟩ ∧ g < w.heap.size ∧ w.cell? ⟨g, off + q, none⟩ = some (.bool F[q]) := by
  obtain ⟨na', nc', fa', fc', e, _, _, _, hfx⟩ := dfa_parts h
  obtain rfl : fa = fa' := by
    injection e with e
    have := congrArg (fun z : Array Value => z.getD 1 (.bool false)) e
    simp at this
    exact this.1
  exact hfx q hq
end
theorem runE_right {N : List (List Int)} {F : List Bool} {cs : List Int} (h : runE N F 0 cs = 0) : rightD N F = true := by
  cases hr : rightD N F with
  | true => rfl
  | false =>
    unfold runE runOk at h
    rw [hr] at h
    simp at h
/-- The fewest states, of right expressions. -/
theorem top_tell {a : Nd} (he : errF a = 0) (ms : List Nat) (cs : List Int) (h1 : 1 ≤ ms.length) (h2 : ms.length ≤ 200) (hc : cs.all (inB ms.length) = true) :
    errD (autF a) true ms 100 = 8 ∨ (errD (autF a) true ms 100 = 0 ∧ ∃ N F, N = intsL (dfaD (autF a) true ms 100).1 ∧ F = (dfaD (autF a) true ms 100).2 ∧ lesE N F = 0 ∧ rightD (lesN N F) (lesF N F) = true ∧ runE (lesN N F) (lesF N F) 0 cs = 0 ∧ ∃ q : Nat, runV (lesN N F) (lesF N F) 0 cs = (q : Int) ∧ ∃ hq : q < (lesF N F).length, (lesF N F)[q] = suffB (wordL ms cs) a) := by
  rcases words_tell he true ms cs h1 h2 hc with e | ⟨e, q, q1, q2, q3, q4⟩
  · exact .inl e
  · obtain ⟨N, hN⟩ : ∃ N, N = intsL (dfaD (autF a) true ms 100).1 := ⟨_, rfl⟩
    obtain ⟨F, hF⟩ : ∃ F, F = (dfaD (autF a) true ms 100).2 := ⟨_, rfl⟩
    refine .inr ⟨e, N, F, hN, hF, ?_⟩
    rw [← hN, ← hF] at q1 q2
    have hr := runE_right q2
    obtain ⟨l1, l2, l3⟩ := les_of hr
    rw [l2, l3]
    rcases run_le hr cs with ⟨k, _⟩ | ⟨_, k, p1, p2, k1, k2, k3, k4, k5⟩
    · rw [k] at q2; exact absurd q2 (by decide)
    · refine ⟨l1, le_right hr, k, p2, k2, k4, ?_⟩
      rw [← k5]
      have hp : p1 = q := by rw [k1] at q1; exact Int.ofNat.inj q1
      subst hp
      subst hF
      exact q4
end Go.Proofs.YtklhjjgnhigbiaaGreatDoor
