/-
  The statements' own helpers: awake, set.
-/
import Derived.Test.YtmgbeglajpnicaaRefMore
import Derived.Test.YtmgbeglajpnicaaMake
namespace Go.Proofs.Ytmgbeglajpnicaa
open Go.RowKit
set_option linter.unusedVariables false

theorem RngSrc.rng {w : World} {v : Value} {l : List Rg} (h : RngSrc w v l) : RngIn w v l := h.1

theorem pickGo_length (f : Int → Bool) : ∀ (es : List Int) (out : List Rg), (pickGo f es out).length ≤ out.length + es.length
  | [], out => by simp [pickGo]
  | [e], out => by
    unfold pickGo
    have := withL_length out e 1114111
    split
    · simp; omega
    · simp
  | e :: e' :: l, out => by
    unfold pickGo
    have h1 := pickGo_length f (e' :: l) (if f e = true then withL out e (e' - 1) else out)
    have h2 := withL_length out e (e' - 1)
    split at h1
    · rename_i q
      rw [if_pos q]
      simp only [List.length_cons] at h1 ⊢; omega
    · rename_i q
      rw [if_neg q]
      simp only [List.length_cons] at h1 ⊢; omega

theorem set_small {l s : List Rg} (hf : Fits l) (hu : Upto (hasR l) s 1114112) : s.length ≤ 2 * l.length + 1 := by
  have h1 := pick_spec l [] hf (fun r hr => by cases hr) (fun x y => x || y)
  have h2 : Upto (fun x => hasR l x || hasR [] x) s 1114112 := hu.congr (fun x _ _ => by simp [show hasR [] x = false from rfl])
  rw [Upto.unique h2 h1]
  have h3 := pickGo_length (fun x => hasR l x || hasR [] x) (edgesL (l ++ [])) []
  have h4 := edges_length (l ++ []) [0]
  have h5 : edgesL (l ++ []) = (l ++ []).foldl stepE [0] := rfl
  rw [h5] at h3 ⊢
  simp only [List.append_nil, List.length_nil, List.length_cons] at h3 h4 ⊢
  omega

theorem rng_lit2 (w : World) (a b c d : Int) : RngIn (w.alloc (.cells #[.int .i64 a, .int .i64 b, .int .i64 c, .int .i64 d] 39)) (.slice (some ⟨w.heap.size, 0, none⟩) 2 2) [⟨a, b⟩, ⟨c, d⟩] := by
  have hb := heap_new' w (.cells #[.int .i64 a, .int .i64 b, .int .i64 c, .int .i64 d] 39)
  refine ⟨_, 2, rfl, Nat.le_refl _, fun i hi => ⟨w.heap.size, 0, rfl, by simp, ?_⟩⟩
  have : i = 0 ∨ i = 1 := by simp at hi; omega
  rcases this with rfl | rfl
  · exact ⟨cell_of_row _ _ 0 _ _ _ hb, cell_of_row _ _ 1 _ _ _ hb⟩
  · exact ⟨cell_of_row _ _ 2 _ _ _ hb, cell_of_row _ _ 3 _ _ _ hb⟩

theorem awake_set {s : List Rg} (h : Upto (hasR [⟨5, 7⟩, ⟨1, 4⟩]) s 1114112) : s = [⟨1, 7⟩] := by
  refine Upto.unique h ⟨⟨by decide, by decide, trivial⟩, fun x => ?_⟩
  have e : hasR [⟨5, 7⟩, ⟨1, 4⟩] x = decide (1 ≤ x ∧ x ≤ 7) := by
    simp only [hasR, List.any_cons, List.any_nil, Bool.or_false]
    rw [Bool.eq_iff_iff]
    simp only [Bool.or_eq_true, decide_eq_true_eq]
    omega
  have e2 : hasR [⟨1, 7⟩] x = decide (1 ≤ x ∧ x ≤ 7) := by
    simp only [hasR, List.any_cons, List.any_nil, Bool.or_false]
  rw [e, e2]
  apply decide_eq_decide.2
  simp only [decide_eq_true_eq]
  omega

set_option maxHeartbeats 2000000 in
theorem awake_any (w : World) : Calls Try.prog 9 #[] w fun e w' => e = .returned (.bool true) ∧ Below w.heap.size w w' := by
  have hB0 : Below w.heap.size w (w.alloc (.cells #[.int .i64 5, .int .i64 7, .int .i64 1, .int .i64 4] 39)) := (Below.refl _ w).alloc (Nat.le_refl _) _
  have HM := make_any [⟨5, 7⟩, ⟨1, 4⟩] _ _ (by simp) (rng_lit2 w 5 7 1 4)
  have HB0 : Hid (Below w.heap.size w (w.alloc (.cells #[.int .i64 5, .int .i64 7, .int .i64 1, .int .i64 4] 39))) := hB0
  clear hB0
  go_enter Try.func9, Try.ntmps9
  go_wp2_with fail
  refine HM.mono ?_
  rintro e w1 ⟨h | h, hB⟩
  · refine absurd ?_ h.1
    intro r hr
    have : r = ⟨5, 7⟩ ∨ r = ⟨1, 4⟩ := by simpa using hr
    rcases this with rfl | rfl
    · exact ⟨by decide, by decide, by decide⟩
    · exact ⟨by decide, by decide, by decide⟩
  · obtain ⟨_, s, v, hu, _, rfl, ho⟩ := h
    obtain rfl := awake_set hu
    have hr := rng_of_row ho
    obtain ⟨g, off, cap, rfl, hc, hg, c0, c1⟩ := RngAt.cons hr
    have hB2 : Below w.heap.size w w1 := HB0.out.trans (hB.mono (by simp))
    clear HM hr ho hu hB
    simp only [List.length_nil, Nat.zero_add]
    go_wp2
    go_ret
    exact ⟨rfl, hB2⟩

/-- What set tells. -/
def SetTells (w : World) (e : Ending) (w' : World) : Prop :=
  ((∃ v, e = .returned (.tuple #[v, .bool false])) ∨ (∃ s v, IsSet s ∧ s.length ≤ 100 ∧ e = .returned (.tuple #[v, .bool true]) ∧ RngSrc w' v s)) ∧ Below w.heap.size w w'

set_option maxHeartbeats 2000000 in
theorem set_any (l : List Rg) (v : Value) (w : World) (hv : RngSrc w v l) :
    Calls Try.prog 13 #[v] w fun e w' => SetTells w e w' := by
  have HV : Hid (RngSrc w v l) := hv
  obtain ⟨a, cap, rfl, hc, _⟩ := hv.1
  clear hv
  by_cases hlen : l.length ≤ 40
  · have HM := refMake_any l _ w (by omega) HV.out
    have h4 : ¬ (40 : Int) < (l.length : Int) := by omega
    go_enter Try.func13, Try.ntmps13
    go_wp2_with fail
    refine HM.mono ?_
    rintro e w1 ⟨h | h, hB⟩
    · obtain ⟨_, rfl⟩ := h
      clear HM
      go_wp2
      go_ret2
      exact ⟨.inl ⟨_, rfl⟩, hB⟩
    · obtain ⟨hf, s, v, hu, rfl, ho⟩ := h
      have HS : Hid (IsSet s) := hu.isSet
      have HL : Hid (s.length ≤ 100) := by have := set_small hf hu; show _ ≤ _; omega
      have HR : Hid (RngSrc w1 v s) := RngSrc.row ho
      clear HM hf hu ho
      go_wp2
      go_ret2
      exact ⟨.inr ⟨s, v, HS.out, HL.out, rfl, HR.out⟩, hB⟩
  · have h4 : (40 : Int) < (l.length : Int) := by omega
    go_enter Try.func13, Try.ntmps13
    go_wp2
    go_ret2
    exact ⟨.inl ⟨_, rfl⟩, Below.refl _ _⟩
end Go.Proofs.Ytmgbeglajpnicaa
