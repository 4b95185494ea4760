/-
  What words.All answers: the places at which words end, in a slice of its own.
-/
import Derived.Test.YtpmlbdfdiebkcaaDoorSel
namespace Go.Proofs.YtpmlbdfdiebkcaaDoor
open Go.RowKit Go.Shelf
set_option linter.unusedVariables false
attribute [local go_sem] Oper.semAt_some

set_option maxRecDepth 100000 in
set_option maxHeartbeats 8000000 in
theorem all_in (n : Nat) (hn : 3 ≤ n) (g : Nat) (sv : Value) (l : List Int) (hlen : l.length ≤ 10000) (w : World) (hS : Ship w g) (hI : IntsAt w.heap.size w sv l) :
    CallsIn Fence.wide n Tryd.prog 12 #[.pointer (some ⟨g, 0, none⟩), sv] w fun e W' => ∃ v, e = .returned v ∧ W'.ownsRow w.heap.size 3 1 v (allL l).length (cellsP5 (allL l)) ∧ Below w.heap.size w W' := by
  have HI : Hid (IntsAt w.heap.size w sv l) := hI
  have HS : Hid (Ship w g) := hS
  have HLN : Hid (l.length ≤ 10000) := hlen
  obtain ⟨a, cap, hsv, _, _⟩ := hI
  subst hsv
  have h1 : 1 ≤ n := by omega
  obtain ⟨i0, hi, hz0, hz1, hz2⟩ := info_parts Tryd.infoInt
  clear hS hlen
  refine callsIn_of_wp_marks Tryd.func12 rfl trivial ?_ rfl
  simp only [Tryd.ntmps12, List.size_toArray, List.length_cons, List.length_nil, Nat.reduceAdd, Nat.reduceSub, Array.replicate_succ, Array.replicate_zero, List.push_toArray, List.append_toArray, List.nil_append, List.cons_append]
  gi_wp2_with (refine ⟨trivial, ?_⟩; gi_at_call 23; refine (heads_in (n - 1) g _ _ _ _ _ _).mono ?_; rintro e w' ⟨rfl, rfl⟩)
  have hsz : ((((((((w.alloc (.cells #[.pointer (some ⟨g, 0, none⟩)] 24)).alloc (.cells #[.slice a l.length cap] 22)).alloc (.cells #[.slice none 0 0] 22)).alloc (.cells #[.int .i64 0, .int .i64 0, .int .i64 0] 48)).alloc (.cells #[.pointer (some ⟨g, 0, none⟩)] 24)).alloc (.cells #[.slice a l.length cap] 22)).alloc (.cells #[.int .i64 0] 3)).alloc (.cells #[.int .i64 1] 3)).heap.size = w.heap.size + 8 := by simp
  have hB0 : Below w.heap.size w ((((((((w.alloc (.cells #[.pointer (some ⟨g, 0, none⟩)] 24)).alloc (.cells #[.slice a l.length cap] 22)).alloc (.cells #[.slice none 0 0] 22)).alloc (.cells #[.int .i64 0, .int .i64 0, .int .i64 0] 48)).alloc (.cells #[.pointer (some ⟨g, 0, none⟩)] 24)).alloc (.cells #[.slice a l.length cap] 22)).alloc (.cells #[.int .i64 0] 3)).alloc (.cells #[.int .i64 1] 3)) := (((((((((Below.refl _ w).alloc (Nat.le_refl _) _).alloc (by simp) _).alloc (by simp; omega) _).alloc (by simp; omega) _).alloc (by simp; omega) _).alloc (by simp; omega) _).alloc (by simp; omega) _).alloc (by simp; omega) _)
  have b0 : ((((((((w.alloc (.cells #[.pointer (some ⟨g, 0, none⟩)] 24)).alloc (.cells #[.slice a l.length cap] 22)).alloc (.cells #[.slice none 0 0] 22)).alloc (.cells #[.int .i64 0, .int .i64 0, .int .i64 0] 48)).alloc (.cells #[.pointer (some ⟨g, 0, none⟩)] 24)).alloc (.cells #[.slice a l.length cap] 22)).alloc (.cells #[.int .i64 0] 3)).alloc (.cells #[.int .i64 1] 3)).heap[w.heap.size]? = some (.cells #[.pointer (some ⟨g, 0, none⟩)] 24 (0, 0)) := by
    have h := heap_new' w (.cells #[.pointer (some ⟨g, 0, none⟩)] 24)
    replace h := (Below.heap_alloc (w.alloc (.cells #[.pointer (some ⟨g, 0, none⟩)] 24)) (.cells #[.slice a l.length cap] 22) _ (by simp <;> omega)).trans h
    replace h := (Below.heap_alloc ((w.alloc (.cells #[.pointer (some ⟨g, 0, none⟩)] 24)).alloc (.cells #[.slice a l.length cap] 22)) (.cells #[.slice none 0 0] 22) _ (by simp <;> omega)).trans h
    replace h := (Below.heap_alloc (((w.alloc (.cells #[.pointer (some ⟨g, 0, none⟩)] 24)).alloc (.cells #[.slice a l.length cap] 22)).alloc (.cells #[.slice none 0 0] 22)) (.cells #[.int .i64 0, .int .i64 0, .int .i64 0] 48) _ (by simp <;> omega)).trans h
    replace h := (Below.heap_alloc ((((w.alloc (.cells #[.pointer (some ⟨g, 0, none⟩)] 24)).alloc (.cells #[.slice a l.length cap] 22)).alloc (.cells #[.slice none 0 0] 22)).alloc (.cells #[.int .i64 0, .int .i64 0, .int .i64 0] 48)) (.cells #[.pointer (some ⟨g, 0, none⟩)] 24) _ (by simp <;> omega)).trans h
    replace h := (Below.heap_alloc (((((w.alloc (.cells #[.pointer (some ⟨g, 0, none⟩)] 24)).alloc (.cells #[.slice a l.length cap] 22)).alloc (.cells #[.slice none 0 0] 22)).alloc (.cells #[.int .i64 0, .int .i64 0, .int .i64 0] 48)).alloc (.cells #[.pointer (some ⟨g, 0, none⟩)] 24)) (.cells #[.slice a l.length cap] 22) _ (by simp <;> omega)).trans h
    replace h := (Below.heap_alloc ((((((w.alloc (.cells #[.pointer (some ⟨g, 0, none⟩)] 24)).alloc (.cells #[.slice a l.length cap] 22)).alloc (.cells #[.slice none 0 0] 22)).alloc (.cells #[.int .i64 0, .int .i64 0, .int .i64 0] 48)).alloc (.cells #[.pointer (some ⟨g, 0, none⟩)] 24)).alloc (.cells #[.slice a l.length cap] 22)) (.cells #[.int .i64 0] 3) _ (by simp <;> omega)).trans h
    replace h := (Below.heap_alloc (((((((w.alloc (.cells #[.pointer (some ⟨g, 0, none⟩)] 24)).alloc (.cells #[.slice a l.length cap] 22)).alloc (.cells #[.slice none 0 0] 22)).alloc (.cells #[.int .i64 0, .int .i64 0, .int .i64 0] 48)).alloc (.cells #[.pointer (some ⟨g, 0, none⟩)] 24)).alloc (.cells #[.slice a l.length cap] 22)).alloc (.cells #[.int .i64 0] 3)) (.cells #[.int .i64 1] 3) _ (by simp <;> omega)).trans h
    exact h
  have b1 : ((((((((w.alloc (.cells #[.pointer (some ⟨g, 0, none⟩)] 24)).alloc (.cells #[.slice a l.length cap] 22)).alloc (.cells #[.slice none 0 0] 22)).alloc (.cells #[.int .i64 0, .int .i64 0, .int .i64 0] 48)).alloc (.cells #[.pointer (some ⟨g, 0, none⟩)] 24)).alloc (.cells #[.slice a l.length cap] 22)).alloc (.cells #[.int .i64 0] 3)).alloc (.cells #[.int .i64 1] 3)).heap[w.heap.size + 1]? = some (.cells #[.slice a l.length cap] 22 (0, 0)) := by
    have h := heap_new' (w.alloc (.cells #[.pointer (some ⟨g, 0, none⟩)] 24)) (.cells #[.slice a l.length cap] 22)
    simp only [World.size_alloc] at h
    replace h := (Below.heap_alloc ((w.alloc (.cells #[.pointer (some ⟨g, 0, none⟩)] 24)).alloc (.cells #[.slice a l.length cap] 22)) (.cells #[.slice none 0 0] 22) _ (by simp <;> omega)).trans h
    replace h := (Below.heap_alloc (((w.alloc (.cells #[.pointer (some ⟨g, 0, none⟩)] 24)).alloc (.cells #[.slice a l.length cap] 22)).alloc (.cells #[.slice none 0 0] 22)) (.cells #[.int .i64 0, .int .i64 0, .int .i64 0] 48) _ (by simp <;> omega)).trans h
    replace h := (Below.heap_alloc ((((w.alloc (.cells #[.pointer (some ⟨g, 0, none⟩)] 24)).alloc (.cells #[.slice a l.length cap] 22)).alloc (.cells #[.slice none 0 0] 22)).alloc (.cells #[.int .i64 0, .int .i64 0, .int .i64 0] 48)) (.cells #[.pointer (some ⟨g, 0, none⟩)] 24) _ (by simp <;> omega)).trans h
    replace h := (Below.heap_alloc (((((w.alloc (.cells #[.pointer (some ⟨g, 0, none⟩)] 24)).alloc (.cells #[.slice a l.length cap] 22)).alloc (.cells #[.slice none 0 0] 22)).alloc (.cells #[.int .i64 0, .int .i64 0, .int .i64 0] 48)).alloc (.cells #[.pointer (some ⟨g, 0, none⟩)] 24)) (.cells #[.slice a l.length cap] 22) _ (by simp <;> omega)).trans h
    replace h := (Below.heap_alloc ((((((w.alloc (.cells #[.pointer (some ⟨g, 0, none⟩)] 24)).alloc (.cells #[.slice a l.length cap] 22)).alloc (.cells #[.slice none 0 0] 22)).alloc (.cells #[.int .i64 0, .int .i64 0, .int .i64 0] 48)).alloc (.cells #[.pointer (some ⟨g, 0, none⟩)] 24)).alloc (.cells #[.slice a l.length cap] 22)) (.cells #[.int .i64 0] 3) _ (by simp <;> omega)).trans h
    replace h := (Below.heap_alloc (((((((w.alloc (.cells #[.pointer (some ⟨g, 0, none⟩)] 24)).alloc (.cells #[.slice a l.length cap] 22)).alloc (.cells #[.slice none 0 0] 22)).alloc (.cells #[.int .i64 0, .int .i64 0, .int .i64 0] 48)).alloc (.cells #[.pointer (some ⟨g, 0, none⟩)] 24)).alloc (.cells #[.slice a l.length cap] 22)).alloc (.cells #[.int .i64 0] 3)) (.cells #[.int .i64 1] 3) _ (by simp <;> omega)).trans h
    exact h
  have b2 : ((((((((w.alloc (.cells #[.pointer (some ⟨g, 0, none⟩)] 24)).alloc (.cells #[.slice a l.length cap] 22)).alloc (.cells #[.slice none 0 0] 22)).alloc (.cells #[.int .i64 0, .int .i64 0, .int .i64 0] 48)).alloc (.cells #[.pointer (some ⟨g, 0, none⟩)] 24)).alloc (.cells #[.slice a l.length cap] 22)).alloc (.cells #[.int .i64 0] 3)).alloc (.cells #[.int .i64 1] 3)).heap[w.heap.size + 2]? = some (.cells #[.slice none 0 0] 22 (0, 0)) := by
    have h := heap_new' ((w.alloc (.cells #[.pointer (some ⟨g, 0, none⟩)] 24)).alloc (.cells #[.slice a l.length cap] 22)) (.cells #[.slice none 0 0] 22)
    simp only [World.size_alloc] at h
    replace h := (Below.heap_alloc (((w.alloc (.cells #[.pointer (some ⟨g, 0, none⟩)] 24)).alloc (.cells #[.slice a l.length cap] 22)).alloc (.cells #[.slice none 0 0] 22)) (.cells #[.int .i64 0, .int .i64 0, .int .i64 0] 48) _ (by simp <;> omega)).trans h
    replace h := (Below.heap_alloc ((((w.alloc (.cells #[.pointer (some ⟨g, 0, none⟩)] 24)).alloc (.cells #[.slice a l.length cap] 22)).alloc (.cells #[.slice none 0 0] 22)).alloc (.cells #[.int .i64 0, .int .i64 0, .int .i64 0] 48)) (.cells #[.pointer (some ⟨g, 0, none⟩)] 24) _ (by simp <;> omega)).trans h
    replace h := (Below.heap_alloc (((((w.alloc (.cells #[.pointer (some ⟨g, 0, none⟩)] 24)).alloc (.cells #[.slice a l.length cap] 22)).alloc (.cells #[.slice none 0 0] 22)).alloc (.cells #[.int .i64 0, .int .i64 0, .int .i64 0] 48)).alloc (.cells #[.pointer (some ⟨g, 0, none⟩)] 24)) (.cells #[.slice a l.length cap] 22) _ (by simp <;> omega)).trans h
    replace h := (Below.heap_alloc ((((((w.alloc (.cells #[.pointer (some ⟨g, 0, none⟩)] 24)).alloc (.cells #[.slice a l.length cap] 22)).alloc (.cells #[.slice none 0 0] 22)).alloc (.cells #[.int .i64 0, .int .i64 0, .int .i64 0] 48)).alloc (.cells #[.pointer (some ⟨g, 0, none⟩)] 24)).alloc (.cells #[.slice a l.length cap] 22)) (.cells #[.int .i64 0] 3) _ (by simp <;> omega)).trans h
    replace h := (Below.heap_alloc (((((((w.alloc (.cells #[.pointer (some ⟨g, 0, none⟩)] 24)).alloc (.cells #[.slice a l.length cap] 22)).alloc (.cells #[.slice none 0 0] 22)).alloc (.cells #[.int .i64 0, .int .i64 0, .int .i64 0] 48)).alloc (.cells #[.pointer (some ⟨g, 0, none⟩)] 24)).alloc (.cells #[.slice a l.length cap] 22)).alloc (.cells #[.int .i64 0] 3)) (.cells #[.int .i64 1] 3) _ (by simp <;> omega)).trans h
    exact h
  have b3 : ((((((((w.alloc (.cells #[.pointer (some ⟨g, 0, none⟩)] 24)).alloc (.cells #[.slice a l.length cap] 22)).alloc (.cells #[.slice none 0 0] 22)).alloc (.cells #[.int .i64 0, .int .i64 0, .int .i64 0] 48)).alloc (.cells #[.pointer (some ⟨g, 0, none⟩)] 24)).alloc (.cells #[.slice a l.length cap] 22)).alloc (.cells #[.int .i64 0] 3)).alloc (.cells #[.int .i64 1] 3)).heap[w.heap.size + 3]? = some (.cells #[.int .i64 0, .int .i64 0, .int .i64 0] 48 (0, 0)) := by
    have h := heap_new' (((w.alloc (.cells #[.pointer (some ⟨g, 0, none⟩)] 24)).alloc (.cells #[.slice a l.length cap] 22)).alloc (.cells #[.slice none 0 0] 22)) (.cells #[.int .i64 0, .int .i64 0, .int .i64 0] 48)
    simp only [World.size_alloc] at h
    replace h := (Below.heap_alloc ((((w.alloc (.cells #[.pointer (some ⟨g, 0, none⟩)] 24)).alloc (.cells #[.slice a l.length cap] 22)).alloc (.cells #[.slice none 0 0] 22)).alloc (.cells #[.int .i64 0, .int .i64 0, .int .i64 0] 48)) (.cells #[.pointer (some ⟨g, 0, none⟩)] 24) _ (by simp <;> omega)).trans h
    replace h := (Below.heap_alloc (((((w.alloc (.cells #[.pointer (some ⟨g, 0, none⟩)] 24)).alloc (.cells #[.slice a l.length cap] 22)).alloc (.cells #[.slice none 0 0] 22)).alloc (.cells #[.int .i64 0, .int .i64 0, .int .i64 0] 48)).alloc (.cells #[.pointer (some ⟨g, 0, none⟩)] 24)) (.cells #[.slice a l.length cap] 22) _ (by simp <;> omega)).trans h
    replace h := (Below.heap_alloc ((((((w.alloc (.cells #[.pointer (some ⟨g, 0, none⟩)] 24)).alloc (.cells #[.slice a l.length cap] 22)).alloc (.cells #[.slice none 0 0] 22)).alloc (.cells #[.int .i64 0, .int .i64 0, .int .i64 0] 48)).alloc (.cells #[.pointer (some ⟨g, 0, none⟩)] 24)).alloc (.cells #[.slice a l.length cap] 22)) (.cells #[.int .i64 0] 3) _ (by simp <;> omega)).trans h
    replace h := (Below.heap_alloc (((((((w.alloc (.cells #[.pointer (some ⟨g, 0, none⟩)] 24)).alloc (.cells #[.slice a l.length cap] 22)).alloc (.cells #[.slice none 0 0] 22)).alloc (.cells #[.int .i64 0, .int .i64 0, .int .i64 0] 48)).alloc (.cells #[.pointer (some ⟨g, 0, none⟩)] 24)).alloc (.cells #[.slice a l.length cap] 22)).alloc (.cells #[.int .i64 0] 3)) (.cells #[.int .i64 1] 3) _ (by simp <;> omega)).trans h
    exact h
  have b4 : ((((((((w.alloc (.cells #[.pointer (some ⟨g, 0, none⟩)] 24)).alloc (.cells #[.slice a l.length cap] 22)).alloc (.cells #[.slice none 0 0] 22)).alloc (.cells #[.int .i64 0, .int .i64 0, .int .i64 0] 48)).alloc (.cells #[.pointer (some ⟨g, 0, none⟩)] 24)).alloc (.cells #[.slice a l.length cap] 22)).alloc (.cells #[.int .i64 0] 3)).alloc (.cells #[.int .i64 1] 3)).heap[w.heap.size + 4]? = some (.cells #[.pointer (some ⟨g, 0, none⟩)] 24 (0, 0)) := by
    have h := heap_new' ((((w.alloc (.cells #[.pointer (some ⟨g, 0, none⟩)] 24)).alloc (.cells #[.slice a l.length cap] 22)).alloc (.cells #[.slice none 0 0] 22)).alloc (.cells #[.int .i64 0, .int .i64 0, .int .i64 0] 48)) (.cells #[.pointer (some ⟨g, 0, none⟩)] 24)
    simp only [World.size_alloc] at h
    replace h := (Below.heap_alloc (((((w.alloc (.cells #[.pointer (some ⟨g, 0, none⟩)] 24)).alloc (.cells #[.slice a l.length cap] 22)).alloc (.cells #[.slice none 0 0] 22)).alloc (.cells #[.int .i64 0, .int .i64 0, .int .i64 0] 48)).alloc (.cells #[.pointer (some ⟨g, 0, none⟩)] 24)) (.cells #[.slice a l.length cap] 22) _ (by simp <;> omega)).trans h
    replace h := (Below.heap_alloc ((((((w.alloc (.cells #[.pointer (some ⟨g, 0, none⟩)] 24)).alloc (.cells #[.slice a l.length cap] 22)).alloc (.cells #[.slice none 0 0] 22)).alloc (.cells #[.int .i64 0, .int .i64 0, .int .i64 0] 48)).alloc (.cells #[.pointer (some ⟨g, 0, none⟩)] 24)).alloc (.cells #[.slice a l.length cap] 22)) (.cells #[.int .i64 0] 3) _ (by simp <;> omega)).trans h
    replace h := (Below.heap_alloc (((((((w.alloc (.cells #[.pointer (some ⟨g, 0, none⟩)] 24)).alloc (.cells #[.slice a l.length cap] 22)).alloc (.cells #[.slice none 0 0] 22)).alloc (.cells #[.int .i64 0, .int .i64 0, .int .i64 0] 48)).alloc (.cells #[.pointer (some ⟨g, 0, none⟩)] 24)).alloc (.cells #[.slice a l.length cap] 22)).alloc (.cells #[.int .i64 0] 3)) (.cells #[.int .i64 1] 3) _ (by simp <;> omega)).trans h
    exact h
  have b5 : ((((((((w.alloc (.cells #[.pointer (some ⟨g, 0, none⟩)] 24)).alloc (.cells #[.slice a l.length cap] 22)).alloc (.cells #[.slice none 0 0] 22)).alloc (.cells #[.int .i64 0, .int .i64 0, .int .i64 0] 48)).alloc (.cells #[.pointer (some ⟨g, 0, none⟩)] 24)).alloc (.cells #[.slice a l.length cap] 22)).alloc (.cells #[.int .i64 0] 3)).alloc (.cells #[.int .i64 1] 3)).heap[w.heap.size + 5]? = some (.cells #[.slice a l.length cap] 22 (0, 0)) := by
    have h := heap_new' (((((w.alloc (.cells #[.pointer (some ⟨g, 0, none⟩)] 24)).alloc (.cells #[.slice a l.length cap] 22)).alloc (.cells #[.slice none 0 0] 22)).alloc (.cells #[.int .i64 0, .int .i64 0, .int .i64 0] 48)).alloc (.cells #[.pointer (some ⟨g, 0, none⟩)] 24)) (.cells #[.slice a l.length cap] 22)
    simp only [World.size_alloc] at h
    replace h := (Below.heap_alloc ((((((w.alloc (.cells #[.pointer (some ⟨g, 0, none⟩)] 24)).alloc (.cells #[.slice a l.length cap] 22)).alloc (.cells #[.slice none 0 0] 22)).alloc (.cells #[.int .i64 0, .int .i64 0, .int .i64 0] 48)).alloc (.cells #[.pointer (some ⟨g, 0, none⟩)] 24)).alloc (.cells #[.slice a l.length cap] 22)) (.cells #[.int .i64 0] 3) _ (by simp <;> omega)).trans h
    replace h := (Below.heap_alloc (((((((w.alloc (.cells #[.pointer (some ⟨g, 0, none⟩)] 24)).alloc (.cells #[.slice a l.length cap] 22)).alloc (.cells #[.slice none 0 0] 22)).alloc (.cells #[.int .i64 0, .int .i64 0, .int .i64 0] 48)).alloc (.cells #[.pointer (some ⟨g, 0, none⟩)] 24)).alloc (.cells #[.slice a l.length cap] 22)).alloc (.cells #[.int .i64 0] 3)) (.cells #[.int .i64 1] 3) _ (by simp <;> omega)).trans h
    exact h
  have b6 : ((((((((w.alloc (.cells #[.pointer (some ⟨g, 0, none⟩)] 24)).alloc (.cells #[.slice a l.length cap] 22)).alloc (.cells #[.slice none 0 0] 22)).alloc (.cells #[.int .i64 0, .int .i64 0, .int .i64 0] 48)).alloc (.cells #[.pointer (some ⟨g, 0, none⟩)] 24)).alloc (.cells #[.slice a l.length cap] 22)).alloc (.cells #[.int .i64 0] 3)).alloc (.cells #[.int .i64 1] 3)).heap[w.heap.size + 6]? = some (.cells #[.int .i64 0] 3 (0, 0)) := by
    have h := heap_new' ((((((w.alloc (.cells #[.pointer (some ⟨g, 0, none⟩)] 24)).alloc (.cells #[.slice a l.length cap] 22)).alloc (.cells #[.slice none 0 0] 22)).alloc (.cells #[.int .i64 0, .int .i64 0, .int .i64 0] 48)).alloc (.cells #[.pointer (some ⟨g, 0, none⟩)] 24)).alloc (.cells #[.slice a l.length cap] 22)) (.cells #[.int .i64 0] 3)
    simp only [World.size_alloc] at h
    replace h := (Below.heap_alloc (((((((w.alloc (.cells #[.pointer (some ⟨g, 0, none⟩)] 24)).alloc (.cells #[.slice a l.length cap] 22)).alloc (.cells #[.slice none 0 0] 22)).alloc (.cells #[.int .i64 0, .int .i64 0, .int .i64 0] 48)).alloc (.cells #[.pointer (some ⟨g, 0, none⟩)] 24)).alloc (.cells #[.slice a l.length cap] 22)).alloc (.cells #[.int .i64 0] 3)) (.cells #[.int .i64 1] 3) _ (by simp <;> omega)).trans h
    exact h
  have b7 : ((((((((w.alloc (.cells #[.pointer (some ⟨g, 0, none⟩)] 24)).alloc (.cells #[.slice a l.length cap] 22)).alloc (.cells #[.slice none 0 0] 22)).alloc (.cells #[.int .i64 0, .int .i64 0, .int .i64 0] 48)).alloc (.cells #[.pointer (some ⟨g, 0, none⟩)] 24)).alloc (.cells #[.slice a l.length cap] 22)).alloc (.cells #[.int .i64 0] 3)).alloc (.cells #[.int .i64 1] 3)).heap[w.heap.size + 7]? = some (.cells #[.int .i64 1] 3 (0, 0)) := by
    have h := heap_new' (((((((w.alloc (.cells #[.pointer (some ⟨g, 0, none⟩)] 24)).alloc (.cells #[.slice a l.length cap] 22)).alloc (.cells #[.slice none 0 0] 22)).alloc (.cells #[.int .i64 0, .int .i64 0, .int .i64 0] 48)).alloc (.cells #[.pointer (some ⟨g, 0, none⟩)] 24)).alloc (.cells #[.slice a l.length cap] 22)).alloc (.cells #[.int .i64 0] 3)) (.cells #[.int .i64 1] 3)
    simp only [World.size_alloc] at h
    exact h
  obtain ⟨W0, hW0⟩ : ∃ W0, (((((((w.alloc (.cells #[.pointer (some ⟨g, 0, none⟩)] 24)).alloc (.cells #[.slice a l.length cap] 22)).alloc (.cells #[.slice none 0 0] 22)).alloc (.cells #[.int .i64 0, .int .i64 0, .int .i64 0] 48)).alloc (.cells #[.pointer (some ⟨g, 0, none⟩)] 24)).alloc (.cells #[.slice a l.length cap] 22)).alloc (.cells #[.int .i64 0] 3)).alloc (.cells #[.int .i64 1] 3) = W0 := ⟨_, rfl⟩
  rw [hW0] at hsz hB0 b0 b1 b2 b3 b4 b5 b6 b7 ⊢
  clear hW0
  have hway := way_on l HLN.out 0 (Nat.zero_le _)
  have hSB := HS.out.b
  have HB0 : Hid (Below w.heap.size w W0) := hB0
  replace b3 : W0.heap[w.heap.size + 1 + 1 + 1]? = some (.cells (pC ((kindsH (([] : List (Fin l.length)).reverse))[1]?.getD 0) ((kindsH (([] : List (Fin l.length)).reverse))[0]?.getD 0) (regK (kindsH (([] : List (Fin l.length)).reverse)))) 48 (0, 0)) := b3
  refine wpIn_rangeFunc_ownH rfl h1 (gf := 50) (lb := #[.pointer (some ⟨w.heap.size + 1 + 1 + 1 + 1 + 2, 0, none⟩), .pointer (some ⟨w.heap.size + 1 + 1 + 1 + 1 + 1, 0, none⟩), .pointer (some ⟨w.heap.size + 1 + 1 + 1 + 1 + 3, 0, none⟩), .pointer (some ⟨w.heap.size + 1 + 1 + 1 + 1, 0, none⟩)]) rfl trivial (enters_of Tryd.func50 (by kernel_rfl) rfl)
    (heads_stops (n - 1) (by omega) (w.heap.size + 1 + 1 + 1 + 1 + 2) (w.heap.size + 1 + 1 + 1 + 1 + 1) (w.heap.size + 1 + 1 + 1 + 1 + 3) (w.heap.size + 1 + 1 + 1 + 1) w.heap.size g (.slice a l.length cap) a cap l rfl HLN.out _ 1 _ _ _ _ hway W0 (by omega) b6 b5 b7 b4 (hSB.below hB0) (HI.out.below hB0)) kpS_t (kpS_b (by omega) (by intro k hk; simp at hk; omega)) (Below.refl _ _) (fun _ => rfl)
    (fun pre W => ((∃ v, Boxed W (w.heap.size + 1 + 1) 22 v ∧ W.ownsRow W0.heap.size 3 1 v (selR pre.reverse).length (cellsP5 (selR pre.reverse)) ∧ True) ∧ Boxed W w.heap.size 24 (.pointer (some ⟨g, 0, none⟩)) ∧ Boxed W (w.heap.size + 1) 22 (.slice a l.length cap) ∧ W.heap[w.heap.size + 1 + 1 + 1]? = some (.cells (pC ((kindsH pre.reverse)[1]?.getD 0) ((kindsH pre.reverse)[0]?.getD 0) (regK (kindsH pre.reverse))) 48 (0, 0))) ∧ Below w.heap.size w W)
    (fun _ _ _ => False)
    (OwnFrom.and (fun s X Y row hs hg hr => ⟨Own.from (holdsRow_own W0.heap.size (w.heap.size + 1 + 1) 22 3 1 (fun pre : List (Fin l.length) => (selR pre.reverse).length) (fun pre => cellsP5 (selR pre.reverse)) (fun _ _ => True)) _ s X Y row hs.1 hg hr, Own.from (boxed_own w.heap.size 24 (fun _ : List (Fin l.length) => .pointer (some ⟨g, 0, none⟩))) _ s X Y row hs.2.1 hg hr, Own.from (boxed_own (w.heap.size + 1) 22 (fun _ : List (Fin l.length) => .slice a l.length cap)) _ s X Y row hs.2.2.1 hg hr, cells_own (w.heap.size + 1 + 1 + 1) 48 (fun pre : List (Fin l.length) => pC ((kindsH pre.reverse)[1]?.getD 0) ((kindsH pre.reverse)[0]?.getD 0) (regK (kindsH pre.reverse))) _ s X Y row hs.2.2.2 hg hr⟩) (ownFrom_below (Nat.le_refl _) (by omega)))
    (fun _ _ _ _ _ hs _ _ => hs)
    ⟨⟨⟨_, b2, World.ownsRow_nil _ _ _ _, trivial⟩, b0, b1, b3⟩, hB0⟩
    (fun x a' W => a' = { tmps := #[.pointer (some ⟨g, 0, none⟩), .slice a l.length cap, .pointer (some ⟨w.heap.size, 0, none⟩), .pointer (some ⟨w.heap.size + 1, 0, none⟩), .slice none 0 0, .pointer (some ⟨w.heap.size + 1 + 1, 0, none⟩), .pointer (some ⟨w.heap.size + 1 + 1 + 1, 0, none⟩), .int .i64 (x.val : Int), .pointer (some ⟨g, 0, none⟩), .slice a l.length cap, .func (.func 50) #[] #[.pointer (some ⟨w.heap.size + 1 + 1 + 1 + 1 + 2, 0, none⟩), .pointer (some ⟨w.heap.size + 1 + 1 + 1 + 1 + 1, 0, none⟩), .pointer (some ⟨w.heap.size + 1 + 1 + 1 + 1 + 3, 0, none⟩), .pointer (some ⟨w.heap.size + 1 + 1 + 1 + 1, 0, none⟩)], .int .i64 (x.val : Int), undef, undef, undef, undef, undef, undef, undef, undef, undef, undef, undef, undef, undef, undef, undef, undef, undef, undef, undef, undef, undef, undef], defers := [] })
    (fun x a' _ X Y row hs hg hr => hs)
    ?assign ?body ?done ?stop
  case assign =>
    rintro l' pre x W K hI' hK
    unfold encH
    gi_wp2
    exact hK _ _ (KeepsFrom.refl _ _) (kpS_refl _ _ _) hI' rfl
  case body =>
    rintro l' pre x a' W hl ⟨lo, hlo⟩ ⟨⟨⟨v, yA, hrow, _⟩, y0, y1, yP⟩, hB⟩ rfl hlt
    have hsW := hB.size
    have hW0 : W0.heap.size ≤ W.heap.size := by have := (Array.getElem?_eq_some_iff.1 hlo).1; omega
    obtain ⟨K, hKd⟩ : ∃ K, K = kindsH pre.reverse := ⟨_, rfl⟩
    have HYS : Hid (Boxed W w.heap.size 24 (.pointer (some ⟨g, 0, none⟩)) ∧ Boxed W (w.heap.size + 1) 22 (.slice a l.length cap) ∧ Boxed W (w.heap.size + 1 + 1) 22 v ∧ W.ownsRow W0.heap.size 3 1 v (selR pre.reverse).length (cellsP5 (selR pre.reverse)) ∧ W.heap[w.heap.size + 1 + 1 + 1]? = some (.cells (pC ((K)[1]?.getD 0) ((K)[0]?.getD 0) (regK (K))) 48 (0, 0)) ∧ Below w.heap.size w W ∧ Ship W g) := ⟨y0, y1, yA, hrow, by rw [hKd]; exact yP, hB, HS.out.below hB⟩
    obtain ⟨_, _, e1, _, hcells⟩ := HI.out
    obtain ⟨gi, off, ha, hg, c0⟩ := hcells x.val x.2
    cases e1
    subst ha
    have HX : Hid (∀ w', Below w.heap.size w w' → w'.cell? ⟨gi, off + x.val, none⟩ = some (.int .i64 l[x.val])) := fun w' hw' => (hw'.cell (p := ⟨gi, _, none⟩) hg).trans c0
    obtain ⟨xi, hxi⟩ : ∃ xi : Nat, xi = x.val := ⟨_, rfl⟩
    obtain ⟨rr, hr⟩ : ∃ r, r = l[x.val] := ⟨_, rfl⟩
    rw [← hr] at HX
    rw [← hxi] at HX
    have hx1 : (xi : Int) < (l.length : Int) := by have := x.2; omega
    have hxl : xi < l.length := by have := x.2; omega
    have hKS : kindsH (pre ++ [x]).reverse = wdV rr :: K := by rw [List.reverse_append, List.reverse_singleton, List.singleton_append, kindsH_cons, hKd, hr]
    obtain ⟨bf, hbf⟩ : ∃ z, z = K[1]?.getD 0 := ⟨_, rfl⟩
    obtain ⟨la, hla⟩ : ∃ z, z = K[0]?.getD 0 := ⟨_, rfl⟩
    obtain ⟨r, hrr⟩ : ∃ z, z = regK K := ⟨_, rfl⟩
    obtain ⟨E, hE⟩ : ∃ z, z = endsP l xi bf la r := ⟨_, rfl⟩
    have hsel : selR (pre ++ [x]).reverse = if E = true then selR pre.reverse ++ [xi] else selR pre.reverse := by
      rw [List.reverse_append, List.reverse_singleton, List.singleton_append, selR_cons, ← hKd, ← hbf, ← hla, ← hrr, ← hxi, ← hE]
    have hKl : K.length ≤ 10000 := by rw [hKd, kindsH_len, List.length_reverse]; have := HLN.out; omega
    have HMV : Hid (kindsH (pre ++ [x]).reverse = wdV rr :: K ∧ bf = K[1]?.getD 0 ∧ la = K[0]?.getD 0 ∧ r = regK K ∧ selR (pre ++ [x]).reverse = (if E = true then selR pre.reverse ++ [xi] else selR pre.reverse) ∧ r ≤ 10000 ∧ xi < l.length ∧ (selR pre.reverse).length ≤ 10000) := ⟨hKS, hbf, hla, hrr, hsel, by have := regK_le K; omega, hxl, by have := selR_len pre.reverse; rw [List.length_reverse] at this; have := HLN.out; omega⟩
    have hp : W.heap[w.heap.size + 1 + 1 + 1]? = some (.cells #[.int .i64 bf, .int .i64 la, .int .i64 (r : Int)] 48 (0, 0)) := by rw [hbf, hla, hrr, hKd]; exact yP
    have c0' := y0.cell
    have c1' := y1.cell
    have p0 : W.cell? ⟨w.heap.size + 1 + 1 + 1, 0, none⟩ = some (.int .i64 bf) := cell_of_row _ _ _ _ _ _ hp
    have p1 : W.cell? ⟨w.heap.size + 1 + 1 + 1, 1, none⟩ = some (.int .i64 la) := cell_of_row _ _ _ _ _ _ hp
    have p2 : W.cell? ⟨w.heap.size + 1 + 1 + 1, 2, none⟩ = some (.int .i64 (r : Int)) := cell_of_row _ _ _ _ _ _ hp
    have HPP : Hid (W.heap[w.heap.size + 1 + 1 + 1]? = some (.cells #[.int .i64 bf, .int .i64 la, .int .i64 (r : Int)] 48 (0, 0))) := hp
    have HEN : Hid (Calls Tryd.prog 24 #[.pointer (some ⟨g, 0, none⟩), .slice (some ⟨gi, off, none⟩) l.length cap, .int .i64 (xi : Int), .agg #[.int .i64 bf, .int .i64 la, .int .i64 (r : Int)]] W fun e w' => e = .returned (.bool E) ∧ Below W.heap.size W w') := by
      rw [hE]
      exact ends_any l _ g xi bf la r W HYS.out.2.2.2.2.2.2 (HI.out.on hB) HLN.out hxl
    rw [← hxi]
    clear y0 y1 yP yA hrow hB hcells hg c0 hr hxi hKd hbf hla hrr hKS hsel hE hp hKl hxl
    gi_wp2_with fail
    refine ⟨trivial, fun h => (by cases h), ?_⟩
    refine ((callsIn_wide.2 HEN.out).inRound l').mono ?_
    rintro e w1 ⟨rfl, hB1⟩
    have HB1 : Hid (Below W.heap.size W w1) := hB1
    have HL1 : Hid (Loose w.heap.size W0.heap.size [w.heap.size + 1 + 1] W w1) := loose_below hB1 hsW hW0
    clear hB1 c0' c1' p0 p1 p2 HEN
    cases E with
    | true =>
      have hrow1 : w1.ownsRow W0.heap.size 3 1 v (selR pre.reverse).length (cellsP5 (selR pre.reverse)) := row_below HYS.out.2.2.2.1 HB1.out
      have hb1 : Boxed w1 (w.heap.size + 1 + 1) 22 v := boxed_below HYS.out.2.2.1 HB1.out
      have hs1 : W0.heap.size ≤ w1.heap.size := Nat.le_trans hW0 HB1.out.size
      have HR1 : Hid (w1.ownsRow W0.heap.size 3 1 v (selR pre.reverse).length (cellsP5 (selR pre.reverse)) ∧ Boxed w1 (w.heap.size + 1 + 1) 22 v ∧ W0.heap.size ≤ w1.heap.size) := ⟨hrow1, hb1, hs1⟩
      have cA := hb1.cell
      have hln : (selR pre.reverse).length ≤ 10000 := HMV.out.2.2.2.2.2.2.2
      gi_wp2_with (first | (gi_at_builtin; go_must (refine wpListIn_append_own_at _ rfl _ _ 22 rfl W0.heap.size 3 i0 (.int .i64 0) 1 8 Tryd.underlying22 hi hz0 hz1 hz2 rfl (by decide) _ _ _ rfl (hrow1.alloc _) ⟨w1.heap.size, 0, none⟩ 1 1 [.int .i64 (xi : Int)] rfl rfl (World.news_of_block (World.alloc_heap_new _ _)) (by simp [Value.oneCell']) (by unfold maxLen; omega) (by omega) (by simp; omega) ?_); intro v' w2 hown' hgrow hnil hat; obtain ⟨g', cap', rfl⟩ := ownsRow_succ hown'; have HLA : Hid (Loose w.heap.size W0.heap.size [w.heap.size + 1 + 1] w1 w2) := loose_append HR1.out.1 hgrow (by omega) HR1.out.2.2; have HRA : Hid (w2.ownsRow W0.heap.size 3 1 (.slice (some ⟨g', 0, none⟩) ((selR pre.reverse).length + 1) cap') ((selR pre.reverse).length + 1) (cellsP5 (selR pre.reverse) ++ [.int .i64 (xi : Int)])) := hown'; have hbA : Boxed w2 (w.heap.size + 1 + 1) 22 v := (loose_append (n := w.heap.size) (ks := []) HR1.out.1 hgrow (by omega) HR1.out.2.2).cells (by omega) (by simp) HR1.out.2.1; have HBA : Hid (Boxed w2 (w.heap.size + 1 + 1) 22 v) := hbA; have cA2 := hbA.cell; have fA2 := hbA.frozen; clear hbA hown' hgrow hnil hat) | fail)
      have HA : Hid (Loose w.heap.size W0.heap.size [w.heap.size + 1 + 1] W (w2.setCell ⟨w.heap.size + 1 + 1, 0, none⟩ (.slice (some ⟨g', 0, none⟩) ((selR pre.reverse).length + 1) cap')) ∧ ∃ v'', Boxed (w2.setCell ⟨w.heap.size + 1 + 1, 0, none⟩ (.slice (some ⟨g', 0, none⟩) ((selR pre.reverse).length + 1) cap')) (w.heap.size + 1 + 1) 22 v'' ∧ (w2.setCell ⟨w.heap.size + 1 + 1, 0, none⟩ (.slice (some ⟨g', 0, none⟩) ((selR pre.reverse).length + 1) cap')).ownsRow W0.heap.size 3 1 v'' (selR (pre ++ [x]).reverse).length (cellsP5 (selR (pre ++ [x]).reverse)) ∧ True) := by
        refine ⟨(HL1.out.trans HLA.out).trans (loose_chg ((Chg.refl [w.heap.size + 1 + 1] w2).set (by simp) 0 _) (by intro k hk; simp at hk; omega)), _, HBA.out.set _, ?_, trivial⟩
        have h := row_set HRA.out (show w.heap.size + 1 + 1 < W0.heap.size by omega) 0 (.slice (some ⟨g', 0, none⟩) ((selR pre.reverse).length + 1) cap')
        have hs2 : selR (pre ++ [x]).reverse = selR pre.reverse ++ [xi] := by have := HMV.out.2.2.2.2.1; simpa using this
        rw [hs2, cellsP5_snoc, List.length_append, List.length_singleton]
        exact h
      obtain ⟨wA, hwA⟩ : ∃ wA, wA = w2.setCell ⟨w.heap.size + 1 + 1, 0, none⟩ (.slice (some ⟨g', 0, none⟩) ((selR pre.reverse).length + 1) cap') := ⟨_, rfl⟩
      rw [← hwA] at HA
      rw [← hwA]
      clear hwA HLA HRA HBA cA2 fA2 cA hrow1 hb1 hs1 HR1
      have HPA : Hid (wA.heap[w.heap.size + 1 + 1 + 1]? = some (.cells #[.int .i64 bf, .int .i64 la, .int .i64 (r : Int)] 48 (0, 0)) ∧ Boxed wA w.heap.size 24 (.pointer (some ⟨g, 0, none⟩)) ∧ Boxed wA (w.heap.size + 1) 22 (.slice (some ⟨gi, off, none⟩) l.length cap) ∧ Below w.heap.size w wA ∧ w.heap.size ≤ wA.heap.size ∧ W0.heap.size ≤ wA.heap.size) :=
        ⟨HA.out.1.cells (by omega) (by simp) HPP.out, HA.out.1.cells (by omega) (by simp <;> omega) HYS.out.1, HA.out.1.cells (by omega) (by simp <;> omega) HYS.out.2.1, HYS.out.2.2.2.2.2.1.trans HA.out.1.bel, by have := HA.out.1.size; omega, by have := HA.out.1.size; omega⟩
      have HP0 : Hid (∀ w', Below wA.heap.size wA w' → w'.cell? ⟨w.heap.size + 1 + 1 + 1, 0, none⟩ = some (.int .i64 bf) ∧ w'.cell? ⟨w.heap.size + 1 + 1 + 1, 1, none⟩ = some (.int .i64 la) ∧ w'.cell? ⟨w.heap.size + 1 + 1 + 1, 2, none⟩ = some (.int .i64 (r : Int))) := fun w' hw' => by
        have h := (hw'.block _ (Array.getElem?_eq_some_iff.1 HPA.out.1).1).trans HPA.out.1
        exact ⟨cell_of_row _ _ _ _ _ _ h, cell_of_row _ _ _ _ _ _ h, cell_of_row _ _ _ _ _ _ h⟩
      have HQ0 : Hid (∀ w', Below wA.heap.size wA w' → w'.cell? ⟨w.heap.size, 0, none⟩ = some (.pointer (some ⟨g, 0, none⟩))) := fun w' hw' => (boxed_below HPA.out.2.1 hw').cell
      have HQ1 : Hid (∀ w', Below wA.heap.size wA w' → w'.cell? ⟨w.heap.size + 1, 0, none⟩ = some (.slice (some ⟨gi, off, none⟩) l.length cap)) := fun w' hw' => (boxed_below HPA.out.2.2.1 hw').cell
      have HQX : Hid (∀ w', Below wA.heap.size wA w' → w'.cell? ⟨gi, off + xi, none⟩ = some (.int .i64 rr)) := fun w' hw' => HX.out w' (HPA.out.2.2.2.1.trans (hw'.mono HPA.out.2.2.2.2.1))
      refine wpIn_region_bad (fun w' => Below wA.heap.size wA w') [8] (by kernel_rfl) (by kernel_rfl) ((Below.refl _ _).drew) (fun hS => ?_)
      refine wpAnyB_take [0, 7, 8] (i := 0) (v := .agg #[.int .i64 bf, .int .i64 la, .int .i64 (r : Int)]) rfl (by kernel_rfl) (fun _ _ _ h => h) (Or.inl ⟨by rfl, fun w hSw => by have := HP0.out w hSw; go_simp⟩) hS ?_
      simp only [List.getElem_toArray, List.getElem_cons_zero, Act.put, List.setIfInBounds_toArray, List.set_cons_zero, List.set_cons_succ]
      refine wpAnyB_take [1, 6, 7, 8] (i := 1) (v := .pointer (some ⟨g, 0, none⟩)) rfl (by kernel_rfl) (fun _ _ _ h => h) (Or.inl ⟨by rfl, fun w hSw => by have := HQ0.out w hSw; go_simp⟩) hS ?_
      simp only [List.getElem_toArray, List.getElem_cons_succ, List.getElem_cons_zero, Act.put, List.setIfInBounds_toArray, List.set_cons_zero, List.set_cons_succ]
      refine wpAnyB_take [2, 4, 5, 6, 7, 8] (i := 2) (v := .slice (some ⟨gi, off, none⟩) l.length cap) rfl (by kernel_rfl) (fun _ _ _ h => h) (Or.inl ⟨by rfl, fun w hSw => by have := HQ1.out w hSw; go_simp⟩) hS ?_
      simp only [List.getElem_toArray, List.getElem_cons_succ, List.getElem_cons_zero, Act.put, List.setIfInBounds_toArray, List.set_cons_zero, List.set_cons_succ]
      refine wpAnyB_pure (i := 3) (v := .int .i64 (xi : Int)) rfl (by kernel_rfl) (fun _ _ _ h => h) (Or.inl ⟨by rfl, fun w _ => by go_simp⟩) hS ?_
      simp only [List.getElem_toArray, List.getElem_cons_succ, List.getElem_cons_zero, Act.put, List.setIfInBounds_toArray, List.set_cons_zero, List.set_cons_succ]
      refine wpAnyB_pure (i := 4) (v := .pointer (some ⟨gi, off + xi, none⟩)) rfl (by kernel_rfl) (fun _ _ _ h => h) (Or.inl ⟨by rfl, fun w _ => by go_simp⟩) hS ?_
      simp only [List.getElem_toArray, List.getElem_cons_succ, List.getElem_cons_zero, Act.put, List.setIfInBounds_toArray, List.set_cons_zero, List.set_cons_succ]
      refine wpAnyB_take [5, 6, 7, 8] (i := 5) (v := .int .i64 rr) rfl (by kernel_rfl) (fun _ _ _ h => h) (Or.inl ⟨by rfl, fun w hSw => by have := HQX.out w hSw; go_simp⟩) hS ?_
      simp only [List.getElem_toArray, List.getElem_cons_succ, List.getElem_cons_zero, Act.put, List.setIfInBounds_toArray, List.set_cons_zero, List.set_cons_succ]
      refine wpAnyB_one (i := 6) rfl (by kernel_rfl) (fun K hK => ?_)
      go_simp
      refine (ship_wd wA.drew g rr (HS.out.below (HPA.out.2.2.2.1.trans (hS.mono HPA.out.2.2.2.2.1)))).mono ?_
      rintro e w3 ⟨rfl, hB3⟩
      have hS3 : Below wA.heap.size wA w3 := hS.trans (hB3.mono hS.size)
      refine hK.out _ _ hS3 ?_
      clear hK K hB3
      refine wpAnyB_one (i := 7) rfl (by kernel_rfl) (fun K hK => ?_)
      go_simp
      refine (with_any bf la r (wdV rr) w3 HMV.out.2.2.2.2.2.1).mono ?_
      rintro e w4 ⟨rfl, hB4⟩
      have hS4 : Below wA.heap.size wA w4 := hS3.trans (hB4.mono hS3.size)
      refine hK.out _ _ hS4 ?_
      clear hK K hB4
      unfold pastV
      have hp4 : w4.heap[w.heap.size + 1 + 1 + 1]? = some (.cells #[.int .i64 bf, .int .i64 la, .int .i64 (r : Int)] 48 (0, 0)) := (hS4.block _ (Array.getElem?_eq_some_iff.1 HPA.out.1).1).trans HPA.out.1
      have z0 : w4.cell? ⟨w.heap.size + 1 + 1 + 1, 0, none⟩ = some (.int .i64 bf) := cell_of_row _ _ _ _ _ _ hp4
      have z1 : w4.cell? ⟨w.heap.size + 1 + 1 + 1, 1, none⟩ = some (.int .i64 la) := cell_of_row _ _ _ _ _ _ hp4
      have z2 : w4.cell? ⟨w.heap.size + 1 + 1 + 1, 2, none⟩ = some (.int .i64 (r : Int)) := cell_of_row _ _ _ _ _ _ hp4
      have f0 : w4.frozen? ⟨w.heap.size + 1 + 1 + 1, 0, none⟩ = false := frozen_of_row _ _ _ _ _ hp4
      have f1 : w4.frozen? ⟨w.heap.size + 1 + 1 + 1, 1, none⟩ = false := frozen_of_row _ _ _ _ _ hp4
      have f2 : w4.frozen? ⟨w.heap.size + 1 + 1 + 1, 2, none⟩ = false := frozen_of_row _ _ _ _ _ hp4
      obtain ⟨rn, hrn⟩ : ∃ rn : Nat, rn = (if wdV rr = 7 then r + 1 else 0) := ⟨_, rfl⟩
      have HRN : Hid (rn = if wdV rr = 7 then r + 1 else 0) := hrn
      rw [← hrn]
      clear hrn
      obtain ⟨kk, hkk⟩ : ∃ kk, kk = wdV rr := ⟨_, rfl⟩
      have HKK : Hid (kk = wdV rr) := hkk
      rw [← hkk]
      clear hkk
      refine wpAnyB_last (i := 8) rfl (by kernel_rfl) (fun K hK => ?_)
      go_simp
      refine hK.out _ _ ?_
      clear hK K
      refine wpAnyB_done (by kernel_rfl) ?_ _
      refine OnlyN.normal ?_
      have hpF := heap_set_row (cs := _) (j := 2) (u := .int .i64 (rn : Int)) (heap_set_row (cs := _) (j := 1) (u := .int .i64 kk) (heap_set_row (cs := _) (j := 0) (u := .int .i64 la) hp4 rfl) rfl) rfl
      obtain ⟨wF, hwF⟩ : ∃ wF, wF = ((w4.setCell ⟨w.heap.size + 1 + 1 + 1, 0, none⟩ (.int .i64 la)).setCell ⟨w.heap.size + 1 + 1 + 1, 1, none⟩ (.int .i64 kk)).setCell ⟨w.heap.size + 1 + 1 + 1, 2, none⟩ (.int .i64 (rn : Int)) := ⟨_, rfl⟩
      have HFF : Hid (Loose w.heap.size W0.heap.size [w.heap.size + 1 + 1, w.heap.size + 1 + 1 + 1] W wF ∧ (∃ v'', Boxed wF (w.heap.size + 1 + 1) 22 v'' ∧ wF.ownsRow W0.heap.size 3 1 v'' (selR (pre ++ [x]).reverse).length (cellsP5 (selR (pre ++ [x]).reverse)) ∧ True) ∧ wF.heap[w.heap.size + 1 + 1 + 1]? = some (.cells #[.int .i64 la, .int .i64 kk, .int .i64 (rn : Int)] 48 (0, 0))) := by
        have hch : Chg [w.heap.size + 1 + 1 + 1] w4 wF := by rw [hwF]; exact (((Chg.refl [w.heap.size + 1 + 1 + 1] w4).set (by simp) 0 _).set (by simp) 1 _).set (by simp) 2 _
        obtain ⟨hLo, v'', hbv, hrv, _⟩ := HA.out
        refine ⟨⟨?_, ?_, ?_, ?_⟩, ⟨v'', ?_, ?_, trivial⟩, ?_⟩
        · have := hLo.size; have := hS4.size; have := hch.size; omega
        · intro k k1 k2
          simp at k2
          exact (hch.only k (by simp; omega)).trans ((hS4.block k (by have := HPA.out.2.2.2.2.2; omega)).trans (hLo.only k k1 (by simp; omega)))
        · exact (hLo.keeps.trans (keeps_below hS4)).trans hch.keeps
        · exact (hLo.bel.trans (hS4.mono HPA.out.2.2.2.2.1)).trans (hch.bel _ (by intro k hk; simp at hk; omega))
        · exact (hch.only _ (by simp)).trans (boxed_below hbv hS4)
        · rw [hwF]
          exact row_set (row_set (row_set (row_below hrv hS4) (by omega) 0 _) (by omega) 1 _) (by omega) 2 _
        · rw [hwF]; exact hpF
      rw [← hwF]
      clear hwF hpF hp4 z0 z1 z2 f0 f1 f2 hS hS3 hS4
      gi_wp2
      refine ⟨HFF.out.1.keeps.from _, HFF.out.1.kps (by intro k hk; simp at hk ⊢; omega), ⟨HFF.out.2.1, HFF.out.1.cells (by omega) (by simp <;> omega) HYS.out.1, HFF.out.1.cells (by omega) (by simp <;> omega) HYS.out.2.1, ?_⟩, HYS.out.2.2.2.2.2.1.trans HFF.out.1.bel⟩
      rw [HMV.out.1]
      have h2 := HFF.out.2.2
      rw [HRN.out, HMV.out.2.2.1, HMV.out.2.2.2.1, HKK.out] at h2
      exact h2
    | false =>
      have HA : Hid (Loose w.heap.size W0.heap.size [w.heap.size + 1 + 1] W w1 ∧ ∃ v'', Boxed w1 (w.heap.size + 1 + 1) 22 v'' ∧ w1.ownsRow W0.heap.size 3 1 v'' (selR (pre ++ [x]).reverse).length (cellsP5 (selR (pre ++ [x]).reverse)) ∧ True) := by
        refine ⟨HL1.out, v, boxed_below HYS.out.2.2.1 HB1.out, ?_, trivial⟩
        have hs2 : selR (pre ++ [x]).reverse = selR pre.reverse := by have := HMV.out.2.2.2.2.1; simpa using this
        rw [hs2]
        exact row_below HYS.out.2.2.2.1 HB1.out
      gi_wp2_with fail
      obtain ⟨wA, hwA⟩ : ∃ wA, wA = w1 := ⟨_, rfl⟩
      rw [← hwA] at HA
      rw [← hwA]
      clear hwA
      have HPA : Hid (wA.heap[w.heap.size + 1 + 1 + 1]? = some (.cells #[.int .i64 bf, .int .i64 la, .int .i64 (r : Int)] 48 (0, 0)) ∧ Boxed wA w.heap.size 24 (.pointer (some ⟨g, 0, none⟩)) ∧ Boxed wA (w.heap.size + 1) 22 (.slice (some ⟨gi, off, none⟩) l.length cap) ∧ Below w.heap.size w wA ∧ w.heap.size ≤ wA.heap.size ∧ W0.heap.size ≤ wA.heap.size) :=
        ⟨HA.out.1.cells (by omega) (by simp) HPP.out, HA.out.1.cells (by omega) (by simp <;> omega) HYS.out.1, HA.out.1.cells (by omega) (by simp <;> omega) HYS.out.2.1, HYS.out.2.2.2.2.2.1.trans HA.out.1.bel, by have := HA.out.1.size; omega, by have := HA.out.1.size; omega⟩
      have HP0 : Hid (∀ w', Below wA.heap.size wA w' → w'.cell? ⟨w.heap.size + 1 + 1 + 1, 0, none⟩ = some (.int .i64 bf) ∧ w'.cell? ⟨w.heap.size + 1 + 1 + 1, 1, none⟩ = some (.int .i64 la) ∧ w'.cell? ⟨w.heap.size + 1 + 1 + 1, 2, none⟩ = some (.int .i64 (r : Int))) := fun w' hw' => by
        have h := (hw'.block _ (Array.getElem?_eq_some_iff.1 HPA.out.1).1).trans HPA.out.1
        exact ⟨cell_of_row _ _ _ _ _ _ h, cell_of_row _ _ _ _ _ _ h, cell_of_row _ _ _ _ _ _ h⟩
      have HQ0 : Hid (∀ w', Below wA.heap.size wA w' → w'.cell? ⟨w.heap.size, 0, none⟩ = some (.pointer (some ⟨g, 0, none⟩))) := fun w' hw' => (boxed_below HPA.out.2.1 hw').cell
      have HQ1 : Hid (∀ w', Below wA.heap.size wA w' → w'.cell? ⟨w.heap.size + 1, 0, none⟩ = some (.slice (some ⟨gi, off, none⟩) l.length cap)) := fun w' hw' => (boxed_below HPA.out.2.2.1 hw').cell
      have HQX : Hid (∀ w', Below wA.heap.size wA w' → w'.cell? ⟨gi, off + xi, none⟩ = some (.int .i64 rr)) := fun w' hw' => HX.out w' (HPA.out.2.2.2.1.trans (hw'.mono HPA.out.2.2.2.2.1))
      refine wpIn_region_bad (fun w' => Below wA.heap.size wA w') [8] (by kernel_rfl) (by kernel_rfl) ((Below.refl _ _).drew) (fun hS => ?_)
      refine wpAnyB_take [0, 7, 8] (i := 0) (v := .agg #[.int .i64 bf, .int .i64 la, .int .i64 (r : Int)]) rfl (by kernel_rfl) (fun _ _ _ h => h) (Or.inl ⟨by rfl, fun w hSw => by have := HP0.out w hSw; go_simp⟩) hS ?_
      simp only [List.getElem_toArray, List.getElem_cons_zero, Act.put, List.setIfInBounds_toArray, List.set_cons_zero, List.set_cons_succ]
      refine wpAnyB_take [1, 6, 7, 8] (i := 1) (v := .pointer (some ⟨g, 0, none⟩)) rfl (by kernel_rfl) (fun _ _ _ h => h) (Or.inl ⟨by rfl, fun w hSw => by have := HQ0.out w hSw; go_simp⟩) hS ?_
      simp only [List.getElem_toArray, List.getElem_cons_succ, List.getElem_cons_zero, Act.put, List.setIfInBounds_toArray, List.set_cons_zero, List.set_cons_succ]
      refine wpAnyB_take [2, 4, 5, 6, 7, 8] (i := 2) (v := .slice (some ⟨gi, off, none⟩) l.length cap) rfl (by kernel_rfl) (fun _ _ _ h => h) (Or.inl ⟨by rfl, fun w hSw => by have := HQ1.out w hSw; go_simp⟩) hS ?_
      simp only [List.getElem_toArray, List.getElem_cons_succ, List.getElem_cons_zero, Act.put, List.setIfInBounds_toArray, List.set_cons_zero, List.set_cons_succ]
      refine wpAnyB_pure (i := 3) (v := .int .i64 (xi : Int)) rfl (by kernel_rfl) (fun _ _ _ h => h) (Or.inl ⟨by rfl, fun w _ => by go_simp⟩) hS ?_
      simp only [List.getElem_toArray, List.getElem_cons_succ, List.getElem_cons_zero, Act.put, List.setIfInBounds_toArray, List.set_cons_zero, List.set_cons_succ]
      refine wpAnyB_pure (i := 4) (v := .pointer (some ⟨gi, off + xi, none⟩)) rfl (by kernel_rfl) (fun _ _ _ h => h) (Or.inl ⟨by rfl, fun w _ => by go_simp⟩) hS ?_
      simp only [List.getElem_toArray, List.getElem_cons_succ, List.getElem_cons_zero, Act.put, List.setIfInBounds_toArray, List.set_cons_zero, List.set_cons_succ]
      refine wpAnyB_take [5, 6, 7, 8] (i := 5) (v := .int .i64 rr) rfl (by kernel_rfl) (fun _ _ _ h => h) (Or.inl ⟨by rfl, fun w hSw => by have := HQX.out w hSw; go_simp⟩) hS ?_
      simp only [List.getElem_toArray, List.getElem_cons_succ, List.getElem_cons_zero, Act.put, List.setIfInBounds_toArray, List.set_cons_zero, List.set_cons_succ]
      refine wpAnyB_one (i := 6) rfl (by kernel_rfl) (fun K hK => ?_)
      go_simp
      refine (ship_wd wA.drew g rr (HS.out.below (HPA.out.2.2.2.1.trans (hS.mono HPA.out.2.2.2.2.1)))).mono ?_
      rintro e w3 ⟨rfl, hB3⟩
      have hS3 : Below wA.heap.size wA w3 := hS.trans (hB3.mono hS.size)
      refine hK.out _ _ hS3 ?_
      clear hK K hB3
      refine wpAnyB_one (i := 7) rfl (by kernel_rfl) (fun K hK => ?_)
      go_simp
      refine (with_any bf la r (wdV rr) w3 HMV.out.2.2.2.2.2.1).mono ?_
      rintro e w4 ⟨rfl, hB4⟩
      have hS4 : Below wA.heap.size wA w4 := hS3.trans (hB4.mono hS3.size)
      refine hK.out _ _ hS4 ?_
      clear hK K hB4
      unfold pastV
      have hp4 : w4.heap[w.heap.size + 1 + 1 + 1]? = some (.cells #[.int .i64 bf, .int .i64 la, .int .i64 (r : Int)] 48 (0, 0)) := (hS4.block _ (Array.getElem?_eq_some_iff.1 HPA.out.1).1).trans HPA.out.1
      have z0 : w4.cell? ⟨w.heap.size + 1 + 1 + 1, 0, none⟩ = some (.int .i64 bf) := cell_of_row _ _ _ _ _ _ hp4
      have z1 : w4.cell? ⟨w.heap.size + 1 + 1 + 1, 1, none⟩ = some (.int .i64 la) := cell_of_row _ _ _ _ _ _ hp4
      have z2 : w4.cell? ⟨w.heap.size + 1 + 1 + 1, 2, none⟩ = some (.int .i64 (r : Int)) := cell_of_row _ _ _ _ _ _ hp4
      have f0 : w4.frozen? ⟨w.heap.size + 1 + 1 + 1, 0, none⟩ = false := frozen_of_row _ _ _ _ _ hp4
      have f1 : w4.frozen? ⟨w.heap.size + 1 + 1 + 1, 1, none⟩ = false := frozen_of_row _ _ _ _ _ hp4
      have f2 : w4.frozen? ⟨w.heap.size + 1 + 1 + 1, 2, none⟩ = false := frozen_of_row _ _ _ _ _ hp4
      obtain ⟨rn, hrn⟩ : ∃ rn : Nat, rn = (if wdV rr = 7 then r + 1 else 0) := ⟨_, rfl⟩
      have HRN : Hid (rn = if wdV rr = 7 then r + 1 else 0) := hrn
      rw [← hrn]
      clear hrn
      obtain ⟨kk, hkk⟩ : ∃ kk, kk = wdV rr := ⟨_, rfl⟩
      have HKK : Hid (kk = wdV rr) := hkk
      rw [← hkk]
      clear hkk
      refine wpAnyB_last (i := 8) rfl (by kernel_rfl) (fun K hK => ?_)
      go_simp
      refine hK.out _ _ ?_
      clear hK K
      refine wpAnyB_done (by kernel_rfl) ?_ _
      refine OnlyN.normal ?_
      have hpF := heap_set_row (cs := _) (j := 2) (u := .int .i64 (rn : Int)) (heap_set_row (cs := _) (j := 1) (u := .int .i64 kk) (heap_set_row (cs := _) (j := 0) (u := .int .i64 la) hp4 rfl) rfl) rfl
      obtain ⟨wF, hwF⟩ : ∃ wF, wF = ((w4.setCell ⟨w.heap.size + 1 + 1 + 1, 0, none⟩ (.int .i64 la)).setCell ⟨w.heap.size + 1 + 1 + 1, 1, none⟩ (.int .i64 kk)).setCell ⟨w.heap.size + 1 + 1 + 1, 2, none⟩ (.int .i64 (rn : Int)) := ⟨_, rfl⟩
      have HFF : Hid (Loose w.heap.size W0.heap.size [w.heap.size + 1 + 1, w.heap.size + 1 + 1 + 1] W wF ∧ (∃ v'', Boxed wF (w.heap.size + 1 + 1) 22 v'' ∧ wF.ownsRow W0.heap.size 3 1 v'' (selR (pre ++ [x]).reverse).length (cellsP5 (selR (pre ++ [x]).reverse)) ∧ True) ∧ wF.heap[w.heap.size + 1 + 1 + 1]? = some (.cells #[.int .i64 la, .int .i64 kk, .int .i64 (rn : Int)] 48 (0, 0))) := by
        have hch : Chg [w.heap.size + 1 + 1 + 1] w4 wF := by rw [hwF]; exact (((Chg.refl [w.heap.size + 1 + 1 + 1] w4).set (by simp) 0 _).set (by simp) 1 _).set (by simp) 2 _
        obtain ⟨hLo, v'', hbv, hrv, _⟩ := HA.out
        refine ⟨⟨?_, ?_, ?_, ?_⟩, ⟨v'', ?_, ?_, trivial⟩, ?_⟩
        · have := hLo.size; have := hS4.size; have := hch.size; omega
        · intro k k1 k2
          simp at k2
          exact (hch.only k (by simp; omega)).trans ((hS4.block k (by have := HPA.out.2.2.2.2.2; omega)).trans (hLo.only k k1 (by simp; omega)))
        · exact (hLo.keeps.trans (keeps_below hS4)).trans hch.keeps
        · exact (hLo.bel.trans (hS4.mono HPA.out.2.2.2.2.1)).trans (hch.bel _ (by intro k hk; simp at hk; omega))
        · exact (hch.only _ (by simp)).trans (boxed_below hbv hS4)
        · rw [hwF]
          exact row_set (row_set (row_set (row_below hrv hS4) (by omega) 0 _) (by omega) 1 _) (by omega) 2 _
        · rw [hwF]; exact hpF
      rw [← hwF]
      clear hwF hpF hp4 z0 z1 z2 f0 f1 f2 hS hS3 hS4
      gi_wp2
      refine ⟨HFF.out.1.keeps.from _, HFF.out.1.kps (by intro k hk; simp at hk ⊢; omega), ⟨HFF.out.2.1, HFF.out.1.cells (by omega) (by simp <;> omega) HYS.out.1, HFF.out.1.cells (by omega) (by simp <;> omega) HYS.out.2.1, ?_⟩, HYS.out.2.2.2.2.2.1.trans HFF.out.1.bel⟩
      rw [HMV.out.1]
      have h2 := HFF.out.2.2
      rw [HRN.out, HMV.out.2.2.1, HMV.out.2.2.2.1, HKK.out] at h2
      exact h2
  case done =>
    rintro D ys W hD hrun ⟨⟨⟨v, yA, hrow, _⟩, y0, y1, yP⟩, hB⟩ hK
    have hall := sel_all l ys hrun
    have hDl := (Array.getElem?_eq_some_iff.1 hK).1
    have hln : (selR ys.reverse).length ≤ 10000 := by
      have h2 := congrArg List.length hall
      rw [List.length_append, List.length_singleton] at h2
      have := allL_len l
      have := HLN.out
      omega
    have HR : Hid (W.ownsRow W0.heap.size 3 1 v (selR ys.reverse).length (cellsP5 (selR ys.reverse)) ∧ Below w.heap.size w W ∧ W.heap[D]? = some (.deferred (some [])) ∧ selR ys.reverse ++ [l.length] = allL l) := ⟨hrow, hB, hK, hall⟩
    have cA := yA.cell
    have cL := y1.cell
    clear y0 y1 yP hB hK hrun hall
    gi_wp2_with (first | (gi_at_builtin; go_must (refine wpListIn_append_own_at _ rfl _ _ 22 rfl W0.heap.size 3 i0 (.int .i64 0) 1 8 Tryd.underlying22 hi hz0 hz1 hz2 rfl (by decide) _ _ _ rfl (hrow.alloc _) ⟨W.heap.size, 0, none⟩ 1 1 [.int .i64 (l.length : Int)] rfl rfl (World.news_of_block (World.alloc_heap_new _ _)) (by simp [Value.oneCell']) (by unfold maxLen; omega) (by omega) (by simp; omega) ?_); intro v' w2 hown' hgrow hnil hat; have HLA : Hid (Loose w.heap.size W0.heap.size [] W w2) := loose_append HR.out.1 hgrow (by omega) (by omega); have HRA : Hid (w2.ownsRow W0.heap.size 3 1 v' ((selR ys.reverse).length + 1) (cellsP5 (selR ys.reverse) ++ [.int .i64 (l.length : Int)])) := hown'; clear hown' hgrow hnil hat) | fail)
    have hK2 : w2.heap[D]? = some (.deferred (some [])) := HLA.out.keeps.same D _ HR.out.2.2.1 rfl
    refine ⟨by simp, .inl ⟨_, _, rfl, run_takeDeferred hK2, ?_⟩⟩
    have hr2 : w2.ownsRow w.heap.size 3 1 v' (allL l).length (cellsP5 (allL l)) := by
      have h := row_mono HRA.out (show w.heap.size ≤ W0.heap.size by omega)
      rw [← HR.out.2.2.2, cellsP5_snoc, List.length_append, List.length_singleton]
      exact h
    exact ⟨_, results_tmp rfl _ _ _, v', rfl, ownsRow_putObj hr2 _ hK2 rfl, (HR.out.2.1.trans HLA.out.bel).trans (belowK_b (w := w) (Nat.le_refl _) w2 D _ _ (by omega) hK2 rfl rfl)⟩
  case stop =>
    rintro D c pre W _ _ h _
    exact h.elim
theorem all_any (g : Nat) (sv : Value) (l : List Int) (hlen : l.length ≤ 10000) (w : World) (hS : Ship w g) (hI : IntsAt w.heap.size w sv l) :
    Calls Tryd.prog 12 #[.pointer (some ⟨g, 0, none⟩), sv] w fun e W' => ∃ v, e = .returned v ∧ W'.ownsRow w.heap.size 3 1 v (allL l).length (cellsP5 (allL l)) ∧ Below w.heap.size w W' :=
  callsIn_wide.1 (all_in 3 (Nat.le_refl _) g sv l hlen w hS hI)
end Go.Proofs.YtpmlbdfdiebkcaaDoor
