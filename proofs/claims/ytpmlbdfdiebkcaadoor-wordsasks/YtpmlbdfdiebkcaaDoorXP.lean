/-
  words.pastOf: what stands ahead of a place. words.Break: whether a word ends at a place.
-/
import Derived.Test.YtpmlbdfdiebkcaaDoorChg6
import Derived.RegionIn
import Derived.BigRegionIn
namespace Go.Proofs.YtpmlbdfdiebkcaaDoor
open Go.RowKit Go.Shelf
set_option linter.unusedVariables false
attribute [local go_sem] Oper.semAt_some

set_option maxRecDepth 100000 in
set_option maxHeartbeats 4000000 in
theorem past_in (n : Nat) (hn : 3 ≤ n) (g : Nat) (sv : Value) (l : List Int) (hlen : l.length ≤ 10000) (i : Nat) (hi : i ≤ l.length) (w : World) (hS : Ship w g) (hI : IntsAt w.heap.size w sv l) :
    CallsIn Fence.wide n Tryd.prog 28 #[.pointer (some ⟨g, 0, none⟩), sv, .int .i64 (i : Int)] w fun e W' => e = .returned (pastV ((hk l i)[1]?.getD 0) ((hk l i)[0]?.getD 0) (regK (hk l i) : Int)) ∧ Below w.heap.size w W' := by
  have HI : Hid (IntsAt w.heap.size w sv l) := hI
  have HS : Hid (Ship w g) := hS
  have HLN : Hid (l.length ≤ 10000 ∧ i ≤ l.length) := ⟨hlen, hi⟩
  obtain ⟨a, cap, hsv, _, _⟩ := hI
  subst hsv
  have h1 : 1 ≤ n := by omega
  have hwi : IntKind.i64.wrap ((i : Int) - 1) = (i : Int) - 1 := wrap_int (by omega) (by omega)
  clear hS hlen hi
  refine callsIn_of_wp_marks Tryd.func28 rfl trivial ?_ rfl
  simp only [Tryd.ntmps28, List.size_toArray, List.length_cons, List.length_nil, Nat.reduceAdd, Nat.reduceSub, Array.replicate_succ, Array.replicate_zero, List.push_toArray, List.append_toArray, List.nil_append, List.cons_append]
  gi_wp2_with (refine ⟨trivial, ?_⟩; gi_at_call 23; refine (heads_in (n - 1) g _ _ _ _ _ _).mono ?_; rintro e w' ⟨rfl, rfl⟩)
  have hsz : (((((((((w.alloc (.cells #[.pointer (some ⟨g, 0, none⟩)] 24)).alloc (.cells #[.slice a l.length cap] 22)).alloc (.cells #[.int .i64 0, .int .i64 0, .int .i64 0] 48)).alloc (.cells #[.int .i64 0, .int .i64 0, .int .i64 0] 48)).alloc (.cells #[.int .i64 0] 3)).alloc (.cells #[.pointer (some ⟨g, 0, none⟩)] 24)).alloc (.cells #[.slice a l.length cap] 22)).alloc (.cells #[.int .i64 ((i : Int) - 1)] 3)).alloc (.cells #[.int .i64 (-1)] 3)).heap.size = w.heap.size + 9 := by simp
  have hB0 : Below w.heap.size w (((((((((w.alloc (.cells #[.pointer (some ⟨g, 0, none⟩)] 24)).alloc (.cells #[.slice a l.length cap] 22)).alloc (.cells #[.int .i64 0, .int .i64 0, .int .i64 0] 48)).alloc (.cells #[.int .i64 0, .int .i64 0, .int .i64 0] 48)).alloc (.cells #[.int .i64 0] 3)).alloc (.cells #[.pointer (some ⟨g, 0, none⟩)] 24)).alloc (.cells #[.slice a l.length cap] 22)).alloc (.cells #[.int .i64 ((i : Int) - 1)] 3)).alloc (.cells #[.int .i64 (-1)] 3)) := ((((((((((Below.refl _ w).alloc (Nat.le_refl _) _).alloc (by simp) _).alloc (by simp; omega) _).alloc (by simp; omega) _).alloc (by simp; omega) _).alloc (by simp; omega) _).alloc (by simp; omega) _).alloc (by simp; omega) _).alloc (by simp; omega) _)
  have b0 : (((((((((w.alloc (.cells #[.pointer (some ⟨g, 0, none⟩)] 24)).alloc (.cells #[.slice a l.length cap] 22)).alloc (.cells #[.int .i64 0, .int .i64 0, .int .i64 0] 48)).alloc (.cells #[.int .i64 0, .int .i64 0, .int .i64 0] 48)).alloc (.cells #[.int .i64 0] 3)).alloc (.cells #[.pointer (some ⟨g, 0, none⟩)] 24)).alloc (.cells #[.slice a l.length cap] 22)).alloc (.cells #[.int .i64 ((i : Int) - 1)] 3)).alloc (.cells #[.int .i64 (-1)] 3)).heap[w.heap.size]? = some (.cells #[.pointer (some ⟨g, 0, none⟩)] 24 (0, 0)) := by
    have h := heap_new' w (.cells #[.pointer (some ⟨g, 0, none⟩)] 24)
    replace h := (Below.heap_alloc (w.alloc (.cells #[.pointer (some ⟨g, 0, none⟩)] 24)) (.cells #[.slice a l.length cap] 22) _ (by simp <;> omega)).trans h
    replace h := (Below.heap_alloc ((w.alloc (.cells #[.pointer (some ⟨g, 0, none⟩)] 24)).alloc (.cells #[.slice a l.length cap] 22)) (.cells #[.int .i64 0, .int .i64 0, .int .i64 0] 48) _ (by simp <;> omega)).trans h
    replace h := (Below.heap_alloc (((w.alloc (.cells #[.pointer (some ⟨g, 0, none⟩)] 24)).alloc (.cells #[.slice a l.length cap] 22)).alloc (.cells #[.int .i64 0, .int .i64 0, .int .i64 0] 48)) (.cells #[.int .i64 0, .int .i64 0, .int .i64 0] 48) _ (by simp <;> omega)).trans h
    replace h := (Below.heap_alloc ((((w.alloc (.cells #[.pointer (some ⟨g, 0, none⟩)] 24)).alloc (.cells #[.slice a l.length cap] 22)).alloc (.cells #[.int .i64 0, .int .i64 0, .int .i64 0] 48)).alloc (.cells #[.int .i64 0, .int .i64 0, .int .i64 0] 48)) (.cells #[.int .i64 0] 3) _ (by simp <;> omega)).trans h
    replace h := (Below.heap_alloc (((((w.alloc (.cells #[.pointer (some ⟨g, 0, none⟩)] 24)).alloc (.cells #[.slice a l.length cap] 22)).alloc (.cells #[.int .i64 0, .int .i64 0, .int .i64 0] 48)).alloc (.cells #[.int .i64 0, .int .i64 0, .int .i64 0] 48)).alloc (.cells #[.int .i64 0] 3)) (.cells #[.pointer (some ⟨g, 0, none⟩)] 24) _ (by simp <;> omega)).trans h
    replace h := (Below.heap_alloc ((((((w.alloc (.cells #[.pointer (some ⟨g, 0, none⟩)] 24)).alloc (.cells #[.slice a l.length cap] 22)).alloc (.cells #[.int .i64 0, .int .i64 0, .int .i64 0] 48)).alloc (.cells #[.int .i64 0, .int .i64 0, .int .i64 0] 48)).alloc (.cells #[.int .i64 0] 3)).alloc (.cells #[.pointer (some ⟨g, 0, none⟩)] 24)) (.cells #[.slice a l.length cap] 22) _ (by simp <;> omega)).trans h
    replace h := (Below.heap_alloc (((((((w.alloc (.cells #[.pointer (some ⟨g, 0, none⟩)] 24)).alloc (.cells #[.slice a l.length cap] 22)).alloc (.cells #[.int .i64 0, .int .i64 0, .int .i64 0] 48)).alloc (.cells #[.int .i64 0, .int .i64 0, .int .i64 0] 48)).alloc (.cells #[.int .i64 0] 3)).alloc (.cells #[.pointer (some ⟨g, 0, none⟩)] 24)).alloc (.cells #[.slice a l.length cap] 22)) (.cells #[.int .i64 ((i : Int) - 1)] 3) _ (by simp <;> omega)).trans h
    replace h := (Below.heap_alloc ((((((((w.alloc (.cells #[.pointer (some ⟨g, 0, none⟩)] 24)).alloc (.cells #[.slice a l.length cap] 22)).alloc (.cells #[.int .i64 0, .int .i64 0, .int .i64 0] 48)).alloc (.cells #[.int .i64 0, .int .i64 0, .int .i64 0] 48)).alloc (.cells #[.int .i64 0] 3)).alloc (.cells #[.pointer (some ⟨g, 0, none⟩)] 24)).alloc (.cells #[.slice a l.length cap] 22)).alloc (.cells #[.int .i64 ((i : Int) - 1)] 3)) (.cells #[.int .i64 (-1)] 3) _ (by simp <;> omega)).trans h
    exact h
  have b1 : (((((((((w.alloc (.cells #[.pointer (some ⟨g, 0, none⟩)] 24)).alloc (.cells #[.slice a l.length cap] 22)).alloc (.cells #[.int .i64 0, .int .i64 0, .int .i64 0] 48)).alloc (.cells #[.int .i64 0, .int .i64 0, .int .i64 0] 48)).alloc (.cells #[.int .i64 0] 3)).alloc (.cells #[.pointer (some ⟨g, 0, none⟩)] 24)).alloc (.cells #[.slice a l.length cap] 22)).alloc (.cells #[.int .i64 ((i : Int) - 1)] 3)).alloc (.cells #[.int .i64 (-1)] 3)).heap[w.heap.size + 1]? = some (.cells #[.slice a l.length cap] 22 (0, 0)) := by
    have h := heap_new' (w.alloc (.cells #[.pointer (some ⟨g, 0, none⟩)] 24)) (.cells #[.slice a l.length cap] 22)
    simp only [World.size_alloc] at h
    replace h := (Below.heap_alloc ((w.alloc (.cells #[.pointer (some ⟨g, 0, none⟩)] 24)).alloc (.cells #[.slice a l.length cap] 22)) (.cells #[.int .i64 0, .int .i64 0, .int .i64 0] 48) _ (by simp <;> omega)).trans h
    replace h := (Below.heap_alloc (((w.alloc (.cells #[.pointer (some ⟨g, 0, none⟩)] 24)).alloc (.cells #[.slice a l.length cap] 22)).alloc (.cells #[.int .i64 0, .int .i64 0, .int .i64 0] 48)) (.cells #[.int .i64 0, .int .i64 0, .int .i64 0] 48) _ (by simp <;> omega)).trans h
    replace h := (Below.heap_alloc ((((w.alloc (.cells #[.pointer (some ⟨g, 0, none⟩)] 24)).alloc (.cells #[.slice a l.length cap] 22)).alloc (.cells #[.int .i64 0, .int .i64 0, .int .i64 0] 48)).alloc (.cells #[.int .i64 0, .int .i64 0, .int .i64 0] 48)) (.cells #[.int .i64 0] 3) _ (by simp <;> omega)).trans h
    replace h := (Below.heap_alloc (((((w.alloc (.cells #[.pointer (some ⟨g, 0, none⟩)] 24)).alloc (.cells #[.slice a l.length cap] 22)).alloc (.cells #[.int .i64 0, .int .i64 0, .int .i64 0] 48)).alloc (.cells #[.int .i64 0, .int .i64 0, .int .i64 0] 48)).alloc (.cells #[.int .i64 0] 3)) (.cells #[.pointer (some ⟨g, 0, none⟩)] 24) _ (by simp <;> omega)).trans h
    replace h := (Below.heap_alloc ((((((w.alloc (.cells #[.pointer (some ⟨g, 0, none⟩)] 24)).alloc (.cells #[.slice a l.length cap] 22)).alloc (.cells #[.int .i64 0, .int .i64 0, .int .i64 0] 48)).alloc (.cells #[.int .i64 0, .int .i64 0, .int .i64 0] 48)).alloc (.cells #[.int .i64 0] 3)).alloc (.cells #[.pointer (some ⟨g, 0, none⟩)] 24)) (.cells #[.slice a l.length cap] 22) _ (by simp <;> omega)).trans h
    replace h := (Below.heap_alloc (((((((w.alloc (.cells #[.pointer (some ⟨g, 0, none⟩)] 24)).alloc (.cells #[.slice a l.length cap] 22)).alloc (.cells #[.int .i64 0, .int .i64 0, .int .i64 0] 48)).alloc (.cells #[.int .i64 0, .int .i64 0, .int .i64 0] 48)).alloc (.cells #[.int .i64 0] 3)).alloc (.cells #[.pointer (some ⟨g, 0, none⟩)] 24)).alloc (.cells #[.slice a l.length cap] 22)) (.cells #[.int .i64 ((i : Int) - 1)] 3) _ (by simp <;> omega)).trans h
    replace h := (Below.heap_alloc ((((((((w.alloc (.cells #[.pointer (some ⟨g, 0, none⟩)] 24)).alloc (.cells #[.slice a l.length cap] 22)).alloc (.cells #[.int .i64 0, .int .i64 0, .int .i64 0] 48)).alloc (.cells #[.int .i64 0, .int .i64 0, .int .i64 0] 48)).alloc (.cells #[.int .i64 0] 3)).alloc (.cells #[.pointer (some ⟨g, 0, none⟩)] 24)).alloc (.cells #[.slice a l.length cap] 22)).alloc (.cells #[.int .i64 ((i : Int) - 1)] 3)) (.cells #[.int .i64 (-1)] 3) _ (by simp <;> omega)).trans h
    exact h
  have b2 : (((((((((w.alloc (.cells #[.pointer (some ⟨g, 0, none⟩)] 24)).alloc (.cells #[.slice a l.length cap] 22)).alloc (.cells #[.int .i64 0, .int .i64 0, .int .i64 0] 48)).alloc (.cells #[.int .i64 0, .int .i64 0, .int .i64 0] 48)).alloc (.cells #[.int .i64 0] 3)).alloc (.cells #[.pointer (some ⟨g, 0, none⟩)] 24)).alloc (.cells #[.slice a l.length cap] 22)).alloc (.cells #[.int .i64 ((i : Int) - 1)] 3)).alloc (.cells #[.int .i64 (-1)] 3)).heap[w.heap.size + 2]? = some (.cells #[.int .i64 0, .int .i64 0, .int .i64 0] 48 (0, 0)) := by
    have h := heap_new' ((w.alloc (.cells #[.pointer (some ⟨g, 0, none⟩)] 24)).alloc (.cells #[.slice a l.length cap] 22)) (.cells #[.int .i64 0, .int .i64 0, .int .i64 0] 48)
    simp only [World.size_alloc] at h
    replace h := (Below.heap_alloc (((w.alloc (.cells #[.pointer (some ⟨g, 0, none⟩)] 24)).alloc (.cells #[.slice a l.length cap] 22)).alloc (.cells #[.int .i64 0, .int .i64 0, .int .i64 0] 48)) (.cells #[.int .i64 0, .int .i64 0, .int .i64 0] 48) _ (by simp <;> omega)).trans h
    replace h := (Below.heap_alloc ((((w.alloc (.cells #[.pointer (some ⟨g, 0, none⟩)] 24)).alloc (.cells #[.slice a l.length cap] 22)).alloc (.cells #[.int .i64 0, .int .i64 0, .int .i64 0] 48)).alloc (.cells #[.int .i64 0, .int .i64 0, .int .i64 0] 48)) (.cells #[.int .i64 0] 3) _ (by simp <;> omega)).trans h
    replace h := (Below.heap_alloc (((((w.alloc (.cells #[.pointer (some ⟨g, 0, none⟩)] 24)).alloc (.cells #[.slice a l.length cap] 22)).alloc (.cells #[.int .i64 0, .int .i64 0, .int .i64 0] 48)).alloc (.cells #[.int .i64 0, .int .i64 0, .int .i64 0] 48)).alloc (.cells #[.int .i64 0] 3)) (.cells #[.pointer (some ⟨g, 0, none⟩)] 24) _ (by simp <;> omega)).trans h
    replace h := (Below.heap_alloc ((((((w.alloc (.cells #[.pointer (some ⟨g, 0, none⟩)] 24)).alloc (.cells #[.slice a l.length cap] 22)).alloc (.cells #[.int .i64 0, .int .i64 0, .int .i64 0] 48)).alloc (.cells #[.int .i64 0, .int .i64 0, .int .i64 0] 48)).alloc (.cells #[.int .i64 0] 3)).alloc (.cells #[.pointer (some ⟨g, 0, none⟩)] 24)) (.cells #[.slice a l.length cap] 22) _ (by simp <;> omega)).trans h
    replace h := (Below.heap_alloc (((((((w.alloc (.cells #[.pointer (some ⟨g, 0, none⟩)] 24)).alloc (.cells #[.slice a l.length cap] 22)).alloc (.cells #[.int .i64 0, .int .i64 0, .int .i64 0] 48)).alloc (.cells #[.int .i64 0, .int .i64 0, .int .i64 0] 48)).alloc (.cells #[.int .i64 0] 3)).alloc (.cells #[.pointer (some ⟨g, 0, none⟩)] 24)).alloc (.cells #[.slice a l.length cap] 22)) (.cells #[.int .i64 ((i : Int) - 1)] 3) _ (by simp <;> omega)).trans h
    replace h := (Below.heap_alloc ((((((((w.alloc (.cells #[.pointer (some ⟨g, 0, none⟩)] 24)).alloc (.cells #[.slice a l.length cap] 22)).alloc (.cells #[.int .i64 0, .int .i64 0, .int .i64 0] 48)).alloc (.cells #[.int .i64 0, .int .i64 0, .int .i64 0] 48)).alloc (.cells #[.int .i64 0] 3)).alloc (.cells #[.pointer (some ⟨g, 0, none⟩)] 24)).alloc (.cells #[.slice a l.length cap] 22)).alloc (.cells #[.int .i64 ((i : Int) - 1)] 3)) (.cells #[.int .i64 (-1)] 3) _ (by simp <;> omega)).trans h
    exact h
  have b3 : (((((((((w.alloc (.cells #[.pointer (some ⟨g, 0, none⟩)] 24)).alloc (.cells #[.slice a l.length cap] 22)).alloc (.cells #[.int .i64 0, .int .i64 0, .int .i64 0] 48)).alloc (.cells #[.int .i64 0, .int .i64 0, .int .i64 0] 48)).alloc (.cells #[.int .i64 0] 3)).alloc (.cells #[.pointer (some ⟨g, 0, none⟩)] 24)).alloc (.cells #[.slice a l.length cap] 22)).alloc (.cells #[.int .i64 ((i : Int) - 1)] 3)).alloc (.cells #[.int .i64 (-1)] 3)).heap[w.heap.size + 3]? = some (.cells #[.int .i64 0, .int .i64 0, .int .i64 0] 48 (0, 0)) := by
    have h := heap_new' (((w.alloc (.cells #[.pointer (some ⟨g, 0, none⟩)] 24)).alloc (.cells #[.slice a l.length cap] 22)).alloc (.cells #[.int .i64 0, .int .i64 0, .int .i64 0] 48)) (.cells #[.int .i64 0, .int .i64 0, .int .i64 0] 48)
    simp only [World.size_alloc] at h
    replace h := (Below.heap_alloc ((((w.alloc (.cells #[.pointer (some ⟨g, 0, none⟩)] 24)).alloc (.cells #[.slice a l.length cap] 22)).alloc (.cells #[.int .i64 0, .int .i64 0, .int .i64 0] 48)).alloc (.cells #[.int .i64 0, .int .i64 0, .int .i64 0] 48)) (.cells #[.int .i64 0] 3) _ (by simp <;> omega)).trans h
    replace h := (Below.heap_alloc (((((w.alloc (.cells #[.pointer (some ⟨g, 0, none⟩)] 24)).alloc (.cells #[.slice a l.length cap] 22)).alloc (.cells #[.int .i64 0, .int .i64 0, .int .i64 0] 48)).alloc (.cells #[.int .i64 0, .int .i64 0, .int .i64 0] 48)).alloc (.cells #[.int .i64 0] 3)) (.cells #[.pointer (some ⟨g, 0, none⟩)] 24) _ (by simp <;> omega)).trans h
    replace h := (Below.heap_alloc ((((((w.alloc (.cells #[.pointer (some ⟨g, 0, none⟩)] 24)).alloc (.cells #[.slice a l.length cap] 22)).alloc (.cells #[.int .i64 0, .int .i64 0, .int .i64 0] 48)).alloc (.cells #[.int .i64 0, .int .i64 0, .int .i64 0] 48)).alloc (.cells #[.int .i64 0] 3)).alloc (.cells #[.pointer (some ⟨g, 0, none⟩)] 24)) (.cells #[.slice a l.length cap] 22) _ (by simp <;> omega)).trans h
    replace h := (Below.heap_alloc (((((((w.alloc (.cells #[.pointer (some ⟨g, 0, none⟩)] 24)).alloc (.cells #[.slice a l.length cap] 22)).alloc (.cells #[.int .i64 0, .int .i64 0, .int .i64 0] 48)).alloc (.cells #[.int .i64 0, .int .i64 0, .int .i64 0] 48)).alloc (.cells #[.int .i64 0] 3)).alloc (.cells #[.pointer (some ⟨g, 0, none⟩)] 24)).alloc (.cells #[.slice a l.length cap] 22)) (.cells #[.int .i64 ((i : Int) - 1)] 3) _ (by simp <;> omega)).trans h
    replace h := (Below.heap_alloc ((((((((w.alloc (.cells #[.pointer (some ⟨g, 0, none⟩)] 24)).alloc (.cells #[.slice a l.length cap] 22)).alloc (.cells #[.int .i64 0, .int .i64 0, .int .i64 0] 48)).alloc (.cells #[.int .i64 0, .int .i64 0, .int .i64 0] 48)).alloc (.cells #[.int .i64 0] 3)).alloc (.cells #[.pointer (some ⟨g, 0, none⟩)] 24)).alloc (.cells #[.slice a l.length cap] 22)).alloc (.cells #[.int .i64 ((i : Int) - 1)] 3)) (.cells #[.int .i64 (-1)] 3) _ (by simp <;> omega)).trans h
    exact h
  have b4 : (((((((((w.alloc (.cells #[.pointer (some ⟨g, 0, none⟩)] 24)).alloc (.cells #[.slice a l.length cap] 22)).alloc (.cells #[.int .i64 0, .int .i64 0, .int .i64 0] 48)).alloc (.cells #[.int .i64 0, .int .i64 0, .int .i64 0] 48)).alloc (.cells #[.int .i64 0] 3)).alloc (.cells #[.pointer (some ⟨g, 0, none⟩)] 24)).alloc (.cells #[.slice a l.length cap] 22)).alloc (.cells #[.int .i64 ((i : Int) - 1)] 3)).alloc (.cells #[.int .i64 (-1)] 3)).heap[w.heap.size + 4]? = some (.cells #[.int .i64 0] 3 (0, 0)) := by
    have h := heap_new' ((((w.alloc (.cells #[.pointer (some ⟨g, 0, none⟩)] 24)).alloc (.cells #[.slice a l.length cap] 22)).alloc (.cells #[.int .i64 0, .int .i64 0, .int .i64 0] 48)).alloc (.cells #[.int .i64 0, .int .i64 0, .int .i64 0] 48)) (.cells #[.int .i64 0] 3)
    simp only [World.size_alloc] at h
    replace h := (Below.heap_alloc (((((w.alloc (.cells #[.pointer (some ⟨g, 0, none⟩)] 24)).alloc (.cells #[.slice a l.length cap] 22)).alloc (.cells #[.int .i64 0, .int .i64 0, .int .i64 0] 48)).alloc (.cells #[.int .i64 0, .int .i64 0, .int .i64 0] 48)).alloc (.cells #[.int .i64 0] 3)) (.cells #[.pointer (some ⟨g, 0, none⟩)] 24) _ (by simp <;> omega)).trans h
    replace h := (Below.heap_alloc ((((((w.alloc (.cells #[.pointer (some ⟨g, 0, none⟩)] 24)).alloc (.cells #[.slice a l.length cap] 22)).alloc (.cells #[.int .i64 0, .int .i64 0, .int .i64 0] 48)).alloc (.cells #[.int .i64 0, .int .i64 0, .int .i64 0] 48)).alloc (.cells #[.int .i64 0] 3)).alloc (.cells #[.pointer (some ⟨g, 0, none⟩)] 24)) (.cells #[.slice a l.length cap] 22) _ (by simp <;> omega)).trans h
    replace h := (Below.heap_alloc (((((((w.alloc (.cells #[.pointer (some ⟨g, 0, none⟩)] 24)).alloc (.cells #[.slice a l.length cap] 22)).alloc (.cells #[.int .i64 0, .int .i64 0, .int .i64 0] 48)).alloc (.cells #[.int .i64 0, .int .i64 0, .int .i64 0] 48)).alloc (.cells #[.int .i64 0] 3)).alloc (.cells #[.pointer (some ⟨g, 0, none⟩)] 24)).alloc (.cells #[.slice a l.length cap] 22)) (.cells #[.int .i64 ((i : Int) - 1)] 3) _ (by simp <;> omega)).trans h
    replace h := (Below.heap_alloc ((((((((w.alloc (.cells #[.pointer (some ⟨g, 0, none⟩)] 24)).alloc (.cells #[.slice a l.length cap] 22)).alloc (.cells #[.int .i64 0, .int .i64 0, .int .i64 0] 48)).alloc (.cells #[.int .i64 0, .int .i64 0, .int .i64 0] 48)).alloc (.cells #[.int .i64 0] 3)).alloc (.cells #[.pointer (some ⟨g, 0, none⟩)] 24)).alloc (.cells #[.slice a l.length cap] 22)).alloc (.cells #[.int .i64 ((i : Int) - 1)] 3)) (.cells #[.int .i64 (-1)] 3) _ (by simp <;> omega)).trans h
    exact h
  have b5 : (((((((((w.alloc (.cells #[.pointer (some ⟨g, 0, none⟩)] 24)).alloc (.cells #[.slice a l.length cap] 22)).alloc (.cells #[.int .i64 0, .int .i64 0, .int .i64 0] 48)).alloc (.cells #[.int .i64 0, .int .i64 0, .int .i64 0] 48)).alloc (.cells #[.int .i64 0] 3)).alloc (.cells #[.pointer (some ⟨g, 0, none⟩)] 24)).alloc (.cells #[.slice a l.length cap] 22)).alloc (.cells #[.int .i64 ((i : Int) - 1)] 3)).alloc (.cells #[.int .i64 (-1)] 3)).heap[w.heap.size + 5]? = some (.cells #[.pointer (some ⟨g, 0, none⟩)] 24 (0, 0)) := by
    have h := heap_new' (((((w.alloc (.cells #[.pointer (some ⟨g, 0, none⟩)] 24)).alloc (.cells #[.slice a l.length cap] 22)).alloc (.cells #[.int .i64 0, .int .i64 0, .int .i64 0] 48)).alloc (.cells #[.int .i64 0, .int .i64 0, .int .i64 0] 48)).alloc (.cells #[.int .i64 0] 3)) (.cells #[.pointer (some ⟨g, 0, none⟩)] 24)
    simp only [World.size_alloc] at h
    replace h := (Below.heap_alloc ((((((w.alloc (.cells #[.pointer (some ⟨g, 0, none⟩)] 24)).alloc (.cells #[.slice a l.length cap] 22)).alloc (.cells #[.int .i64 0, .int .i64 0, .int .i64 0] 48)).alloc (.cells #[.int .i64 0, .int .i64 0, .int .i64 0] 48)).alloc (.cells #[.int .i64 0] 3)).alloc (.cells #[.pointer (some ⟨g, 0, none⟩)] 24)) (.cells #[.slice a l.length cap] 22) _ (by simp <;> omega)).trans h
    replace h := (Below.heap_alloc (((((((w.alloc (.cells #[.pointer (some ⟨g, 0, none⟩)] 24)).alloc (.cells #[.slice a l.length cap] 22)).alloc (.cells #[.int .i64 0, .int .i64 0, .int .i64 0] 48)).alloc (.cells #[.int .i64 0, .int .i64 0, .int .i64 0] 48)).alloc (.cells #[.int .i64 0] 3)).alloc (.cells #[.pointer (some ⟨g, 0, none⟩)] 24)).alloc (.cells #[.slice a l.length cap] 22)) (.cells #[.int .i64 ((i : Int) - 1)] 3) _ (by simp <;> omega)).trans h
    replace h := (Below.heap_alloc ((((((((w.alloc (.cells #[.pointer (some ⟨g, 0, none⟩)] 24)).alloc (.cells #[.slice a l.length cap] 22)).alloc (.cells #[.int .i64 0, .int .i64 0, .int .i64 0] 48)).alloc (.cells #[.int .i64 0, .int .i64 0, .int .i64 0] 48)).alloc (.cells #[.int .i64 0] 3)).alloc (.cells #[.pointer (some ⟨g, 0, none⟩)] 24)).alloc (.cells #[.slice a l.length cap] 22)).alloc (.cells #[.int .i64 ((i : Int) - 1)] 3)) (.cells #[.int .i64 (-1)] 3) _ (by simp <;> omega)).trans h
    exact h
  have b6 : (((((((((w.alloc (.cells #[.pointer (some ⟨g, 0, none⟩)] 24)).alloc (.cells #[.slice a l.length cap] 22)).alloc (.cells #[.int .i64 0, .int .i64 0, .int .i64 0] 48)).alloc (.cells #[.int .i64 0, .int .i64 0, .int .i64 0] 48)).alloc (.cells #[.int .i64 0] 3)).alloc (.cells #[.pointer (some ⟨g, 0, none⟩)] 24)).alloc (.cells #[.slice a l.length cap] 22)).alloc (.cells #[.int .i64 ((i : Int) - 1)] 3)).alloc (.cells #[.int .i64 (-1)] 3)).heap[w.heap.size + 6]? = some (.cells #[.slice a l.length cap] 22 (0, 0)) := by
    have h := heap_new' ((((((w.alloc (.cells #[.pointer (some ⟨g, 0, none⟩)] 24)).alloc (.cells #[.slice a l.length cap] 22)).alloc (.cells #[.int .i64 0, .int .i64 0, .int .i64 0] 48)).alloc (.cells #[.int .i64 0, .int .i64 0, .int .i64 0] 48)).alloc (.cells #[.int .i64 0] 3)).alloc (.cells #[.pointer (some ⟨g, 0, none⟩)] 24)) (.cells #[.slice a l.length cap] 22)
    simp only [World.size_alloc] at h
    replace h := (Below.heap_alloc (((((((w.alloc (.cells #[.pointer (some ⟨g, 0, none⟩)] 24)).alloc (.cells #[.slice a l.length cap] 22)).alloc (.cells #[.int .i64 0, .int .i64 0, .int .i64 0] 48)).alloc (.cells #[.int .i64 0, .int .i64 0, .int .i64 0] 48)).alloc (.cells #[.int .i64 0] 3)).alloc (.cells #[.pointer (some ⟨g, 0, none⟩)] 24)).alloc (.cells #[.slice a l.length cap] 22)) (.cells #[.int .i64 ((i : Int) - 1)] 3) _ (by simp <;> omega)).trans h
    replace h := (Below.heap_alloc ((((((((w.alloc (.cells #[.pointer (some ⟨g, 0, none⟩)] 24)).alloc (.cells #[.slice a l.length cap] 22)).alloc (.cells #[.int .i64 0, .int .i64 0, .int .i64 0] 48)).alloc (.cells #[.int .i64 0, .int .i64 0, .int .i64 0] 48)).alloc (.cells #[.int .i64 0] 3)).alloc (.cells #[.pointer (some ⟨g, 0, none⟩)] 24)).alloc (.cells #[.slice a l.length cap] 22)).alloc (.cells #[.int .i64 ((i : Int) - 1)] 3)) (.cells #[.int .i64 (-1)] 3) _ (by simp <;> omega)).trans h
    exact h
  have b7 : (((((((((w.alloc (.cells #[.pointer (some ⟨g, 0, none⟩)] 24)).alloc (.cells #[.slice a l.length cap] 22)).alloc (.cells #[.int .i64 0, .int .i64 0, .int .i64 0] 48)).alloc (.cells #[.int .i64 0, .int .i64 0, .int .i64 0] 48)).alloc (.cells #[.int .i64 0] 3)).alloc (.cells #[.pointer (some ⟨g, 0, none⟩)] 24)).alloc (.cells #[.slice a l.length cap] 22)).alloc (.cells #[.int .i64 ((i : Int) - 1)] 3)).alloc (.cells #[.int .i64 (-1)] 3)).heap[w.heap.size + 7]? = some (.cells #[.int .i64 ((i : Int) - 1)] 3 (0, 0)) := by
    have h := heap_new' (((((((w.alloc (.cells #[.pointer (some ⟨g, 0, none⟩)] 24)).alloc (.cells #[.slice a l.length cap] 22)).alloc (.cells #[.int .i64 0, .int .i64 0, .int .i64 0] 48)).alloc (.cells #[.int .i64 0, .int .i64 0, .int .i64 0] 48)).alloc (.cells #[.int .i64 0] 3)).alloc (.cells #[.pointer (some ⟨g, 0, none⟩)] 24)).alloc (.cells #[.slice a l.length cap] 22)) (.cells #[.int .i64 ((i : Int) - 1)] 3)
    simp only [World.size_alloc] at h
    replace h := (Below.heap_alloc ((((((((w.alloc (.cells #[.pointer (some ⟨g, 0, none⟩)] 24)).alloc (.cells #[.slice a l.length cap] 22)).alloc (.cells #[.int .i64 0, .int .i64 0, .int .i64 0] 48)).alloc (.cells #[.int .i64 0, .int .i64 0, .int .i64 0] 48)).alloc (.cells #[.int .i64 0] 3)).alloc (.cells #[.pointer (some ⟨g, 0, none⟩)] 24)).alloc (.cells #[.slice a l.length cap] 22)).alloc (.cells #[.int .i64 ((i : Int) - 1)] 3)) (.cells #[.int .i64 (-1)] 3) _ (by simp <;> omega)).trans h
    exact h
  have b8 : (((((((((w.alloc (.cells #[.pointer (some ⟨g, 0, none⟩)] 24)).alloc (.cells #[.slice a l.length cap] 22)).alloc (.cells #[.int .i64 0, .int .i64 0, .int .i64 0] 48)).alloc (.cells #[.int .i64 0, .int .i64 0, .int .i64 0] 48)).alloc (.cells #[.int .i64 0] 3)).alloc (.cells #[.pointer (some ⟨g, 0, none⟩)] 24)).alloc (.cells #[.slice a l.length cap] 22)).alloc (.cells #[.int .i64 ((i : Int) - 1)] 3)).alloc (.cells #[.int .i64 (-1)] 3)).heap[w.heap.size + 8]? = some (.cells #[.int .i64 (-1)] 3 (0, 0)) := by
    have h := heap_new' ((((((((w.alloc (.cells #[.pointer (some ⟨g, 0, none⟩)] 24)).alloc (.cells #[.slice a l.length cap] 22)).alloc (.cells #[.int .i64 0, .int .i64 0, .int .i64 0] 48)).alloc (.cells #[.int .i64 0, .int .i64 0, .int .i64 0] 48)).alloc (.cells #[.int .i64 0] 3)).alloc (.cells #[.pointer (some ⟨g, 0, none⟩)] 24)).alloc (.cells #[.slice a l.length cap] 22)).alloc (.cells #[.int .i64 ((i : Int) - 1)] 3)) (.cells #[.int .i64 (-1)] 3)
    simp only [World.size_alloc] at h
    exact h
  obtain ⟨W0, hW0⟩ : ∃ W0, ((((((((w.alloc (.cells #[.pointer (some ⟨g, 0, none⟩)] 24)).alloc (.cells #[.slice a l.length cap] 22)).alloc (.cells #[.int .i64 0, .int .i64 0, .int .i64 0] 48)).alloc (.cells #[.int .i64 0, .int .i64 0, .int .i64 0] 48)).alloc (.cells #[.int .i64 0] 3)).alloc (.cells #[.pointer (some ⟨g, 0, none⟩)] 24)).alloc (.cells #[.slice a l.length cap] 22)).alloc (.cells #[.int .i64 ((i : Int) - 1)] 3)).alloc (.cells #[.int .i64 (-1)] 3) = W0 := ⟨_, rfl⟩
  rw [hW0] at hsz hB0 b0 b1 b2 b3 b4 b5 b6 b7 b8 ⊢
  clear hW0
  have hway := way_back l HLN.out.1 i HLN.out.2
  have hSB := HS.out.b
  have HB0 : Hid (Below w.heap.size w W0) := hB0
  replace b4 : Boxed W0 (w.heap.size + 1 + 1 + 1 + 1) 3 (.int .i64 (((kindsH ([] : List (Fin l.length))).length : Nat) : Int)) := b4
  refine wpIn_rangeFunc_ownH rfl h1 (gf := 50) (lb := #[.pointer (some ⟨w.heap.size + 1 + 1 + 1 + 1 + 1 + 2, 0, none⟩), .pointer (some ⟨w.heap.size + 1 + 1 + 1 + 1 + 1 + 1, 0, none⟩), .pointer (some ⟨w.heap.size + 1 + 1 + 1 + 1 + 1 + 3, 0, none⟩), .pointer (some ⟨w.heap.size + 1 + 1 + 1 + 1 + 1, 0, none⟩)]) rfl trivial (enters_of Tryd.func50 (by kernel_rfl) rfl)
    (heads_stops (n - 1) (by omega) (w.heap.size + 1 + 1 + 1 + 1 + 1 + 2) (w.heap.size + 1 + 1 + 1 + 1 + 1 + 1) (w.heap.size + 1 + 1 + 1 + 1 + 1 + 3) (w.heap.size + 1 + 1 + 1 + 1 + 1) w.heap.size g (.slice a l.length cap) a cap l rfl HLN.out.1 _ (-1) _ _ _ _ hway W0 (by omega) b7 b6 b8 b5 (hSB.below hB0) (HI.out.below hB0)) kpS_t (kpS_b (by omega) (by intro k hk; simp at hk; omega)) (Below.refl _ _) (fun _ => rfl)
    (fun pre W => ((Boxed W w.heap.size 24 (.pointer (some ⟨g, 0, none⟩)) ∧ Boxed W (w.heap.size + 1) 22 (.slice a l.length cap) ∧ W.heap[w.heap.size + 1 + 1]? = some (.cells #[.int .i64 0, .int .i64 0, .int .i64 0] 48 (0, 0)) ∧ W.heap[w.heap.size + 1 + 1 + 1]? = some (.cells (pC ((kindsH pre)[1]?.getD 0) ((kindsH pre)[0]?.getD 0) (regK (kindsH pre))) 48 (0, 0)) ∧ Boxed W (w.heap.size + 1 + 1 + 1 + 1) 3 (.int .i64 ((kindsH pre).length : Int))) ∧ NS (kindsH pre)) ∧ Below w.heap.size w W)
    (fun c pre W => (∃ (pre' : List (Fin l.length)) (x : Fin l.length), (c = .exit 0 ∧ pre = pre' ++ [x] ∧ ¬ (regK (kindsH pre') = (kindsH pre').length ∧ wdV l[x.val] = 7) ∧ 1 ≤ pre'.length) ∧ W.heap[w.heap.size + 1 + 1]? = some (.cells #[.int .i64 0, .int .i64 0, .int .i64 0] 48 (0, 0)) ∧ W.heap[w.heap.size + 1 + 1 + 1]? = some (.cells (pC ((kindsH pre)[1]?.getD 0) ((kindsH pre)[0]?.getD 0) (regK (kindsH pre'))) 48 (0, 0))) ∧ Below w.heap.size w W)
    (OwnFrom.and (fun s X Y row hs hg hr => ⟨⟨Own.from (boxed_own w.heap.size 24 (fun _ : List (Fin l.length) => .pointer (some ⟨g, 0, none⟩))) _ s X Y row hs.1.1 hg hr, Own.from (boxed_own (w.heap.size + 1) 22 (fun _ : List (Fin l.length) => .slice a l.length cap)) _ s X Y row hs.1.2.1 hg hr, cells_own (w.heap.size + 1 + 1) 48 (fun _ : List (Fin l.length) => #[.int .i64 0, .int .i64 0, .int .i64 0]) _ s X Y row hs.1.2.2.1 hg hr, cells_own (w.heap.size + 1 + 1 + 1) 48 (fun pre : List (Fin l.length) => pC ((kindsH pre)[1]?.getD 0) ((kindsH pre)[0]?.getD 0) (regK (kindsH pre))) _ s X Y row hs.1.2.2.2.1 hg hr, Own.from (boxed_own (w.heap.size + 1 + 1 + 1 + 1) 3 (fun pre : List (Fin l.length) => .int .i64 ((kindsH pre).length : Int))) _ s X Y row hs.1.2.2.2.2 hg hr⟩, hs.2⟩) (ownFrom_below (Nat.le_refl _) (by omega)))
    (fun c => OwnFrom.and (fun s X Y row hs hg hr => by
      obtain ⟨pre', x, h1, h2, h3⟩ := hs
      exact ⟨pre', x, h1, cells_own (w.heap.size + 1 + 1) 48 (fun _ : List (Fin l.length) => #[.int .i64 0, .int .i64 0, .int .i64 0]) _ s X Y row h2 hg hr, cells_own (w.heap.size + 1 + 1 + 1) 48 (fun pre : List (Fin l.length) => pC ((kindsH pre)[1]?.getD 0) ((kindsH pre)[0]?.getD 0) (regK (kindsH pre'))) _ s X Y row h3 hg hr⟩) (ownFrom_below (Nat.le_refl _) (by omega)))
    ⟨⟨⟨b0, b1, b2, by simpa [pC, kindsH, regK] using b3, b4⟩, fun h => by simp [kindsH] at h⟩, hB0⟩
    (fun x a' W => a' = { tmps := #[.pointer (some ⟨g, 0, none⟩), .slice a l.length cap, .int .i64 (i : Int), .pointer (some ⟨w.heap.size, 0, none⟩), .pointer (some ⟨w.heap.size + 1, 0, none⟩), undef, .pointer (some ⟨w.heap.size + 1 + 1, 0, none⟩), .pointer (some ⟨w.heap.size + 1 + 1 + 1, 0, none⟩), .pointer (some ⟨w.heap.size + 1 + 1 + 1 + 1, 0, none⟩), .int .i64 (x.val : Int), undef, .pointer (some ⟨g, 0, none⟩), .slice a l.length cap, .int .i64 (i : Int), .int .i64 ((i : Int) - 1), .func (.func 50) #[] #[.pointer (some ⟨w.heap.size + 1 + 1 + 1 + 1 + 1 + 2, 0, none⟩), .pointer (some ⟨w.heap.size + 1 + 1 + 1 + 1 + 1 + 1, 0, none⟩), .pointer (some ⟨w.heap.size + 1 + 1 + 1 + 1 + 1 + 3, 0, none⟩), .pointer (some ⟨w.heap.size + 1 + 1 + 1 + 1 + 1, 0, none⟩)], .int .i64 (x.val : Int), undef, undef, undef, undef, undef, undef, undef, undef, undef, undef, undef, undef, undef, undef, undef, undef, undef, undef, undef, undef, undef, undef, undef, undef, undef, undef, undef, undef, undef, undef, undef, undef], defers := [] })
    (fun x a' _ X Y row hs hg hr => hs)
    ?assign ?body ?done ?stop
  case assign =>
    rintro l' pre x W K hI' hK
    unfold encH
    gi_wp2
    exact hK _ _ (KeepsFrom.refl _ _) (kpS_refl _ _ _) hI' rfl
  case body =>
    rintro l' pre x a' W hl ⟨lo, hlo⟩ ⟨⟨⟨y0, y1, yR, yP, yC⟩, hns⟩, hB⟩ rfl hlt
    have hsW := hB.size
    have HW0 : Hid (∀ w', Below W.heap.size W w' → w'.cell? ⟨w.heap.size, 0, none⟩ = some (.pointer (some ⟨g, 0, none⟩))) := fun w' hw' => (boxed_below y0 hw').cell
    have HW1 : Hid (∀ w', Below W.heap.size W w' → w'.cell? ⟨w.heap.size + 1, 0, none⟩ = some (.slice a l.length cap)) := fun w' hw' => (boxed_below y1 hw').cell
    have HYS : Hid (Boxed W w.heap.size 24 (.pointer (some ⟨g, 0, none⟩)) ∧ Boxed W (w.heap.size + 1) 22 (.slice a l.length cap) ∧ W.heap[w.heap.size + 1 + 1]? = some (.cells #[.int .i64 0, .int .i64 0, .int .i64 0] 48 (0, 0))) := ⟨y0, y1, yR⟩
    have HSW : Hid (Ship W g) := HS.out.below hB
    have HBW : Hid (Below w.heap.size w W) := hB
    obtain ⟨_, _, e1, _, hcells⟩ := HI.out
    obtain ⟨gi, off, ha, hg, c0⟩ := hcells x.val x.2
    cases e1
    subst ha
    have HX : Hid (∀ w', Below W.heap.size W w' → w'.cell? ⟨gi, off + x.val, none⟩ = some (.int .i64 l[x.val])) := fun w' hw' => ((hB.trans (hw'.mono hsW)).cell (p := ⟨gi, _, none⟩) hg).trans c0
    obtain ⟨xi, hxi⟩ : ∃ xi : Nat, xi = x.val := ⟨_, rfl⟩
    obtain ⟨rr, hr⟩ : ∃ r, r = l[x.val] := ⟨_, rfl⟩
    have HR : Hid (rr = l[x.val]) := hr
    rw [← hr] at HX
    rw [← hxi] at HX
    have hx1 : (xi : Int) < (l.length : Int) := by have := x.2; omega
    rw [← hxi]
    have HXI : Hid (xi = x.val) := hxi
    have hKS : kindsH (pre ++ [x]) = kindsH pre ++ [wdV rr] := by rw [kindsH_snoc, hr]
    obtain ⟨K, hKd⟩ : ∃ K, K = kindsH pre := ⟨_, rfl⟩
    rw [← hKd] at yP yC hns hKS
    obtain ⟨bf, hbf⟩ : ∃ z, z = K[1]?.getD 0 := ⟨_, rfl⟩
    obtain ⟨la, hla⟩ : ∃ z, z = K[0]?.getD 0 := ⟨_, rfl⟩
    obtain ⟨r, hrr⟩ : ∃ z, z = regK K := ⟨_, rfl⟩
    obtain ⟨c, hcc⟩ : ∃ z, z = K.length := ⟨_, rfl⟩
    rw [← hbf, ← hla, ← hrr] at yP
    rw [← hcc] at yC
    have HPP : Hid (∀ w', Below W.heap.size W w' → w'.heap[w.heap.size + 1 + 1 + 1]? = some (.cells #[.int .i64 bf, .int .i64 la, .int .i64 (r : Int)] 48 (0, 0))) := fun w' hw' => (hw'.block _ (Array.getElem?_eq_some_iff.1 yP).1).trans yP
    have HPC : Hid (∀ w', Below W.heap.size W w' → Boxed w' (w.heap.size + 1 + 1 + 1 + 1) 3 (.int .i64 (c : Int))) := fun w' hw' => boxed_below yC hw'
    have HMV : Hid (K = kindsH pre ∧ bf = K[1]?.getD 0 ∧ la = K[0]?.getD 0 ∧ r = regK K ∧ c = K.length ∧ NS K ∧ kindsH (pre ++ [x]) = K ++ [wdV rr] ∧ c ≤ 10000 ∧ c = pre.length) := ⟨hKd, hbf, hla, hrr, hcc, hns, hKS, by rw [hcc, hKd, kindsH_len]; have := HLN.out; omega, by rw [hcc, hKd, kindsH_len]⟩
    have HPW : Hid (∀ k ∈ [w.heap.size + 1 + 1 + 1 + 1 + 1 + 1, w.heap.size + 1 + 1 + 1 + 1 + 1 + 3, w.heap.size + 1 + 1 + 1 + 1 + 1], k < W.heap.size) := fun k hk => by
      have := (Array.getElem?_eq_some_iff.1 hlo).1
      simp at hk
      omega
    clear y0 y1 yR yP yC hB hcells hg c0 hr hxi hns hKd hbf hla hrr hcc hKS
    gi_wp2
    refine wpIn_region_bad (fun w' => Below W.heap.size W w') [] (by kernel_rfl) (by kernel_rfl) ((Below.refl _ _).drew) (fun hS => ?_)
    refine wpAnyB_take [0] (i := 0) (v := .pointer (some ⟨g, 0, none⟩)) rfl (by kernel_rfl) (fun _ _ _ h => h) (Or.inl ⟨by rfl, fun w hSw => by have := HW0.out w hSw; go_simp⟩) hS ?_
    simp only [List.getElem_toArray, List.getElem_cons_zero, Act.put, List.setIfInBounds_toArray, List.set_cons_zero, List.set_cons_succ]
    refine wpAnyB_take [1] (i := 1) (v := .slice (some ⟨gi, off, none⟩) l.length cap) rfl (by kernel_rfl) (fun _ _ _ h => h) (Or.inl ⟨by rfl, fun w hSw => by have := HW1.out w hSw; go_simp⟩) hS ?_
    simp only [List.getElem_toArray, List.getElem_cons_succ, List.getElem_cons_zero, Act.put, List.setIfInBounds_toArray, List.set_cons_zero, List.set_cons_succ]
    refine wpAnyB_pure (i := 2) (v := .int .i64 (xi : Int)) rfl (by kernel_rfl) (fun _ _ _ h => h) (Or.inl ⟨by rfl, fun w _ => by go_simp⟩) hS ?_
    simp only [List.getElem_toArray, List.getElem_cons_succ, List.getElem_cons_zero, Act.put, List.setIfInBounds_toArray, List.set_cons_zero, List.set_cons_succ]
    refine wpAnyB_pure (i := 3) (v := .pointer (some ⟨gi, off + xi, none⟩)) rfl (by kernel_rfl) (fun _ _ _ h => h) (Or.inl ⟨by rfl, fun w _ => by go_simp⟩) hS ?_
    simp only [List.getElem_toArray, List.getElem_cons_succ, List.getElem_cons_zero, Act.put, List.setIfInBounds_toArray, List.set_cons_zero, List.set_cons_succ]
    refine wpAnyB_take [4] (i := 4) (v := .int .i64 rr) rfl (by kernel_rfl) (fun _ _ _ h => h) (Or.inl ⟨by rfl, fun w hSw => by have := HX.out w hSw; go_simp⟩) hS ?_
    simp only [List.getElem_toArray, List.getElem_cons_succ, List.getElem_cons_zero, Act.put, List.setIfInBounds_toArray, List.set_cons_zero, List.set_cons_succ]
    refine wpAnyB_one (i := 5) rfl (by kernel_rfl) (fun K hK => ?_)
    go_simp
    refine (ship_wd W.drew g rr (HSW.out.below hS)).mono ?_
    rintro e w1 ⟨rfl, hB1⟩
    have hS1 : Below W.heap.size W w1 := hS.trans (hB1.mono hS.size)
    refine hK.out _ _ hS1 ?_
    clear hK K hB1
    refine wpAnyB_pure (i := 6) (v := .int .i64 (wdV rr)) rfl (by kernel_rfl) (fun _ _ _ h => h) (Or.inl ⟨by rfl, fun w _ => by go_simp⟩) hS1 ?_
    simp only [List.getElem_toArray, List.getElem_cons_succ, List.getElem_cons_zero, Act.put, List.setIfInBounds_toArray, List.set_cons_zero, List.set_cons_succ]
    refine wpAnyB_done (by kernel_rfl) ?_ _
    refine OnlyN.normal ?_
    have HB1 : Hid (Below W.heap.size W w1) := hS1
    clear hS hS1
    obtain ⟨k, hk⟩ : ∃ k, k = wdV rr := ⟨_, rfl⟩
    have HK : Hid (k = wdV rr) := hk
    rw [← hk]
    clear hk
    have hp := HPP.out w1 HB1.out
    have p0 : w1.cell? ⟨w.heap.size + 1 + 1 + 1, 0, none⟩ = some (.int .i64 bf) := cell_of_row _ _ _ _ _ _ hp
    have p1 : w1.cell? ⟨w.heap.size + 1 + 1 + 1, 1, none⟩ = some (.int .i64 la) := cell_of_row _ _ _ _ _ _ hp
    have p2 : w1.cell? ⟨w.heap.size + 1 + 1 + 1, 2, none⟩ = some (.int .i64 (r : Int)) := cell_of_row _ _ _ _ _ _ hp
    have f0 : w1.frozen? ⟨w.heap.size + 1 + 1 + 1, 0, none⟩ = false := frozen_of_row _ _ _ _ _ hp
    have f1 : w1.frozen? ⟨w.heap.size + 1 + 1 + 1, 1, none⟩ = false := frozen_of_row _ _ _ _ _ hp
    have f2 : w1.frozen? ⟨w.heap.size + 1 + 1 + 1, 2, none⟩ = false := frozen_of_row _ _ _ _ _ hp
    have hcb := HPC.out w1 HB1.out
    have q0 := hcb.cell
    have q1 := hcb.frozen
    have HPX : Hid (w1.heap[w.heap.size + 1 + 1 + 1]? = some (.cells #[.int .i64 bf, .int .i64 la, .int .i64 (r : Int)] 48 (0, 0)) ∧ Boxed w1 (w.heap.size + 1 + 1 + 1 + 1) 3 (.int .i64 (c : Int))) := ⟨hp, hcb⟩
    have hwc : IntKind.i64.wrap ((c : Int) + 1) = ((c + 1 : Nat) : Int) := wrap_int (by omega) (by have := HMV.out; omega)
    have hwr : IntKind.i64.wrap ((r : Int) + 1) = ((r + 1 : Nat) : Int) := wrap_int (by omega) (by have := HMV.out; have := regK_le K; omega)
    clear hp hcb
    by_cases c0 : c = 0
    · have HC0 : Hid (c = 0) := c0
      have hr0 : r = 0 := by have := HMV.out; have h2 := regK_le K; omega
      have HR0 : Hid (r = 0) := hr0
      have e1 : ((c : Int) == 0) = true := by simp; omega
      have e2 : ((r : Int) == (c : Int)) = true := by simp; omega
      have e3 : decide ((0 : Int) < (c : Int)) = false := decide_eq_false (by omega)
      have e4 : decide (0 < c) = false := decide_eq_false (by omega)
      have HK0 : Hid (K = []) := List.length_eq_zero_iff.1 (HMV.out.2.2.2.2.1.symm.trans c0)
      clear c0 hr0
      by_cases hk7 : k = 7
      · have k7 : (k == 7) = true := by simpa using hk7
        have HK7 : Hid (k = 7) := hk7
        clear hk7
        have HWF : Hid (Chg [w.heap.size + 1 + 1 + 1, w.heap.size + 1 + 1 + 1 + 1] w1 (((w1.setCell ⟨w.heap.size + 1 + 1 + 1, 1, none⟩ (.int .i64 k)).setCell ⟨w.heap.size + 1 + 1 + 1, 2, none⟩ (.int .i64 ((r + 1 : Nat) : Int))).setCell ⟨w.heap.size + 1 + 1 + 1 + 1, 0, none⟩ (.int .i64 ((c + 1 : Nat) : Int)))) := ((((Chg.refl [w.heap.size + 1 + 1 + 1, w.heap.size + 1 + 1 + 1 + 1] w1).set (by simp) 1 _).set (by simp) 2 _).set (by simp) 0 _)
        have hpp : ((w1.setCell ⟨w.heap.size + 1 + 1 + 1, 1, none⟩ (.int .i64 k)).setCell ⟨w.heap.size + 1 + 1 + 1, 2, none⟩ (.int .i64 ((r + 1 : Nat) : Int))).heap[w.heap.size + 1 + 1 + 1]? = some (.cells #[.int .i64 bf, .int .i64 k, .int .i64 ((r + 1 : Nat) : Int)] 48 (0, 0)) := (heap_set_row (cs := _) (j := 2) (u := .int .i64 ((r + 1 : Nat) : Int)) (heap_set_row (cs := _) (j := 1) (u := .int .i64 k) HPX.out.1 rfl) rfl)
        have HPF : Hid ((((w1.setCell ⟨w.heap.size + 1 + 1 + 1, 1, none⟩ (.int .i64 k)).setCell ⟨w.heap.size + 1 + 1 + 1, 2, none⟩ (.int .i64 ((r + 1 : Nat) : Int))).setCell ⟨w.heap.size + 1 + 1 + 1 + 1, 0, none⟩ (.int .i64 ((c + 1 : Nat) : Int))).heap[w.heap.size + 1 + 1 + 1]? = some (.cells #[.int .i64 bf, .int .i64 k, .int .i64 ((r + 1 : Nat) : Int)] 48 (0, 0))) := (Below.heap_setCell _ ⟨w.heap.size + 1 + 1 + 1 + 1, 0, none⟩ _ _ (show w.heap.size + 1 + 1 + 1 ≠ w.heap.size + 1 + 1 + 1 + 1 by omega)).trans hpp
        have HCF : Hid (Boxed (((w1.setCell ⟨w.heap.size + 1 + 1 + 1, 1, none⟩ (.int .i64 k)).setCell ⟨w.heap.size + 1 + 1 + 1, 2, none⟩ (.int .i64 ((r + 1 : Nat) : Int))).setCell ⟨w.heap.size + 1 + 1 + 1 + 1, 0, none⟩ (.int .i64 ((c + 1 : Nat) : Int))) (w.heap.size + 1 + 1 + 1 + 1) 3 (.int .i64 ((c + 1 : Nat) : Int))) := by
          have h1 : Boxed ((w1.setCell ⟨w.heap.size + 1 + 1 + 1, 1, none⟩ (.int .i64 k)).setCell ⟨w.heap.size + 1 + 1 + 1, 2, none⟩ (.int .i64 ((r + 1 : Nat) : Int))) (w.heap.size + 1 + 1 + 1 + 1) 3 (.int .i64 (c : Int)) := by
            have h2 := HPX.out.2
            replace h2 := (Below.heap_setCell _ ⟨w.heap.size + 1 + 1 + 1, 1, none⟩ (.int .i64 k) (w.heap.size + 1 + 1 + 1 + 1) (show w.heap.size + 1 + 1 + 1 + 1 ≠ w.heap.size + 1 + 1 + 1 by omega)).trans h2
            replace h2 := (Below.heap_setCell _ ⟨w.heap.size + 1 + 1 + 1, 2, none⟩ (.int .i64 ((r + 1 : Nat) : Int)) (w.heap.size + 1 + 1 + 1 + 1) (show w.heap.size + 1 + 1 + 1 + 1 ≠ w.heap.size + 1 + 1 + 1 by omega)).trans h2
            exact h2
          exact Boxed.set _ h1
        clear hpp
        gi_wp2
        refine ⟨HWF.out.keepsFrom HB1.out _, HWF.out.kps HB1.out hsW (by intro k hk; simp at hk; omega) (fun k hk => ⟨HPW.out k hk, by simp at hk ⊢; omega⟩), ⟨⟨HWF.out.boxed HB1.out (by simp <;> omega) HYS.out.1, HWF.out.boxed HB1.out (by simp <;> omega) HYS.out.2.1, HWF.out.boxed HB1.out (by simp <;> omega) HYS.out.2.2, ?_, ?_⟩, ?_⟩, (HBW.out.trans (HB1.out.mono hsW)).trans (HWF.out.bel _ (by intro k hk; simp at hk; omega))⟩
        · rw [HMV.out.2.2.2.2.2.2.1, past_last, past_before, regK_snoc, ← HMV.out.2.2.2.2.1, ← HMV.out.2.1, ← HMV.out.2.2.1, ← HMV.out.2.2.2.1, ← HK.out, if_pos HC0.out, if_neg (by have := HC0.out; omega), if_pos ⟨by have := HC0.out; have := HR0.out; omega, HK7.out⟩]
          exact HPF.out
        · rw [HMV.out.2.2.2.2.2.2.1, List.length_append, List.length_singleton, ← HMV.out.2.2.2.2.1]
          exact HCF.out
        · rw [HMV.out.2.2.2.2.2.2.1]
          rw [HK0.out]; exact NS.one _
      · have k7 : (k == 7) = false := by simpa using hk7
        have HK7 : Hid (¬ k = 7) := hk7
        clear hk7
        have HWF : Hid (Chg [w.heap.size + 1 + 1 + 1, w.heap.size + 1 + 1 + 1 + 1] w1 ((w1.setCell ⟨w.heap.size + 1 + 1 + 1, 1, none⟩ (.int .i64 k)).setCell ⟨w.heap.size + 1 + 1 + 1 + 1, 0, none⟩ (.int .i64 ((c + 1 : Nat) : Int)))) := (((Chg.refl [w.heap.size + 1 + 1 + 1, w.heap.size + 1 + 1 + 1 + 1] w1).set (by simp) 1 _).set (by simp) 0 _)
        have hpp : (w1.setCell ⟨w.heap.size + 1 + 1 + 1, 1, none⟩ (.int .i64 k)).heap[w.heap.size + 1 + 1 + 1]? = some (.cells #[.int .i64 bf, .int .i64 k, .int .i64 (r : Int)] 48 (0, 0)) := (heap_set_row (cs := _) (j := 1) (u := .int .i64 k) HPX.out.1 rfl)
        have HPF : Hid (((w1.setCell ⟨w.heap.size + 1 + 1 + 1, 1, none⟩ (.int .i64 k)).setCell ⟨w.heap.size + 1 + 1 + 1 + 1, 0, none⟩ (.int .i64 ((c + 1 : Nat) : Int))).heap[w.heap.size + 1 + 1 + 1]? = some (.cells #[.int .i64 bf, .int .i64 k, .int .i64 (r : Int)] 48 (0, 0))) := (Below.heap_setCell _ ⟨w.heap.size + 1 + 1 + 1 + 1, 0, none⟩ _ _ (show w.heap.size + 1 + 1 + 1 ≠ w.heap.size + 1 + 1 + 1 + 1 by omega)).trans hpp
        have HCF : Hid (Boxed ((w1.setCell ⟨w.heap.size + 1 + 1 + 1, 1, none⟩ (.int .i64 k)).setCell ⟨w.heap.size + 1 + 1 + 1 + 1, 0, none⟩ (.int .i64 ((c + 1 : Nat) : Int))) (w.heap.size + 1 + 1 + 1 + 1) 3 (.int .i64 ((c + 1 : Nat) : Int))) := by
          have h1 : Boxed (w1.setCell ⟨w.heap.size + 1 + 1 + 1, 1, none⟩ (.int .i64 k)) (w.heap.size + 1 + 1 + 1 + 1) 3 (.int .i64 (c : Int)) := by
            have h2 := HPX.out.2
            replace h2 := (Below.heap_setCell _ ⟨w.heap.size + 1 + 1 + 1, 1, none⟩ (.int .i64 k) (w.heap.size + 1 + 1 + 1 + 1) (show w.heap.size + 1 + 1 + 1 + 1 ≠ w.heap.size + 1 + 1 + 1 by omega)).trans h2
            exact h2
          exact Boxed.set _ h1
        clear hpp
        gi_wp2
        refine ⟨HWF.out.keepsFrom HB1.out _, HWF.out.kps HB1.out hsW (by intro k hk; simp at hk; omega) (fun k hk => ⟨HPW.out k hk, by simp at hk ⊢; omega⟩), ⟨⟨HWF.out.boxed HB1.out (by simp <;> omega) HYS.out.1, HWF.out.boxed HB1.out (by simp <;> omega) HYS.out.2.1, HWF.out.boxed HB1.out (by simp <;> omega) HYS.out.2.2, ?_, ?_⟩, ?_⟩, (HBW.out.trans (HB1.out.mono hsW)).trans (HWF.out.bel _ (by intro k hk; simp at hk; omega))⟩
        · rw [HMV.out.2.2.2.2.2.2.1, past_last, past_before, regK_snoc, ← HMV.out.2.2.2.2.1, ← HMV.out.2.1, ← HMV.out.2.2.1, ← HMV.out.2.2.2.1, ← HK.out, if_pos HC0.out, if_neg (by have := HC0.out; omega), if_neg (fun q => HK7.out q.2)]
          exact HPF.out
        · rw [HMV.out.2.2.2.2.2.2.1, List.length_append, List.length_singleton, ← HMV.out.2.2.2.2.1]
          exact HCF.out
        · rw [HMV.out.2.2.2.2.2.2.1]
          rw [HK0.out]; exact NS.one _
    have HC0 : Hid (¬ c = 0) := c0
    have e1 : ((c : Int) == 0) = false := by simp; omega
    have e3 : (0 : Int) < (c : Int) := by omega
    clear c0
    by_cases c1 : c = 1
    · have HC1 : Hid (c = 1) := c1
      have e2 : ((c : Int) == 1) = true := by simp; omega
      clear c1
      by_cases hk7 : k = 7
      · have k7 : (k == 7) = true := by simpa using hk7
        have HK7 : Hid (k = 7) := hk7
        clear hk7
        by_cases hrc : r = c
        · have e5 : ((r : Int) == (c : Int)) = true := by simp; omega
          have HRC : Hid (r = c) := hrc
          clear hrc
          have HWF : Hid (Chg [w.heap.size + 1 + 1 + 1, w.heap.size + 1 + 1 + 1 + 1] w1 (((w1.setCell ⟨w.heap.size + 1 + 1 + 1, 0, none⟩ (.int .i64 k)).setCell ⟨w.heap.size + 1 + 1 + 1, 2, none⟩ (.int .i64 ((r + 1 : Nat) : Int))).setCell ⟨w.heap.size + 1 + 1 + 1 + 1, 0, none⟩ (.int .i64 ((c + 1 : Nat) : Int)))) := ((((Chg.refl [w.heap.size + 1 + 1 + 1, w.heap.size + 1 + 1 + 1 + 1] w1).set (by simp) 0 _).set (by simp) 2 _).set (by simp) 0 _)
          have hpp : ((w1.setCell ⟨w.heap.size + 1 + 1 + 1, 0, none⟩ (.int .i64 k)).setCell ⟨w.heap.size + 1 + 1 + 1, 2, none⟩ (.int .i64 ((r + 1 : Nat) : Int))).heap[w.heap.size + 1 + 1 + 1]? = some (.cells #[.int .i64 k, .int .i64 la, .int .i64 ((r + 1 : Nat) : Int)] 48 (0, 0)) := (heap_set_row (cs := _) (j := 2) (u := .int .i64 ((r + 1 : Nat) : Int)) (heap_set_row (cs := _) (j := 0) (u := .int .i64 k) HPX.out.1 rfl) rfl)
          have HPF : Hid ((((w1.setCell ⟨w.heap.size + 1 + 1 + 1, 0, none⟩ (.int .i64 k)).setCell ⟨w.heap.size + 1 + 1 + 1, 2, none⟩ (.int .i64 ((r + 1 : Nat) : Int))).setCell ⟨w.heap.size + 1 + 1 + 1 + 1, 0, none⟩ (.int .i64 ((c + 1 : Nat) : Int))).heap[w.heap.size + 1 + 1 + 1]? = some (.cells #[.int .i64 k, .int .i64 la, .int .i64 ((r + 1 : Nat) : Int)] 48 (0, 0))) := (Below.heap_setCell _ ⟨w.heap.size + 1 + 1 + 1 + 1, 0, none⟩ _ _ (show w.heap.size + 1 + 1 + 1 ≠ w.heap.size + 1 + 1 + 1 + 1 by omega)).trans hpp
          have HCF : Hid (Boxed (((w1.setCell ⟨w.heap.size + 1 + 1 + 1, 0, none⟩ (.int .i64 k)).setCell ⟨w.heap.size + 1 + 1 + 1, 2, none⟩ (.int .i64 ((r + 1 : Nat) : Int))).setCell ⟨w.heap.size + 1 + 1 + 1 + 1, 0, none⟩ (.int .i64 ((c + 1 : Nat) : Int))) (w.heap.size + 1 + 1 + 1 + 1) 3 (.int .i64 ((c + 1 : Nat) : Int))) := by
            have h1 : Boxed ((w1.setCell ⟨w.heap.size + 1 + 1 + 1, 0, none⟩ (.int .i64 k)).setCell ⟨w.heap.size + 1 + 1 + 1, 2, none⟩ (.int .i64 ((r + 1 : Nat) : Int))) (w.heap.size + 1 + 1 + 1 + 1) 3 (.int .i64 (c : Int)) := by
              have h2 := HPX.out.2
              replace h2 := (Below.heap_setCell _ ⟨w.heap.size + 1 + 1 + 1, 0, none⟩ (.int .i64 k) (w.heap.size + 1 + 1 + 1 + 1) (show w.heap.size + 1 + 1 + 1 + 1 ≠ w.heap.size + 1 + 1 + 1 by omega)).trans h2
              replace h2 := (Below.heap_setCell _ ⟨w.heap.size + 1 + 1 + 1, 2, none⟩ (.int .i64 ((r + 1 : Nat) : Int)) (w.heap.size + 1 + 1 + 1 + 1) (show w.heap.size + 1 + 1 + 1 + 1 ≠ w.heap.size + 1 + 1 + 1 by omega)).trans h2
              exact h2
            exact Boxed.set _ h1
          clear hpp
          gi_wp2
          refine ⟨HWF.out.keepsFrom HB1.out _, HWF.out.kps HB1.out hsW (by intro k hk; simp at hk; omega) (fun k hk => ⟨HPW.out k hk, by simp at hk ⊢; omega⟩), ⟨⟨HWF.out.boxed HB1.out (by simp <;> omega) HYS.out.1, HWF.out.boxed HB1.out (by simp <;> omega) HYS.out.2.1, HWF.out.boxed HB1.out (by simp <;> omega) HYS.out.2.2, ?_, ?_⟩, ?_⟩, (HBW.out.trans (HB1.out.mono hsW)).trans (HWF.out.bel _ (by intro k hk; simp at hk; omega))⟩
          · rw [HMV.out.2.2.2.2.2.2.1, past_last, past_before, regK_snoc, ← HMV.out.2.2.2.2.1, ← HMV.out.2.1, ← HMV.out.2.2.1, ← HMV.out.2.2.2.1, ← HK.out, if_neg HC0.out, if_pos HC1.out, if_pos ⟨HRC.out, HK7.out⟩]
            exact HPF.out
          · rw [HMV.out.2.2.2.2.2.2.1, List.length_append, List.length_singleton, ← HMV.out.2.2.2.2.1]
            exact HCF.out
          · rw [HMV.out.2.2.2.2.2.2.1]
            exact HMV.out.2.2.2.2.2.1.go ⟨by rw [← HMV.out.2.2.2.1, ← HMV.out.2.2.2.2.1]; exact HRC.out, by rw [← HK.out]; exact HK7.out⟩
        · have e5 : ((r : Int) == (c : Int)) = false := by rw [beq_eq_false_iff_ne]; omega
          have HRC : Hid (¬ r = c) := hrc
          clear hrc
          have HWF : Hid (Chg [w.heap.size + 1 + 1 + 1, w.heap.size + 1 + 1 + 1 + 1] w1 (w1.setCell ⟨w.heap.size + 1 + 1 + 1, 0, none⟩ (.int .i64 k))) := ((Chg.refl [w.heap.size + 1 + 1 + 1, w.heap.size + 1 + 1 + 1 + 1] w1).set (by simp) 0 _)
          have hpp : (w1.setCell ⟨w.heap.size + 1 + 1 + 1, 0, none⟩ (.int .i64 k)).heap[w.heap.size + 1 + 1 + 1]? = some (.cells #[.int .i64 k, .int .i64 la, .int .i64 (r : Int)] 48 (0, 0)) := (heap_set_row (cs := _) (j := 0) (u := .int .i64 k) HPX.out.1 rfl)
          have HPF : Hid ((w1.setCell ⟨w.heap.size + 1 + 1 + 1, 0, none⟩ (.int .i64 k)).heap[w.heap.size + 1 + 1 + 1]? = some (.cells #[.int .i64 k, .int .i64 la, .int .i64 (r : Int)] 48 (0, 0))) := hpp
          clear hpp
          gi_wp2
          refine ⟨HWF.out.keepsFrom HB1.out _, ⟨pre, x, ⟨rfl, rfl, ?_, by have := HMV.out; omega⟩, HWF.out.boxed HB1.out (by simp <;> omega) HYS.out.2.2, ?_⟩, (HBW.out.trans (HB1.out.mono hsW)).trans (HWF.out.bel _ (by intro k hk; simp at hk; omega))⟩
          · rw [← HR.out, ← HK.out, ← HMV.out.1, ← HMV.out.2.2.2.1, ← HMV.out.2.2.2.2.1]
            exact fun q => HRC.out q.1
          · rw [HMV.out.2.2.2.2.2.2.1, past_last, past_before, ← HMV.out.1, ← HMV.out.2.2.2.2.1, ← HMV.out.2.1, ← HMV.out.2.2.1, ← HMV.out.2.2.2.1, ← HK.out, if_neg HC0.out, if_pos HC1.out]
            exact HPF.out
      · have k7 : (k == 7) = false := by simpa using hk7
        have HK7 : Hid (¬ k = 7) := hk7
        clear hk7
        have HWF : Hid (Chg [w.heap.size + 1 + 1 + 1, w.heap.size + 1 + 1 + 1 + 1] w1 (w1.setCell ⟨w.heap.size + 1 + 1 + 1, 0, none⟩ (.int .i64 k))) := ((Chg.refl [w.heap.size + 1 + 1 + 1, w.heap.size + 1 + 1 + 1 + 1] w1).set (by simp) 0 _)
        have hpp : (w1.setCell ⟨w.heap.size + 1 + 1 + 1, 0, none⟩ (.int .i64 k)).heap[w.heap.size + 1 + 1 + 1]? = some (.cells #[.int .i64 k, .int .i64 la, .int .i64 (r : Int)] 48 (0, 0)) := (heap_set_row (cs := _) (j := 0) (u := .int .i64 k) HPX.out.1 rfl)
        have HPF : Hid ((w1.setCell ⟨w.heap.size + 1 + 1 + 1, 0, none⟩ (.int .i64 k)).heap[w.heap.size + 1 + 1 + 1]? = some (.cells #[.int .i64 k, .int .i64 la, .int .i64 (r : Int)] 48 (0, 0))) := hpp
        clear hpp
        gi_wp2
        refine ⟨HWF.out.keepsFrom HB1.out _, ⟨pre, x, ⟨rfl, rfl, ?_, by have := HMV.out; omega⟩, HWF.out.boxed HB1.out (by simp <;> omega) HYS.out.2.2, ?_⟩, (HBW.out.trans (HB1.out.mono hsW)).trans (HWF.out.bel _ (by intro k hk; simp at hk; omega))⟩
        · rw [← HR.out, ← HK.out, ← HMV.out.1, ← HMV.out.2.2.2.1, ← HMV.out.2.2.2.2.1]
          exact fun q => HK7.out q.2
        · rw [HMV.out.2.2.2.2.2.2.1, past_last, past_before, ← HMV.out.1, ← HMV.out.2.2.2.2.1, ← HMV.out.2.1, ← HMV.out.2.2.1, ← HMV.out.2.2.2.1, ← HK.out, if_neg HC0.out, if_pos HC1.out]
          exact HPF.out
    · have HC1 : Hid (¬ c = 1) := c1
      have e2 : ((c : Int) == 1) = false := by simp; omega
      have hrc : r = c := by have := HMV.out; have h2 := HMV.out.2.2.2.2.2.1 (by have := HC0.out; omega); omega
      have e5 : ((r : Int) == (c : Int)) = true := by simp; omega
      have HRC : Hid (r = c) := hrc
      clear c1 hrc
      by_cases hk7 : k = 7
      · have k7 : (k == 7) = true := by simpa using hk7
        have HK7 : Hid (k = 7) := hk7
        clear hk7
        have HWF : Hid (Chg [w.heap.size + 1 + 1 + 1, w.heap.size + 1 + 1 + 1 + 1] w1 ((w1.setCell ⟨w.heap.size + 1 + 1 + 1, 2, none⟩ (.int .i64 ((r + 1 : Nat) : Int))).setCell ⟨w.heap.size + 1 + 1 + 1 + 1, 0, none⟩ (.int .i64 ((c + 1 : Nat) : Int)))) := (((Chg.refl [w.heap.size + 1 + 1 + 1, w.heap.size + 1 + 1 + 1 + 1] w1).set (by simp) 2 _).set (by simp) 0 _)
        have hpp : (w1.setCell ⟨w.heap.size + 1 + 1 + 1, 2, none⟩ (.int .i64 ((r + 1 : Nat) : Int))).heap[w.heap.size + 1 + 1 + 1]? = some (.cells #[.int .i64 bf, .int .i64 la, .int .i64 ((r + 1 : Nat) : Int)] 48 (0, 0)) := (heap_set_row (cs := _) (j := 2) (u := .int .i64 ((r + 1 : Nat) : Int)) HPX.out.1 rfl)
        have HPF : Hid (((w1.setCell ⟨w.heap.size + 1 + 1 + 1, 2, none⟩ (.int .i64 ((r + 1 : Nat) : Int))).setCell ⟨w.heap.size + 1 + 1 + 1 + 1, 0, none⟩ (.int .i64 ((c + 1 : Nat) : Int))).heap[w.heap.size + 1 + 1 + 1]? = some (.cells #[.int .i64 bf, .int .i64 la, .int .i64 ((r + 1 : Nat) : Int)] 48 (0, 0))) := (Below.heap_setCell _ ⟨w.heap.size + 1 + 1 + 1 + 1, 0, none⟩ _ _ (show w.heap.size + 1 + 1 + 1 ≠ w.heap.size + 1 + 1 + 1 + 1 by omega)).trans hpp
        have HCF : Hid (Boxed ((w1.setCell ⟨w.heap.size + 1 + 1 + 1, 2, none⟩ (.int .i64 ((r + 1 : Nat) : Int))).setCell ⟨w.heap.size + 1 + 1 + 1 + 1, 0, none⟩ (.int .i64 ((c + 1 : Nat) : Int))) (w.heap.size + 1 + 1 + 1 + 1) 3 (.int .i64 ((c + 1 : Nat) : Int))) := by
          have h1 : Boxed (w1.setCell ⟨w.heap.size + 1 + 1 + 1, 2, none⟩ (.int .i64 ((r + 1 : Nat) : Int))) (w.heap.size + 1 + 1 + 1 + 1) 3 (.int .i64 (c : Int)) := by
            have h2 := HPX.out.2
            replace h2 := (Below.heap_setCell _ ⟨w.heap.size + 1 + 1 + 1, 2, none⟩ (.int .i64 ((r + 1 : Nat) : Int)) (w.heap.size + 1 + 1 + 1 + 1) (show w.heap.size + 1 + 1 + 1 + 1 ≠ w.heap.size + 1 + 1 + 1 by omega)).trans h2
            exact h2
          exact Boxed.set _ h1
        clear hpp
        gi_wp2
        refine ⟨HWF.out.keepsFrom HB1.out _, HWF.out.kps HB1.out hsW (by intro k hk; simp at hk; omega) (fun k hk => ⟨HPW.out k hk, by simp at hk ⊢; omega⟩), ⟨⟨HWF.out.boxed HB1.out (by simp <;> omega) HYS.out.1, HWF.out.boxed HB1.out (by simp <;> omega) HYS.out.2.1, HWF.out.boxed HB1.out (by simp <;> omega) HYS.out.2.2, ?_, ?_⟩, ?_⟩, (HBW.out.trans (HB1.out.mono hsW)).trans (HWF.out.bel _ (by intro k hk; simp at hk; omega))⟩
        · rw [HMV.out.2.2.2.2.2.2.1, past_last, past_before, regK_snoc, ← HMV.out.2.2.2.2.1, ← HMV.out.2.1, ← HMV.out.2.2.1, ← HMV.out.2.2.2.1, ← HK.out, if_neg HC0.out, if_neg HC1.out, if_pos ⟨HRC.out, HK7.out⟩]
          exact HPF.out
        · rw [HMV.out.2.2.2.2.2.2.1, List.length_append, List.length_singleton, ← HMV.out.2.2.2.2.1]
          exact HCF.out
        · rw [HMV.out.2.2.2.2.2.2.1]
          exact HMV.out.2.2.2.2.2.1.go ⟨by rw [← HMV.out.2.2.2.1, ← HMV.out.2.2.2.2.1]; exact HRC.out, by rw [← HK.out]; exact HK7.out⟩
      · have k7 : (k == 7) = false := by simpa using hk7
        have HK7 : Hid (¬ k = 7) := hk7
        clear hk7
        have HWF : Hid (Chg [w.heap.size + 1 + 1 + 1, w.heap.size + 1 + 1 + 1 + 1] w1 (w1)) := (Chg.refl [w.heap.size + 1 + 1 + 1, w.heap.size + 1 + 1 + 1 + 1] w1)
        have hpp : (w1).heap[w.heap.size + 1 + 1 + 1]? = some (.cells #[.int .i64 bf, .int .i64 la, .int .i64 (r : Int)] 48 (0, 0)) := HPX.out.1
        have HPF : Hid ((w1).heap[w.heap.size + 1 + 1 + 1]? = some (.cells #[.int .i64 bf, .int .i64 la, .int .i64 (r : Int)] 48 (0, 0))) := hpp
        clear hpp
        gi_wp2
        refine ⟨HWF.out.keepsFrom HB1.out _, ⟨pre, x, ⟨rfl, rfl, ?_, by have := HMV.out; omega⟩, HWF.out.boxed HB1.out (by simp <;> omega) HYS.out.2.2, ?_⟩, (HBW.out.trans (HB1.out.mono hsW)).trans (HWF.out.bel _ (by intro k hk; simp at hk; omega))⟩
        · rw [← HR.out, ← HK.out, ← HMV.out.1, ← HMV.out.2.2.2.1, ← HMV.out.2.2.2.2.1]
          exact fun q => HK7.out q.2
        · rw [HMV.out.2.2.2.2.2.2.1, past_last, past_before, ← HMV.out.1, ← HMV.out.2.2.2.2.1, ← HMV.out.2.1, ← HMV.out.2.2.1, ← HMV.out.2.2.2.1, ← HK.out, if_neg HC0.out, if_neg HC1.out]
          exact HPF.out
  case done =>
    rintro D ys W hD hrun ⟨⟨⟨y0, y1, yR, yP, yC⟩, hns⟩, hB⟩ hK
    have hkk : kindsH ys = hk l i := by rw [kindsH_vals, hrun]; exact hk_back l i
    rw [hkk] at yP
    have HY : Hid (W.heap[w.heap.size + 1 + 1]? = some (.cells #[.int .i64 0, .int .i64 0, .int .i64 0] 48 (0, 0)) ∧ W.heap[w.heap.size + 1 + 1 + 1]? = some (.cells #[.int .i64 ((hk l i)[1]?.getD 0), .int .i64 ((hk l i)[0]?.getD 0), .int .i64 (regK (hk l i) : Int)] 48 (0, 0)) ∧ Below w.heap.size w W ∧ W.heap[D]? = some (.deferred (some []))) := ⟨yR, yP, hB, hK⟩
    clear y0 y1 yR yP yC hns hB hK hrun hkk
    obtain ⟨bf, hbf⟩ : ∃ z, z = (hk l i)[1]?.getD 0 := ⟨_, rfl⟩
    obtain ⟨la, hla⟩ : ∃ z, z = (hk l i)[0]?.getD 0 := ⟨_, rfl⟩
    obtain ⟨r, hr⟩ : ∃ z, z = regK (hk l i) := ⟨_, rfl⟩
    have HM : Hid (bf = (hk l i)[1]?.getD 0 ∧ la = (hk l i)[0]?.getD 0 ∧ r = regK (hk l i)) := ⟨hbf, hla, hr⟩
    rw [← hbf, ← hla, ← hr] at HY
    clear hbf hla hr
    have p0 : W.cell? ⟨w.heap.size + 1 + 1 + 1, 0, none⟩ = some (.int .i64 bf) := cell_of_row _ _ _ _ _ _ HY.out.2.1
    have p1 : W.cell? ⟨w.heap.size + 1 + 1 + 1, 1, none⟩ = some (.int .i64 la) := cell_of_row _ _ _ _ _ _ HY.out.2.1
    have p2 : W.cell? ⟨w.heap.size + 1 + 1 + 1, 2, none⟩ = some (.int .i64 (r : Int)) := cell_of_row _ _ _ _ _ _ HY.out.2.1
    have z0 : W.cell? ⟨w.heap.size + 1 + 1, 0, none⟩ = some (.int .i64 0) := cell_of_row _ _ _ _ _ _ HY.out.1
    have z1 : W.cell? ⟨w.heap.size + 1 + 1, 1, none⟩ = some (.int .i64 0) := cell_of_row _ _ _ _ _ _ HY.out.1
    have z2 : W.cell? ⟨w.heap.size + 1 + 1, 2, none⟩ = some (.int .i64 0) := cell_of_row _ _ _ _ _ _ HY.out.1
    have f0 : W.frozen? ⟨w.heap.size + 1 + 1, 0, none⟩ = false := frozen_of_row _ _ _ _ _ HY.out.1
    have f1 : W.frozen? ⟨w.heap.size + 1 + 1, 1, none⟩ = false := frozen_of_row _ _ _ _ _ HY.out.1
    have f2 : W.frozen? ⟨w.heap.size + 1 + 1, 2, none⟩ = false := frozen_of_row _ _ _ _ _ HY.out.1
    gi_wp2
    obtain ⟨W4, hW4⟩ : ∃ W4, W4 = ((W.setCell ⟨w.heap.size + 1 + 1, 0, none⟩ (.int .i64 bf)).setCell ⟨w.heap.size + 1 + 1, 1, none⟩ (.int .i64 la)).setCell ⟨w.heap.size + 1 + 1, 2, none⟩ (.int .i64 (r : Int)) := ⟨_, rfl⟩
    have kR : W4.heap[w.heap.size + 1 + 1]? = some (.cells #[.int .i64 bf, .int .i64 la, .int .i64 (r : Int)] 48 (0, 0)) := by rw [hW4]; exact heap_set_row (cs := _) (j := 2) (heap_set_row (cs := _) (j := 1) (heap_set_row (cs := _) (j := 0) HY.out.1 rfl) rfl) rfl
    have hch : Chg [w.heap.size + 1 + 1] W W4 := by rw [hW4]; exact (((Chg.refl [w.heap.size + 1 + 1] W).set (by simp) 0 _).set (by simp) 1 _).set (by simp) 2 _
    have kB : Below w.heap.size w W4 := HY.out.2.2.1.trans (hch.bel _ (by intro k hk; simp at hk; omega))
    have kK : W4.heap[D]? = some (.deferred (some [])) := hch.keeps.same D _ HY.out.2.2.2 rfl
    rw [← hW4]
    clear hW4
    refine ⟨by simp, .inl ⟨_, _, rfl, run_takeDeferred kK, ?_⟩⟩
    have d0 : W4.cell? ⟨w.heap.size + 1 + 1, 0, none⟩ = some (.int .i64 bf) := cell_of_row _ _ _ _ _ _ kR
    have d1 : W4.cell? ⟨w.heap.size + 1 + 1, 1, none⟩ = some (.int .i64 la) := cell_of_row _ _ _ _ _ _ kR
    have d2 : W4.cell? ⟨w.heap.size + 1 + 1, 2, none⟩ = some (.int .i64 (r : Int)) := cell_of_row _ _ _ _ _ _ kR
    have c0 := cell_kept d0 (grownBy_putObj' _ D (.deferred none)) (fun r e => by cases e; exact ⟨_, kK, rfl⟩)
    have c1 := cell_kept d1 (grownBy_putObj' _ D (.deferred none)) (fun r e => by cases e; exact ⟨_, kK, rfl⟩)
    have c2 := cell_kept d2 (grownBy_putObj' _ D (.deferred none)) (fun r e => by cases e; exact ⟨_, kK, rfl⟩)
    refine ⟨.agg #[.int .i64 bf, .int .i64 la, .int .i64 (r : Int)], ?_, by rw [HM.out.1, HM.out.2.1, HM.out.2.2]; rfl, kB.trans (belowK_b (w := w) (Nat.le_refl _) W4 D _ _ (by omega) kK rfl rfl)⟩
    simp [results, Tryd.results28, go_sem, c0, c1, c2]
  case stop =>
    rintro D c pre W hD ⟨t, ht, hpre⟩ ⟨⟨pre', x, ⟨rfl, rfl, hno, hp1⟩, yR, yP⟩, hB⟩ hK
    have hkk : kindsH (pre' ++ [x]) ++ hk l (i - t) = hk l i := by rw [kindsH_vals, hpre]; exact hk_heads l i t ht
    have hlen2 : 2 ≤ (kindsH (pre' ++ [x])).length := by rw [kindsH_len, List.length_append, List.length_singleton]; omega
    have hb2 : (kindsH (pre' ++ [x]))[1]?.getD 0 = (hk l i)[1]?.getD 0 := by rw [← hkk, List.getElem?_append_left (by omega)]
    have hl2 : (kindsH (pre' ++ [x]))[0]?.getD 0 = (hk l i)[0]?.getD 0 := by rw [← hkk, List.getElem?_append_left (by omega)]
    have hr2 : regK (kindsH pre') = regK (hk l i) := by rw [← hkk, kindsH_snoc, past_stop hno]
    rw [hb2, hl2, hr2] at yP
    have HY : Hid (W.heap[w.heap.size + 1 + 1]? = some (.cells #[.int .i64 0, .int .i64 0, .int .i64 0] 48 (0, 0)) ∧ W.heap[w.heap.size + 1 + 1 + 1]? = some (.cells #[.int .i64 ((hk l i)[1]?.getD 0), .int .i64 ((hk l i)[0]?.getD 0), .int .i64 (regK (hk l i) : Int)] 48 (0, 0)) ∧ Below w.heap.size w W ∧ W.heap[D]? = some (.deferred (some []))) := ⟨yR, yP, hB, hK⟩
    clear yR yP hB hK hkk hlen2 hb2 hl2 hr2 hno hp1 hpre ht
    obtain ⟨bf, hbf⟩ : ∃ z, z = (hk l i)[1]?.getD 0 := ⟨_, rfl⟩
    obtain ⟨la, hla⟩ : ∃ z, z = (hk l i)[0]?.getD 0 := ⟨_, rfl⟩
    obtain ⟨r, hr⟩ : ∃ z, z = regK (hk l i) := ⟨_, rfl⟩
    have HM : Hid (bf = (hk l i)[1]?.getD 0 ∧ la = (hk l i)[0]?.getD 0 ∧ r = regK (hk l i)) := ⟨hbf, hla, hr⟩
    rw [← hbf, ← hla, ← hr] at HY
    clear hbf hla hr
    have p0 : W.cell? ⟨w.heap.size + 1 + 1 + 1, 0, none⟩ = some (.int .i64 bf) := cell_of_row _ _ _ _ _ _ HY.out.2.1
    have p1 : W.cell? ⟨w.heap.size + 1 + 1 + 1, 1, none⟩ = some (.int .i64 la) := cell_of_row _ _ _ _ _ _ HY.out.2.1
    have p2 : W.cell? ⟨w.heap.size + 1 + 1 + 1, 2, none⟩ = some (.int .i64 (r : Int)) := cell_of_row _ _ _ _ _ _ HY.out.2.1
    have z0 : W.cell? ⟨w.heap.size + 1 + 1, 0, none⟩ = some (.int .i64 0) := cell_of_row _ _ _ _ _ _ HY.out.1
    have z1 : W.cell? ⟨w.heap.size + 1 + 1, 1, none⟩ = some (.int .i64 0) := cell_of_row _ _ _ _ _ _ HY.out.1
    have z2 : W.cell? ⟨w.heap.size + 1 + 1, 2, none⟩ = some (.int .i64 0) := cell_of_row _ _ _ _ _ _ HY.out.1
    have f0 : W.frozen? ⟨w.heap.size + 1 + 1, 0, none⟩ = false := frozen_of_row _ _ _ _ _ HY.out.1
    have f1 : W.frozen? ⟨w.heap.size + 1 + 1, 1, none⟩ = false := frozen_of_row _ _ _ _ _ HY.out.1
    have f2 : W.frozen? ⟨w.heap.size + 1 + 1, 2, none⟩ = false := frozen_of_row _ _ _ _ _ HY.out.1
    gi_wp2
    obtain ⟨W4, hW4⟩ : ∃ W4, W4 = ((W.setCell ⟨w.heap.size + 1 + 1, 0, none⟩ (.int .i64 bf)).setCell ⟨w.heap.size + 1 + 1, 1, none⟩ (.int .i64 la)).setCell ⟨w.heap.size + 1 + 1, 2, none⟩ (.int .i64 (r : Int)) := ⟨_, rfl⟩
    have kR : W4.heap[w.heap.size + 1 + 1]? = some (.cells #[.int .i64 bf, .int .i64 la, .int .i64 (r : Int)] 48 (0, 0)) := by rw [hW4]; exact heap_set_row (cs := _) (j := 2) (heap_set_row (cs := _) (j := 1) (heap_set_row (cs := _) (j := 0) HY.out.1 rfl) rfl) rfl
    have hch : Chg [w.heap.size + 1 + 1] W W4 := by rw [hW4]; exact (((Chg.refl [w.heap.size + 1 + 1] W).set (by simp) 0 _).set (by simp) 1 _).set (by simp) 2 _
    have kB : Below w.heap.size w W4 := HY.out.2.2.1.trans (hch.bel _ (by intro k hk; simp at hk; omega))
    have kK : W4.heap[D]? = some (.deferred (some [])) := hch.keeps.same D _ HY.out.2.2.2 rfl
    rw [← hW4]
    clear hW4
    refine ⟨by simp, .inl ⟨_, _, rfl, run_takeDeferred kK, ?_⟩⟩
    have d0 : W4.cell? ⟨w.heap.size + 1 + 1, 0, none⟩ = some (.int .i64 bf) := cell_of_row _ _ _ _ _ _ kR
    have d1 : W4.cell? ⟨w.heap.size + 1 + 1, 1, none⟩ = some (.int .i64 la) := cell_of_row _ _ _ _ _ _ kR
    have d2 : W4.cell? ⟨w.heap.size + 1 + 1, 2, none⟩ = some (.int .i64 (r : Int)) := cell_of_row _ _ _ _ _ _ kR
    have c0 := cell_kept d0 (grownBy_putObj' _ D (.deferred none)) (fun r e => by cases e; exact ⟨_, kK, rfl⟩)
    have c1 := cell_kept d1 (grownBy_putObj' _ D (.deferred none)) (fun r e => by cases e; exact ⟨_, kK, rfl⟩)
    have c2 := cell_kept d2 (grownBy_putObj' _ D (.deferred none)) (fun r e => by cases e; exact ⟨_, kK, rfl⟩)
    refine ⟨.agg #[.int .i64 bf, .int .i64 la, .int .i64 (r : Int)], ?_, by rw [HM.out.1, HM.out.2.1, HM.out.2.2]; rfl, kB.trans (belowK_b (w := w) (Nat.le_refl _) W4 D _ _ (by omega) kK rfl rfl)⟩
    simp [results, Tryd.results28, go_sem, c0, c1, c2]
theorem past_any (g : Nat) (sv : Value) (l : List Int) (hlen : l.length ≤ 10000) (i : Nat) (hi : i ≤ l.length) (w : World) (hS : Ship w g) (hI : IntsAt w.heap.size w sv l) :
    Calls Tryd.prog 28 #[.pointer (some ⟨g, 0, none⟩), sv, .int .i64 (i : Int)] w fun e W' => e = .returned (pastV ((hk l i)[1]?.getD 0) ((hk l i)[0]?.getD 0) (regK (hk l i) : Int)) ∧ Below w.heap.size w W' :=
  callsIn_wide.1 (past_in 3 (Nat.le_refl _) g sv l hlen i hi w hS hI)
end Go.Proofs.YtpmlbdfdiebkcaaDoor

namespace Go.Proofs.YtpmlbdfdiebkcaaDoor
open Go.RowKit
set_option linter.unusedVariables false

theorem break_any (l : List Int) (v : Value) (g i : Nat) (w : World) (hd : Ship w g) (hv : IntsAt w.heap.size w v l) (hn : l.length ≤ 10000) (hi : i ≤ l.length) :
    Calls Tryd.prog 15 #[.pointer (some ⟨g, 0, none⟩), v, .int .i64 (i : Int)] w fun e w' => e = .returned (.bool (brk l i)) ∧ Below w.heap.size w w' := by
  rcases Nat.eq_or_lt_of_le hi with rfl | hlt
  · have HC : Hid (Calls Tryd.prog 17 #[.pointer (some ⟨g, 0, none⟩), v, .int .i64 (l.length : Int)] w fun e w' => e = .returned (.bool false) ∧ Below w.heap.size w w') := head_out l v g _ w hv (.inr (Int.le_refl _))
    obtain ⟨a, cap, rfl, hcap, hc⟩ := hv
    rw [brk_end l (Nat.le_refl _)]
    have e1 : ((l.length : Int) == (l.length : Int)) = true := by simp
    clear hc hd hn hi
    go_enter Tryd.func15, Tryd.ntmps15
    go_wp2_with fail
    refine HC.out.mono ?_
    rintro e w1 ⟨rfl, hB1⟩
    have HB1 : Hid (Below w.heap.size w w1) := hB1
    clear hB1
    go_wp2
    go_ret
    exact ⟨rfl, HB1.out⟩
  · have HC : Hid (Calls Tryd.prog 17 #[.pointer (some ⟨g, 0, none⟩), v, .int .i64 (i : Int)] w fun e w' => e = .returned (.bool (headB l i)) ∧ Below w.heap.size w w') := head_any l v g i w hd hv hn hlt
    have HV : Hid (IntsAt w.heap.size w v l) := hv
    have HD : Hid (Ship w g) := hd
    have HN : Hid (l.length ≤ 10000 ∧ i < l.length) := ⟨hn, hlt⟩
    obtain ⟨E, hE⟩ : ∃ E, E = brk l i := ⟨_, rfl⟩
    have HE : Hid (E = brk l i) := hE
    rw [← hE]
    obtain ⟨p, hp⟩ : ∃ p, p = headB l i := ⟨_, rfl⟩
    have HP : Hid (headB l i = p) := hp.symm
    rw [← hp] at HC
    obtain ⟨a, cap, rfl, hcap, hc⟩ := hv
    have e1 : ((i : Int) == (l.length : Int)) = false := by rw [beq_eq_false_iff_ne]; omega
    clear hc hd hn hi hlt hE hp
    go_enter Tryd.func15, Tryd.ntmps15
    go_wp2_with fail
    refine HC.out.mono ?_
    rintro e w1 ⟨rfl, hB1⟩
    have HB1 : Hid (Below w.heap.size w w1) := hB1
    clear hB1
    cases p with
    | false =>
      obtain rfl : E = false := by rw [HE.out]; exact brk_nohead HN.out.2 HP.out
      go_wp2
      go_ret
      exact ⟨rfl, HB1.out⟩
    | true =>
      go_wp2_with fail
      refine (past_any g _ l HN.out.1 i (Nat.le_of_lt HN.out.2) w1 (HD.out.below HB1.out) (HV.out.on HB1.out)).mono ?_
      rintro e w2 ⟨rfl, hB2⟩
      have HB2 : Hid (Below w.heap.size w w2) := HB1.out.trans (hB2.mono HB1.out.size)
      clear hB2
      have HEN : Hid (Calls Tryd.prog 24 #[.pointer (some ⟨g, 0, none⟩), .slice a l.length cap, .int .i64 (i : Int), pastV ((hk l i)[1]?.getD 0) ((hk l i)[0]?.getD 0) (regK (hk l i) : Int)] w2 fun e w' => e = .returned (.bool E) ∧ Below w2.heap.size w2 w') := by
        rw [HE.out, ← ends_brk HP.out]
        exact ends_any l _ g i _ _ _ w2 (HD.out.below HB2.out) (HV.out.on HB2.out) HN.out.1 HN.out.2
      obtain ⟨pv, hpv⟩ : ∃ pv, pv = pastV ((hk l i)[1]?.getD 0) ((hk l i)[0]?.getD 0) (regK (hk l i) : Int) := ⟨_, rfl⟩
      rw [← hpv] at HEN ⊢
      clear hpv
      go_wp2_with fail
      refine HEN.out.mono ?_
      rintro e w3 ⟨rfl, hB3⟩
      have HB3 : Hid (Below w.heap.size w w3) := HB2.out.trans (hB3.mono HB2.out.size)
      clear hB3
      go_wp2
      go_ret
      exact ⟨rfl, HB3.out⟩
theorem break_out (l : List Int) (v : Value) (g : Nat) (i : Int) (w : World) (hv : IntsAt w.heap.size w v l) (hi : i < 0 ∨ (l.length : Int) < i) :
    Calls Tryd.prog 15 #[.pointer (some ⟨g, 0, none⟩), v, .int .i64 i] w fun e w' => e = .returned (.bool false) ∧ Below w.heap.size w w' := by
  have HC : Hid (Calls Tryd.prog 17 #[.pointer (some ⟨g, 0, none⟩), v, .int .i64 i] w fun e w' => e = .returned (.bool false) ∧ Below w.heap.size w w') := head_out l v g _ w hv (by omega)
  obtain ⟨a, cap, rfl, hcap, hc⟩ := hv
  have e1 : (i == (l.length : Int)) = false := by rw [beq_eq_false_iff_ne]; omega
  clear hc hi
  go_enter Tryd.func15, Tryd.ntmps15
  go_wp2_with fail
  refine HC.out.mono ?_
  rintro e w1 ⟨rfl, hB1⟩
  have HB1 : Hid (Below w.heap.size w w1) := hB1
  clear hB1
  go_wp2
  go_ret
  exact ⟨rfl, HB1.out⟩
end Go.Proofs.YtpmlbdfdiebkcaaDoor
