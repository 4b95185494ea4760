/-
  words.nextOf: the kind of the first head behind a sign.
-/
import Derived.Test.YtpmlbdfdiebkcaaDoorHeads
import Derived.Test.YtpmlbdfdiebkcaaDoorRegIn
import Derived.RegionIn
import Derived.BigRegionIn
namespace Go.Proofs.YtpmlbdfdiebkcaaDoor
open Go.RowKit Go.Shelf
set_option linter.unusedVariables false
attribute [local go_sem] Oper.semAt_some

theorem boxed_ne {W : World} {B B' : Nat} {t : TypeId} {v u : Value} (h : Boxed W B t v) (hne : B ≠ B') : Boxed (W.setCell ⟨B', 0, none⟩ u) B t v := (Below.heap_setCell W ⟨B', 0, none⟩ u B hne).trans h
theorem boxed_below {W W' : World} {B : Nat} {t : TypeId} {v : Value} (h : Boxed W B t v) (hb : Below W.heap.size W W') : Boxed W' B t v := (hb.block B h.lt).trans h
theorem keeps_below {W W' : World} (h : Below W.heap.size W W') : KeepsOthers W W' := ⟨h.size, fun k o e _ => (h.block k (Array.getElem?_eq_some_iff.1 e).1).trans e⟩

set_option maxRecDepth 100000 in
set_option maxHeartbeats 4000000 in
theorem next_in (n : Nat) (hn : 3 ≤ n) (g : Nat) (sv : Value) (l : List Int) (hlen : l.length ≤ 10000) (i : Nat) (hi : i < l.length) (w : World) (hS : Ship w g) (hI : IntsAt w.heap.size w sv l) :
    CallsIn Fence.wide n Tryd.prog 52 #[.pointer (some ⟨g, 0, none⟩), sv, .int .i64 (i : Int)] w fun e W' => e = .returned (.int .i64 ((nx l (i + 1)).getD 0)) ∧ Below w.heap.size w W' := by
  have HI : Hid (IntsAt w.heap.size w sv l) := hI
  have HS : Hid (Ship w g) := hS
  have HLN : Hid (l.length ≤ 10000 ∧ i < l.length) := ⟨hlen, hi⟩
  obtain ⟨a, cap, hsv, _, _⟩ := hI
  subst hsv
  have h1 : 1 ≤ n := by omega
  have hwi : IntKind.i64.wrap ((i : Int) + 1) = ((i + 1 : Nat) : Int) := (wrap_int (by omega) (by omega)).trans (by omega)
  clear hS hlen hi
  refine callsIn_of_wp_marks Tryd.func52 rfl trivial ?_ rfl
  simp only [Tryd.ntmps52, List.size_toArray, List.length_cons, List.length_nil, Nat.reduceAdd, Nat.reduceSub, Array.replicate_succ, Array.replicate_zero, List.push_toArray, List.append_toArray, List.nil_append, List.cons_append]
  gi_wp2_with (refine ⟨trivial, ?_⟩; gi_at_call 23; refine (heads_in (n - 1) g _ _ _ _ _ _).mono ?_; rintro e w' ⟨rfl, rfl⟩)
  have hsz : (((((((w.alloc (.cells #[.pointer (some ⟨g, 0, none⟩)] 24)).alloc (.cells #[.slice a l.length cap] 22)).alloc (.cells #[.int .i64 0] 3)).alloc (.cells #[.pointer (some ⟨g, 0, none⟩)] 24)).alloc (.cells #[.slice a l.length cap] 22)).alloc (.cells #[.int .i64 ((i : Int) + 1)] 3)).alloc (.cells #[.int .i64 1] 3)).heap.size = w.heap.size + 7 := by simp
  have hB0 : Below w.heap.size w (((((((w.alloc (.cells #[.pointer (some ⟨g, 0, none⟩)] 24)).alloc (.cells #[.slice a l.length cap] 22)).alloc (.cells #[.int .i64 0] 3)).alloc (.cells #[.pointer (some ⟨g, 0, none⟩)] 24)).alloc (.cells #[.slice a l.length cap] 22)).alloc (.cells #[.int .i64 ((i : Int) + 1)] 3)).alloc (.cells #[.int .i64 1] 3)) := ((((((((Below.refl _ w).alloc (Nat.le_refl _) _).alloc (by simp) _).alloc (by simp; omega) _).alloc (by simp; omega) _).alloc (by simp; omega) _).alloc (by simp; omega) _).alloc (by simp; omega) _)
  have b0 : (((((((w.alloc (.cells #[.pointer (some ⟨g, 0, none⟩)] 24)).alloc (.cells #[.slice a l.length cap] 22)).alloc (.cells #[.int .i64 0] 3)).alloc (.cells #[.pointer (some ⟨g, 0, none⟩)] 24)).alloc (.cells #[.slice a l.length cap] 22)).alloc (.cells #[.int .i64 ((i : Int) + 1)] 3)).alloc (.cells #[.int .i64 1] 3)).heap[w.heap.size]? = some (.cells #[.pointer (some ⟨g, 0, none⟩)] 24 (0, 0)) := by
    have h := heap_new' w (.cells #[.pointer (some ⟨g, 0, none⟩)] 24)
    replace h := (Below.heap_alloc (w.alloc (.cells #[.pointer (some ⟨g, 0, none⟩)] 24)) (.cells #[.slice a l.length cap] 22) _ (by simp <;> omega)).trans h
    replace h := (Below.heap_alloc ((w.alloc (.cells #[.pointer (some ⟨g, 0, none⟩)] 24)).alloc (.cells #[.slice a l.length cap] 22)) (.cells #[.int .i64 0] 3) _ (by simp <;> omega)).trans h
    replace h := (Below.heap_alloc (((w.alloc (.cells #[.pointer (some ⟨g, 0, none⟩)] 24)).alloc (.cells #[.slice a l.length cap] 22)).alloc (.cells #[.int .i64 0] 3)) (.cells #[.pointer (some ⟨g, 0, none⟩)] 24) _ (by simp <;> omega)).trans h
    replace h := (Below.heap_alloc ((((w.alloc (.cells #[.pointer (some ⟨g, 0, none⟩)] 24)).alloc (.cells #[.slice a l.length cap] 22)).alloc (.cells #[.int .i64 0] 3)).alloc (.cells #[.pointer (some ⟨g, 0, none⟩)] 24)) (.cells #[.slice a l.length cap] 22) _ (by simp <;> omega)).trans h
    replace h := (Below.heap_alloc (((((w.alloc (.cells #[.pointer (some ⟨g, 0, none⟩)] 24)).alloc (.cells #[.slice a l.length cap] 22)).alloc (.cells #[.int .i64 0] 3)).alloc (.cells #[.pointer (some ⟨g, 0, none⟩)] 24)).alloc (.cells #[.slice a l.length cap] 22)) (.cells #[.int .i64 ((i : Int) + 1)] 3) _ (by simp <;> omega)).trans h
    replace h := (Below.heap_alloc ((((((w.alloc (.cells #[.pointer (some ⟨g, 0, none⟩)] 24)).alloc (.cells #[.slice a l.length cap] 22)).alloc (.cells #[.int .i64 0] 3)).alloc (.cells #[.pointer (some ⟨g, 0, none⟩)] 24)).alloc (.cells #[.slice a l.length cap] 22)).alloc (.cells #[.int .i64 ((i : Int) + 1)] 3)) (.cells #[.int .i64 1] 3) _ (by simp <;> omega)).trans h
    exact h
  have b1 : (((((((w.alloc (.cells #[.pointer (some ⟨g, 0, none⟩)] 24)).alloc (.cells #[.slice a l.length cap] 22)).alloc (.cells #[.int .i64 0] 3)).alloc (.cells #[.pointer (some ⟨g, 0, none⟩)] 24)).alloc (.cells #[.slice a l.length cap] 22)).alloc (.cells #[.int .i64 ((i : Int) + 1)] 3)).alloc (.cells #[.int .i64 1] 3)).heap[w.heap.size + 1]? = some (.cells #[.slice a l.length cap] 22 (0, 0)) := by
    have h := heap_new' (w.alloc (.cells #[.pointer (some ⟨g, 0, none⟩)] 24)) (.cells #[.slice a l.length cap] 22)
    simp only [World.size_alloc] at h
    replace h := (Below.heap_alloc ((w.alloc (.cells #[.pointer (some ⟨g, 0, none⟩)] 24)).alloc (.cells #[.slice a l.length cap] 22)) (.cells #[.int .i64 0] 3) _ (by simp <;> omega)).trans h
    replace h := (Below.heap_alloc (((w.alloc (.cells #[.pointer (some ⟨g, 0, none⟩)] 24)).alloc (.cells #[.slice a l.length cap] 22)).alloc (.cells #[.int .i64 0] 3)) (.cells #[.pointer (some ⟨g, 0, none⟩)] 24) _ (by simp <;> omega)).trans h
    replace h := (Below.heap_alloc ((((w.alloc (.cells #[.pointer (some ⟨g, 0, none⟩)] 24)).alloc (.cells #[.slice a l.length cap] 22)).alloc (.cells #[.int .i64 0] 3)).alloc (.cells #[.pointer (some ⟨g, 0, none⟩)] 24)) (.cells #[.slice a l.length cap] 22) _ (by simp <;> omega)).trans h
    replace h := (Below.heap_alloc (((((w.alloc (.cells #[.pointer (some ⟨g, 0, none⟩)] 24)).alloc (.cells #[.slice a l.length cap] 22)).alloc (.cells #[.int .i64 0] 3)).alloc (.cells #[.pointer (some ⟨g, 0, none⟩)] 24)).alloc (.cells #[.slice a l.length cap] 22)) (.cells #[.int .i64 ((i : Int) + 1)] 3) _ (by simp <;> omega)).trans h
    replace h := (Below.heap_alloc ((((((w.alloc (.cells #[.pointer (some ⟨g, 0, none⟩)] 24)).alloc (.cells #[.slice a l.length cap] 22)).alloc (.cells #[.int .i64 0] 3)).alloc (.cells #[.pointer (some ⟨g, 0, none⟩)] 24)).alloc (.cells #[.slice a l.length cap] 22)).alloc (.cells #[.int .i64 ((i : Int) + 1)] 3)) (.cells #[.int .i64 1] 3) _ (by simp <;> omega)).trans h
    exact h
  have b2 : (((((((w.alloc (.cells #[.pointer (some ⟨g, 0, none⟩)] 24)).alloc (.cells #[.slice a l.length cap] 22)).alloc (.cells #[.int .i64 0] 3)).alloc (.cells #[.pointer (some ⟨g, 0, none⟩)] 24)).alloc (.cells #[.slice a l.length cap] 22)).alloc (.cells #[.int .i64 ((i : Int) + 1)] 3)).alloc (.cells #[.int .i64 1] 3)).heap[w.heap.size + 2]? = some (.cells #[.int .i64 0] 3 (0, 0)) := by
    have h := heap_new' ((w.alloc (.cells #[.pointer (some ⟨g, 0, none⟩)] 24)).alloc (.cells #[.slice a l.length cap] 22)) (.cells #[.int .i64 0] 3)
    simp only [World.size_alloc] at h
    replace h := (Below.heap_alloc (((w.alloc (.cells #[.pointer (some ⟨g, 0, none⟩)] 24)).alloc (.cells #[.slice a l.length cap] 22)).alloc (.cells #[.int .i64 0] 3)) (.cells #[.pointer (some ⟨g, 0, none⟩)] 24) _ (by simp <;> omega)).trans h
    replace h := (Below.heap_alloc ((((w.alloc (.cells #[.pointer (some ⟨g, 0, none⟩)] 24)).alloc (.cells #[.slice a l.length cap] 22)).alloc (.cells #[.int .i64 0] 3)).alloc (.cells #[.pointer (some ⟨g, 0, none⟩)] 24)) (.cells #[.slice a l.length cap] 22) _ (by simp <;> omega)).trans h
    replace h := (Below.heap_alloc (((((w.alloc (.cells #[.pointer (some ⟨g, 0, none⟩)] 24)).alloc (.cells #[.slice a l.length cap] 22)).alloc (.cells #[.int .i64 0] 3)).alloc (.cells #[.pointer (some ⟨g, 0, none⟩)] 24)).alloc (.cells #[.slice a l.length cap] 22)) (.cells #[.int .i64 ((i : Int) + 1)] 3) _ (by simp <;> omega)).trans h
    replace h := (Below.heap_alloc ((((((w.alloc (.cells #[.pointer (some ⟨g, 0, none⟩)] 24)).alloc (.cells #[.slice a l.length cap] 22)).alloc (.cells #[.int .i64 0] 3)).alloc (.cells #[.pointer (some ⟨g, 0, none⟩)] 24)).alloc (.cells #[.slice a l.length cap] 22)).alloc (.cells #[.int .i64 ((i : Int) + 1)] 3)) (.cells #[.int .i64 1] 3) _ (by simp <;> omega)).trans h
    exact h
  have b3 : (((((((w.alloc (.cells #[.pointer (some ⟨g, 0, none⟩)] 24)).alloc (.cells #[.slice a l.length cap] 22)).alloc (.cells #[.int .i64 0] 3)).alloc (.cells #[.pointer (some ⟨g, 0, none⟩)] 24)).alloc (.cells #[.slice a l.length cap] 22)).alloc (.cells #[.int .i64 ((i : Int) + 1)] 3)).alloc (.cells #[.int .i64 1] 3)).heap[w.heap.size + 3]? = some (.cells #[.pointer (some ⟨g, 0, none⟩)] 24 (0, 0)) := by
    have h := heap_new' (((w.alloc (.cells #[.pointer (some ⟨g, 0, none⟩)] 24)).alloc (.cells #[.slice a l.length cap] 22)).alloc (.cells #[.int .i64 0] 3)) (.cells #[.pointer (some ⟨g, 0, none⟩)] 24)
    simp only [World.size_alloc] at h
    replace h := (Below.heap_alloc ((((w.alloc (.cells #[.pointer (some ⟨g, 0, none⟩)] 24)).alloc (.cells #[.slice a l.length cap] 22)).alloc (.cells #[.int .i64 0] 3)).alloc (.cells #[.pointer (some ⟨g, 0, none⟩)] 24)) (.cells #[.slice a l.length cap] 22) _ (by simp <;> omega)).trans h
    replace h := (Below.heap_alloc (((((w.alloc (.cells #[.pointer (some ⟨g, 0, none⟩)] 24)).alloc (.cells #[.slice a l.length cap] 22)).alloc (.cells #[.int .i64 0] 3)).alloc (.cells #[.pointer (some ⟨g, 0, none⟩)] 24)).alloc (.cells #[.slice a l.length cap] 22)) (.cells #[.int .i64 ((i : Int) + 1)] 3) _ (by simp <;> omega)).trans h
    replace h := (Below.heap_alloc ((((((w.alloc (.cells #[.pointer (some ⟨g, 0, none⟩)] 24)).alloc (.cells #[.slice a l.length cap] 22)).alloc (.cells #[.int .i64 0] 3)).alloc (.cells #[.pointer (some ⟨g, 0, none⟩)] 24)).alloc (.cells #[.slice a l.length cap] 22)).alloc (.cells #[.int .i64 ((i : Int) + 1)] 3)) (.cells #[.int .i64 1] 3) _ (by simp <;> omega)).trans h
    exact h
  have b4 : (((((((w.alloc (.cells #[.pointer (some ⟨g, 0, none⟩)] 24)).alloc (.cells #[.slice a l.length cap] 22)).alloc (.cells #[.int .i64 0] 3)).alloc (.cells #[.pointer (some ⟨g, 0, none⟩)] 24)).alloc (.cells #[.slice a l.length cap] 22)).alloc (.cells #[.int .i64 ((i : Int) + 1)] 3)).alloc (.cells #[.int .i64 1] 3)).heap[w.heap.size + 4]? = some (.cells #[.slice a l.length cap] 22 (0, 0)) := by
    have h := heap_new' ((((w.alloc (.cells #[.pointer (some ⟨g, 0, none⟩)] 24)).alloc (.cells #[.slice a l.length cap] 22)).alloc (.cells #[.int .i64 0] 3)).alloc (.cells #[.pointer (some ⟨g, 0, none⟩)] 24)) (.cells #[.slice a l.length cap] 22)
    simp only [World.size_alloc] at h
    replace h := (Below.heap_alloc (((((w.alloc (.cells #[.pointer (some ⟨g, 0, none⟩)] 24)).alloc (.cells #[.slice a l.length cap] 22)).alloc (.cells #[.int .i64 0] 3)).alloc (.cells #[.pointer (some ⟨g, 0, none⟩)] 24)).alloc (.cells #[.slice a l.length cap] 22)) (.cells #[.int .i64 ((i : Int) + 1)] 3) _ (by simp <;> omega)).trans h
    replace h := (Below.heap_alloc ((((((w.alloc (.cells #[.pointer (some ⟨g, 0, none⟩)] 24)).alloc (.cells #[.slice a l.length cap] 22)).alloc (.cells #[.int .i64 0] 3)).alloc (.cells #[.pointer (some ⟨g, 0, none⟩)] 24)).alloc (.cells #[.slice a l.length cap] 22)).alloc (.cells #[.int .i64 ((i : Int) + 1)] 3)) (.cells #[.int .i64 1] 3) _ (by simp <;> omega)).trans h
    exact h
  have b5 : (((((((w.alloc (.cells #[.pointer (some ⟨g, 0, none⟩)] 24)).alloc (.cells #[.slice a l.length cap] 22)).alloc (.cells #[.int .i64 0] 3)).alloc (.cells #[.pointer (some ⟨g, 0, none⟩)] 24)).alloc (.cells #[.slice a l.length cap] 22)).alloc (.cells #[.int .i64 ((i : Int) + 1)] 3)).alloc (.cells #[.int .i64 1] 3)).heap[w.heap.size + 5]? = some (.cells #[.int .i64 ((i : Int) + 1)] 3 (0, 0)) := by
    have h := heap_new' (((((w.alloc (.cells #[.pointer (some ⟨g, 0, none⟩)] 24)).alloc (.cells #[.slice a l.length cap] 22)).alloc (.cells #[.int .i64 0] 3)).alloc (.cells #[.pointer (some ⟨g, 0, none⟩)] 24)).alloc (.cells #[.slice a l.length cap] 22)) (.cells #[.int .i64 ((i : Int) + 1)] 3)
    simp only [World.size_alloc] at h
    replace h := (Below.heap_alloc ((((((w.alloc (.cells #[.pointer (some ⟨g, 0, none⟩)] 24)).alloc (.cells #[.slice a l.length cap] 22)).alloc (.cells #[.int .i64 0] 3)).alloc (.cells #[.pointer (some ⟨g, 0, none⟩)] 24)).alloc (.cells #[.slice a l.length cap] 22)).alloc (.cells #[.int .i64 ((i : Int) + 1)] 3)) (.cells #[.int .i64 1] 3) _ (by simp <;> omega)).trans h
    exact h
  have b6 : (((((((w.alloc (.cells #[.pointer (some ⟨g, 0, none⟩)] 24)).alloc (.cells #[.slice a l.length cap] 22)).alloc (.cells #[.int .i64 0] 3)).alloc (.cells #[.pointer (some ⟨g, 0, none⟩)] 24)).alloc (.cells #[.slice a l.length cap] 22)).alloc (.cells #[.int .i64 ((i : Int) + 1)] 3)).alloc (.cells #[.int .i64 1] 3)).heap[w.heap.size + 6]? = some (.cells #[.int .i64 1] 3 (0, 0)) := by
    have h := heap_new' ((((((w.alloc (.cells #[.pointer (some ⟨g, 0, none⟩)] 24)).alloc (.cells #[.slice a l.length cap] 22)).alloc (.cells #[.int .i64 0] 3)).alloc (.cells #[.pointer (some ⟨g, 0, none⟩)] 24)).alloc (.cells #[.slice a l.length cap] 22)).alloc (.cells #[.int .i64 ((i : Int) + 1)] 3)) (.cells #[.int .i64 1] 3)
    simp only [World.size_alloc] at h
    exact h
  obtain ⟨W0, hW0⟩ : ∃ W0, ((((((w.alloc (.cells #[.pointer (some ⟨g, 0, none⟩)] 24)).alloc (.cells #[.slice a l.length cap] 22)).alloc (.cells #[.int .i64 0] 3)).alloc (.cells #[.pointer (some ⟨g, 0, none⟩)] 24)).alloc (.cells #[.slice a l.length cap] 22)).alloc (.cells #[.int .i64 ((i : Int) + 1)] 3)).alloc (.cells #[.int .i64 1] 3) = W0 := ⟨_, rfl⟩
  rw [hW0] at hsz hB0 b0 b1 b2 b3 b4 b5 b6 ⊢
  clear hW0
  have hway := way_on l HLN.out.1 (i + 1) (by have := HLN.out; omega)
  rw [show ((i + 1 : Nat) : Int) = (i : Int) + 1 from by omega] at hway
  have hSB := HS.out.b
  have HB0 : Hid (Below w.heap.size w W0) := hB0
  obtain ⟨HX0, HX1, HX2⟩ : Hid (Boxed W0 w.heap.size 24 (.pointer (some ⟨g, 0, none⟩))) ∧ Hid (Boxed W0 (w.heap.size + 1) 22 (.slice a l.length cap)) ∧ Hid (Boxed W0 (w.heap.size + 1 + 1) 3 (.int .i64 0)) := ⟨b0, b1, b2⟩
  refine wpIn_rangeFunc_ownH rfl h1 (gf := 50) (lb := #[.pointer (some ⟨w.heap.size + 1 + 1 + 1 + 2, 0, none⟩), .pointer (some ⟨w.heap.size + 1 + 1 + 1 + 1, 0, none⟩), .pointer (some ⟨w.heap.size + 1 + 1 + 1 + 3, 0, none⟩), .pointer (some ⟨w.heap.size + 1 + 1 + 1, 0, none⟩)]) rfl trivial (enters_of Tryd.func50 (by kernel_rfl) rfl)
    (heads_stops (n - 1) (by omega) (w.heap.size + 1 + 1 + 1 + 2) (w.heap.size + 1 + 1 + 1 + 1) (w.heap.size + 1 + 1 + 1 + 3) (w.heap.size + 1 + 1 + 1) w.heap.size g (.slice a l.length cap) a cap l rfl HLN.out.1 _ 1 _ _ _ _ hway W0 (by omega) b5 b4 b6 b3 (hSB.below hB0) (HI.out.below hB0)) kpS_t (kpS_b (by omega) (by intro k hk; simp at hk; omega)) (Below.refl _ _) (fun _ => rfl)
    (fun pre W => ((Boxed W w.heap.size 24 (.pointer (some ⟨g, 0, none⟩)) ∧ Boxed W (w.heap.size + 1) 22 (.slice a l.length cap) ∧ Boxed W (w.heap.size + 1 + 1) 3 (.int .i64 0)) ∧ pre = []) ∧ Below w.heap.size w W)
    (fun c pre W => (∃ x : Fin l.length, (c = .ret ∧ pre = [x]) ∧ Boxed W (w.heap.size + 1 + 1) 3 (.int .i64 (wdV l[x.val]))) ∧ Below w.heap.size w W)
    (OwnFrom.and (fun s X Y row hs hg hr => ⟨⟨Own.from (boxed_own w.heap.size 24 (fun _ : List (Fin l.length) => .pointer (some ⟨g, 0, none⟩))) _ s X Y row hs.1.1 hg hr, Own.from (boxed_own (w.heap.size + 1) 22 (fun _ : List (Fin l.length) => .slice a l.length cap)) _ s X Y row hs.1.2.1 hg hr, Own.from (boxed_own (w.heap.size + 1 + 1) 3 (fun _ : List (Fin l.length) => .int .i64 0)) _ s X Y row hs.1.2.2 hg hr⟩, hs.2⟩) (ownFrom_below (Nat.le_refl _) (by omega)))
    (fun c => OwnFrom.and (fun s X Y row hs hg hr => by
      obtain ⟨x, h1, h2⟩ := hs
      exact ⟨x, h1, Own.from (boxed_own (w.heap.size + 1 + 1) 3 (fun _ : List (Fin l.length) => .int .i64 (wdV l[x.val]))) _ s X Y row h2 hg hr⟩) (ownFrom_below (Nat.le_refl _) (by omega)))
    ⟨⟨⟨HX0.out, HX1.out, HX2.out⟩, rfl⟩, hB0⟩
    (fun x a' W => a' = { tmps := #[.pointer (some ⟨g, 0, none⟩), .slice a l.length cap, .int .i64 (i : Int), .pointer (some ⟨w.heap.size, 0, none⟩), .pointer (some ⟨w.heap.size + 1, 0, none⟩), undef, .pointer (some ⟨w.heap.size + 1 + 1, 0, none⟩), .int .i64 (x.val : Int), .pointer (some ⟨g, 0, none⟩), .slice a l.length cap, .int .i64 (i : Int), .int .i64 ((i : Int) + 1), .func (.func 50) #[] #[.pointer (some ⟨w.heap.size + 1 + 1 + 1 + 2, 0, none⟩), .pointer (some ⟨w.heap.size + 1 + 1 + 1 + 1, 0, none⟩), .pointer (some ⟨w.heap.size + 1 + 1 + 1 + 3, 0, none⟩), .pointer (some ⟨w.heap.size + 1 + 1 + 1, 0, none⟩)], .int .i64 (x.val : Int), undef, undef, undef, undef, undef, undef], defers := [] })
    (fun x a' _ X Y row hs hg hr => hs)
    ?assign ?body ?done ?stop
  case assign =>
    rintro l' pre x W K hI' hK
    unfold encH
    gi_wp2
    exact hK _ _ (KeepsFrom.refl _ _) (kpS_refl _ _ _) hI' rfl
  case body =>
    rintro l' pre x a' W hl _ ⟨⟨⟨y0, y1, y2⟩, rfl⟩, hB⟩ rfl hlt
    have hsW := hB.size
    have HW0 : Hid (∀ w', Below W.heap.size W w' → w'.cell? ⟨w.heap.size, 0, none⟩ = some (.pointer (some ⟨g, 0, none⟩))) := fun w' hw' => (boxed_below y0 hw').cell
    have HW1 : Hid (∀ w', Below W.heap.size W w' → w'.cell? ⟨w.heap.size + 1, 0, none⟩ = some (.slice a l.length cap)) := fun w' hw' => (boxed_below y1 hw').cell
    have HW2 : Hid (∀ w', Below W.heap.size W w' → Boxed w' (w.heap.size + 1 + 1) 3 (.int .i64 0)) := fun w' hw' => boxed_below y2 hw'
    have HSW : Hid (Ship W g) := HS.out.below hB
    have HBW : Hid (Below w.heap.size w W) := hB
    obtain ⟨_, _, e1, _, hcells⟩ := HI.out
    obtain ⟨gi, off, ha, hg, c0⟩ := hcells x.val x.2
    cases e1
    subst ha
    have HX : Hid (∀ w', Below W.heap.size W w' → w'.cell? ⟨gi, off + x.val, none⟩ = some (.int .i64 l[x.val])) := fun w' hw' => ((hB.trans (hw'.mono hsW)).cell (p := ⟨gi, _, none⟩) hg).trans c0
    obtain ⟨xi, hxi⟩ : ∃ xi : Nat, xi = x.val := ⟨_, rfl⟩
    obtain ⟨r, hr⟩ : ∃ r, r = l[x.val] := ⟨_, rfl⟩
    have HR : Hid (r = l[x.val]) := hr
    rw [← hr] at HX
    rw [← hxi] at HX
    have hx1 : (xi : Int) < (l.length : Int) := by have := x.2; omega
    clear y0 y1 y2 hB hcells hg c0 hr
    rw [← hxi]
    have HXI : Hid (xi = x.val) := hxi
    clear hxi
    gi_wp2
    refine wpIn_region_bad (fun w' => Below W.heap.size W w') [6] (by kernel_rfl) (by kernel_rfl) ((Below.refl _ _).drew) (fun hS => ?_)
    refine wpAnyB_take [0, 5, 6] (i := 0) (v := .pointer (some ⟨g, 0, none⟩)) rfl (by kernel_rfl) (fun _ _ _ h => h) (Or.inl ⟨by rfl, fun w hSw => by have := HW0.out w hSw; go_simp⟩) hS ?_
    simp only [List.getElem_toArray, List.getElem_cons_zero, Act.put, List.setIfInBounds_toArray, List.set_cons_zero, List.set_cons_succ]
    refine wpAnyB_take [1, 3, 4, 5, 6] (i := 1) (v := .slice (some ⟨gi, off, none⟩) l.length cap) rfl (by kernel_rfl) (fun _ _ _ h => h) (Or.inl ⟨by rfl, fun w hSw => by have := HW1.out w hSw; go_simp⟩) hS ?_
    simp only [List.getElem_toArray, List.getElem_cons_succ, List.getElem_cons_zero, Act.put, List.setIfInBounds_toArray, List.set_cons_zero, List.set_cons_succ]
    refine wpAnyB_pure (i := 2) (v := .int .i64 (xi : Int)) rfl (by kernel_rfl) (fun _ _ _ h => h) (Or.inl ⟨by rfl, fun w _ => by go_simp⟩) hS ?_
    simp only [List.getElem_toArray, List.getElem_cons_succ, List.getElem_cons_zero, Act.put, List.setIfInBounds_toArray, List.set_cons_zero, List.set_cons_succ]
    refine wpAnyB_pure (i := 3) (v := .pointer (some ⟨gi, off + xi, none⟩)) rfl (by kernel_rfl) (fun _ _ _ h => h) (Or.inl ⟨by rfl, fun w _ => by go_simp⟩) hS ?_
    simp only [List.getElem_toArray, List.getElem_cons_succ, List.getElem_cons_zero, Act.put, List.setIfInBounds_toArray, List.set_cons_zero, List.set_cons_succ]
    refine wpAnyB_take [4, 5, 6] (i := 4) (v := .int .i64 r) rfl (by kernel_rfl) (fun _ _ _ h => h) (Or.inl ⟨by rfl, fun w hSw => by have := HX.out w hSw; go_simp⟩) hS ?_
    simp only [List.getElem_toArray, List.getElem_cons_succ, List.getElem_cons_zero, Act.put, List.setIfInBounds_toArray, List.set_cons_zero, List.set_cons_succ]
    refine wpAnyB_one (i := 5) rfl (by kernel_rfl) (fun K hK => ?_)
    go_simp
    refine (ship_wd W.drew g r (HSW.out.below hS)).mono ?_
    rintro e w1 ⟨rfl, hB1⟩
    have hS1 : Below W.heap.size W w1 := hS.trans (hB1.mono hS.size)
    refine hK.out _ _ hS1 ?_
    clear hK K hB1
    have hb2 := HW2.out w1 hS1
    have hc2 := hb2.cell
    have hf2 := hb2.frozen
    refine wpAnyB_last (i := 6) rfl (by kernel_rfl) (fun K hK => ?_)
    go_simp
    refine hK.out _ _ ?_
    clear hK K
    refine wpAnyB_done (by kernel_rfl) ?_ _
    refine OnlyN.normal ?_
    have HFIN : Hid (KeepsFrom W0.heap.size W (w1.setCell ⟨w.heap.size + 1 + 1, 0, none⟩ (.int .i64 (wdV r))) ∧ Boxed (w1.setCell ⟨w.heap.size + 1 + 1, 0, none⟩ (.int .i64 (wdV r))) (w.heap.size + 1 + 1) 3 (.int .i64 (wdV r)) ∧ Below w.heap.size w (w1.setCell ⟨w.heap.size + 1 + 1, 0, none⟩ (.int .i64 (wdV r)))) :=
      ⟨((keeps_below hS1).trans (KeepsOthers.setCell _ _ _)).from _, hb2.set _, (HBW.out.trans (hS1.mono hsW)).setCell (p := ⟨w.heap.size + 1 + 1, 0, none⟩) (show w.heap.size ≤ w.heap.size + 1 + 1 by omega) _⟩
    clear hb2 hc2 hf2 hS hS1
    gi_wp2
    exact ⟨HFIN.out.1, ⟨x, ⟨rfl, rfl⟩, by rw [← HR.out]; exact HFIN.out.2.1⟩, HFIN.out.2.2⟩
  case done =>
    rintro D ys W hD hrun ⟨⟨⟨y0, y1, y2⟩, rfl⟩, hB⟩ hK
    have hnone : nx l (i + 1) = none := nx_none l (i + 1) (by have := HLN.out; omega) hrun.symm
    have c2 := y2.cell
    have f2 := y2.frozen
    have HY : Hid (Boxed W (w.heap.size + 1 + 1) 3 (.int .i64 0) ∧ Below w.heap.size w W ∧ nx l (i + 1) = none) := ⟨y2, hB, hnone⟩
    clear y0 y1 y2 hB hrun hnone
    gi_wp2
    obtain ⟨W4, hW4⟩ : ∃ W4, W4 = W.setCell ⟨w.heap.size + 1 + 1, 0, none⟩ (.int .i64 0) := ⟨_, rfl⟩
    have k2 : Boxed W4 (w.heap.size + 1 + 1) 3 (.int .i64 0) := by rw [hW4]; exact HY.out.1.set _
    have kB : Below w.heap.size w W4 := by rw [hW4]; exact HY.out.2.1.setCell (p := ⟨w.heap.size + 1 + 1, 0, none⟩) (show w.heap.size ≤ w.heap.size + 1 + 1 by omega) _
    have kK : W4.heap[D]? = some (.deferred (some [])) := by rw [hW4]; exact (KeepsOthers.setCell _ _ _).same D _ hK rfl
    rw [← hW4]
    clear hW4
    refine ⟨by simp, .inl ⟨_, _, rfl, run_takeDeferred kK, ?_⟩⟩
    have c2' := cell_kept k2.cell (grownBy_putObj' _ D (.deferred none)) (fun r e => by cases e; exact ⟨_, kK, rfl⟩)
    refine ⟨.int .i64 0, ?_, by rw [HY.out.2.2]; rfl, kB.trans (belowK_b (w := w) (Nat.le_refl _) W4 D _ _ (by omega) kK rfl rfl)⟩
    simp [results, Tryd.f52, go_sem, c2']
  case stop =>
    rintro D c pre W hD ⟨t, ht, hpre⟩ ⟨⟨x, ⟨rfl, rfl⟩, y2⟩, hB⟩ hK
    have hfst : nx l (i + 1) = some (kd l x.val) := nx_first l (i + 1) x.val t (by have := HLN.out; omega) hpre.symm
    rw [kd_get x.2] at hfst
    gi_wp2
    refine ⟨by simp, .inl ⟨_, _, rfl, run_takeDeferred hK, ?_⟩⟩
    have c2 := cell_kept y2.cell (grownBy_putObj' _ D (.deferred none)) (fun r e => by cases e; exact ⟨_, hK, rfl⟩)
    refine ⟨.int .i64 (wdV l[x.val]), ?_, by rw [hfst]; rfl, hB.trans (belowK_b (w := w) (Nat.le_refl _) W D _ _ (by omega) hK rfl rfl)⟩
    simp [results, Tryd.f52, go_sem, c2]
theorem next_any (g : Nat) (sv : Value) (l : List Int) (hlen : l.length ≤ 10000) (i : Nat) (hi : i < l.length) (w : World) (hS : Ship w g) (hI : IntsAt w.heap.size w sv l) :
    Calls Tryd.prog 52 #[.pointer (some ⟨g, 0, none⟩), sv, .int .i64 (i : Int)] w fun e W' => e = .returned (.int .i64 ((nx l (i + 1)).getD 0)) ∧ Below w.heap.size w W' :=
  callsIn_wide.1 (next_in 3 (Nat.le_refl _) g sv l hlen i hi w hS hI)
end Go.Proofs.YtpmlbdfdiebkcaaDoor
