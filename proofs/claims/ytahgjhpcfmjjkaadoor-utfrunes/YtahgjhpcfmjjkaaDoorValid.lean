/-
  What utf.Valid answers: whether none of the units of the bytes is bad.
-/
import Derived.Test.YtahgjhpcfmjjkaaDoorDecode
namespace Go.Proofs.YtahgjhpcfmjjkaaDoor
open Go.RowKit Go.Shelf
set_option linter.unusedVariables false
attribute [local go_sem] Oper.semAt_some

/-- Is none of the units bad? -/
def allGood (us : List U) : Bool := us.all fun u => !u.bad
theorem allGood_false {us pre : List U} (h : pre <+: us) {u : U} (hu : u ∈ pre) (hb : u.bad = true) : allGood us = false := by
  have : u ∈ us := h.subset hu
  unfold allGood
  rw [List.all_eq_false]
  exact ⟨u, this, by simp [hb]⟩
theorem allGood_true {us : List U} (h : ∀ u ∈ us, u.bad = false) : allGood us = true := by
  unfold allGood
  rw [List.all_eq_true]
  intro u hu
  simp [h u hu]

set_option maxRecDepth 100000 in
set_option maxHeartbeats 4000000 in
theorem valid_in (n : Nat) (hn : 3 ≤ n) (sv : Value) (a : Option Addr) (len cap : Nat) (hsv : sv = .slice a len cap) (zs : List Int) (hby : Byt zs) (hlen : zs.length ≤ 10000) (w : World) (hI : BytesAt w.heap.size w sv zs) :
    CallsIn Fence.wide n Tryd.prog 20 #[sv] w fun e W' => ∃ us, e = .returned (.bool (allGood us)) ∧ Run zs 0 us zs.length ∧ Below w.heap.size w W' := by
  subst hsv
  have h1 : 1 ≤ n := by omega
  refine callsIn_of_wp_marks Tryd.func20 rfl trivial ?_ rfl
  simp only [Tryd.ntmps20, List.size_toArray, List.length_cons, List.length_nil, Nat.reduceAdd, Nat.reduceSub, Array.replicate_succ, Array.replicate_zero, List.push_toArray, List.append_toArray, List.nil_append, List.cons_append]
  gi_wp2_with (refine ⟨trivial, ?_⟩; gi_at_call 27; refine (units_in (n - 1) _ _ _ _).mono ?_; rintro e w' ⟨rfl, rfl⟩)
  have bO := Boxed.new w 4 (.bool false)
  have bN := Boxed.new (w.alloc (.cells #[.bool false] 4)) 23 (.slice a len cap)
  rw [World.size_alloc] at bN
  have hB0 : Below w.heap.size w ((w.alloc (.cells #[.bool false] 4)).alloc (.cells #[.slice a len cap] 23)) := ((Below.refl _ w).alloc (Nat.le_refl _) _).alloc (by simp) _
  have hsz : ((w.alloc (.cells #[.bool false] 4)).alloc (.cells #[.slice a len cap] 23)).heap.size = w.heap.size + 2 := by simp
  have bO2 := bO.alloc (.cells #[.slice a len cap] 23)
  obtain ⟨W0, hW0⟩ : ∃ W0, (w.alloc (.cells #[.bool false] 4)).alloc (.cells #[.slice a len cap] 23) = W0 := ⟨_, rfl⟩
  rw [hW0] at bO2 bN hB0 hsz ⊢
  clear hW0 bO
  have hfit : Fit1 w.heap.size W0 := ⟨bO2.lt, fun k n c h => by rw [bO2.cell] at h; simp at h⟩
  have hlies : Lies w.heap.size W0 (w.heap.size + 1) #[.slice a len cap] 23 := ⟨bN, fun o => by
    rcases o with h | ⟨n, c, h⟩
    · omega
    · rw [bO2.cell] at h; simp at h⟩
  refine wpIn_rangeFunc_ownH rfl h1 (gf := 33) (lb := #[.pointer (some ⟨w.heap.size + 1, 0, none⟩)]) rfl trivial (enters_of Tryd.func33 (by kernel_rfl) rfl)
    (units_stops (n - 1) (by omega) (w.heap.size + 1) w.heap.size w.heap.size (.slice a len cap) zs hby hlen W0 (by omega) hfit hlies (hI.below hB0)) kp1_t (kp1_b (by omega) (by omega)) (Below.refl _ _) (fun _ => rfl)
    (fun pre W => (Boxed W w.heap.size 4 (.bool false) ∧ ∀ u ∈ pre, u.bad = false) ∧ Below w.heap.size w W)
    (fun c pre W => ((c = .ret ∧ ∃ u ∈ pre, u.bad = true) ∧ Boxed W w.heap.size 4 (.bool false)) ∧ Below w.heap.size w W)
    (OwnFrom.and (fun s X Y row hs hg hr => ⟨Own.from (boxed_own w.heap.size 4 (fun _ : List U => .bool false)) _ s X Y row hs.1 hg hr, hs.2⟩) (ownFrom_below (Nat.le_refl _) (by omega)))
    (fun c => OwnFrom.and (fun s X Y row hs hg hr => ⟨hs.1, Own.from (boxed_own w.heap.size 4 (fun _ : List U => .bool false)) _ s X Y row hs.2 hg hr⟩) (ownFrom_below (Nat.le_refl _) (by omega)))
    ⟨⟨bO2, fun u hu => by cases hu⟩, hB0⟩
    (fun x a' W => ∃ Bx, W.heap[Bx]? = some (.cells (cellsU x).toArray 40 (0, 0)) ∧ a' = { tmps := #[.slice a len cap, undef, .pointer (some ⟨w.heap.size, 0, none⟩), .pointer (some ⟨Bx, 0, none⟩), .slice a len cap, .func (.func 33) #[] #[.pointer (some ⟨w.heap.size + 1, 0, none⟩)], .agg #[.int .i64 x.r, .int .i64 (x.p : Int), .int .i64 (x.w : Int), .bool x.bad], undef, undef], defers := [] })
    (fun x a' _ X Y row hs hg hr => by
      obtain ⟨Bx, h1, h3⟩ := hs
      refine ⟨Bx, (hg.block Bx (Array.getElem?_eq_some_iff.1 h1).1 (fun e => ?_)).trans h1, h3⟩
      obtain ⟨_, o, h4, h5⟩ := hr Bx e.symm
      rw [h1] at h4; cases h4; cases h5)
    ?assign ?body ?done ?stop
  case assign =>
    rintro l pre x W K ⟨⟨hv, hg⟩, hB⟩ hK
    unfold encU
    gi_wp2
    exact hK _ _ ((KeepsOthers.alloc _ _).from _) (kp1_alloc _ _ hB.size) ⟨⟨hv.alloc _, hg⟩, hB.alloc hB.size _⟩ ⟨W.heap.size, heap_new W _, rfl⟩
  case body =>
    rintro l pre x a' W hl _ ⟨⟨hv, hg⟩, hB⟩ ⟨Bx, hBx, rfl⟩ hlt
    have hc := hv.cell
    have hf := hv.frozen
    have c3 : W.cell? ⟨Bx, 3, none⟩ = some (.bool x.bad) := cell_of_row W Bx 3 _ _ _ hBx
    cases hb : x.bad with
    | false =>
      rw [hb] at c3
      gi_wp2
      exact ⟨KeepsFrom.refl _ _, kp1_refl _ _ _, ⟨hv, fun u hu => (List.mem_append.1 hu).elim (hg u) (fun e => by simp at e; rw [e]; exact hb)⟩, hB⟩
    | true =>
      rw [hb] at c3
      gi_wp2
      exact ⟨(KeepsOthers.setCell _ _ _).from _, ⟨⟨rfl, x, by simp, hb⟩, hv.set _⟩, hB.setCell (p := ⟨w.heap.size, 0, none⟩) (Nat.le_refl _) _⟩
  case done =>
    rintro D ys W hD hrun ⟨⟨hv, hg⟩, hB⟩ hK
    have hc := hv.cell
    have hf := hv.frozen
    gi_wp2
    have hK' := (KeepsOthers.setCell W ⟨w.heap.size, 0, none⟩ (.bool true)).same D _ hK rfl
    refine ⟨by simp, .inl ⟨_, _, rfl, run_takeDeferred hK', ?_⟩⟩
    have hc5 := cell_kept (hv.set (.bool true)).cell (grownBy_putObj' _ D (.deferred none)) (fun r e => by cases e; exact ⟨_, hK', rfl⟩)
    refine ⟨.bool true, ?_, ys, by rw [allGood_true hg], hrun, (hB.setCell (p := ⟨w.heap.size, 0, none⟩) (Nat.le_refl _) _).trans (belowK_b (w := w) (Nat.le_refl _) _ D _ _ (by omega) hK' rfl rfl)⟩
    simp [results, Tryd.f20, go_sem, hc5]
  case stop =>
    rintro D c pre W hD ⟨q, hpre⟩ ⟨⟨⟨rfl, u, hu, hb⟩, hv⟩, hB⟩ hK
    obtain ⟨us, hus⟩ := Run.exists zs zs.length 0 (by omega) (Nat.zero_le _)
    gi_wp2
    refine ⟨by simp, .inl ⟨_, _, rfl, run_takeDeferred hK, ?_⟩⟩
    have hc5 := cell_kept hv.cell (grownBy_putObj' _ D (.deferred none)) (fun r e => by cases e; exact ⟨_, hK, rfl⟩)
    refine ⟨.bool false, ?_, us, by rw [allGood_false (hpre.front hus) hu hb], hus, hB.trans (belowK_b (w := w) (Nat.le_refl _) W D _ _ (by omega) hK rfl rfl)⟩
    simp [results, Tryd.f20, go_sem, hc5]
end Go.Proofs.YtahgjhpcfmjjkaaDoor
