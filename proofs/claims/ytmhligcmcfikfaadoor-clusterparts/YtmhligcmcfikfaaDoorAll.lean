/-
  What cluster.All answers: the places at which clusters end, in a slice of its own.
-/
import Derived.Test.YtmhligcmcfikfaaDoorPlaces
namespace Go.Proofs.YtmhligcmcfikfaaDoor
open Go.RowKit Go.Shelf
set_option linter.unusedVariables false
attribute [local go_sem] Oper.semAt_some

/-- Places as ints, and as cells. -/
def intsP (ys : List Nat) : List Int := ys.map (fun k : Nat => (k : Int))
def cellsP5 (ys : List Nat) : List Value := (intsP ys).map (Value.int .i64)
theorem cellsP5_snoc (ys : List Nat) (x : Nat) : cellsP5 (ys ++ [x]) = cellsP5 ys ++ [.int .i64 (x : Int)] := by simp [cellsP5, intsP]
theorem intsP_length (ys : List Nat) : (intsP ys).length = ys.length := by simp [intsP]

set_option maxRecDepth 100000 in
set_option maxHeartbeats 4000000 in
theorem all_in (n : Nat) (hn : 3 ≤ n) (g : Nat) (sv : Value) (l : List Int) (hlen : l.length ≤ 10000) (w : World) (hS : Ship w g) (hI : IntsAt w.heap.size w sv l) :
    CallsIn Fence.wide n Tryd.prog 12 #[.pointer (some ⟨g, 0, none⟩), sv] w fun e W' => ∃ v, e = .returned v ∧ W'.ownsRow w.heap.size 3 1 v (allL l).length (cellsP5 (allL l)) ∧ Below w.heap.size w W' := by
  have HI : Hid (IntsAt w.heap.size w sv l) := hI
  obtain ⟨a, cap, hsv, _, _⟩ := hI
  have hSB := hS.b
  subst hsv
  have h1 : 1 ≤ n := by omega
  obtain ⟨i0, hi, hz0, hz1, hz2⟩ := info_parts Tryd.infoInt
  have hall : allL l = placesF l 0 := by rw [all_part l (i := 0) (Nat.zero_le _)]; rfl
  refine callsIn_of_wp_marks Tryd.func12 rfl trivial ?_ rfl
  simp only [Tryd.ntmps12, List.size_toArray, List.length_cons, List.length_nil, Nat.reduceAdd, Nat.reduceSub, Array.replicate_succ, Array.replicate_zero, List.push_toArray, List.append_toArray, List.nil_append, List.cons_append]
  gi_wp2_with (refine ⟨trivial, ?_⟩; gi_at_call 22; refine (places_in (n - 1) g _ _ _ _ _).mono ?_; rintro e w' ⟨rfl, rfl⟩)
  have hsz : ((((w.alloc (.cells #[.slice none 0 0] 22)).alloc (.cells #[.pointer (some ⟨g, 0, none⟩)] 24)).alloc (.cells #[.slice a l.length cap] 22)).alloc (.cells #[.int .i64 0] 3)).heap.size = w.heap.size + 4 := by simp
  have hB0 : Below w.heap.size w ((((w.alloc (.cells #[.slice none 0 0] 22)).alloc (.cells #[.pointer (some ⟨g, 0, none⟩)] 24)).alloc (.cells #[.slice a l.length cap] 22)).alloc (.cells #[.int .i64 0] 3)) := ((((Below.refl _ w).alloc (Nat.le_refl _) _).alloc (by simp) _).alloc (by simp; omega) _).alloc (by simp; omega) _
  have bO := (((Boxed.new w 22 (.slice none 0 0)).alloc (.cells #[.pointer (some ⟨g, 0, none⟩)] 24)).alloc (.cells #[.slice a l.length cap] 22)).alloc (.cells #[.int .i64 0] 3)
  have bD := ((Boxed.new (w.alloc (.cells #[.slice none 0 0] 22)) 24 (.pointer (some ⟨g, 0, none⟩))).alloc (.cells #[.slice a l.length cap] 22)).alloc (.cells #[.int .i64 0] 3)
  have bL := (Boxed.new ((w.alloc (.cells #[.slice none 0 0] 22)).alloc (.cells #[.pointer (some ⟨g, 0, none⟩)] 24)) 22 (.slice a l.length cap)).alloc (.cells #[.int .i64 0] 3)
  have bF := Boxed.new (((w.alloc (.cells #[.slice none 0 0] 22)).alloc (.cells #[.pointer (some ⟨g, 0, none⟩)] 24)).alloc (.cells #[.slice a l.length cap] 22)) 3 (.int .i64 0)
  simp only [World.size_alloc] at bD bL bF
  obtain ⟨W0, hW0⟩ : ∃ W0, (((w.alloc (.cells #[.slice none 0 0] 22)).alloc (.cells #[.pointer (some ⟨g, 0, none⟩)] 24)).alloc (.cells #[.slice a l.length cap] 22)).alloc (.cells #[.int .i64 0] 3) = W0 := ⟨_, rfl⟩
  rw [hW0] at bO bD bL bF hB0 hsz ⊢
  clear hW0
  have hfit : Fit1 w.heap.size W0 := ⟨bO.lt, fun k n c h => by rw [bO.cell] at h; simp at h⟩
  have hno : ∀ k, k ≠ w.heap.size → ¬ Own1 w.heap.size W0 k := fun k hk o => by
    rcases o with h | ⟨n, c, h⟩
    · exact hk h
    · rw [bO.cell] at h; simp at h
  have hlD : Lies w.heap.size W0 (w.heap.size + 1) #[.pointer (some ⟨g, 0, none⟩)] 24 := ⟨bD, hno _ (by omega)⟩
  have hlL : Lies w.heap.size W0 (w.heap.size + 1 + 1) #[.slice a l.length cap] 22 := ⟨bL, hno _ (by omega)⟩
  have hlF : Lies w.heap.size W0 (w.heap.size + 1 + 2) #[.int .i64 ((0 : Nat) : Int)] 3 := ⟨bF, hno _ (by omega)⟩
  refine wpIn_rangeFunc_ownH rfl h1 (gf := 40) (lb := #[.pointer (some ⟨w.heap.size + 1 + 2, 0, none⟩), .pointer (some ⟨w.heap.size + 1 + 1, 0, none⟩), .pointer (some ⟨w.heap.size + 1, 0, none⟩)]) rfl trivial (enters_of Tryd.func40 (by kernel_rfl) rfl)
    (places_stops (n - 1) (by omega) (w.heap.size + 1 + 2) (w.heap.size + 1 + 1) (w.heap.size + 1) w.heap.size w.heap.size g (.slice a l.length cap) a cap l rfl hlen 0 (Nat.zero_le _) (brk_zero l) W0 (by omega) hfit hlF hlL hlD (hSB.below hB0) (HI.out.below hB0)) kp1_t (kp1_b (by omega) (by omega)) (Below.refl _ _) (fun _ => rfl)
    (fun pre W => (∃ v, Boxed W w.heap.size 22 v ∧ W.ownsRow w.heap.size 3 1 v pre.length (cellsP5 pre) ∧ True) ∧ Below w.heap.size w W)
    (fun _ _ _ => False)
    (OwnFrom.and (Own.from (holdsRow_own w.heap.size w.heap.size 22 3 1 (fun pre : List Nat => pre.length) (fun pre => cellsP5 pre) (fun _ _ => True)) _) (ownFrom_below (Nat.le_refl _) (by omega)))
    (fun _ _ _ _ _ hs _ _ => hs)
    ⟨⟨_, bO, World.ownsRow_nil _ _ _ _, trivial⟩, hB0⟩
    (fun x a' W => a' = { tmps := #[.pointer (some ⟨g, 0, none⟩), .slice a l.length cap, undef, undef, .slice none 0 0, .pointer (some ⟨w.heap.size, 0, none⟩), .int .i64 (x : Int), .pointer (some ⟨g, 0, none⟩), .slice a l.length cap, .func (.func 40) #[] #[.pointer (some ⟨w.heap.size + 1 + 2, 0, none⟩), .pointer (some ⟨w.heap.size + 1 + 1, 0, none⟩), .pointer (some ⟨w.heap.size + 1, 0, none⟩)], .int .i64 (x : Int), undef, undef, undef, undef, undef], defers := [] })
    (fun x a' _ X Y row hs hg hr => hs)
    ?assign ?body ?done ?stop
  case assign =>
    rintro l' pre x W K ⟨⟨v, hv, hrow, _⟩, hB⟩ hK
    unfold encP
    gi_wp2
    exact hK _ _ (KeepsFrom.refl _ _) (kp1_refl _ _ _) ⟨⟨v, hv, hrow, trivial⟩, hB⟩ rfl
  case body =>
    rintro l' pre x a' W hl _ ⟨⟨v, hv, hrow, _⟩, hB⟩ rfl hlt
    have hc := hv.cell
    have hbs := hB.size
    gi_wp2_with (gi_at_builtin; go_must (refine wpListIn_append_own_at _ rfl _ _ 22 rfl w.heap.size 3 i0 (.int .i64 0) 1 8 Tryd.underlying22 hi hz0 hz1 hz2 rfl (by decide) _ _ _ rfl (hrow.alloc _) ⟨W.heap.size, 0, none⟩ 1 1 [.int .i64 (x : Int)] rfl rfl (World.news_of_block (World.alloc_heap_new _ _)) (by simp [Value.oneCell']) (by unfold maxLen; omega) (by omega) (by simp; omega) ?_); intro v' w1 hown' hgrow hnil hat; obtain ⟨g', cap', rfl⟩ := ownsRow_succ hown'; have hkp := kp1_appended hv (by decide) hrow hbs (Nat.le_refl _) hown' hgrow hat; obtain ⟨hv1, hv2, hr2, hk2, hb2⟩ := hv.appended (by decide) hrow hbs (Nat.le_refl _) hown' hgrow; have hc1 := hv1.cell; have hf1 := hv1.frozen)
    exact ⟨hk2.from _, hkp, ⟨_, hv2, by rw [cellsP5_snoc]; simpa using hr2, trivial⟩, hB.trans hb2⟩
  case done =>
    rintro D ys W hD hrun ⟨⟨v, hv, hrow, _⟩, hB⟩ hK
    have hc := hv.cell
    gi_wp2
    refine ⟨by simp, .inl ⟨_, _, rfl, run_takeDeferred hK, ?_⟩⟩
    obtain rfl : ys = allL l := hrun.trans hall.symm
    exact ⟨_, results_tmp rfl _ _ _, v, rfl, ownsRow_putObj hrow _ hK rfl, hB.trans (belowK_b (w := w) (Nat.le_refl _) W D _ _ (by omega) hK rfl rfl)⟩
  case stop =>
    rintro D c pre W _ _ h _
    exact h.elim
theorem all_any (g : Nat) (sv : Value) (l : List Int) (hlen : l.length ≤ 10000) (w : World) (hS : Ship w g) (hI : IntsAt w.heap.size w sv l) :
    Calls Tryd.prog 12 #[.pointer (some ⟨g, 0, none⟩), sv] w fun e W' => ∃ v, e = .returned v ∧ W'.ownsRow w.heap.size 3 1 v (allL l).length (cellsP5 (allL l)) ∧ Below w.heap.size w W' :=
  callsIn_wide.1 (all_in 3 (Nat.le_refl _) g sv l hlen w hS hI)
end Go.Proofs.YtmhligcmcfikfaaDoor
