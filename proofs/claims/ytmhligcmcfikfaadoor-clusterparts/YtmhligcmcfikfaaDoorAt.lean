/-
  What cluster.At answers: the cluster that a place is in.
-/
import Derived.Test.YtmhligcmcfikfaaDoorAll
import Derived.RegionIn
import Derived.BigRegionIn
namespace Go.Proofs.YtmhligcmcfikfaaDoor
open Go.RowKit Go.Shelf
set_option linter.unusedVariables false
attribute [local go_sem] Oper.semAt_some

theorem boxed_ne {W : World} {B B' : Nat} {t : TypeId} {v u : Value} (h : Boxed W B t v) (hne : B ≠ B') : Boxed (W.setCell ⟨B', 0, none⟩ u) B t v := (Below.heap_setCell W ⟨B', 0, none⟩ u B hne).trans h
theorem boxed_below {W W' : World} {B : Nat} {t : TypeId} {v : Value} (h : Boxed W B t v) (hb : Below W.heap.size W W') : Boxed W' B t v := (hb.block B h.lt).trans h
theorem places_sorted (l : List Int) (i : Nat) : (placesF l i).Pairwise (· < ·) := by
  unfold placesF
  exact (List.pairwise_lt_range' (s := i) (n := l.length + 1 - i)).filter _
theorem mem_places {l : List Int} {i j : Nat} (h1 : i ≤ j) (h2 : j ≤ l.length) (h3 : brk l j = true) : j ∈ placesF l i := by
  unfold placesF
  rw [List.mem_filter, List.mem_range'_1]
  exact ⟨by omega, h3⟩
/-- The first place beyond i that was handed out is the next one. -/
theorem at_stop {l : List Int} {i k q m : Nat} {pre : List Nat} (hi : i ≤ l.length) (hk : k ≤ i) (hb : brk l k = true) (hno : ∀ j, k < j → j ≤ i → brk l j = false) (hp : placesF l k = pre ++ [q] ++ placesF l m) (hle : ∀ p ∈ pre, p ≤ i) (hq : i < q) : IsAt l i k q := by
  have hqm : q ∈ placesF l k := by rw [hp]; simp
  obtain ⟨h1, h2, h3⟩ := placesF_mem hqm
  refine ⟨hk, hb, hno, .inr ⟨by omega, hq, h2, h3, fun j j1 j2 => ?_⟩⟩
  cases hj : brk l j with
  | false => rfl
  | true =>
    exfalso
    have hjm : j ∈ placesF l k := mem_places (by omega) (by omega) hj
    have hs := places_sorted l k
    rw [hp, List.append_assoc, List.pairwise_append] at hs
    rw [hp, List.append_assoc, List.mem_append] at hjm
    rcases hjm with h | h
    · have := hle j h; omega
    · rw [List.singleton_append, List.mem_cons] at h
      rcases h with h | h
      · omega
      · have := hs.2.1
        rw [List.singleton_append, List.pairwise_cons] at this
        have := this.1 j h
        omega
theorem at_done {l : List Int} {i k : Nat} (hi : i ≤ l.length) (hk : k ≤ i) (hle : ∀ p ∈ placesF l k, p ≤ i) : i = l.length ∧ IsAt l i i i := by
  have h := hle l.length (mem_places (by omega) (Nat.le_refl _) (brk_end l (Nat.le_refl _)))
  have e : i = l.length := by omega
  exact ⟨e, Nat.le_refl _, brk_end l (by omega), fun j h1 h2 => by omega, .inl ⟨e, rfl⟩⟩

set_option maxRecDepth 100000 in
set_option maxHeartbeats 4000000 in
theorem at_out (n : Nat) (hn : 3 ≤ n) (g : Nat) (sv : Value) (l : List Int) (i : Int) (w : World) (hI : IntsAt w.heap.size w sv l) (hi : i < 0 ∨ (l.length : Int) < i) :
    CallsIn Fence.wide n Tryd.prog 15 #[.pointer (some ⟨g, 0, none⟩), sv, .int .i64 i] w fun e W' => e = .returned (.tuple #[.int .i64 0, .int .i64 0]) ∧ Below w.heap.size w W' := by
  have hz : (decide (0 ≤ i) && decide (i ≤ (l.length : Int))) = false := by simp; omega
  have HC : Hid (∀ w', Below w.heap.size w w' → Calls Tryd.prog 25 #[sv, .int .i64 i] w' fun e w'' => e = .returned (.bool false) ∧ w' = w'') := fun w' hw' => by
    rw [← hz]
    exact isPlace_any l sv i w' (hI.on hw')
  obtain ⟨a, cap, rfl, _, _⟩ := hI
  clear hz
  refine callsIn_of_wp_marks Tryd.func15 rfl trivial ?_ rfl
  simp only [Tryd.ntmps15, List.size_toArray, List.length_cons, List.length_nil, Nat.reduceAdd, Nat.reduceSub, Array.replicate_succ, Array.replicate_zero, List.push_toArray, List.append_toArray, List.nil_append, List.cons_append]
  gi_wp2_with fail
  refine ⟨trivial, fun _ => by omega, ?_⟩
  refine (callsIn_wide.2 (HC.out _ ((((Below.refl _ w).alloc (Nat.le_refl _) _).alloc (by simp) _).alloc (by simp; omega) _))).mono ?_
  rintro e w' ⟨rfl, rfl⟩
  gi_wp2
  refine ⟨.tuple #[.int .i64 0, .int .i64 0], ?_, rfl, (((Below.refl _ w).alloc (Nat.le_refl _) _).alloc (by simp) _).alloc (by simp; omega) _⟩
  simp [results, Tryd.f15, go_sem]

set_option maxRecDepth 100000 in
set_option maxHeartbeats 4000000 in
theorem at_in (n : Nat) (hn : 3 ≤ n) (g : Nat) (sv : Value) (l : List Int) (hlen : l.length ≤ 10000) (i : Nat) (hi : i ≤ l.length) (w : World) (hS : Ship w g) (hI : IntsAt w.heap.size w sv l) :
    CallsIn Fence.wide n Tryd.prog 15 #[.pointer (some ⟨g, 0, none⟩), sv, .int .i64 (i : Int)] w fun e W' => ∃ x y : Nat, e = .returned (.tuple #[.int .i64 (x : Int), .int .i64 (y : Int)]) ∧ IsAt l i x y ∧ Below w.heap.size w W' := by
  have HI : Hid (IntsAt w.heap.size w sv l) := hI
  have HS : Hid (Ship w g) := hS
  have HLN : Hid (l.length ≤ 10000 ∧ i ≤ l.length) := ⟨hlen, hi⟩
  have hz : (decide (0 ≤ (i : Int)) && decide ((i : Int) ≤ (l.length : Int))) = true := by simp; omega
  have HC : Hid (∀ w', Below w.heap.size w w' → Calls Tryd.prog 25 #[sv, .int .i64 (i : Int)] w' fun e w'' => e = .returned (.bool true) ∧ w' = w'') := fun w' hw' => by
    rw [← hz]
    exact isPlace_any l sv (i : Int) w' (hI.on hw')
  obtain ⟨a, cap, hsv, _, _⟩ := hI
  subst hsv
  have h1 : 1 ≤ n := by omega
  clear hz hS hlen hi
  refine callsIn_of_wp_marks Tryd.func15 rfl trivial ?_ rfl
  simp only [Tryd.ntmps15, List.size_toArray, List.length_cons, List.length_nil, Nat.reduceAdd, Nat.reduceSub, Array.replicate_succ, Array.replicate_zero, List.push_toArray, List.append_toArray, List.nil_append, List.cons_append]
  gi_wp2_with (refine ⟨trivial, ?_⟩; gi_at_call 25; refine (callsIn_wide.2 (HC.out _ ((((Below.refl _ w).alloc (Nat.le_refl _) _).alloc (by simp) _).alloc (by simp; omega) _))).mono ?_; rintro e w' ⟨rfl, rfl⟩)
  have b5 := (((Boxed.new w 3 (.int .i64 (i : Int))).alloc (.cells #[.int .i64 0] 3)).alloc (.cells #[.int .i64 0] 3)).alloc (.cells #[.int .i64 (i : Int)] 3)
  have b6 := ((Boxed.new (w.alloc (.cells #[.int .i64 (i : Int)] 3)) 3 (.int .i64 0)).alloc (.cells #[.int .i64 0] 3)).alloc (.cells #[.int .i64 (i : Int)] 3)
  have b7 := (Boxed.new ((w.alloc (.cells #[.int .i64 (i : Int)] 3)).alloc (.cells #[.int .i64 0] 3)) 3 (.int .i64 0)).alloc (.cells #[.int .i64 (i : Int)] 3)
  have b8 := Boxed.new (((w.alloc (.cells #[.int .i64 (i : Int)] 3)).alloc (.cells #[.int .i64 0] 3)).alloc (.cells #[.int .i64 0] 3)) 3 (.int .i64 (i : Int))
  have hB0 : Below w.heap.size w ((((w.alloc (.cells #[.int .i64 (i : Int)] 3)).alloc (.cells #[.int .i64 0] 3)).alloc (.cells #[.int .i64 0] 3)).alloc (.cells #[.int .i64 (i : Int)] 3)) := ((((Below.refl _ w).alloc (Nat.le_refl _) _).alloc (by simp) _).alloc (by simp; omega) _).alloc (by simp; omega) _
  simp only [World.size_alloc] at b6 b7 b8
  obtain ⟨W0, hW0⟩ : ∃ W0, (((w.alloc (.cells #[.int .i64 (i : Int)] 3)).alloc (.cells #[.int .i64 0] 3)).alloc (.cells #[.int .i64 0] 3)).alloc (.cells #[.int .i64 (i : Int)] 3) = W0 := ⟨_, rfl⟩
  rw [hW0] at b5 b6 b7 b8 hB0 ⊢
  clear hW0
  obtain ⟨HX5, HX6, HX7, HX8, HB0⟩ : Hid (Boxed W0 w.heap.size 3 (.int .i64 (i : Int))) ∧ Hid (Boxed W0 (w.heap.size + 1) 3 (.int .i64 0)) ∧ Hid (Boxed W0 (w.heap.size + 1 + 1) 3 (.int .i64 0)) ∧ Hid (Boxed W0 (w.heap.size + 1 + 1 + 1) 3 (.int .i64 (i : Int))) ∧ Hid (Below w.heap.size w W0) := ⟨b5, b6, b7, b8, hB0⟩
  clear b5 b6 b7 b8 hB0 HC
  gi_loopw [17] (fun _ wr => ∃ k : Nat, k ≤ i ∧ Boxed wr (w.heap.size + 1 + 1 + 1) 3 (.int .i64 (k : Int)) ∧ Hid (Boxed wr w.heap.size 3 (.int .i64 (i : Int)) ∧ Boxed wr (w.heap.size + 1) 3 (.int .i64 0) ∧ Boxed wr (w.heap.size + 1 + 1) 3 (.int .i64 0) ∧ Below w.heap.size w wr ∧ ∀ j, k < j → j ≤ i → brk l j = false)) (fun _ wr => (intOf ((wr.cell? ⟨w.heap.size + 1 + 1 + 1, 0, none⟩).getD undef)).toNat)
  case atStart => exact ⟨i, Nat.le_refl _, HX8.out, HX5.out, HX6.out, HX7.out, HB0.out, fun j h1 h2 => by omega⟩
  case round =>
    obtain ⟨k, hk, hb8, HR⟩ := hrel
    have hc8 := hb8.cell
    have HB8 : Hid (Boxed wr (w.heap.size + 1 + 1 + 1) 3 (.int .i64 (k : Int))) := hb8
    have HBR : Hid (Calls Tryd.prog 17 #[.pointer (some ⟨g, 0, none⟩), .slice a l.length cap, .int .i64 (k : Int)] wr fun e w' => e = .returned (.bool (brk l k)) ∧ Below wr.heap.size wr w') := break_any l _ g k wr (HS.out.below HR.out.2.2.2.1) (HI.out.on HR.out.2.2.2.1) HLN.out.1 (by have := HLN.out.2; omega)
    obtain ⟨E, hE⟩ : ∃ E, E = brk l k := ⟨_, rfl⟩
    have HE : Hid (E = brk l k) := hE
    rw [← hE] at HBR
    clear hE hb8
    cases E with
    | false =>
      have HNX : Hid (brk l k = false) := HE.out.symm
      obtain ⟨m, hm⟩ : ∃ m, k = m + 1 := ⟨k - 1, by
        have : k ≠ 0 := fun e => by have := HE.out; rw [e, brk_zero] at this; cases this
        omega⟩
      have HM : Hid (k = m + 1) := hm
      have hwm : IntKind.i64.wrap ((k : Int) - 1) = (m : Int) := (IntWalk.i64_in _ (by have := HLN.out; omega)).trans (by omega)
      clear hm HE
      gi_wp2_with fail
      refine ⟨trivial, ?_⟩
      refine (callsIn_wide.2 HBR.out).mono ?_
      rintro e w1 ⟨rfl, hB1⟩
      have HB1 : Hid (Below wr.heap.size wr w1) := hB1
      have hb8 := boxed_below HB8.out hB1
      have HB8' : Hid (Boxed w1 (w.heap.size + 1 + 1 + 1) 3 (.int .i64 (k : Int))) := hb8
      have hc8' := hb8.cell
      have hf8' := hb8.frozen
      clear hB1 hb8 hc8
      gi_wp2
      go_roundw
      case rel =>
        obtain ⟨r5, r6, r7, rB, rN⟩ := HR.out
        refine ⟨m, by have := HM.out; omega, HB8'.out.set _, boxed_ne (boxed_below r5 HB1.out) (by omega), boxed_ne (boxed_below r6 HB1.out) (by omega), boxed_ne (boxed_below r7 HB1.out) (by omega), (rB.trans (HB1.out.mono rB.size)).setCell (p := ⟨w.heap.size + 1 + 1 + 1, 0, none⟩) (show w.heap.size ≤ w.heap.size + 1 + 1 + 1 by omega) _, fun j h1 h2 => ?_⟩
        rcases Nat.lt_or_ge k j with h | h
        · exact rN j h h2
        · obtain rfl : j = k := by have := HM.out; omega
          exact HNX.out
      case measure =>
        have e1 : (w1.setCell ⟨w.heap.size + 1 + 1 + 1, 0, none⟩ (.int .i64 (m : Int))).cell? ⟨w.heap.size + 1 + 1 + 1, 0, none⟩ = some (.int .i64 (m : Int)) := (HB8'.out.set _).cell
        have e2 : wr.cell? ⟨w.heap.size + 1 + 1 + 1, 0, none⟩ = some (.int .i64 (k : Int)) := HB8.out.cell
        rw [e1, e2]
        have := HM.out
        simp only [intOf, Option.getD_some]
        omega
    | true =>
      have HBK : Hid (brk l k = true) := HE.out.symm
      clear HE
      gi_wp2_with fail
      refine ⟨trivial, ?_⟩
      refine (callsIn_wide.2 HBR.out).mono ?_
      rintro e w1 ⟨rfl, hB1⟩
      have HB1 : Hid (Below w.heap.size w w1) := HR.out.2.2.2.1.trans (hB1.mono HR.out.2.2.2.1.size)
      have b8 := boxed_below HB8.out hB1
      have b7 := boxed_below HR.out.2.2.1 hB1
      have b6 := boxed_below HR.out.2.1 hB1
      have b5 := boxed_below HR.out.1 hB1
      have HNO : Hid (∀ j, k < j → j ≤ i → brk l j = false) := HR.out.2.2.2.2
      have hc8' := b8.cell
      obtain ⟨HX5, HX6, HX7, HX8⟩ : Hid (Boxed w1 w.heap.size 3 (.int .i64 (i : Int))) ∧ Hid (Boxed w1 (w.heap.size + 1) 3 (.int .i64 0)) ∧ Hid (Boxed w1 (w.heap.size + 1 + 1) 3 (.int .i64 0)) ∧ Hid (Boxed w1 (w.heap.size + 1 + 1 + 1) 3 (.int .i64 (k : Int))) := ⟨b5, b6, b7, b8⟩
      clear hB1 b5 b6 b7 b8 HR HB8 hc8 HBR
      gi_wp2_with fail
      refine ⟨trivial, ?_⟩
      refine (places_in (n - 1) g _ _ _ _ _).mono ?_
      rintro e w' ⟨rfl, rfl⟩
      gi_wp2_with fail
      have hb1 := HB1.out.size
      have hsz : (((w1.alloc (.cells #[.pointer (some ⟨g, 0, none⟩)] 24)).alloc (.cells #[.slice a l.length cap] 22)).alloc (.cells #[.int .i64 (k : Int)] 3)).heap.size = w1.heap.size + 3 := by simp
      have hB2 : Below w1.heap.size w1 (((w1.alloc (.cells #[.pointer (some ⟨g, 0, none⟩)] 24)).alloc (.cells #[.slice a l.length cap] 22)).alloc (.cells #[.int .i64 (k : Int)] 3)) := (((Below.refl _ w1).alloc (Nat.le_refl _) _).alloc (by simp) _).alloc (by simp; omega) _
      have bD := ((Boxed.new w1 24 (.pointer (some ⟨g, 0, none⟩))).alloc (.cells #[.slice a l.length cap] 22)).alloc (.cells #[.int .i64 (k : Int)] 3)
      have bL := (Boxed.new (w1.alloc (.cells #[.pointer (some ⟨g, 0, none⟩)] 24)) 22 (.slice a l.length cap)).alloc (.cells #[.int .i64 (k : Int)] 3)
      have bF := Boxed.new ((w1.alloc (.cells #[.pointer (some ⟨g, 0, none⟩)] 24)).alloc (.cells #[.slice a l.length cap] 22)) 3 (.int .i64 (k : Int))
      simp only [World.size_alloc] at bL bF
      obtain ⟨W3, hW3⟩ : ∃ W3, ((w1.alloc (.cells #[.pointer (some ⟨g, 0, none⟩)] 24)).alloc (.cells #[.slice a l.length cap] 22)).alloc (.cells #[.int .i64 (k : Int)] 3) = W3 := ⟨_, rfl⟩
      rw [hW3] at bD bL bF hB2 hsz ⊢
      clear hW3
      have x5 := boxed_below HX5.out hB2
      have x6 := boxed_below HX6.out hB2
      have x7 := boxed_below HX7.out hB2
      have x8 := boxed_below HX8.out hB2
      have hlt8 := HX8.out.lt
      have hB3 : Below w.heap.size w W3 := HB1.out.trans (hB2.mono hb1)
      have hfit : Fit1 (w.heap.size + 1) W3 := ⟨x6.lt, fun k n c h => by rw [x6.cell] at h; simp at h⟩
      have hno : ∀ j, j ≠ w.heap.size + 1 → ¬ Own1 (w.heap.size + 1) W3 j := fun j hj o => by
        rcases o with h | ⟨n, c, h⟩
        · exact hj h
        · rw [x6.cell] at h; simp at h
      have hlD : Lies (w.heap.size + 1) W3 w1.heap.size #[.pointer (some ⟨g, 0, none⟩)] 24 := ⟨bD, hno _ (by omega)⟩
      have hlL : Lies (w.heap.size + 1) W3 (w1.heap.size + 1) #[.slice a l.length cap] 22 := ⟨bL, hno _ (by omega)⟩
      have hlF : Lies (w.heap.size + 1) W3 (w1.heap.size + 2) #[.int .i64 (k : Int)] 3 := ⟨bF, hno _ (by omega)⟩
      have hkl : k ≤ l.length := by have := HLN.out.2; omega
      have HKI : Hid (k ≤ i) := hk
      clear HX5 HX6 HX7 HX8 hc8' bD bL bF
      refine wpIn_rangeFunc_ownH rfl h1 (gf := 40) (lb := #[.pointer (some ⟨w1.heap.size + 2, 0, none⟩), .pointer (some ⟨w1.heap.size + 1, 0, none⟩), .pointer (some ⟨w1.heap.size, 0, none⟩)]) rfl trivial (enters_of Tryd.func40 (by kernel_rfl) rfl)
        (places_stops (n - 1) (by omega) (w1.heap.size + 2) (w1.heap.size + 1) w1.heap.size w.heap.size (w.heap.size + 1) g (.slice a l.length cap) a cap l rfl HLN.out.1 k hkl HBK.out W3 (by omega) hfit hlF hlL hlD (HS.out.b.below hB3) (HI.out.below hB3)) kp1_t (kp1_b (by omega) (by omega)) (Below.refl _ _) (fun _ => rfl)
        (fun pre W => ((Boxed W (w.heap.size) 3 (.int .i64 (i : Int)) ∧ Boxed W (w.heap.size + 1) 3 (.int .i64 0) ∧ Boxed W (w.heap.size + 1 + 1) 3 (.int .i64 0) ∧ Boxed W (w.heap.size + 1 + 1 + 1) 3 (.int .i64 (k : Int))) ∧ ∀ p ∈ pre, p ≤ i) ∧ Below w.heap.size w W)
        (fun c pre W => (∃ (q : Nat) (pre' : List Nat), (c = .ret ∧ pre = pre' ++ [q] ∧ (∀ p ∈ pre', p ≤ i) ∧ i < q) ∧ Boxed W (w.heap.size + 1) 3 (.int .i64 (k : Int)) ∧ Boxed W (w.heap.size + 1 + 1) 3 (.int .i64 (q : Int))) ∧ Below w.heap.size w W)
        (OwnFrom.and (fun s X Y row hs hg hr => ⟨⟨Own.from (boxed_own (w.heap.size) 3 (fun _ : List Nat => .int .i64 (i : Int))) _ s X Y row hs.1.1 hg hr, Own.from (boxed_own (w.heap.size + 1) 3 (fun _ : List Nat => .int .i64 0)) _ s X Y row hs.1.2.1 hg hr, Own.from (boxed_own (w.heap.size + 1 + 1) 3 (fun _ : List Nat => .int .i64 0)) _ s X Y row hs.1.2.2.1 hg hr, Own.from (boxed_own (w.heap.size + 1 + 1 + 1) 3 (fun _ : List Nat => .int .i64 (k : Int))) _ s X Y row hs.1.2.2.2 hg hr⟩, hs.2⟩) (ownFrom_below (Nat.le_refl _) (by omega)))
        (fun c => OwnFrom.and (fun s X Y row hs hg hr => by
          obtain ⟨q, pre', h1, h2, h3⟩ := hs
          exact ⟨q, pre', h1, Own.from (boxed_own (w.heap.size + 1) 3 (fun _ : List Nat => .int .i64 (k : Int))) _ s X Y row h2 hg hr, Own.from (boxed_own (w.heap.size + 1 + 1) 3 (fun _ : List Nat => .int .i64 (q : Int))) _ s X Y row h3 hg hr⟩) (ownFrom_below (Nat.le_refl _) (by omega)))
        ⟨⟨⟨x5, x6, x7, x8⟩, fun p hp => by cases hp⟩, hB3⟩
        (fun x a' W => a' = { tmps := #[.pointer (some ⟨g, 0, none⟩), .slice a l.length cap, .int .i64 (i : Int), undef, undef, .pointer (some ⟨w.heap.size, 0, none⟩), .pointer (some ⟨w.heap.size + 1, 0, none⟩), .pointer (some ⟨w.heap.size + 1 + 1, 0, none⟩), .pointer (some ⟨w.heap.size + 1 + 1 + 1, 0, none⟩), .int .i64 (x : Int), .slice a l.length cap, .int .i64 (i : Int), .bool true, .bool false, .int .i64 (i : Int), .pointer (some ⟨g, 0, none⟩), .slice a l.length cap, .int .i64 (k : Int), .bool true, .bool false, u20, u21, .pointer (some ⟨g, 0, none⟩), .slice a l.length cap, .int .i64 (k : Int), .func (.func 40) #[] #[.pointer (some ⟨w1.heap.size + 2, 0, none⟩), .pointer (some ⟨w1.heap.size + 1, 0, none⟩), .pointer (some ⟨w1.heap.size, 0, none⟩)], .int .i64 (x : Int), undef, undef, undef, undef, undef, undef, undef], defers := [] })
        (fun x a' _ X Y row hs hg hr => hs)
        ?assign ?body ?done ?stop
      case assign =>
        rintro l' pre x W K hI' hK
        unfold encP
        gi_wp2
        exact hK _ _ (KeepsFrom.refl _ _) (kp1_refl _ _ _) hI' rfl
      case body =>
        rintro l' pre x a' W hl _ ⟨⟨⟨y5, y6, y7, y8⟩, hle⟩, hB⟩ rfl hlt
        have c5 := y5.cell
        have c8 := y8.cell
        have c6 := y6.cell
        have f6 := y6.frozen
        have c7 := y7.cell
        have f7 := y7.frozen
        have HY : Hid (Boxed W (w.heap.size + 1) 3 (.int .i64 0) ∧ Boxed W (w.heap.size + 1 + 1) 3 (.int .i64 0) ∧ Below w.heap.size w W) := ⟨y6, y7, hB⟩
        have HJ : Hid (((Boxed W (w.heap.size) 3 (.int .i64 (i : Int)) ∧ Boxed W (w.heap.size + 1) 3 (.int .i64 0) ∧ Boxed W (w.heap.size + 1 + 1) 3 (.int .i64 0) ∧ Boxed W (w.heap.size + 1 + 1 + 1) 3 (.int .i64 (k : Int))) ∧ ∀ p ∈ pre, p ≤ i) ∧ Below w.heap.size w W) := ⟨⟨⟨y5, y6, y7, y8⟩, hle⟩, hB⟩
        have HLE : Hid (∀ p ∈ pre, p ≤ i) := hle
        clear y5 y6 y7 y8 hle hB
        by_cases hq : i < x
        · have hq' : (i : Int) < (x : Int) := by omega
          gi_wp2
          refine ⟨((KeepsOthers.setCell _ _ _).trans (KeepsOthers.setCell _ _ _)).from _, ⟨x, pre, ⟨rfl, rfl, HLE.out, hq⟩, boxed_ne (HY.out.1.set _) (by omega), ?_⟩, ?_⟩
          · exact (boxed_ne HY.out.2.1 (by omega)).set _
          · exact (HY.out.2.2.setCell (p := ⟨w.heap.size + 1, 0, none⟩) (show w.heap.size ≤ w.heap.size + 1 by omega) _).setCell (p := ⟨w.heap.size + 1 + 1, 0, none⟩) (show w.heap.size ≤ w.heap.size + 1 + 1 by omega) _
        · have hq' : ¬ ((i : Int) < (x : Int)) := by omega
          gi_wp2
          exact ⟨KeepsFrom.refl _ _, kp1_refl _ _ _, ⟨HJ.out.1.1, fun p hp => (List.mem_append.1 hp).elim (HLE.out p) (fun e => by simp at e; omega)⟩, HJ.out.2⟩
      case done =>
        rintro D ys W hD hrun ⟨⟨⟨y5, y6, y7, y8⟩, hle⟩, hB⟩ hK
        have hrun' : ys = placesF l k := hrun
        subst hrun'
        obtain ⟨hil, hat⟩ := at_done HLN.out.2 HKI.out hle
        have c5 := y5.cell
        have c6 := y6.cell
        have f6 := y6.frozen
        have c7 := y7.cell
        have f7 := y7.frozen
        have HY : Hid (Boxed W (w.heap.size + 1) 3 (.int .i64 0) ∧ Boxed W (w.heap.size + 1 + 1) 3 (.int .i64 0) ∧ Below w.heap.size w W) := ⟨y6, y7, hB⟩
        have HAT : Hid (IsAt l i i i) := hat
        have HKD : Hid (W.heap[D]? = some (.deferred (some []))) := hK
        clear hle hil hat y5 y6 y7 y8 hB hrun
        gi_wp2
        gi_region
        gi_wp2
        obtain ⟨W4, hW4⟩ : ∃ W4, W4 = ((W.setCell ⟨w.heap.size + 1, 0, none⟩ (.int .i64 (i : Int))).setCell ⟨w.heap.size + 1 + 1, 0, none⟩ (.int .i64 (i : Int))).drew := ⟨_, rfl⟩
        have k6 : Boxed W4 (w.heap.size + 1) 3 (.int .i64 (i : Int)) := by rw [hW4]; exact boxed_ne (HY.out.1.set _) (by omega)
        have k7 : Boxed W4 (w.heap.size + 1 + 1) 3 (.int .i64 (i : Int)) := by rw [hW4]; exact (boxed_ne HY.out.2.1 (by omega)).set _
        have kB : Below w.heap.size w W4 := by
          rw [hW4]
          exact ((HY.out.2.2.setCell (p := ⟨w.heap.size + 1, 0, none⟩) (show w.heap.size ≤ w.heap.size + 1 by omega) _).setCell (p := ⟨w.heap.size + 1 + 1, 0, none⟩) (show w.heap.size ≤ w.heap.size + 1 + 1 by omega) _).drew
        have kK : W4.heap[D]? = some (.deferred (some [])) := by
          rw [hW4]
          exact (((KeepsOthers.setCell _ _ _).trans (KeepsOthers.setCell _ _ _)).trans (KeepsOthers.drew _)).same D _ hK rfl
        rw [← hW4]
        clear hW4
        refine ⟨by simp, .inl ⟨_, _, rfl, run_takeDeferred kK, ?_⟩⟩
        have c6' := cell_kept k6.cell (grownBy_putObj' _ D (.deferred none)) (fun r e => by cases e; exact ⟨_, kK, rfl⟩)
        have c7' := cell_kept k7.cell (grownBy_putObj' _ D (.deferred none)) (fun r e => by cases e; exact ⟨_, kK, rfl⟩)
        refine ⟨.tuple #[.int .i64 (i : Int), .int .i64 (i : Int)], ?_, i, i, rfl, HAT.out, kB.trans (belowK_b (w := w) (Nat.le_refl _) W4 D _ _ (by omega) kK rfl rfl)⟩
        simp [results, Tryd.f15, go_sem, c6', c7']
      case stop =>
        rintro D c pre W hD ⟨m, hpre⟩ ⟨⟨q, pre', ⟨rfl, rfl, hle, hq⟩, y6, y7⟩, hB⟩ hK
        gi_wp2
        refine ⟨by simp, .inl ⟨_, _, rfl, run_takeDeferred hK, ?_⟩⟩
        have c6 := cell_kept y6.cell (grownBy_putObj' _ D (.deferred none)) (fun r e => by cases e; exact ⟨_, hK, rfl⟩)
        have c7 := cell_kept y7.cell (grownBy_putObj' _ D (.deferred none)) (fun r e => by cases e; exact ⟨_, hK, rfl⟩)
        refine ⟨.tuple #[.int .i64 (k : Int), .int .i64 (q : Int)], ?_, k, q, rfl, at_stop HLN.out.2 HKI.out HBK.out HNO.out hpre hle hq, hB.trans (belowK_b (w := w) (Nat.le_refl _) W D _ _ (by omega) hK rfl rfl)⟩
        simp [results, Tryd.f15, go_sem, c6, c7]
theorem at_any (g : Nat) (sv : Value) (l : List Int) (hlen : l.length ≤ 10000) (i : Nat) (hi : i ≤ l.length) (w : World) (hS : Ship w g) (hI : IntsAt w.heap.size w sv l) :
    Calls Tryd.prog 15 #[.pointer (some ⟨g, 0, none⟩), sv, .int .i64 (i : Int)] w fun e W' => ∃ x y : Nat, e = .returned (.tuple #[.int .i64 (x : Int), .int .i64 (y : Int)]) ∧ IsAt l i x y ∧ Below w.heap.size w W' :=
  callsIn_wide.1 (at_in 3 (Nat.le_refl _) g sv l hlen i hi w hS hI)
theorem at_none (g : Nat) (sv : Value) (l : List Int) (i : Int) (w : World) (hI : IntsAt w.heap.size w sv l) (hi : i < 0 ∨ (l.length : Int) < i) :
    Calls Tryd.prog 15 #[.pointer (some ⟨g, 0, none⟩), sv, .int .i64 i] w fun e W' => e = .returned (.tuple #[.int .i64 0, .int .i64 0]) ∧ Below w.heap.size w W' :=
  callsIn_wide.1 (at_out 3 (Nat.le_refl _) g sv l i w hI hi)
end Go.Proofs.YtmhligcmcfikfaaDoor
