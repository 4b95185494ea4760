/-
  words.heads: the function that is ranged over: it hands out where heads stand, there or back.
-/
import Derived.RangeFuncNested
import Derived.RangeFuncBound
import Derived.RangeFuncCalls
import Derived.RangeFuncLeaves
import Derived.Shelf.Abstract
import Derived.Shelf.RegionOpen
import Derived.WalkKit
import Derived.OwnWalkIn
import Derived.TacticsInMore
import Derived.LoopNIn
import Derived.LoopIn
import Derived.RangeFuncBox
import Derived.Maps.OwnIn
import Derived.WalkSpells
import Derived.Deep.AppendLies
import Derived.Test.YtpmlbdfdiebkcaaDoorHead
namespace Go.Proofs.YtpmlbdfdiebkcaaDoor
open Go.RowKit Go.Shelf
set_option linter.unusedVariables false
attribute [local go_sem] Oper.semAt_some

/-- What a round keeps: all below n₀, and some blocks. -/
def KpS (n₀ : Nat) (ks : List Nat) (W W' : World) : Prop := Below n₀ W W' ∧ ∀ k ∈ ks, W'.heap[k]? = W.heap[k]?
theorem kpS_refl (n₀ : Nat) (ks : List Nat) (W : World) : KpS n₀ ks W W := ⟨Below.refl _ _, fun _ _ => rfl⟩
theorem kpS_t {n₀ : Nat} {ks : List Nat} {X Y Z : World} (h : KpS n₀ ks X Y) (k : KpS n₀ ks Y Z) : KpS n₀ ks X Z := ⟨h.1.trans k.1, fun j hj => (k.2 j hj).trans (h.2 j hj)⟩
theorem grown_below {w w' : World} (h : Below w.heap.size w w') (row : Option Nat) : w.grownBy w' row := ⟨h.os, h.tape, h.output, h.size, fun k hk _ => h.block k hk⟩
theorem kpS_below {n₀ : Nat} {ks : List Nat} {W W' : World} (h : Below W.heap.size W W') (hn : n₀ ≤ W.heap.size) (hk : ∀ k ∈ ks, k < W.heap.size) : KpS n₀ ks W W' := ⟨h.mono hn, fun k e => h.block k (hk k e)⟩
theorem kpS_b {n₀ : Nat} {ks : List Nat} {w : World} (hn : n₀ ≤ w.heap.size) (hk : ∀ k ∈ ks, k < w.heap.size) : ∀ (W : World) (l : Nat) (o o' : Obj), w.heap.size ≤ l → W.heap[l]? = some o → o.isCells = false → o.isWalk = false → KpS n₀ ks W (W.putObj l o') :=
  fun W l o o' hl ho hc _ => by
    have hg := grownBy_putObj' W l o'
    refine ⟨(Below.refl n₀ W).grown hg (by have := (Array.getElem?_eq_some_iff.1 ho).1; omega) (fun k e => by cases e; omega), fun k e => ?_⟩
    have h1 := hk k e
    exact hg.block k (by have := (Array.getElem?_eq_some_iff.1 ho).1; omega) (fun q => by cases q; omega)
/-- The shipped data lies below n. -/
def ShipB (n : Nat) (W : World) (g : Nat) : Prop := ∃ w, w.heap.size = n ∧ Ship w g ∧ Below n w W
theorem ShipB.ship {n : Nat} {W : World} {g : Nat} (h : ShipB n W g) : Ship W g := by
  obtain ⟨w, rfl, h1, h2⟩ := h
  exact h1.below h2
theorem ShipB.below {n : Nat} {W W' : World} {g : Nat} (h : ShipB n W g) (hb : Below n W W') : ShipB n W' g := by
  obtain ⟨w, e, h1, h2⟩ := h
  exact ⟨w, e, h1, h2.trans hb⟩
theorem Ship.b {w : World} {g : Nat} (h : Ship w g) : ShipB w.heap.size w g := ⟨w, rfl, h, Below.refl _ _⟩
theorem boxed_cell {W : World} {B : Nat} {t : TypeId} {v : Value} (h : Boxed W B t v) : W.cell? ⟨B, 0, none⟩ = some v := h.cell
theorem boxed_same {W W' : World} {B : Nat} {t : TypeId} {v : Value} (h : Boxed W B t v) (e : W'.heap[B]? = W.heap[B]?) : Boxed W' B t v := e.trans h

/-- A place as the program hands it out. -/
def encH {l : List Int} (p : Fin l.length) : Array Value := #[.int .i64 ((p : Nat) : Int)]
/-- A way through a text: T rounds, the place of each, and what the loop's variable is. -/
structure Way (l : List Int) (from' step : Int) (T : Nat) (P : Nat → Nat) (pos : Nat → Int) (me : Int → Nat) : Prop where
  start : pos 0 = from'
  next : ∀ t, t < T → IntKind.i64.wrap (pos t + step) = pos (t + 1)
  inside : ∀ t, t < T → pos t = (P t : Int) ∧ P t < l.length
  out : pos T < 0 ∨ (l.length : Int) ≤ pos T
  down : ∀ t, t < T → me (pos (t + 1)) < me (pos t)
/-- The heads that the first t rounds hand out. -/
def headsT (l : List Int) (P : Nat → Nat) (t : Nat) : List Nat := ((List.range t).map P).filter (headB l)
theorem headsT_succ (l : List Int) (P : Nat → Nat) (t : Nat) : headsT l P (t + 1) = if headB l (P t) = true then headsT l P t ++ [P t] else headsT l P t := by
  unfold headsT
  rw [List.range_succ, List.map_append, List.filter_append, List.map_cons, List.map_nil, List.filter_cons, List.filter_nil]
  split <;> simp
theorem headsT_len (l : List Int) (P : Nat → Nat) (t : Nat) : (headsT l P t).length ≤ t := by
  unfold headsT
  have := List.length_filter_le (headB l) ((List.range t).map P)
  rwa [List.length_map, List.length_range] at this
def valsH {l : List Int} (xs : List (Fin l.length)) : List Nat := xs.map fun x : Fin l.length => x.val
theorem valsH_snoc {l : List Int} (xs : List (Fin l.length)) (x : Fin l.length) : valsH (xs ++ [x]) = valsH xs ++ [x.val] := by simp [valsH]

set_option maxRecDepth 100000 in
set_option maxHeartbeats 4000000 in
theorem heads1_in (n : Nat) (hn : 1 ≤ n) (ly Bf Bl Bs Bd n₀ g : Nat) (sv : Value) (a : Option Addr) (cap : Nat) (l : List Int) (hsv : sv = .slice a l.length cap) (hlen : l.length ≤ 10000) (from' step : Int) (T : Nat) (P : Nat → Nat) (pos : Nat → Int) (me : Int → Nat) (hway : Way l from' step T P pos me) (J Jx : List (Fin l.length) → World → Prop)
    (hY : ∀ pre x W1, J pre W1 → pre.length < T → YieldAt Fence.wide (n - 1) Tryd.prog ly (encH x) W1 fun e W' =>
      (e = .returned (.bool true) ∧ J (pre ++ [x]) W' ∧ KpS n₀ [Bl, Bs, Bd] W1 W') ∨ (e = .returned (.bool false) ∧ Jx (pre ++ [x]) W'))
    (W : World) (hn₀ : n₀ ≤ W.heap.size) (hJ : AbidesFrom W.heap.size J) (hBf : Boxed W Bf 3 (.int .i64 from')) (hBl : Boxed W Bl 22 sv) (hBs : Boxed W Bs 3 (.int .i64 step)) (hBd : Boxed W Bd 24 (.pointer (some ⟨g, 0, none⟩)))
    (hS : ShipB n₀ W g) (hI : IntsAt n₀ W sv l) (h0 : J [] W) :
    CallsIn Fence.wide n Tryd.prog 50 #[.func (.yield ly) #[] #[], .pointer (some ⟨Bf, 0, none⟩), .pointer (some ⟨Bl, 0, none⟩), .pointer (some ⟨Bs, 0, none⟩), .pointer (some ⟨Bd, 0, none⟩)] W fun e W' => (∃ v, e = .returned v) ∧
      ((∃ xs, valsH xs = headsT l P T ∧ J xs W') ∨ (∃ pre, (∃ t, t ≤ T ∧ valsH pre = headsT l P t) ∧ Jx pre W')) := by
  refine callsIn_of_wp Tryd.func50 rfl trivial ?_ rfl
  simp only [Tryd.ntmps50, List.size_toArray, List.length_cons, List.length_nil, Nat.reduceAdd, Nat.reduceSub, Array.replicate_succ, Array.replicate_zero, List.push_toArray, List.append_toArray, List.nil_append, List.cons_append]
  obtain ⟨HBl, HBs, HBd⟩ : Hid (Boxed W Bl 22 sv) ∧ Hid (Boxed W Bs 3 (.int .i64 step)) ∧ Hid (Boxed W Bd 24 (.pointer (some ⟨g, 0, none⟩))) := ⟨hBl, hBs, hBd⟩
  obtain ⟨HS, HI, HH0, HFI, HWAY⟩ : Hid (ShipB n₀ W g) ∧ Hid (IntsAt n₀ W sv l) ∧ Hid (J [] W) ∧ Hid (l.length ≤ 10000 ∧ n₀ ≤ W.heap.size) ∧ Hid (Way l from' step T P pos me) := ⟨hS, hI, h0, ⟨hlen, hn₀⟩, hway⟩
  have hcf : W.cell? ⟨Bf, 0, none⟩ = some (.int .i64 from') := hBf.cell
  have hst := hway.start
  clear hBf hBl hBs hBd hS hI h0 hlen hn₀ hway
  subst hst
  gi_wp2
  gi_loopw [6] (fun x wr => ∃ (pre : List (Fin l.length)) (t : Nat), x = .int .i64 (pos t) ∧ t ≤ T ∧ Hid (valsH pre = headsT l P t ∧ pre.length ≤ t) ∧ J pre wr ∧ Below n₀ W wr ∧ Boxed wr Bl 22 sv ∧ Boxed wr Bs 3 (.int .i64 step) ∧ Boxed wr Bd 24 (.pointer (some ⟨g, 0, none⟩)))
    (fun x _ => me (intOf x))
  case atStart => exact ⟨[], 0, rfl, Nat.zero_le _, ⟨rfl, Nat.le_refl _⟩, HH0.out, Below.refl _ _, HBl.out, HBs.out, HBd.out⟩
  case round =>
    obtain ⟨pre, t, rfl, ht, HP, hJs, hnx, hBl, hBs, hBd⟩ := hrel
    have hbl : wr.cell? ⟨Bl, 0, none⟩ = some sv := hBl.cell
    have hbs : wr.cell? ⟨Bs, 0, none⟩ = some (.int .i64 step) := hBs.cell
    have hbd : wr.cell? ⟨Bd, 0, none⟩ = some (.pointer (some ⟨g, 0, none⟩)) := hBd.cell
    rw [hsv] at hbl
    obtain ⟨HJs, HNX, HBL, HBS, HBD⟩ : Hid (J pre wr) ∧ Hid (Below n₀ W wr) ∧ Hid (Boxed wr Bl 22 sv) ∧ Hid (Boxed wr Bs 3 (.int .i64 step)) ∧ Hid (Boxed wr Bd 24 (.pointer (some ⟨g, 0, none⟩))) := ⟨hJs, hnx, hBl, hBs, hBd⟩
    have HKS : Hid (∀ k ∈ [Bl, Bs, Bd], k < wr.heap.size) := fun k hk => by
      have h1 := hBl.lt
      have h2 := hBs.lt
      have h3 := hBd.lt
      simp at hk
      rcases hk with rfl | rfl | rfl
      · exact h1
      · exact h2
      · exact h3
    clear hJs hnx hBl hBs hBd
    by_cases hlt : t < T
    · have HSTEP : Hid (IntKind.i64.wrap (pos t + step) = pos (t + 1) ∧ me (pos (t + 1)) < me (pos t)) := ⟨HWAY.out.next t hlt, HWAY.out.down t hlt⟩
      have hin := HWAY.out.inside t hlt
      obtain ⟨x, hx⟩ : ∃ x : Fin l.length, x = ⟨P t, hin.2⟩ := ⟨_, rfl⟩
      have HX : Hid (x.val = P t ∧ pos t = (x.val : Int)) := by rw [hx]; exact ⟨rfl, hin.1⟩
      have hpt : pos t = ((x.val : Nat) : Int) := HX.out.2
      have h0p : (0 : Int) ≤ ((x.val : Nat) : Int) := by omega
      have h1p : ((x.val : Nat) : Int) < (l.length : Int) := by have := x.2; omega
      rw [hpt] at HSTEP ⊢
      have hstep := HSTEP.out.1
      have HEN : Hid (Calls Tryd.prog 17 #[.pointer (some ⟨g, 0, none⟩), sv, .int .i64 ((x.val : Nat) : Int)] wr fun e w' => e = .returned (.bool (headB l x.val)) ∧ Below wr.heap.size wr w') :=
        head_any l sv g x.val wr (HS.out.below HNX.out).ship ((HI.out.below HNX.out).mono (Nat.le_trans HFI.out.2 HNX.out.size)) HFI.out.1 x.2
      rw [hsv] at HEN
      have HHT : Hid (headsT l P (t + 1) = if headB l x.val = true then headsT l P t ++ [x.val] else headsT l P t) := by show _ = _; rw [headsT_succ, ← HX.out.1]
      obtain ⟨E, hE⟩ : ∃ E, E = headB l x.val := ⟨_, rfl⟩
      rw [← hE] at HEN HHT
      clear hE hx hin hpt
      obtain ⟨xi, hxi⟩ : ∃ xi : Nat, xi = x.val := ⟨_, rfl⟩
      have HXI : Hid (xi = x.val) := hxi
      rw [← hxi] at HEN h0p h1p hstep ⊢
      clear hxi
      cases E with
      | false =>
        gi_wp2_with (refine ⟨trivial, ?_⟩; gi_at_call 17; refine (callsIn_wide.2 HEN.out).mono ?_; rintro e w1 ⟨rfl, hB1⟩; have HB1 : Hid (Below wr.heap.size wr w1) := hB1; have HK1 : Hid (KpS n₀ [Bl, Bs, Bd] wr w1) := kpS_below hB1 (by have := HNX.out.size; have := HFI.out.2; omega) HKS.out; have hbs1 : w1.cell? ⟨Bs, 0, none⟩ = some (.int .i64 step) := (boxed_same HBS.out (HK1.out.2 _ (by simp))).cell; clear hB1)
        refine ⟨fun _ h => (by cases h), ?_⟩
        gi_wp2
        go_roundw
        case rel =>
          refine ⟨pre, t + 1, by first | rfl | rw [hstep], by omega, ⟨?_, by have := HP.out; omega⟩, hJ _ _ _ none HJs.out (grown_below HB1.out none) (fun r e => by cases e), HNX.out.trans HK1.out.1, boxed_same HBL.out (HK1.out.2 _ (by simp)), boxed_same HBS.out (HK1.out.2 _ (by simp)), boxed_same HBD.out (HK1.out.2 _ (by simp))⟩
          rw [HHT.out, if_neg (by simp)]
          exact HP.out.1
        case measure => have := HSTEP.out.2; rw [← HXI.out] at this; simpa [intOf] using this
      | true =>
        have HH2 : Hid (headsT l P (t + 1) = headsT l P t ++ [x.val]) := by show _ = _; rw [HHT.out]; simp
        gi_wp2_with (refine ⟨trivial, ?_⟩; gi_at_call 17; refine (callsIn_wide.2 HEN.out).mono ?_; rintro e w1 ⟨rfl, hB1⟩; have HB1 : Hid (Below wr.heap.size wr w1) := hB1; have HK1 : Hid (KpS n₀ [Bl, Bs, Bd] wr w1) := kpS_below hB1 (by have := HNX.out.size; have := HFI.out.2; omega) HKS.out; obtain ⟨fn, tmps, assign, body, hy, hR⟩ := hY pre x w1 (hJ _ _ _ none HJs.out (grown_below hB1 none) (fun r e => (by cases e))) (by have := HP.out; omega); dsimp only [encH] at hy; rw [← HXI.out] at hy; clear hB1)
        refine hR.mono ?_
        rintro e W3 (⟨rfl, hJ3, hk3⟩ | ⟨rfl, hJx3⟩)
        · have HK2 : Hid (KpS n₀ [Bl, Bs, Bd] wr W3) := kpS_t HK1.out hk3
          have hbs3 : W3.cell? ⟨Bs, 0, none⟩ = some (.int .i64 step) := (boxed_same HBS.out (HK2.out.2 _ (by simp))).cell
          clear hk3 hR hy hY
          gi_wp2
          go_roundw
          case rel =>
            refine ⟨pre ++ [x], t + 1, by first | rfl | rw [hstep], by omega, ⟨?_, by rw [List.length_append, List.length_singleton]; have := HP.out; omega⟩, hJ3, HNX.out.trans HK2.out.1, boxed_same HBL.out (HK2.out.2 _ (by simp)), boxed_same HBS.out (HK2.out.2 _ (by simp)), boxed_same HBD.out (HK2.out.2 _ (by simp))⟩
            rw [HH2.out, valsH_snoc, HP.out.1]
          case measure => have := HSTEP.out.2; rw [← HXI.out] at this; simpa [intOf] using this
        · gi_wp2
          refine bodyPost_ret (results_none rfl _ _ _) rfl ?_
          exact ⟨⟨_, rfl⟩, .inr ⟨_, ⟨t + 1, by omega, by rw [HH2.out, valsH_snoc, HP.out.1]⟩, hJx3⟩⟩
    · obtain rfl : t = T := by omega
      obtain ⟨z, hz⟩ : ∃ z, z = pos t := ⟨_, rfl⟩
      have hout := HWAY.out.out
      rw [← hz] at hout ⊢
      clear hz
      by_cases h0 : 0 ≤ z
      · have h1 : ¬ (z < (l.length : Int)) := by omega
        have h2 : decide (z < (l.length : Int)) = false := decide_eq_false h1
        clear hout h1
        gi_wp2
        go_end0
        exact ⟨⟨_, rfl⟩, .inl ⟨pre, HP.out.1, HJs.out⟩⟩
      · have h2 : decide (0 ≤ z) = false := decide_eq_false h0
        clear hout h0
        gi_wp2
        go_end0
        exact ⟨⟨_, rfl⟩, .inl ⟨pre, HP.out.1, HJs.out⟩⟩

theorem heads_in (n g : Nat) (a : Option Addr) (len cap : Nat) (f s : Int) (w : World) :
    CallsIn Fence.wide n Tryd.prog 23 #[.pointer (some ⟨g, 0, none⟩), .slice a len cap, .int .i64 f, .int .i64 s] w fun e w' => e = .returned (.func (.func 50) #[] #[.pointer (some ⟨w.heap.size + 2, 0, none⟩), .pointer (some ⟨w.heap.size + 1, 0, none⟩), .pointer (some ⟨w.heap.size + 3, 0, none⟩), .pointer (some ⟨w.heap.size, 0, none⟩)]) ∧ (((w.alloc (.cells #[.pointer (some ⟨g, 0, none⟩)] 24)).alloc (.cells #[.slice a len cap] 22)).alloc (.cells #[.int .i64 f] 3)).alloc (.cells #[.int .i64 s] 3) = w' := by
  refine callsIn_of_wp Tryd.func23 rfl trivial ?_ rfl
  simp only [Tryd.ntmps23, List.size_toArray, List.length_cons, List.length_nil, Nat.reduceAdd, Nat.reduceSub, Array.replicate_succ, Array.replicate_zero, List.push_toArray, List.append_toArray, List.nil_append, List.cons_append]
  gi_wp2
  go_ret
  exact ⟨rfl, rfl⟩

/-- What words.heads hands back, ranged over. -/
theorem heads_stops (n : Nat) (hn : 1 ≤ n) (Bf Bl Bs Bd n₀ g : Nat) (sv : Value) (a : Option Addr) (cap : Nat) (l : List Int) (hsv : sv = .slice a l.length cap) (hlen : l.length ≤ 10000) (from' step : Int) (T : Nat) (P : Nat → Nat) (pos : Nat → Int) (me : Int → Nat) (hway : Way l from' step T P pos me) (w : World) (hn₀ : n₀ ≤ w.heap.size)
    (hcf : Boxed w Bf 3 (.int .i64 from')) (hcl : Boxed w Bl 22 sv) (hcs : Boxed w Bs 3 (.int .i64 step)) (hcd : Boxed w Bd 24 (.pointer (some ⟨g, 0, none⟩))) (hS : ShipB n₀ w g) (hI : IntsAt n₀ w sv l) :
    SeqStopsK Fence.wide n Tryd.prog 50 #[.pointer (some ⟨Bf, 0, none⟩), .pointer (some ⟨Bl, 0, none⟩), .pointer (some ⟨Bs, 0, none⟩), .pointer (some ⟨Bd, 0, none⟩)] encH (KpS n₀ [Bl, Bs, Bd]) (fun ys : List (Fin l.length) => valsH ys = headsT l P T) (fun pre : List (Fin l.length) => ∃ t, t ≤ T ∧ valsH pre = headsT l P t) T w := fun ly J Jx W hW hJ _ hY h0 => by
  have kl : ∀ {k : Nat} {v : Value} {t : TypeId}, Boxed w k t v → Boxed W k t v := fun hc => boxed_same hc (hW.block _ hc.lt)
  exact heads1_in n hn ly Bf Bl Bs Bd n₀ g sv a cap l hsv hlen from' step T P pos me hway J Jx hY W (Nat.le_trans hn₀ hW.size) hJ (kl hcf) (kl hcl) (kl hcs) (kl hcd) (hS.below (hW.mono hn₀)) (hI.below (hW.mono hn₀)) h0

/- The two ways. -/
theorem wrap_int {z : Int} (h1 : -100000 ≤ z) (h2 : z ≤ 100000) : IntKind.i64.wrap z = z := IntWalk.i64_in _ (by omega)
theorem way_on (l : List Int) (hlen : l.length ≤ 10000) (k : Nat) (hk : k ≤ l.length) : Way l (k : Int) 1 (l.length - k) (fun t => k + t) (fun t => ((k + t : Nat) : Int)) (fun z => ((l.length : Int) - z).toNat) where
  start := rfl
  next t ht := by
    show IntKind.i64.wrap (((k + t : Nat) : Int) + 1) = ((k + (t + 1) : Nat) : Int)
    rw [wrap_int (by omega) (by omega)]; omega
  inside t ht := ⟨rfl, by show k + t < _; omega⟩
  out := .inr (by show (l.length : Int) ≤ ((k + (l.length - k) : Nat) : Int); omega)
  down t ht := by
    show ((l.length : Int) - ((k + (t + 1) : Nat) : Int)).toNat < ((l.length : Int) - ((k + t : Nat) : Int)).toNat
    omega
theorem way_back (l : List Int) (hlen : l.length ≤ 10000) (k : Nat) (hk : k ≤ l.length) : Way l ((k : Int) - 1) (-1) k (fun t => k - 1 - t) (fun t => (k : Int) - 1 - (t : Int)) (fun z => (z + 1).toNat) where
  start := by show (k : Int) - 1 - ((0 : Nat) : Int) = _; omega
  next t ht := by
    show IntKind.i64.wrap ((k : Int) - 1 - (t : Int) + -1) = (k : Int) - 1 - ((t + 1 : Nat) : Int)
    rw [wrap_int (by omega) (by omega)]; omega
  inside t ht := ⟨by show (k : Int) - 1 - (t : Int) = ((k - 1 - t : Nat) : Int); omega, by show k - 1 - t < _; omega⟩
  out := .inl (by show (k : Int) - 1 - (k : Int) < 0; omega)
  down t ht := by
    show ((k : Int) - 1 - ((t + 1 : Nat) : Int) + 1).toNat < ((k : Int) - 1 - (t : Int) + 1).toNat
    omega
/-- All heads from k on. -/
theorem heads_on (l : List Int) : headsT l (fun t => 0 + t) l.length = headsL l := by
  unfold headsT headsL
  congr 1
  refine (List.map_congr_left fun t _ => Nat.zero_add t).trans (List.map_id _)
theorem nx_heads (l : List Int) : ∀ (T k : Nat), k + T ≤ l.length → headsT l (fun t => k + t) T = [] → nx l k = nx l (k + T)
  | 0, k, _, _ => by rw [Nat.add_zero]
  | T + 1, k, h, e => by
    rw [headsT_succ] at e
    have hh : headB l (k + T) = false := by
      cases q : headB l (k + T) with
      | false => rfl
      | true => rw [q, if_pos rfl] at e; simp at e
    rw [hh, if_neg (by simp)] at e
    rw [nx_heads l T k (by omega) e, nx_step (by omega), hh, if_neg (by simp), Nat.add_assoc]
theorem nx_none (l : List Int) (k : Nat) (hk : k ≤ l.length) (e : headsT l (fun t => k + t) (l.length - k) = []) : nx l k = none := by
  rw [nx_heads l _ k (by omega) e]
  exact nx_end (by omega)
/-- The first head that is handed out is the next one. -/
theorem nx_first (l : List Int) (k x : Nat) : ∀ (T : Nat), k + T ≤ l.length → headsT l (fun t => k + t) T = [x] → nx l k = some (kd l x)
  | 0, _, e => by cases e
  | T + 1, h, e => by
    rw [headsT_succ] at e
    cases q : headB l (k + T) with
    | false =>
      rw [q, if_neg (by simp)] at e
      exact nx_first l k x T (by omega) e
    | true =>
      rw [q, if_pos rfl] at e
      have e2 : headsT l (fun t => k + t) T = [] := by
        match hc : headsT l (fun t => k + t) T with
        | [] => rfl
        | y :: ys => rw [hc] at e; simp at e
      rw [e2] at e
      obtain rfl : k + T = x := by simpa using e
      rw [nx_heads l T k (by omega) e2, nx_step (by omega), q, if_pos rfl]
/-- Heads, gone back: their kinds. -/
theorem hk_heads (l : List Int) : ∀ (k : Nat), ∀ t, t ≤ k → (headsT l (fun t => k - 1 - t) t).map (kd l) ++ hk l (k - t) = hk l k
  | k, 0, _ => by rw [Nat.sub_zero]; rfl
  | k, t + 1, h => by
    rw [headsT_succ]
    have ih := hk_heads l k t (by omega)
    have e : hk l (k - t) = if headB l (k - 1 - t) = true then kd l (k - 1 - t) :: hk l (k - (t + 1)) else hk l (k - (t + 1)) := by
      have e1 : k - t = (k - 1 - t) + 1 := by omega
      have e2 : k - (t + 1) = k - 1 - t := by omega
      rw [e1, e2]; rfl
    rw [e] at ih
    split
    · rename_i q
      rw [if_pos q] at ih
      rw [← ih]; simp
    · rename_i q
      rw [if_neg q] at ih
      exact ih
theorem hk_back (l : List Int) (k : Nat) : (headsT l (fun t => k - 1 - t) k).map (kd l) = hk l k := by
  have := hk_heads l k k (Nat.le_refl _)
  rw [Nat.sub_self] at this
  simpa [hk] using this
end Go.Proofs.YtpmlbdfdiebkcaaDoor
