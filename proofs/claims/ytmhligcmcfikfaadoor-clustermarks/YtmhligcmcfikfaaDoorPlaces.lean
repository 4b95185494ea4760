/-
  cluster.places: the function that is ranged over: it hands out the places at which clusters end, one behind the other.
-/
import Derived.Test.YtmhligcmcfikfaaDoorKp
namespace Go.Proofs.YtmhligcmcfikfaaDoor
open Go.RowKit Go.Shelf
set_option linter.unusedVariables false
attribute [local go_sem] Oper.semAt_some

/-- A place as the program hands it out. -/
def encP (p : Nat) : Array Value := #[.int .i64 (p : Int)]
/-- The last place that was handed out; ahead of all: where it begins. -/
def lastOf (first : Nat) (pre : List Nat) : Nat := pre.getLast?.getD first
theorem lastOf_nil (first : Nat) : lastOf first [] = first := rfl
theorem lastOf_snoc (first : Nat) (pre : List Nat) (x : Nat) : lastOf first (pre ++ [x]) = x := by simp [lastOf]
theorem prefix_step {l : List Int} {first i : Nat} {pre : List Nat} (h : placesF l first = pre ++ placesF l i) (hi : i ≤ l.length) : placesF l first = (if brk l i = true then pre ++ [i] else pre) ++ placesF l (i + 1) := by
  rw [h, placesF_step hi]
  split <;> simp

theorem meas_up {N i : Nat} (h : i < N) (hb : i < 4611686018427387904) : N - (intOf (.int .i64 (wrap64 ((i : Int) + 1)))).toNat < N - (intOf (.int .i64 (i : Int))).toNat := by
  rw [wrap_next hb]; simp only [intOf]; omega

set_option maxRecDepth 100000 in
set_option maxHeartbeats 4000000 in
theorem places1_in (n : Nat) (hn : 1 ≤ n) (ly Bf Bl Bd n₀ B g : Nat) (sv : Value) (a : Option Addr) (cap : Nat) (l : List Int) (hsv : sv = .slice a l.length cap) (hlen : l.length ≤ 10000) (first : Nat) (hfirst : first ≤ l.length) (hbf : brk l first = true) (J Jx : List Nat → World → Prop)
    (hY : ∀ pre x W1, J pre W1 → pre.length < l.length + 1 → YieldAt Fence.wide (n - 1) Tryd.prog ly (encP x) W1 fun e W' =>
      (e = .returned (.bool true) ∧ J (pre ++ [x]) W' ∧ Kp1 n₀ B W1 W') ∨ (e = .returned (.bool false) ∧ Jx (pre ++ [x]) W'))
    (W : World) (hn₀ : n₀ ≤ W.heap.size) (hJ : AbidesFrom W.heap.size J) (hf : Fit1 B W) (hBf : Lies B W Bf #[.int .i64 (first : Int)] 3) (hBl : Lies B W Bl #[sv] 22) (hBd : Lies B W Bd #[.pointer (some ⟨g, 0, none⟩)] 24)
    (hS : ShipB n₀ W g) (hI : IntsAt n₀ W sv l) (h0 : J [] W) :
    CallsIn Fence.wide n Tryd.prog 40 #[.func (.yield ly) #[] #[], .pointer (some ⟨Bf, 0, none⟩), .pointer (some ⟨Bl, 0, none⟩), .pointer (some ⟨Bd, 0, none⟩)] W fun e W' => (∃ v, e = .returned v) ∧
      (J (placesF l first) W' ∨ (∃ pre, (∃ i, placesF l first = pre ++ placesF l i) ∧ Jx pre W')) := by
  refine callsIn_of_wp Tryd.func40 rfl trivial ?_ rfl
  simp only [Tryd.ntmps40, List.size_toArray, List.length_cons, List.length_nil, Nat.reduceAdd, Nat.reduceSub, Array.replicate_succ, Array.replicate_zero, List.push_toArray, List.append_toArray, List.nil_append, List.cons_append]
  obtain ⟨HBf, HBl, HBd⟩ : Hid (Lies B W Bf #[.int .i64 (first : Int)] 3) ∧ Hid (Lies B W Bl #[sv] 22) ∧ Hid (Lies B W Bd #[.pointer (some ⟨g, 0, none⟩)] 24) := ⟨hBf, hBl, hBd⟩
  obtain ⟨HS, HI, HF1, HH0, HFI⟩ : Hid (ShipB n₀ W g) ∧ Hid (IntsAt n₀ W sv l) ∧ Hid (Fit1 B W) ∧ Hid (J [] W) ∧ Hid (first ≤ l.length ∧ l.length ≤ 10000 ∧ brk l first = true ∧ n₀ ≤ W.heap.size) := ⟨hS, hI, hf, h0, hfirst, hlen, hbf, hn₀⟩
  have hcf : W.cell? ⟨Bf, 0, none⟩ = some (.int .i64 (first : Int)) := hBf.cell 0
  clear hBf hBl hBd hS hI hf h0 hfirst hlen hbf hn₀
  gi_wp2
  gi_loopw [5, 6] (fun y x wr => ∃ (pre : List Nat) (i : Nat), x = .int .i64 (i : Int) ∧ y = .int .i64 (lastOf first pre : Int) ∧ i ≤ l.length + 1 ∧ Hid (placesF l first = pre ++ placesF l i ∧ lastOf first pre ≤ i ∧ brk l (lastOf first pre) = true ∧ pre.length ≤ i) ∧ J pre wr ∧ Below n₀ W wr ∧ Fit1 B wr ∧ Lies B wr Bl #[sv] 22 ∧ Lies B wr Bd #[.pointer (some ⟨g, 0, none⟩)] 24)
    (fun _ x _ => l.length + 1 - (intOf x).toNat)
  case atStart => exact ⟨[], first, rfl, rfl, by have := HFI.out; omega, ⟨rfl, Nat.le_refl _, HFI.out.2.2.1, Nat.zero_le _⟩, HH0.out, Below.refl _ _, HF1.out, HBl.out, HBd.out⟩
  case round =>
    obtain ⟨pre, i, rfl, rfl, hi, HP, hJs, hnx, hfx, hBl, hBd⟩ := hrel
    have hbl : wr.cell? ⟨Bl, 0, none⟩ = some sv := hBl.cell 0
    have hbd : wr.cell? ⟨Bd, 0, none⟩ = some (.pointer (some ⟨g, 0, none⟩)) := hBd.cell 0
    rw [hsv] at hbl
    obtain ⟨HJs, HNX, HFX, HBL, HBD⟩ : Hid (J pre wr) ∧ Hid (Below n₀ W wr) ∧ Hid (Fit1 B wr) ∧ Hid (Lies B wr Bl #[sv] 22) ∧ Hid (Lies B wr Bd #[.pointer (some ⟨g, 0, none⟩)] 24) := ⟨hJs, hnx, hfx, hBl, hBd⟩
    clear hJs hnx hfx hBl hBd
    by_cases hlt : i ≤ l.length
    · have hlt' : (i : Int) ≤ (l.length : Int) := by omega
      have HEN : Hid (Calls Tryd.prog 26 #[.pointer (some ⟨g, 0, none⟩), sv, .int .i64 (lastOf first pre : Int), .int .i64 (i : Int)] wr fun e w' => e = .returned (.bool (brk l i)) ∧ Below wr.heap.size wr w') := by
        rw [← ends_brk HP.out.2.1 HP.out.2.2.1]
        exact ends_any l sv g _ i wr (HS.out.below HNX.out).ship ((HI.out.below HNX.out).mono (Nat.le_trans HFI.out.2.2.2 HNX.out.size)) HFI.out.2.1 HP.out.2.1 hlt
      rw [hsv] at HEN
      obtain ⟨E, hE⟩ : ∃ E, E = brk l i := ⟨_, rfl⟩
      have HE : Hid (E = brk l i) := hE
      rw [← hE] at HEN
      clear hE
      cases E with
      | false =>
        have HE2 : Hid (brk l i = false) := HE.out.symm
        clear HE
        gi_wp2_with (refine ⟨trivial, ?_⟩; gi_at_call 26; refine (callsIn_wide.2 HEN.out).mono ?_; rintro e w1 ⟨rfl, hB1⟩)
        have hnx := HNX.out.size
        have hk1 : Kp1 n₀ B wr w1 := kp1_below hB1 (by have := HFI.out; omega)
        have hwn : wrap64 ((i : Int) + 1) = ((i + 1 : Nat) : Int) := wrap_next (by have := HFI.out.2.1; omega)
        go_roundw
        case rel =>
          refine ⟨pre, i + 1, by rw [hwn], rfl, by omega, ⟨?_, by have := HP.out; omega, HP.out.2.2.1, by have := HP.out; omega⟩, hJ _ _ _ none HJs.out (grown_below hB1 none) (fun r e => by cases e), HNX.out.trans hk1.1, (hk1.2 HFX.out).1, HBL.out.kp HFX.out hk1, HBD.out.kp HFX.out hk1⟩
          have := prefix_step HP.out.1 hlt
          rw [HE2.out] at this
          simpa using this
        case measure => exact meas_up (by omega) (by have := HFI.out.2.1; omega)
      | true =>
        have HE2 : Hid (brk l i = true) := HE.out.symm
        have HPN : Hid (placesF l first = (pre ++ [i]) ++ placesF l (i + 1)) := by
          have := prefix_step HP.out.1 hlt
          rw [HE2.out, if_pos rfl] at this
          exact this
        clear HE
        gi_wp2_with (refine ⟨trivial, ?_⟩; gi_at_call 26; refine (callsIn_wide.2 HEN.out).mono ?_; rintro e w1 ⟨rfl, hB1⟩; have HB1 : Hid (Below wr.heap.size wr w1) := hB1; obtain ⟨fn, tmps, assign, body, hy, hR⟩ := hY pre i w1 (hJ _ _ _ none HJs.out (grown_below hB1 none) (fun r e => (by cases e))) (by have := HP.out; omega); dsimp only [encP] at hy; clear hB1)
        have hnx := HNX.out.size
        have hk1 : Kp1 n₀ B wr w1 := kp1_below HB1.out (by have := HFI.out; omega)
        refine hR.mono ?_
        rintro e W3 (⟨rfl, hJ3, hk3⟩ | ⟨rfl, hJx3⟩)
        · have hk2 := kp1_t hk1 hk3
          have HK2 : Hid (Kp1 n₀ B wr W3) := hk2
          clear hk1 hk3 hk2 hR hy hY
          gi_wp2
          have hwn : wrap64 ((i : Int) + 1) = ((i + 1 : Nat) : Int) := wrap_next (by have := HFI.out.2.1; omega)
          go_roundw
          case rel => exact ⟨pre ++ [i], i + 1, by rw [hwn], by rw [lastOf_snoc], by omega, ⟨HPN.out, by rw [lastOf_snoc]; omega, by rw [lastOf_snoc]; exact HE2.out, by rw [List.length_append, List.length_singleton]; have := HP.out; omega⟩, hJ3, HNX.out.trans HK2.out.1, (HK2.out.2 HFX.out).1, HBL.out.kp HFX.out HK2.out, HBD.out.kp HFX.out HK2.out⟩
          case measure => exact meas_up (by omega) (by have := HFI.out.2.1; omega)
        · gi_wp2
          refine bodyPost_ret (results_none rfl _ _ _) rfl ?_
          exact ⟨⟨_, rfl⟩, .inr ⟨_, ⟨_, HPN.out⟩, hJx3⟩⟩
    · obtain rfl : i = l.length + 1 := by omega
      have hge : ¬ (((l.length + 1 : Nat) : Int) ≤ (l.length : Int)) := by omega
      gi_wp2
      go_end0
      refine ⟨⟨_, rfl⟩, .inl ?_⟩
      have e : placesF l (l.length + 1) = [] := by unfold placesF; rw [Nat.sub_self]; rfl
      rw [HP.out.1, e, List.append_nil]
      exact HJs.out

set_option maxHeartbeats 1000000 in
/-- cluster.places(d, l, first): its arguments are boxed; the function value captures the boxes. -/
theorem places_in (n : Nat) (g : Nat) (a : Option Addr) (len cap : Nat) (f : Int) (w : World) :
    CallsIn Fence.wide n Tryd.prog 22 #[.pointer (some ⟨g, 0, none⟩), .slice a len cap, .int .i64 f] w fun e w' => e = .returned (.func (.func 40) #[] #[.pointer (some ⟨w.heap.size + 2, 0, none⟩), .pointer (some ⟨w.heap.size + 1, 0, none⟩), .pointer (some ⟨w.heap.size, 0, none⟩)]) ∧ ((w.alloc (.cells #[.pointer (some ⟨g, 0, none⟩)] 24)).alloc (.cells #[.slice a len cap] 22)).alloc (.cells #[.int .i64 f] 3) = w' := by
  refine callsIn_of_wp Tryd.func22 rfl trivial ?_ rfl
  simp only [Tryd.ntmps22, List.size_toArray, List.length_cons, List.length_nil, Nat.reduceAdd, Nat.reduceSub, Array.replicate_succ, Array.replicate_zero, List.push_toArray, List.append_toArray, List.nil_append, List.cons_append]
  gi_wp2
  go_ret
  exact ⟨rfl, rfl⟩

/-- What cluster.places hands back, ranged over: all places from one on, in their order; or some of them, where a round has said that it wants no more. -/
theorem places_stops (n : Nat) (hn : 1 ≤ n) (Bf Bl Bd n₀ B g : Nat) (sv : Value) (a : Option Addr) (cap : Nat) (l : List Int) (hsv : sv = .slice a l.length cap) (hlen : l.length ≤ 10000) (first : Nat) (hfirst : first ≤ l.length) (hbf : brk l first = true) (w : World) (hn₀ : n₀ ≤ w.heap.size) (hf : Fit1 B w)
    (hcf : Lies B w Bf #[.int .i64 (first : Int)] 3) (hcl : Lies B w Bl #[sv] 22) (hcd : Lies B w Bd #[.pointer (some ⟨g, 0, none⟩)] 24) (hS : ShipB n₀ w g) (hI : IntsAt n₀ w sv l) :
    SeqStopsK Fence.wide n Tryd.prog 40 #[.pointer (some ⟨Bf, 0, none⟩), .pointer (some ⟨Bl, 0, none⟩), .pointer (some ⟨Bd, 0, none⟩)] encP (Kp1 n₀ B) (fun ys => ys = placesF l first) (fun pre => ∃ i, placesF l first = pre ++ placesF l i) (l.length + 1) w := fun ly J Jx W hW hJ _ hY h0 => by
  have e : W.cell? ⟨B, 0, none⟩ = w.cell? ⟨B, 0, none⟩ := hW.cell (p := ⟨B, 0, none⟩) hf.1
  have kl : ∀ {k : Nat} {cs : Array Value} {t : TypeId}, Lies B w k cs t → Lies B W k cs t := fun hc => ⟨(hW.block _ hc.lt).trans hc.1, fun o => hc.2 (o.elim .inl fun ⟨n, c, h⟩ => .inr ⟨n, c, by rw [← e]; exact h⟩)⟩
  have hf' : Fit1 B W := by
    exact ⟨Nat.lt_of_lt_of_le hf.1 hW.size, fun k n c h => Nat.lt_of_lt_of_le (hf.2 k n c (by rw [← e]; exact h)) hW.size⟩
  exact (places1_in n hn ly Bf Bl Bd n₀ B g sv a cap l hsv hlen first hfirst hbf J Jx hY W (Nat.le_trans hn₀ hW.size) hJ hf' (kl hcf) (kl hcl) (kl hcd) (hS.below (hW.mono hn₀)) (hI.below (hW.mono hn₀)) h0).mono fun e W' ⟨he, hj⟩ => ⟨he, hj.elim (fun h => .inl ⟨_, rfl, h⟩) (fun h => .inr h)⟩
end Go.Proofs.YtmhligcmcfikfaaDoor
