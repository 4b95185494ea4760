/-
  Proved: scansionlaw06.WordsAsks returns true for every slice of ints (any length, nil too) and every int, and the arguments read as before; the table ucd.scripts holds what the program's text lays (the card ties it).
-/
import Derived.Test.YtpmlbdfdiebkcaaDoorXJ
import Derived.Test.YtpmlbdfdiebkcaaDoorXP
import Derived.Test.YtpmlbdfdiebkcaaDoorLayU
import Derived.Test.YtpmlbdfdiebkcaaDoorInts6
import Derived.Test.YtpmlbdfdiebkcaaDoorCards
import Derived.Test.YtpmlbdfdiebkcaaDoorTie
namespace Go.Proofs.YtpmlbdfdiebkcaaDoor
open Go.RowKit
set_option linter.unusedVariables false

set_option maxRecDepth 100000 in
set_option maxHeartbeats 8000000 in
theorem wordsAsks_any (l : List Int) (v : Value) (i : Int) (w : World) (hv : IntsAt w.heap.size w v l) (hs : Scripts w) (h0 : 0 < w.heap.size) :
    Calls Tryd.prog 4 #[v, .int .i64 i] w fun e w' => e = .returned (.bool true) ∧ Below w.heap.size w w' := by
  have HS : Hid (Scripts w) := hs
  have HH0 : Hid (0 < w.heap.size) := h0
  have HV : Hid (IntsAt w.heap.size w v l) := hv
  obtain ⟨a, cap, rfl, hcap, hc⟩ := hv
  clear hs h0 hc
  go_enter Tryd.func4, Tryd.ntmps4
  go_wp2_with fail
  refine (awake_w w HS.out HH0.out).mono ?_
  rintro e w0 ⟨rfl, hB0⟩
  have HB0 : Hid (Below w.heap.size w w0) := hB0
  have HS0 : Hid (Scripts w0 ∧ 0 < w0.heap.size) := ⟨HS.out.below HH0.out hB0, by have := HH0.out; have := hB0.size; omega⟩
  clear hB0
  go_wp2_with fail
  refine (new_ship w0 HS0.out.1 HS0.out.2).mono ?_
  rintro e w1 ⟨g, rfl, hd, hB1⟩
  obtain ⟨HD1, HB1⟩ : Hid (Ship w1 g) ∧ Hid (Below w.heap.size w w1) := ⟨hd, HB0.out.trans (hB1.mono HB0.out.size)⟩
  clear hd hB1 HB0 HS0
  by_cases hn : 200 < l.length
  · have hn' : (200 : Int) < (l.length : Int) := by omega
    go_wp2
    go_ret
    exact ⟨rfl, HB1.out⟩
  have hn' : decide ((200 : Int) < (l.length : Int)) = false := decide_eq_false (by omega)
  have hn2 : decide (200 < l.length) = false := decide_eq_false (by omega)
  have HN : Hid (l.length ≤ 10000) := by show _ ≤ _; omega
  clear hn
  go_wp2_with fail
  refine (rnew_ship w1).mono ?_
  rintro e w2 ⟨gr, rfl, hr, hB2⟩
  have HR2 : Hid (RShip w2 gr) := hr
  have HB2 : Hid (Below w.heap.size w w2) := HB1.out.trans (hB2.mono HB1.out.size)
  have HD2 : Hid (Ship w2 g) := HD1.out.below hB2
  clear hr hB2
  by_cases hin : 0 ≤ i ∧ i ≤ (l.length : Int)
  · obtain ⟨i, rfl⟩ : ∃ k : Nat, i = (k : Int) := ⟨i.toNat, by omega⟩
    have hi : i ≤ l.length := by omega
    clear hin
    by_cases hil : i < l.length
    · go_wp2_with fail
      refine (break_any l _ g i w2 HD2.out (HV.out.on HB2.out) HN.out hi).mono ?_
      rintro e w3 ⟨rfl, hB3⟩
      have HB3 : Hid (Below w.heap.size w w3) := HB2.out.trans (hB3.mono HB2.out.size)
      have HR3 : Hid (RShip w3 gr) := HR2.out.below hB3
      have HD3 : Hid (Ship w3 g) := HD2.out.below hB3
      clear hB3
      go_wp2_with fail
      refine (rbreak_any l _ gr i w3 HR3.out (HV.out.on HB3.out) HN.out hi).mono ?_
      rintro e w4 ⟨rfl, hB4⟩
      have HB4 : Hid (Below w.heap.size w w4) := HB3.out.trans (hB4.mono HB3.out.size)
      have HR4 : Hid (RShip w4 gr) := HR3.out.below hB4
      have HD4 : Hid (Ship w4 g) := HD3.out.below hB4
      clear hB4
      obtain ⟨E, hE⟩ : ∃ E, E = brk l i := ⟨_, rfl⟩
      rw [← hE]
      clear hE
      have hee : (E == E) = true := by simp
      go_wp2_with fail
      refine (head_any l _ g i w4 HD4.out (HV.out.on HB4.out) HN.out hil).mono ?_
      rintro e w5 ⟨rfl, hB5⟩
      have HB5 : Hid (Below w.heap.size w w5) := HB4.out.trans (hB5.mono HB4.out.size)
      have HR5 : Hid (RShip w5 gr) := HR4.out.below hB5
      clear hB5
      go_wp2_with fail
      refine (rhead_any l _ gr i w5 HR5.out (HV.out.on HB5.out) HN.out hil).mono ?_
      rintro e w6 ⟨rfl, hB6⟩
      have HB6 : Hid (Below w.heap.size w w6) := HB5.out.trans (hB6.mono HB5.out.size)
      clear hB6
      obtain ⟨F, hF⟩ : ∃ F, F = headB l i := ⟨_, rfl⟩
      rw [← hF]
      clear hF
      have hff : (F == F) = true := by simp
      go_wp2
      go_ret
      exact ⟨rfl, HB6.out⟩
    · have ho : (i : Int) < 0 ∨ (l.length : Int) ≤ (i : Int) := by omega
      go_wp2_with fail
      refine (break_any l _ g i w2 HD2.out (HV.out.on HB2.out) HN.out hi).mono ?_
      rintro e w3 ⟨rfl, hB3⟩
      have HB3 : Hid (Below w.heap.size w w3) := HB2.out.trans (hB3.mono HB2.out.size)
      have HR3 : Hid (RShip w3 gr) := HR2.out.below hB3
      have HD3 : Hid (Ship w3 g) := HD2.out.below hB3
      clear hB3
      go_wp2_with fail
      refine (rbreak_any l _ gr i w3 HR3.out (HV.out.on HB3.out) HN.out hi).mono ?_
      rintro e w4 ⟨rfl, hB4⟩
      have HB4 : Hid (Below w.heap.size w w4) := HB3.out.trans (hB4.mono HB3.out.size)
      have HR4 : Hid (RShip w4 gr) := HR3.out.below hB4
      have HD4 : Hid (Ship w4 g) := HD3.out.below hB4
      clear hB4
      obtain ⟨E, hE⟩ : ∃ E, E = brk l i := ⟨_, rfl⟩
      rw [← hE]
      clear hE
      have hee : (E == E) = true := by simp
      go_wp2_with fail
      refine (head_out l _ g (i : Int) w4 (HV.out.on HB4.out) ho).mono ?_
      rintro e w5 ⟨rfl, hB5⟩
      have HB5 : Hid (Below w.heap.size w w5) := HB4.out.trans (hB5.mono HB4.out.size)
      have HR5 : Hid (RShip w5 gr) := HR4.out.below hB5
      clear hB5
      go_wp2_with fail
      refine (rhead_out l _ gr (i : Int) w5 (HV.out.on HB5.out) ho).mono ?_
      rintro e w6 ⟨rfl, hB6⟩
      have HB6 : Hid (Below w.heap.size w w6) := HB5.out.trans (hB6.mono HB5.out.size)
      clear hB6
      skip
      go_wp2
      go_ret
      exact ⟨rfl, HB6.out⟩
  have ho : i < 0 ∨ (l.length : Int) < i := by omega
  have ho2 : i < 0 ∨ (l.length : Int) ≤ i := by omega
  clear hin
  go_wp2_with fail
  refine (break_out l _ g i w2 (HV.out.on HB2.out) ho).mono ?_
  rintro e w3 ⟨rfl, hB3⟩
  have HB3 : Hid (Below w.heap.size w w3) := HB2.out.trans (hB3.mono HB2.out.size)
  have HR3 : Hid (RShip w3 gr) := HR2.out.below hB3
  have HD3 : Hid (Ship w3 g) := HD2.out.below hB3
  clear hB3
  go_wp2_with fail
  refine (rbreak_out l _ gr i w3 (HV.out.on HB3.out) ho).mono ?_
  rintro e w4 ⟨rfl, hB4⟩
  have HB4 : Hid (Below w.heap.size w w4) := HB3.out.trans (hB4.mono HB3.out.size)
  have HR4 : Hid (RShip w4 gr) := HR3.out.below hB4
  have HD4 : Hid (Ship w4 g) := HD3.out.below hB4
  clear hB4
  skip
  go_wp2_with fail
  refine (head_out l _ g i w4 (HV.out.on HB4.out) ho2).mono ?_
  rintro e w5 ⟨rfl, hB5⟩
  have HB5 : Hid (Below w.heap.size w w5) := HB4.out.trans (hB5.mono HB4.out.size)
  have HR5 : Hid (RShip w5 gr) := HR4.out.below hB5
  clear hB5
  go_wp2_with fail
  refine (rhead_out l _ gr i w5 (HV.out.on HB5.out) ho2).mono ?_
  rintro e w6 ⟨rfl, hB6⟩
  have HB6 : Hid (Below w.heap.size w w6) := HB5.out.trans (hB6.mono HB5.out.size)
  clear hB6
  skip
  go_wp2
  go_ret
  exact ⟨rfl, HB6.out⟩
end Go.Proofs.YtpmlbdfdiebkcaaDoor

namespace Go.Proofs.YtpmlbdfdiebkcaaDoor
open Go.ChangeShapes Go.WideShapes Go.ChangeAt Go.RowKit Go.Deep
set_option linter.unusedVariables false

theorem open_intsS {H : Type} {enc : TypeId × Value → H} {W : World} {a : Option Addr} {len cap : Nat} {d : DataW H} {p : List MemPlace}
    (h : DataW.Trod enc Tryd.prog W 0 (fun _ => true) true 22 (.slice a len cap) d p) : ∃ l : List Int, l.length = len ∧ IntsAt W.heap.size W (.slice a len cap) l := by
  obtain ⟨fuel, hf⟩ := h
  rcases open_ints Tryd.underlying22 Tryd.underlying3 (by kernel_rfl) hf with ⟨hcs, _⟩ | ⟨x, l, c, zs, hcs, _, hl, hmx, hz, _, hcell, hwz⟩
  · simp [Value.cells] at hcs
    obtain ⟨rfl, rfl, rfl⟩ := hcs
    exact ⟨[], rfl, none, 0, rfl, Nat.le_refl _, (fun i hi => by cases hi)⟩
  · simp [Value.cells] at hcs
    obtain ⟨rfl, rfl, rfl⟩ := hcs
    have hzl : zs.length = cap := by simpa using hz
    have hlen : (zs.take len).length = len := by rw [List.length_take]; omega
    refine ⟨zs.take len, hlen, some x, cap, by rw [hlen], by rw [hlen]; exact hl, fun i hi => ?_⟩
    rw [hlen] at hi
    have hci := hcell i (by omega)
    obtain ⟨b, off, spot⟩ := x
    obtain rfl : spot = none := by
      have hc0 := hcell 0 (by omega)
      simpa [Addr.add] using World.cell?_spot hc0
    rw [addr_add] at hci
    refine ⟨b, off, rfl, cell_some_lt hci, ?_⟩
    rw [hci]
    have hiz : i < zs.length := by omega
    simp [hiz]
end Go.Proofs.YtpmlbdfdiebkcaaDoor

namespace Go.Proofs.YtpmlbdfdiebkcaaDoor.wordsAsks
open Go.ChangeShapes Go.WideShapes Go.ChangeAt Go.RowKit
set_option linter.unusedVariables false

set_option maxRecDepth 100000 in
/-- WHAT THE WALK GIVES, FOR EVERY ARGUMENT AND EVERY WORLD THAT HOLDS THE TABLE. -/
theorem contract (H : Type) (enc : TypeId × Value → H) (W : World) (base : Nat) (args : Array Value) (ds gs : List (DataW H)) (before : List MemPlace)
    (hval : ∀ (j : Nat) t v, Tryd.f4.params[j]? = some t → args[j]? = some v → Value.okWide Tryd.prog W .any base t v)
    (hW : DataW.Whole enc Tryd.prog Tryd.f4.params.toList Rows.wordsAsksSpec.vars false W args.toList ds gs before) (hL : laidMetH Tryd.prog Rows.wordsAsksRow.laid W) :
    Calls Tryd.prog 4 args W fun e W' => ∃ v, e = .returned v ∧ Rows.wordsAsksSpec.post enc Tryd.prog Tryd.f4 false true false false W args v W' := by
  have hm : Scripts W := scripts_of hL
  have hW' := hW
  obtain ⟨p, q, hA0, hV, rfl, hfz, hnd⟩ := hW
  have hA : DataW.TrodAll enc Tryd.prog W 0 (fun _ => true) true Tryd.f4.params.toList args.toList ds p := hA0
  rw [Tryd.params4] at hA hval
  obtain ⟨v0, vs0, d0, ds0, p0, q0, hargs, rfl, rfl, h0, r0⟩ := trodAll_cons hA
  obtain ⟨v1, vs1, d1, ds1, p1, q1, rfl, rfl, rfl, h1, r1⟩ := trodAll_cons r0
  obtain ⟨rfl, rfl, rfl⟩ := trodAll_nil r1
  obtain rfl : args = #[v0, v1] := by cases args; simp_all
  obtain ⟨rfl, rfl⟩ := trodVars_none hV
  obtain ⟨a0, len0, cap0, rfl⟩ := okWide_slice Tryd.underlying22 (hval 0 22 v0 rfl rfl)
  have k0 := h0
  have lt0 : ∀ x ∈ p0, x.block < W.heap.size := by obtain ⟨m, hm'⟩ := k0; exact DataW.trod_lt m _ _ _ hm'
  obtain ⟨l0, hl0, w0⟩ := open_intsS h0
  obtain ⟨a1, rfl, rfl, rfl, w1⟩ := open_int Tryd.underlying3 (hval 1 3 v1 rfl rfl) h1
  clear hA0
  refine (wordsAsks_any l0 _ a1 W w0 hm (scripts_pos hm)).mono fun e W' ⟨he, bel⟩ => ?_
  subst he
  exact ⟨_, rfl, _, _, _, [], _, [], hW', trodAll_mk1 (shut_bool Tryd.underlying4 _), (trodAll_cons_mk (Below.trod laidOut (by kernel_rfl) (of_decide_eq_true (by kernel_rfl)) k0 bel lt0) (trodAll_cons_mk (shut_int Tryd.underlying3 w1) trodAll_mk0)), rfl, bel.frame _, fun h => by cases h⟩

theorem laid_met (os : Os) : laidMet Tryd.prog Rows.wordsAsksRow.laid ((withTable (World.holding Tryd.prog os ⟨#[], #[], []⟩)).forCall (fun _ _ => 0) ⟨#[], #[.slice none 0 0, .int .i64 0], []⟩).memory :=
  laidMet_of_run' 8 (by kernel_rfl) (by kernel_rfl)
theorem reads (os : Os) {H : Type} (enc : TypeId × Value → H) : ∃ ds places, DataW.whole enc Tryd.prog ((withTable (World.holding Tryd.prog os ⟨#[], #[], []⟩)).forCall (fun _ _ => 0) ⟨#[], #[.slice none 0 0, .int .i64 0], []⟩).memory Tryd.f4.params.toList Rows.wordsAsksSpec.vars false #[Value.slice none 0 0, .int .i64 0].toList 8 = some (ds, [], places) :=
  ⟨[.nil, .lit (.int .i64 0)], [], by kernel_rfl⟩

set_option maxRecDepth 100000 in
theorem lifted (os : Os) (started : os.Started) (H : Type) (enc : TypeId × Value → H) (F : Stop.Interp) :
    ReturnsInHanded {} Tryd.checked os 4 .any ((OpenSpec.ofChange Rows.wordsAsksSpec).preRow enc Tryd.prog Tryd.f4 Rows.wordsAsksRow.domain false Rows.wordsAsksRow.laid) (((OpenSpec.ofChange Rows.wordsAsksSpec).at F).post enc Tryd.prog Tryd.f4 false true false false) := by
  obtain ⟨ds0, places, hx⟩ := reads os enc
  refine returnsInHanded_of_row (C := Tryd.checked) (s := OpenSpec.ofChange Rows.wordsAsksSpec) own started (by kernel_rfl) Tryd.func4
    (witness_row_at (enc := enc) (C := Tryd.checked) false (withTable (World.holding Tryd.prog os ⟨#[], #[], []⟩)) #[.slice none 0 0, .int .i64 0] rfl (by kernel_rfl) (by kernel_rfl) (by kernel_rfl)
      (OpenSpec.preRow_of_cond 8 hx (by kernel_rfl) (fun k hk => by cases hk) (by kernel_rfl) (laid_met os))) ?_
  intro W base args ds gs before hval hW _ _ _ hL _ _
  exact contract H enc W base args ds gs before hval hW hL

theorem said : Rows.WordsAsksSaid :=
  OpenClaim.holds_of_cond 4 Tryd.f4 rfl rfl rfl rfl rfl rfl rfl ⟨rfl, rfl, rfl, rfl, rfl⟩ rfl rfl rfl rfl rfl (by kernel_rfl) Tryd.func4 (by kernel_rfl)
    (of_decide_eq_true (by kernel_rfl)) (by unfold Func.isWrapper; first | (rw [if_pos (by decide +kernel)]; kernel_rfl) | (rw [if_neg (by decide +kernel)]; exact ⟨rfl, rfl⟩))
    (fun os started H enc _ F => by rw [OpenClaim.pre_eq_preRow]; exact lifted os started H enc F)

/-- No parameter wants a stand-in; the program's own looks are off: what the card asks. -/
theorem plain (f : FuncId) (fn : Func) (hf : Tryd.pinned.checked.prog.funcNamed "scansion/scansionlaw06.WordsAsks" = some f) (hfn : Tryd.pinned.checked.prog.funcs[f]? = some fn) :
    false = Tryd.pinned.checked.prog.looks [] ∧ ∀ (j : Nat) t, fn.params[j]? = some t → Tryd.pinned.checked.prog.wantsStandIn t = false := by
  obtain rfl : f = 4 := Option.some.inj ((show Tryd.prog.funcNamed "scansion/scansionlaw06.WordsAsks" = some 4 by kernel_rfl).symm.trans hf) |>.symm
  obtain rfl : fn = Tryd.f4 := (Option.some.inj (Tryd.func4.symm.trans hfn)).symm
  refine ⟨by kernel_rfl, fun j t ht => ?_⟩
  rw [Tryd.params4] at ht
  have hm := Array.mem_of_getElem? ht
  simp at hm
  rcases hm with rfl | rfl
  · exact (show Tryd.prog.wantsStandIn 22 = false by kernel_rfl)
  · exact (show Tryd.prog.wantsStandIn 3 = false by kernel_rfl)

/-- THE CARD. -/
theorem card : Rows.WordsAsksCardSaid :=
  Claim7.holds_tied_plain_at .later [] _ _ _ _ said (fun _ h => by cases h) (by kernel_rfl) (fun _ h => by cases h) wordsAsks_row_tie rfl ⟨rfl, rfl⟩ (by kernel_rfl) rfl plain (by kernel_rfl)
end Go.Proofs.YtpmlbdfdiebkcaaDoor.wordsAsks
namespace Go.Proofs.YtpmlbdfdiebkcaaDoor
theorem wordsAsks_proved : Rows.WordsAsksCardSaid := wordsAsks.card
end Go.Proofs.YtpmlbdfdiebkcaaDoor
