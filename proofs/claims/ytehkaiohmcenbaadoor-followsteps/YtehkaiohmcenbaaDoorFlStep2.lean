/-
  End; what a sign takes; DeleteFunc; Step.
-/
import Derived.Test.YtehkaiohmcenbaaDoorFlStep
import Derived.Deep.RegionLaw
namespace Go.Proofs.YtehkaiohmcenbaaDoor
open Go.RowKit Go.Shelf
set_option linter.unusedVariables false

/-- May a word end at this place? -/
def endP (d : AutD) (x : Nat) : Bool := (decide (x = 0) && d.null) || d.last.contains x

set_option maxRecDepth 100000 in
set_option maxHeartbeats 4000000 in
theorem end1_any (d : AutD) (b : Nat) (sv fv lv wv : Value) (x : Nat) (w : World) (hb : ABox w b d.null sv fv lv wv) (hl : PlcAt 0 0 w lv d.last) (hll : d.last.length ≤ 100000) :
    Calls Tryd.prog 48 #[.int .i64 (x : Int), .pointer (some ⟨b, 0, none⟩)] w fun e w' => e = .returned (.bool (endP d x)) ∧ Below w.heap.size w w' := by
  have hc := has_any' d.last lv x w hl hll
  obtain ⟨la, lc, hel, _⟩ := hl.slice
  obtain ⟨N, hN⟩ : ∃ n, n = d.last.length := ⟨_, rfl⟩
  subst hel
  rw [← hN] at hc hb
  have c0 := hb.c0
  have c3 := hb.c3
  obtain ⟨r, hr⟩ : ∃ r, r = d.last.contains x := ⟨_, rfl⟩
  obtain ⟨nn, hnn⟩ : ∃ r, r = d.null := ⟨_, rfl⟩
  rw [← hr] at hc
  rw [← hnn] at c0
  have HE : Hid (endP d x = ((decide (x = 0) && nn) || r)) := by show _ = _; unfold endP; rw [hr, hnn]
  clear hb hl hN hr hnn
  by_cases hx : x = 0
  · subst hx
    cases nn with
    | true =>
      go_enter Tryd.func48, Tryd.ntmps48
      go_wp2
      go_ret
      exact ⟨by rw [HE.out]; simp, Below.refl _ _⟩
    | false =>
      go_enter Tryd.func48, Tryd.ntmps48
      go_wp2_with fail
      refine hc.mono ?_
      rintro e w1 ⟨rfl, rfl⟩
      go_wp2
      go_ret
      exact ⟨by rw [HE.out]; simp, Below.refl _ _⟩
  · have hx' : ((x : Int) == 0) = false := beq_eq_false_iff_ne.2 (by omega)
    have hd : decide (x = 0) = false := decide_eq_false hx
    go_enter Tryd.func48, Tryd.ntmps48
    go_wp2_with fail
    refine hc.mono ?_
    rintro e w1 ⟨rfl, rfl⟩
    go_wp2
    go_ret
    exact ⟨by rw [HE.out, hd]; simp, Below.refl _ _⟩
theorem end1_ent : ∀ args w, (callFunc 48 args).run Tryd.prog w = .ok (.enter 48 args) w := enters_of Tryd.func48 (by kernel_rfl) rfl

set_option maxRecDepth 100000 in
set_option maxHeartbeats 4000000 in
theorem end_any (d : AutD) (av : Value) (at' : List Nat) (v : Value) (w : World) (ha : AutAt w av d) (hv : PlcAt 0 0 w v at') (hl : at'.length ≤ 100000) (hll : d.last.length ≤ 100000) :
    Calls Tryd.prog 17 #[av, v] w fun e w' => e = .returned (.bool (at'.any (endP d))) ∧ Below w.heap.size w w' := by
  obtain ⟨sv, fv, lv, wv, rfl, hs, hf, hl1, hw⟩ := ha
  obtain ⟨W0, hW0⟩ : ∃ W, W = w.alloc (.cells #[.bool d.null, sv, fv, lv, wv] 30) := ⟨_, rfl⟩
  have hB0 : Below w.heap.size w W0 := by rw [hW0]; exact below_alloc _ _
  have hbx : ABox W0 w.heap.size d.null sv fv lv wv := by rw [hW0]; exact heap_new' _ _
  have hp : PrdT 48 #[.pointer (some ⟨w.heap.size, 0, none⟩)] W0.heap.size W0 (endP d) at' := ⟨end1_ent, fun x _ W hb => end1_any d w.heap.size sv fv lv wv x W (hbx.below hb) ((hl1.below hB0).below hb) hll⟩
  have hc := cfun_any 48 #[.pointer (some ⟨w.heap.size, 0, none⟩)] W0.heap.size W0 (endP d) at' v W0 hp (Below.refl _ _) (Nat.le_refl _) (hv.below hB0) hl
  obtain ⟨sa, sc, hes, _⟩ := hs.slice
  obtain ⟨fa, fc, hef, _⟩ := hf.slice
  obtain ⟨la, lc, hel, _⟩ := hl1.slice
  obtain ⟨xa, xc, hex, _⟩ := hw.slice
  obtain ⟨va, vc, hev, _⟩ := hv.slice
  obtain ⟨r, hr⟩ : ∃ r, r = at'.any (endP d) := ⟨_, rfl⟩
  obtain ⟨n1, hn1⟩ : ∃ x, x = d.null := ⟨_, rfl⟩
  obtain ⟨n2, hn2⟩ : ∃ x, x = d.sets.length := ⟨_, rfl⟩
  obtain ⟨n3, hn3⟩ : ∃ x, x = d.first.length := ⟨_, rfl⟩
  obtain ⟨n4, hn4⟩ : ∃ x, x = d.last.length := ⟨_, rfl⟩
  obtain ⟨n5, hn5⟩ : ∃ x, x = d.fol.length := ⟨_, rfl⟩
  obtain ⟨n6, hn6⟩ : ∃ x, x = at'.length := ⟨_, rfl⟩
  rw [← hn2] at hes
  rw [← hn3] at hef
  rw [← hn4] at hel
  rw [← hn5] at hex
  rw [← hn6] at hev
  subst hes hef hel hex hev
  rw [← hn1] at hW0 ⊢
  rw [← hr] at hc ⊢
  have HB0 : Hid (Below w.heap.size w W0) := hB0
  rw [hW0] at hc
  clear hs hf hl1 hw hv hp hbx hr hn1 hn2 hn3 hn4 hn5 hn6 hB0
  go_enter Tryd.func17, Tryd.ntmps17
  go_wp2_with fail
  refine hc.mono ?_
  rintro e w1 ⟨rfl, hB1⟩
  rw [← hW0] at hB1
  have HB1 : Hid (Below w.heap.size w w1) := below_after HB0.out hB1
  clear hc hB1 hW0
  go_wp2
  go_ret
  exact ⟨rfl, HB1.out⟩

/-- Does the set of this place have the sign? -/
def tkP (d : AutD) (sign x : Nat) : Bool := decide (0 < x) && sign.testBit (d.sets.getD (x - 1) 0).toNat

set_option maxRecDepth 100000 in
set_option maxHeartbeats 4000000 in
theorem takes_any (d : AutD) (av : Value) (sign x : Nat) (w : World) (ha : AutAt w av d) (hx : x ≤ d.sets.length) (hs64 : ∀ s ∈ d.sets, 0 ≤ s ∧ s < 64) (hsg : sign < 18446744073709551616) (hsl : d.sets.length ≤ 1000) :
    Calls Tryd.prog 55 #[av, .int .i64 (x : Int), .int .u64 (sign : Int)] w fun e w' => e = .returned (.bool (tkP d sign x)) ∧ Below w.heap.size w w' := by
  obtain ⟨sv, fv, lv, wv, rfl, hs, hf, hl1, hw⟩ := ha
  obtain ⟨sa, sc, hes, hsc⟩ := hs.slice
  obtain ⟨fa, fc, hef, _⟩ := hf.slice
  obtain ⟨la, lc, hel, _⟩ := hl1.slice
  obtain ⟨xa, xc, hex, _⟩ := hw.slice
  obtain ⟨n1, hn1⟩ : ∃ x, x = d.null := ⟨_, rfl⟩
  obtain ⟨n2, hn2⟩ : ∃ x, x = d.sets.length := ⟨_, rfl⟩
  obtain ⟨n3, hn3⟩ : ∃ x, x = d.first.length := ⟨_, rfl⟩
  obtain ⟨n4, hn4⟩ : ∃ x, x = d.last.length := ⟨_, rfl⟩
  obtain ⟨n5, hn5⟩ : ∃ x, x = d.fol.length := ⟨_, rfl⟩
  have HS : Hid (IntsAt w sv d.sets) := hs
  rw [← hn2] at hes hx hsl hsc
  rw [← hn3] at hef
  rw [← hn4] at hel
  rw [← hn5] at hex
  subst hes hef hel hex
  rw [← hn1]
  have HN2 : Hid (n2 = d.sets.length) := hn2
  have HB0 : Hid (∀ o, Below w.heap.size w (w.alloc o)) := fun o => below_alloc _ _
  have HE : Hid (∀ b, tkP d sign x = b → True) := fun _ _ => trivial
  by_cases h0 : x = 0
  · subst h0
    have HT : Hid (tkP d sign 0 = false) := by show _ = _; simp [tkP]
    clear hs hf hl1 hw hn1 hn2 hn3 hn4 hn5 HE
    go_enter Tryd.func55, Tryd.ntmps55
    go_wp2
    go_ret
    exact ⟨by rw [HT.out]; rfl, HB0.out _⟩
  · obtain ⟨q, rfl⟩ : ∃ q, x = q + 1 := ⟨x - 1, by omega⟩
    have hqn : q < d.sets.length := by rw [← hn2]; omega
    obtain ⟨ga, oa, rfl, hga, e1⟩ := HS.out.at hqn
    obtain ⟨s, hse⟩ : ∃ s, s = d.sets[q] := ⟨_, rfl⟩
    have hs1 := hs64 _ (List.getElem_mem hqn)
    rw [← hse] at e1 hs1
    obtain ⟨t, ht⟩ : ∃ t : Nat, s = (t : Int) := ⟨s.toNat, by omega⟩
    have ht64 : t < 64 := by omega
    have HT : Hid (tkP d sign (q + 1) = sign.testBit t) := by
      show _ = _
      unfold tkP
      rw [show q + 1 - 1 = q by omega, List.getD_eq_getElem?_getD, List.getElem?_eq_getElem hqn]
      simp only [Option.getD_some]
      rw [← hse, ht]; simp
    rw [ht] at e1
    have HSB : Hid ((bits .and .u64 ((sign : Int) / 2 ^ t) 1 == 1) = sign.testBit t) := shr_bit hsg
    have hq0 : (0 : Int) ≤ (q : Int) := by omega
    have hq1 : (q : Int) < (n2 : Int) := by omega
    have hq2 : q < n2 := by omega
    have hwq : IntKind.i64.wrap (q : Int) = (q : Int) := by rw [IntKind.wrap_i64]; omega
    have hx0 : (((q : Int) + 1) == 0) = false := beq_eq_false_iff_ne.2 (by omega)
    have ht0 : decide ((t : Int) ≥ 0) = true := decide_eq_true (by omega)
    have e1' : (w.alloc (.cells #[.bool n1, .slice (some ⟨ga, oa, none⟩) n2 sc, .slice fa n3 fc, .slice la n4 lc, .slice xa n5 xc] 30)).cell? ⟨ga, oa + q, none⟩ = some (.int .i64 (t : Int)) := ((below_alloc w _).cell (p := ⟨ga, _, none⟩) hga).trans e1
    have hcast : (((q + 1 : Nat)) : Int) = (q : Int) + 1 := by omega
    rw [hcast]
    clear hs hf hl1 hw hn1 hn2 hn3 hn4 hn5 HE hse hs1 ht h0 hs64 hcast
    go_enter Tryd.func55, Tryd.ntmps55
    go_wp2
    go_ret
    trace_state
    exact ⟨by rw [HT.out, ← HSB.out]; first | rfl | simp, HB0.out _⟩
end Go.Proofs.YtehkaiohmcenbaaDoor
