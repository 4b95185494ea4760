/-
  Step and End of package follow. End; what a sign takes; DeleteFunc; Step. slices.DeleteFunc of places. Step.
-/
import Derived.Test.YtklhjjgnhigbiaaGreatDoorFlLaw
import Derived.Deep.RegionLaw
import Derived.Lib.SliceRun
namespace Go.Proofs.YtklhjjgnhigbiaaGreatDoor
open Go.RowKit Go.Shelf
set_option linter.unusedVariables false

set_option maxRecDepth 100000 in
set_option maxHeartbeats 4000000 in
theorem begin_any (w : World) : Calls Tryz.prog 24 #[] w fun e w' => ∃ v, e = .returned v ∧ w'.ownsRow w.heap.size 3 1 v 1 (cellP [0]) ∧ Below w.heap.size w w' := by
  go_enter Tryz.func24, Tryz.ntmps24
  go_wp2
  go_ret
  exact ⟨_, rfl, ⟨by simp [cellP], .inr ⟨w.heap.size, 1, _, rfl, Nat.le_refl _, heap_new' _ _, Nat.le_refl _, by decide, by simp, by simp [cellP]⟩⟩, below_alloc _ _⟩

/-- An index of a place in a list, or -1. -/
def idxN (x : Nat) : List Nat → Nat → Int
  | [], _ => -1
  | y :: l, i => if x = y then (i : Int) else idxN x l (i + 1)

set_option maxRecDepth 100000 in
set_option maxHeartbeats 4000000 in
theorem contains_any (l : List Nat) (v : Value) (x : Nat) (w : World) (hv : PlcAt 0 0 w v l) (hl : l.length ≤ 100000) : Calls Tryz.prog 67 #[v, .int .i64 (x : Int)] w fun e w' => ∃ r : Int, e = .returned (.int .i64 r) ∧ (0 ≤ r ↔ x ∈ l) ∧ w' = w := by
  have HV : Hid (PlcAt 0 0 w v l) := hv
  obtain ⟨a, c, hev, hc⟩ := hv.slice
  subst hev
  obtain ⟨len, hle⟩ : ∃ n, n = l.length := ⟨_, rfl⟩
  have HLE : Hid (len = l.length) := hle
  rw [← hle] at hc hl HV ⊢
  clear hle hv
  go_enter Tryz.func67, Tryz.ntmps67
  go_wp2
  go_loopw [8] (fun x8 wr => ∃ (i : Nat), i ≤ len ∧ x8 = .int .i64 (i : Int) ∧ Hid (x ∉ l.take i) ∧ wr = w) (fun x8 _ => len - (intOf x8).toNat)
  case atStart => exact ⟨0, Nat.zero_le _, rfl, (by show _ ∉ _; simp), rfl⟩
  case round =>
    obtain ⟨i, hi, rfl, HNI, hwr⟩ := hrel
    have hwr' := hwr.symm
    subst hwr'
    by_cases hil : i < len
    · have hin : i < l.length := by rw [← HLE.out]; exact hil
      obtain ⟨ga, oa, rfl, _, hga, e1⟩ := HV.out.at HLE.out hin
      obtain ⟨y, hy⟩ : ∃ y, y = l[i] := ⟨_, rfl⟩
      have HY : Hid (y = l[i]) := hy
      rw [← hy] at e1
      have hi0 : (0 : Int) ≤ (i : Int) := by omega
      have hi1 : (i : Int) < (len : Int) := by omega
      clear hy
      by_cases hxy : x = y
      · have hxy' : ((x : Int) == (y : Int)) = true := by rw [beq_iff_eq]; omega
        have HM : Hid (x ∈ l) := by show _ ∈ _; rw [hxy, HY.out]; exact List.getElem_mem hin
        clear hxy
        go_wp2
        go_ret
        exact ⟨i, rfl, ⟨fun _ => HM.out, fun _ => by omega⟩, rfl⟩
      · have hxy' : ((x : Int) == (y : Int)) = false := beq_eq_false_iff_ne.2 (by omega)
        have HN2 : Hid (x ∉ l.take (i + 1)) := by
          show _ ∉ _
          rw [List.take_add_one, List.getElem?_eq_getElem hin, ← HY.out]
          simp only [Option.toList_some, List.mem_append, List.mem_singleton, not_or]
          exact ⟨HNI.out, hxy⟩
        clear hxy
        go_wp2
        go_roundw
        case rel => exact ⟨i + 1, by omega, by go_num, HN2, by first | exact rfl | trivial⟩
        case measure => simp [intOf]; omega
    · obtain rfl : i = len := by omega
      have HEQ : Hid (l.take i = l) := List.take_of_length_le (by rw [← HLE.out]; exact Nat.le_refl _)
      go_wp2
      go_ret
      refine ⟨-1, rfl, ⟨fun h => by omega, fun h => ?_⟩, rfl⟩
      have := HNI.out
      rw [HEQ.out] at this
      exact absurd h this

set_option maxRecDepth 100000 in
set_option maxHeartbeats 4000000 in
theorem has_any' (l : List Nat) (v : Value) (x : Nat) (w : World) (hv : PlcAt 0 0 w v l) (hl : l.length ≤ 100000) : Calls Tryz.prog 48 #[v, .int .i64 (x : Int)] w fun e w' => e = .returned (.bool (l.contains x)) ∧ w' = w := by
  have hc := contains_any l v x w hv hl
  obtain ⟨a, c, hev, _⟩ := hv.slice
  subst hev
  obtain ⟨len, hle⟩ : ∃ n, n = l.length := ⟨_, rfl⟩
  rw [← hle] at hc ⊢
  clear hle hv
  go_enter Tryz.func48, Tryz.ntmps48
  go_wp2_with fail
  refine hc.mono ?_
  rintro e w1 ⟨r, rfl, hr, rfl⟩
  have hd : decide (r ≥ 0) = l.contains x := by rw [Bool.eq_iff_iff]; simp; exact hr
  clear hr hc
  go_wp2
  go_ret
  exact ⟨by simp, rfl⟩

/-- Where p first holds, or -1. -/
def idxF (p : Nat → Bool) : List Nat → Nat → Int
  | [], _ => -1
  | y :: l, i => if p y then (i : Int) else idxF p l (i + 1)
/-- A predicate as a function of the program, in every world that is below B0 as w0. -/
def PrdT (g : Nat) (caps : Array Value) (B0 : Nat) (w0 : World) (p : Nat → Bool) (l : List Nat) : Prop :=
  (∀ args w, (callFunc g args).run Tryz.prog w = .ok (.enter g args) w) ∧ ∀ x ∈ l, ∀ W, Below B0 w0 W → Calls Tryz.prog g (#[.int .i64 (x : Int)] ++ caps) W fun e w' => e = .returned (.bool (p x)) ∧ Below W.heap.size W w'
/-- The first place is i. -/
def FstI (p : Nat → Bool) (l : List Nat) (r : Int) : Prop := (r = -1 ∧ ∀ x ∈ l, p x = false) ∨ ∃ i, ∃ h : i < l.length, r = (i : Int) ∧ p l[i] = true ∧ ∀ x ∈ l.take i, p x = false

set_option maxRecDepth 100000 in
set_option maxHeartbeats 4000000 in
theorem idxI_any (g : Nat) (caps : Array Value) (B0 : Nat) (w0 : World) (p : Nat → Bool) (l : List Nat) (v : Value) (w : World) (hp : PrdT g caps B0 w0 p l) (hB : Below B0 w0 w) (hB0 : B0 ≤ w.heap.size) (hv : PlcAt 0 0 w v l) (hl : l.length ≤ 100000) : Calls Tryz.prog 66 #[v, .func (.func g) #[] caps] w fun e w' => ∃ r : Int, e = .returned (.int .i64 r) ∧ FstI p l r ∧ Below w.heap.size w w' := by
  have HV : Hid (PlcAt 0 0 w v l) := hv
  have HP : Hid (PrdT g caps B0 w0 p l) := hp
  have HB : Hid (Below B0 w0 w) := hB
  have eg := hp.1
  obtain ⟨a, c, hev, hc⟩ := hv.slice
  subst hev
  obtain ⟨len, hle⟩ : ∃ n, n = l.length := ⟨_, rfl⟩
  have HLE : Hid (len = l.length) := hle
  rw [← hle] at hc hl HV ⊢
  clear hle hv hp hB
  go_enter Tryz.func66, Tryz.ntmps66
  go_wp2
  go_loopw [8] (fun x8 wr => ∃ (i : Nat), i ≤ len ∧ x8 = .int .i64 (i : Int) ∧ Hid (∀ x ∈ l.take i, p x = false) ∧ Hid (Below w.heap.size w wr)) (fun x8 _ => len - (intOf x8).toNat)
  case atStart => exact ⟨0, Nat.zero_le _, rfl, (fun x hx => by simp at hx), Below.refl _ _⟩
  case round =>
    obtain ⟨i, hi, rfl, HNI, HBr⟩ := hrel
    by_cases hil : i < len
    · have hin : i < l.length := by rw [← HLE.out]; exact hil
      obtain ⟨ga, oa, rfl, _, hga, e0⟩ := HV.out.at HLE.out hin
      obtain ⟨y, hy⟩ : ∃ y, y = l[i] := ⟨_, rfl⟩
      have HY : Hid (y = l[i]) := hy
      rw [← hy] at e0
      have e1 : wr.cell? ⟨ga, oa + i, none⟩ = some (.int .i64 (y : Int)) := (HBr.out.cell (p := ⟨ga, _, none⟩) hga).trans e0
      have hcl := HP.out.2 y (by rw [hy]; exact List.getElem_mem hin) wr (HB.out.trans (HBr.out.mono hB0))
      have hi0 : (0 : Int) ≤ (i : Int) := by omega
      have hi1 : (i : Int) < (len : Int) := by omega
      obtain ⟨b, hb⟩ : ∃ b, b = p y := ⟨_, rfl⟩
      rw [← hb] at hcl
      have HBB : Hid (b = p y) := hb
      clear hy hb e0
      cases b with
      | true =>
        go_wp2_with fail
        refine hcl.mono ?_
        rintro e w1 ⟨rfl, hB1⟩
        have HB1 : Hid (Below w.heap.size w w1) := below_after HBr.out hB1
        clear hcl hB1
        go_wp2
        go_ret
        exact ⟨i, rfl, .inr ⟨i, hin, rfl, by rw [← HY.out]; exact HBB.out.symm, HNI.out⟩, HB1.out⟩
      | false =>
        go_wp2_with fail
        refine hcl.mono ?_
        rintro e w1 ⟨rfl, hB1⟩
        have HB1 : Hid (Below w.heap.size w w1) := below_after HBr.out hB1
        have HN2 : Hid (∀ x ∈ l.take (i + 1), p x = false) := fun x hx => by
          rw [List.take_add_one, List.getElem?_eq_getElem hin, ← HY.out] at hx
          simp only [Option.toList_some, List.mem_append, List.mem_singleton] at hx
          rcases hx with hx | rfl
          · exact HNI.out x hx
          · exact HBB.out.symm
        clear hcl hB1
        go_wp2
        go_roundw
        case rel => exact ⟨i + 1, by omega, by go_num, HN2, HB1⟩
        case measure => simp [intOf]; omega
    · obtain rfl : i = len := by omega
      have HEQ : Hid (l.take i = l) := List.take_of_length_le (by rw [← HLE.out]; exact Nat.le_refl _)
      go_wp2
      go_ret
      refine ⟨-1, rfl, .inl ⟨rfl, ?_⟩, HBr.out⟩
      have := HNI.out
      rw [HEQ.out] at this
      exact this

set_option maxRecDepth 100000 in
set_option maxHeartbeats 4000000 in
theorem idxP_any (g : Nat) (caps : Array Value) (B0 : Nat) (w0 : World) (p : Nat → Bool) (l : List Nat) (v : Value) (w : World) (hp : PrdT g caps B0 w0 p l) (hB : Below B0 w0 w) (hB0 : B0 ≤ w.heap.size) (hv : PlcAt 0 0 w v l) (hl : l.length ≤ 100000) : Calls Tryz.prog 82 #[v, .func (.func g) #[] caps] w fun e w' => ∃ r : Int, e = .returned (.int .i64 r) ∧ FstI p l r ∧ Below w.heap.size w w' := by
  have HV : Hid (PlcAt 0 0 w v l) := hv
  have HP : Hid (PrdT g caps B0 w0 p l) := hp
  have HB : Hid (Below B0 w0 w) := hB
  have eg := hp.1
  obtain ⟨a, c, hev, hc⟩ := hv.slice
  subst hev
  obtain ⟨len, hle⟩ : ∃ n, n = l.length := ⟨_, rfl⟩
  have HLE : Hid (len = l.length) := hle
  rw [← hle] at hc hl HV ⊢
  clear hle hv hp hB
  go_enter Tryz.func82, Tryz.ntmps82
  go_wp2
  go_loopw [8] (fun x8 wr => ∃ (i : Nat), i ≤ len ∧ x8 = .int .i64 (i : Int) ∧ Hid (∀ x ∈ l.take i, p x = false) ∧ Hid (Below w.heap.size w wr)) (fun x8 _ => len - (intOf x8).toNat)
  case atStart => exact ⟨0, Nat.zero_le _, rfl, (fun x hx => by simp at hx), Below.refl _ _⟩
  case round =>
    obtain ⟨i, hi, rfl, HNI, HBr⟩ := hrel
    by_cases hil : i < len
    · have hin : i < l.length := by rw [← HLE.out]; exact hil
      obtain ⟨ga, oa, rfl, _, hga, e0⟩ := HV.out.at HLE.out hin
      obtain ⟨y, hy⟩ : ∃ y, y = l[i] := ⟨_, rfl⟩
      have HY : Hid (y = l[i]) := hy
      rw [← hy] at e0
      have e1 : wr.cell? ⟨ga, oa + i, none⟩ = some (.int .i64 (y : Int)) := (HBr.out.cell (p := ⟨ga, _, none⟩) hga).trans e0
      have hcl := HP.out.2 y (by rw [hy]; exact List.getElem_mem hin) wr (HB.out.trans (HBr.out.mono hB0))
      have hi0 : (0 : Int) ≤ (i : Int) := by omega
      have hi1 : (i : Int) < (len : Int) := by omega
      obtain ⟨b, hb⟩ : ∃ b, b = p y := ⟨_, rfl⟩
      rw [← hb] at hcl
      have HBB : Hid (b = p y) := hb
      clear hy hb e0
      cases b with
      | true =>
        go_wp2_with fail
        refine hcl.mono ?_
        rintro e w1 ⟨rfl, hB1⟩
        have HB1 : Hid (Below w.heap.size w w1) := below_after HBr.out hB1
        clear hcl hB1
        go_wp2
        go_ret
        exact ⟨i, rfl, .inr ⟨i, hin, rfl, by rw [← HY.out]; exact HBB.out.symm, HNI.out⟩, HB1.out⟩
      | false =>
        go_wp2_with fail
        refine hcl.mono ?_
        rintro e w1 ⟨rfl, hB1⟩
        have HB1 : Hid (Below w.heap.size w w1) := below_after HBr.out hB1
        have HN2 : Hid (∀ x ∈ l.take (i + 1), p x = false) := fun x hx => by
          rw [List.take_add_one, List.getElem?_eq_getElem hin, ← HY.out] at hx
          simp only [Option.toList_some, List.mem_append, List.mem_singleton] at hx
          rcases hx with hx | rfl
          · exact HNI.out x hx
          · exact HBB.out.symm
        clear hcl hB1
        go_wp2
        go_roundw
        case rel => exact ⟨i + 1, by omega, by go_num, HN2, HB1⟩
        case measure => simp [intOf]; omega
    · obtain rfl : i = len := by omega
      have HEQ : Hid (l.take i = l) := List.take_of_length_le (by rw [← HLE.out]; exact Nat.le_refl _)
      go_wp2
      go_ret
      refine ⟨-1, rfl, .inl ⟨rfl, ?_⟩, HBr.out⟩
      have := HNI.out
      rw [HEQ.out] at this
      exact this

set_option maxRecDepth 100000 in
set_option maxHeartbeats 4000000 in
theorem cfun_any (g : Nat) (caps : Array Value) (B0 : Nat) (w0 : World) (p : Nat → Bool) (l : List Nat) (v : Value) (w : World) (hp : PrdT g caps B0 w0 p l) (hB : Below B0 w0 w) (hB0 : B0 ≤ w.heap.size) (hv : PlcAt 0 0 w v l) (hl : l.length ≤ 100000) : Calls Tryz.prog 46 #[v, .func (.func g) #[] caps] w fun e w' => e = .returned (.bool (l.any p)) ∧ Below w.heap.size w w' := by
  have hc := idxI_any g caps B0 w0 p l v w hp hB hB0 hv hl
  obtain ⟨a, c, hev, _⟩ := hv.slice
  subst hev
  obtain ⟨len, hle⟩ : ∃ n, n = l.length := ⟨_, rfl⟩
  rw [← hle] at hc ⊢
  clear hle hv hp hB
  go_enter Tryz.func46, Tryz.ntmps46
  go_wp2_with fail
  refine hc.mono ?_
  rintro e w1 ⟨r, rfl, hr, hB1⟩
  have hd : decide (r ≥ 0) = l.any p := by
    rw [Bool.eq_iff_iff]
    simp only [decide_eq_true_eq, List.any_eq_true]
    rcases hr with ⟨rfl, h⟩ | ⟨i, hi, rfl, h, _⟩
    · constructor
      · intro h; omega
      · rintro ⟨x, hx, h1⟩; rw [h x hx] at h1; cases h1
    · exact ⟨fun _ => ⟨l[i], List.getElem_mem hi, h⟩, fun _ => by omega⟩
  have HB1 : Hid (Below w.heap.size w w1) := hB1
  clear hr hc hB1
  go_wp2
  go_ret
  exact ⟨by first | rfl | (rw [← hd]; rfl), HB1.out⟩
end Go.Proofs.YtklhjjgnhigbiaaGreatDoor

namespace Go.Proofs.YtklhjjgnhigbiaaGreatDoor
open Go.RowKit Go.Shelf
set_option linter.unusedVariables false

/-- May a word end at this place? -/
def endP (d : AutD) (x : Nat) : Bool := (decide (x = 0) && d.null) || d.last.contains x

set_option maxRecDepth 100000 in
set_option maxHeartbeats 4000000 in
theorem end1_any (d : AutD) (b : Nat) (sv fv lv wv : Value) (x : Nat) (w : World) (hb : ABox w b d.null sv fv lv wv) (hl : PlcAt 0 0 w lv d.last) (hll : d.last.length ≤ 100000) :
    Calls Tryz.prog 47 #[.int .i64 (x : Int), .pointer (some ⟨b, 0, none⟩)] w fun e w' => e = .returned (.bool (endP d x)) ∧ Below w.heap.size w w' := by
  have hc := has_any' d.last lv x w hl hll
  obtain ⟨la, lc, hel, _⟩ := hl.slice
  obtain ⟨N, hN⟩ : ∃ n, n = d.last.length := ⟨_, rfl⟩
  subst hel
  rw [← hN] at hc hb
  have c0 := hb.c0
  have c3 := hb.c3
  obtain ⟨r, hr⟩ : ∃ r, r = d.last.contains x := ⟨_, rfl⟩
  obtain ⟨nn, hnn⟩ : ∃ r, r = d.null := ⟨_, rfl⟩
  rw [← hr] at hc
  rw [← hnn] at c0
  have HE : Hid (endP d x = ((decide (x = 0) && nn) || r)) := by show _ = _; unfold endP; rw [hr, hnn]
  clear hb hl hN hr hnn
  by_cases hx : x = 0
  · subst hx
    cases nn with
    | true =>
      go_enter Tryz.func47, Tryz.ntmps47
      go_wp2
      go_ret
      exact ⟨by rw [HE.out]; simp, Below.refl _ _⟩
    | false =>
      go_enter Tryz.func47, Tryz.ntmps47
      go_wp2_with fail
      refine hc.mono ?_
      rintro e w1 ⟨rfl, rfl⟩
      go_wp2
      go_ret
      exact ⟨by rw [HE.out]; simp, Below.refl _ _⟩
  · have hx' : ((x : Int) == 0) = false := beq_eq_false_iff_ne.2 (by omega)
    have hd : decide (x = 0) = false := decide_eq_false hx
    go_enter Tryz.func47, Tryz.ntmps47
    go_wp2_with fail
    refine hc.mono ?_
    rintro e w1 ⟨rfl, rfl⟩
    go_wp2
    go_ret
    exact ⟨by rw [HE.out, hd]; simp, Below.refl _ _⟩
theorem end1_ent : ∀ args w, (callFunc 47 args).run Tryz.prog w = .ok (.enter 47 args) w := enters_of Tryz.func47 (by kernel_rfl) rfl

set_option maxRecDepth 100000 in
set_option maxHeartbeats 4000000 in
theorem end_any (d : AutD) (av : Value) (at' : List Nat) (v : Value) (w : World) (ha : AutAt w av d) (hv : PlcAt 0 0 w v at') (hl : at'.length ≤ 100000) (hll : d.last.length ≤ 100000) :
    Calls Tryz.prog 26 #[av, v] w fun e w' => e = .returned (.bool (at'.any (endP d))) ∧ Below w.heap.size w w' := by
  obtain ⟨sv, fv, lv, wv, rfl, hs, hf, hl1, hw⟩ := ha
  obtain ⟨W0, hW0⟩ : ∃ W, W = w.alloc (.cells #[.bool d.null, sv, fv, lv, wv] 29) := ⟨_, rfl⟩
  have hB0 : Below w.heap.size w W0 := by rw [hW0]; exact below_alloc _ _
  have hbx : ABox W0 w.heap.size d.null sv fv lv wv := by rw [hW0]; exact heap_new' _ _
  have hp : PrdT 47 #[.pointer (some ⟨w.heap.size, 0, none⟩)] W0.heap.size W0 (endP d) at' := ⟨end1_ent, fun x _ W hb => end1_any d w.heap.size sv fv lv wv x W (hbx.below hb) ((hl1.below hB0).below hb) hll⟩
  have hc := cfun_any 47 #[.pointer (some ⟨w.heap.size, 0, none⟩)] W0.heap.size W0 (endP d) at' v W0 hp (Below.refl _ _) (Nat.le_refl _) (hv.below hB0) hl
  obtain ⟨sa, sc, hes, _⟩ := hs.slice
  obtain ⟨fa, fc, hef, _⟩ := hf.slice
  obtain ⟨la, lc, hel, _⟩ := hl1.slice
  obtain ⟨xa, xc, hex, _⟩ := hw.slice
  obtain ⟨va, vc, hev, _⟩ := hv.slice
  obtain ⟨r, hr⟩ : ∃ r, r = at'.any (endP d) := ⟨_, rfl⟩
  obtain ⟨n1, hn1⟩ : ∃ x, x = d.null := ⟨_, rfl⟩
  obtain ⟨n2, hn2⟩ : ∃ x, x = d.sets.length := ⟨_, rfl⟩
  obtain ⟨n3, hn3⟩ : ∃ x, x = d.first.length := ⟨_, rfl⟩
  obtain ⟨n4, hn4⟩ : ∃ x, x = d.last.length := ⟨_, rfl⟩
  obtain ⟨n5, hn5⟩ : ∃ x, x = d.fol.length := ⟨_, rfl⟩
  obtain ⟨n6, hn6⟩ : ∃ x, x = at'.length := ⟨_, rfl⟩
  rw [← hn2] at hes
  rw [← hn3] at hef
  rw [← hn4] at hel
  rw [← hn5] at hex
  rw [← hn6] at hev
  subst hes hef hel hex hev
  rw [← hn1] at hW0 ⊢
  rw [← hr] at hc ⊢
  have HB0 : Hid (Below w.heap.size w W0) := hB0
  rw [hW0] at hc
  clear hs hf hl1 hw hv hp hbx hr hn1 hn2 hn3 hn4 hn5 hn6 hB0
  go_enter Tryz.func26, Tryz.ntmps26
  go_wp2_with fail
  refine hc.mono ?_
  rintro e w1 ⟨rfl, hB1⟩
  rw [← hW0] at hB1
  have HB1 : Hid (Below w.heap.size w w1) := below_after HB0.out hB1
  clear hc hB1 hW0
  go_wp2
  go_ret
  exact ⟨rfl, HB1.out⟩

/-- Does the set of this place have the sign? -/
def tkP (d : AutD) (sign x : Nat) : Bool := decide (0 < x) && sign.testBit (d.sets.getD (x - 1) 0).toNat

set_option maxRecDepth 100000 in
set_option maxHeartbeats 4000000 in
theorem takes_any (d : AutD) (av : Value) (sign x : Nat) (w : World) (ha : AutAt w av d) (hx : x ≤ d.sets.length) (hs64 : ∀ s ∈ d.sets, 0 ≤ s ∧ s < 64) (hsg : sign < 18446744073709551616) (hsl : d.sets.length ≤ 1000) :
    Calls Tryz.prog 65 #[av, .int .i64 (x : Int), .int .u64 (sign : Int)] w fun e w' => e = .returned (.bool (tkP d sign x)) ∧ Below w.heap.size w w' := by
  obtain ⟨sv, fv, lv, wv, rfl, hs, hf, hl1, hw⟩ := ha
  obtain ⟨sa, sc, hes, hsc⟩ := hs.slice
  obtain ⟨fa, fc, hef, _⟩ := hf.slice
  obtain ⟨la, lc, hel, _⟩ := hl1.slice
  obtain ⟨xa, xc, hex, _⟩ := hw.slice
  obtain ⟨n1, hn1⟩ : ∃ x, x = d.null := ⟨_, rfl⟩
  obtain ⟨n2, hn2⟩ : ∃ x, x = d.sets.length := ⟨_, rfl⟩
  obtain ⟨n3, hn3⟩ : ∃ x, x = d.first.length := ⟨_, rfl⟩
  obtain ⟨n4, hn4⟩ : ∃ x, x = d.last.length := ⟨_, rfl⟩
  obtain ⟨n5, hn5⟩ : ∃ x, x = d.fol.length := ⟨_, rfl⟩
  have HS : Hid (IntsAt w sv d.sets) := hs
  rw [← hn2] at hes hx hsl hsc
  rw [← hn3] at hef
  rw [← hn4] at hel
  rw [← hn5] at hex
  subst hes hef hel hex
  rw [← hn1]
  have HN2 : Hid (n2 = d.sets.length) := hn2
  have HB0 : Hid (∀ o, Below w.heap.size w (w.alloc o)) := fun o => below_alloc _ _
  have HE : Hid (∀ b, tkP d sign x = b → True) := fun _ _ => trivial
  by_cases h0 : x = 0
  · subst h0
    have HT : Hid (tkP d sign 0 = false) := by show _ = _; simp [tkP]
    clear hs hf hl1 hw hn1 hn2 hn3 hn4 hn5 HE
    go_enter Tryz.func65, Tryz.ntmps65
    go_wp2
    go_ret
    exact ⟨by rw [HT.out]; rfl, HB0.out _⟩
  · obtain ⟨q, rfl⟩ : ∃ q, x = q + 1 := ⟨x - 1, by omega⟩
    have hqn : q < d.sets.length := by rw [← hn2]; omega
    obtain ⟨ga, oa, rfl, hga, e1⟩ := HS.out.at hqn
    obtain ⟨s, hse⟩ : ∃ s, s = d.sets[q] := ⟨_, rfl⟩
    have hs1 := hs64 _ (List.getElem_mem hqn)
    rw [← hse] at e1 hs1
    obtain ⟨t, ht⟩ : ∃ t : Nat, s = (t : Int) := ⟨s.toNat, by omega⟩
    have ht64 : t < 64 := by omega
    have HT : Hid (tkP d sign (q + 1) = sign.testBit t) := by
      show _ = _
      unfold tkP
      rw [show q + 1 - 1 = q by omega, List.getD_eq_getElem?_getD, List.getElem?_eq_getElem hqn]
      simp only [Option.getD_some]
      rw [← hse, ht]; simp
    rw [ht] at e1
    have HSB : Hid ((bits .and .u64 ((sign : Int) / 2 ^ t) 1 == 1) = sign.testBit t) := shr_bit hsg
    have hq0 : (0 : Int) ≤ (q : Int) := by omega
    have hq1 : (q : Int) < (n2 : Int) := by omega
    have hq2 : q < n2 := by omega
    have hwq : IntKind.i64.wrap (q : Int) = (q : Int) := by rw [IntKind.wrap_i64]; omega
    have hx0 : (((q : Int) + 1) == 0) = false := beq_eq_false_iff_ne.2 (by omega)
    have ht0 : decide ((t : Int) ≥ 0) = true := decide_eq_true (by omega)
    have e1' : (w.alloc (.cells #[.bool n1, .slice (some ⟨ga, oa, none⟩) n2 sc, .slice fa n3 fc, .slice la n4 lc, .slice xa n5 xc] 29)).cell? ⟨ga, oa + q, none⟩ = some (.int .i64 (t : Int)) := ((below_alloc w _).cell (p := ⟨ga, _, none⟩) hga).trans e1
    have hcast : (((q + 1 : Nat)) : Int) = (q : Int) + 1 := by omega
    rw [hcast]
    clear hs hf hl1 hw hn1 hn2 hn3 hn4 hn5 HE hse hs1 ht h0 hs64 hcast
    go_enter Tryz.func65, Tryz.ntmps65
    go_wp2
    go_ret
    trace_state
    exact ⟨by rw [HT.out, ← HSB.out]; first | rfl | simp, HB0.out _⟩
end Go.Proofs.YtklhjjgnhigbiaaGreatDoor

namespace Go.Proofs.YtklhjjgnhigbiaaGreatDoor
open Go.RowKit Go.Shelf
set_option linter.unusedVariables false

/-- The row's cells: what was kept, and what has not been looked at. -/
def DlI (g : Nat) (cap : Nat) (p : Nat → Bool) (l : List Nat) (j : Nat) (w : World) : Prop :=
  ∃ cur : Array Value, w.heap[g]? = some (.cells cur 3 (0, 0)) ∧ cur.size = cap ∧ (∀ t, (h : t < ((l.take j).filter fun x => !p x).length) → cur[t]? = some (.int .i64 ((((l.take j).filter fun x => !p x)[t] : Nat) : Int))) ∧ ∀ t, (h : t < l.length) → j ≤ t → cur[t]? = some (.int .i64 (l[t] : Int))
theorem setCells_at (g : Nat) : ∀ (vs : List Value) (o : Nat) (w : World) (cur : Array Value) (t : TypeId), w.heap[g]? = some (.cells cur t (0, 0)) → ∃ cur', (w.setCells g o vs).heap[g]? = some (.cells cur' t (0, 0)) ∧ cur'.size = cur.size ∧ ∀ i, i < o → cur'[i]? = cur[i]?
  | [], o, w, cur, t, h => ⟨cur, h, rfl, fun _ _ => rfl⟩
  | v :: vs, o, w, cur, t, h => by
    obtain ⟨cur', h1, h2, h3⟩ := setCells_at g vs (o + 1) (w.setCell ⟨g, o, none⟩ v) _ t (heap_setN h v)
    refine ⟨cur', h1, by rw [h2]; simp, fun i hi => ?_⟩
    rw [h3 i (by omega), Array.getElem?_setIfInBounds_ne (by omega)]
theorem setCells_only (g : Nat) : ∀ (vs : List Value) (o : Nat) (w : World) {B : Nat}, B ≤ g → Below B w (w.setCells g o vs)
  | [], o, w, B, h => Below.refl _ _
  | v :: vs, o, w, B, h => ((Below.refl _ _).setCell h v).trans (setCells_only g vs (o + 1) _ h)
theorem filt_len (p : Nat → Bool) (l : List Nat) (j : Nat) : ((l.take j).filter fun x => !p x).length ≤ j := by
  refine Nat.le_trans (List.length_filter_le _ _) ?_
  rw [List.length_take]; omega

set_option maxRecDepth 100000 in
set_option maxHeartbeats 8000000 in
theorem delF_any (g : Nat) (caps : Array Value) (B0 : Nat) (w0 : World) (p : Nat → Bool) (l : List Nat) (v : Value) (w : World) (base : Nat) (hp : PrdT g caps B0 w0 p l) (hB : Below B0 w0 w) (hB0 : B0 ≤ base) (hbw : base ≤ w.heap.size) (hv : w.ownsRow base 3 1 v l.length (cellP l)) (hl : l.length ≤ 100000) :
    Calls Tryz.prog 63 #[v, .func (.func g) #[] caps] w fun e w' => ∃ v', e = .returned v' ∧ w'.ownsRow base 3 1 v' (l.filter fun x => !p x).length (cellP (l.filter fun x => !p x)) ∧ Below base w w' := by
  have hc := idxP_any g caps B0 w0 p l v w hp hB (by omega) (plc_of_row hv (Nat.zero_le _)) hl
  have HP : Hid (PrdT g caps B0 w0 p l) := hp
  have HB : Hid (Below B0 w0 w) := hB
  have HV : Hid (w.ownsRow base 3 1 v l.length (cellP l)) := hv
  have eg := hp.1
  obtain ⟨va, vn, vc, hev⟩ := own_any hv
  subst hev
  have hvn : vn = l.length := by
    rcases hv.2 with ⟨e, h0⟩ | ⟨g', cap, cur, e, _⟩
    · have : vn = 0 := by simp at e; exact e.2.1
      omega
    · simp at e; exact e.2.1
  have HVN : Hid (vn = l.length) := hvn
  have hl' : vn ≤ 100000 := by omega
  clear hp hB hv hvn
  go_enter Tryz.func63, Tryz.ntmps63
  go_wp2_with fail
  refine hc.mono ?_
  rintro e w1 ⟨r, rfl, hr, hB1⟩
  have HB1 : Hid (Below w.heap.size w w1) := hB1
  rcases hr with ⟨rfl, hall⟩ | ⟨i0, hi0, rfl, hpi, hall⟩
  · have HF : Hid (l.filter (fun x => !p x) = l) := by
      show _ = _
      rw [List.filter_eq_self]
      intro x hx; rw [hall x hx]; rfl
    clear hc hB1 hall
    go_wp2
    go_ret
    refine ⟨_, rfl, ?_, HB1.out.mono hbw⟩
    rw [HF.out]
    exact ownsRow_below HV.out HB1.out
  · have hvl : 0 < vn := by have := HVN.out; omega
    obtain ⟨G, hva, hbG, hcp, hmx, HD⟩ : ∃ G, va = some ⟨G, 0, none⟩ ∧ base ≤ G ∧ vn ≤ vc ∧ vc ≤ maxLen ∧ Hid (DlI G vc p l (i0 + 1) w1 ∧ ((l.take (i0 + 1)).filter fun x => !p x).length = i0) := by
      rcases HV.out.2 with ⟨e, h0⟩ | ⟨g', cap, cur, e, h1, h2, h3, h4, h5, h6⟩
      · have := HVN.out; omega
      · obtain ⟨rfl, hq, rfl⟩ : va = some ⟨g', 0, none⟩ ∧ vn = l.length ∧ vc = cap := by simpa using e
        have hft : (l.take i0).filter (fun x => !p x) = l.take i0 := by
          rw [List.filter_eq_self]
          intro x hx; rw [hall x hx]; rfl
        have htk : (l.take (i0 + 1)).filter (fun x => !p x) = l.take i0 := by
          rw [List.take_add_one, List.getElem?_eq_getElem hi0, List.filter_append, hft]
          simp [hpi]
        have hcell : ∀ t, (h : t < l.length) → cur[t]? = some (.int .i64 (l[t] : Int)) := fun t ht => by
          have := congrArg (fun q => q[t]?) h6
          simp only [List.getElem?_take, Nat.mul_one] at this
          rw [if_pos ht] at this
          rw [← Array.getElem?_toList, this]
          simp [cellP, ht]
        refine ⟨g', rfl, h1, by omega, h4, ⟨cur, (hB1.block _ (lt_of_heap h2)).trans h2, by simpa using h5, fun t ht => ?_, fun t ht _ => hcell t ht⟩, by rw [htk, List.length_take]; omega⟩
        have ht' : t < i0 := by rw [htk, List.length_take] at ht; omega
        rw [hcell t (by omega)]
        simp only [htk, List.getElem_take]
    subst hva
    have hlt : vn ≤ vc := hcp
    have hneq : (((i0 : Nat) : Int) == -1) = false := beq_eq_false_iff_ne.2 (by omega)
    have hib : i0 < vn := by have := HVN.out; omega
    clear hc hB1 hall hpi
    go_wp2
    go_loopw [5, 6] (fun x5 x6 wr => ∃ (i j : Nat), j ≤ vn ∧ i < j ∧ x5 = .int .i64 (i : Int) ∧ x6 = .int .i64 (j : Int) ∧ Hid (DlI G vc p l j wr ∧ ((l.take j).filter fun x => !p x).length = i) ∧ Hid (Below base w wr)) (fun _ x6 _ => vn - (intOf x6).toNat)
    case atStart => exact ⟨i0, i0 + 1, by omega, by omega, rfl, by go_num, HD, HB1.out.mono hbw⟩
    case round =>
      obtain ⟨i, j, hj, hij, rfl, rfl, HDr, HBr⟩ := hrel
      have hwsz : w.heap.size ≤ wr.heap.size := HBr.out.size
      by_cases hjl : j < vn
      · have hjn : j < l.length := by rw [← HVN.out]; exact hjl
        obtain ⟨⟨cur, hc1, hc2, hc3, hc4⟩, hlen⟩ := HDr.out
        obtain ⟨y, hy⟩ : ∃ y, y = l[j] := ⟨_, rfl⟩
        have HY : Hid (y = l[j]) := hy
        have e1 : wr.cell? ⟨G, j, none⟩ = some (.int .i64 (y : Int)) := by rw [cell_in hc1, hy]; exact hc4 j hjn (Nat.le_refl _)
        have hGl : G < wr.heap.size := lt_of_heap hc1
        have hcl := HP.out.2 y (by rw [hy]; exact List.getElem_mem hjn) wr (HB.out.trans (HBr.out.mono hB0))
        have hj0 : (0 : Int) ≤ (j : Int) := by omega
        have hj1 : (j : Int) < (vn : Int) := by omega
        have hi0' : (0 : Int) ≤ (i : Int) := by omega
        have hi1 : (i : Int) < (vn : Int) := by omega
        have hi2 : i < vn := by omega
        obtain ⟨b, hb⟩ : ∃ b, b = p y := ⟨_, rfl⟩
        rw [← hb] at hcl
        have HBB : Hid (b = p y) := hb
        have HTK : Hid ((l.take (j + 1)).filter (fun x => !p x) = (l.take j).filter (fun x => !p x) ++ (if b then [] else [y])) := by
          show _ = _
          rw [List.take_add_one, List.getElem?_eq_getElem hjn, List.filter_append, ← hy, hb]
          congr 1
          cases h : p y <;> simp [h]
        have HDC : Hid (DlI G vc p l j wr ∧ ((l.take j).filter fun x => !p x).length = i) := HDr
        clear hy hb hc1 hc2 hc3 hc4 hlen
        cases b with
        | true =>
          go_wp2_with fail
          refine hcl.mono ?_
          rintro e w2 ⟨rfl, hB2⟩
          have HB2 : Hid (Below base w w2) := HBr.out.trans (hB2.mono (by omega))
          have HD2 : Hid (DlI G vc p l (j + 1) w2 ∧ ((l.take (j + 1)).filter fun x => !p x).length = i) := by
            obtain ⟨⟨cur, hc1, hc2, hc3, hc4⟩, hlen⟩ := HDC.out
            have e : (l.take (j + 1)).filter (fun x => !p x) = (l.take j).filter (fun x => !p x) := by rw [HTK.out]; simp
            refine ⟨⟨cur, (hB2.block _ hGl).trans hc1, hc2, fun t ht => ?_, fun t ht h => hc4 t ht (by omega)⟩, by rw [e]; exact hlen⟩
            have ht' : t < ((l.take j).filter fun x => !p x).length := by rw [e] at ht; exact ht
            rw [hc3 t ht']
            simp only [e]
          clear hcl hB2
          go_wp2
          go_roundw
          case rel => exact ⟨i, j + 1, by omega, by omega, rfl, by go_num, HD2, HB2⟩
          case measure => simp [intOf]; omega
        | false =>
          go_wp2_with fail
          refine hcl.mono ?_
          rintro e w2 ⟨rfl, hB2⟩
          obtain ⟨⟨cur, hc1, hc2, hc3, hc4⟩, hlen⟩ := HDC.out
          have hw2 : w2.heap[G]? = some (.cells cur 3 (0, 0)) := (hB2.block _ hGl).trans hc1
          have hic : i < cur.size := by omega
          have e5 : w2.cell? ⟨G, i, none⟩ = some cur[i] := by rw [cell_in hw2, Array.getElem?_eq_getElem hic]
          have f5 : w2.frozen? ⟨G, i, none⟩ = false := by simp [World.frozen?, hw2]
          have HD2 : Hid (DlI G vc p l (j + 1) (w2.setCell ⟨G, i, none⟩ (.int .i64 (y : Int))) ∧ ((l.take (j + 1)).filter fun x => !p x).length = i + 1) := by
            have e : (l.take (j + 1)).filter (fun x => !p x) = (l.take j).filter (fun x => !p x) ++ [y] := by rw [HTK.out]; simp
            refine ⟨⟨_, heap_setN hw2 _, by simpa using hc2, fun t ht => ?_, fun t ht h => ?_⟩, by rw [e, List.length_append, hlen]; rfl⟩
            · by_cases q : t < i
              · rw [Array.getElem?_setIfInBounds_ne (by omega), hc3 t (by omega)]
                simp only [e]
                rw [List.getElem_append_left (by omega)]
              · have ht2 : t = i := by rw [e, List.length_append, hlen] at ht; simp at ht; omega
                subst ht2
                rw [Array.getElem?_setIfInBounds_self_of_lt hic]
                simp only [e]
                rw [List.getElem_append_right (by omega)]
                simp [hlen]
            · rw [Array.getElem?_setIfInBounds_ne (by omega)]
              exact hc4 t ht (by omega)
          have HB2 : Hid (Below base w (w2.setCell ⟨G, i, none⟩ (.int .i64 (y : Int)))) := (HBr.out.trans (hB2.mono (by omega))).setCell hbG _
          clear hcl hB2 hc1 hc2 hc3 hc4 hlen hw2
          go_wp2
          go_roundw
          case rel => exact ⟨i + 1, j + 1, by omega, by omega, by go_num, by go_num, HD2, HB2⟩
          case measure => simp [intOf]; omega
      · obtain rfl : j = vn := by omega
        obtain ⟨⟨cur, hc1, hc2, hc3, hc4⟩, hlen⟩ := HDr.out
        have HEQ : Hid (l.take j = l) := List.take_of_length_le (by rw [← HVN.out]; exact Nat.le_refl _)
        have v23 : ∀ w, (zeroValue 3).run Tryz.prog w = .ok (.int .i64 0) w := fun w => by
          obtain ⟨i0', hI0, hZ0, _, _⟩ := info_parts Tryz.infoInt
          simp [zeroValue, typeInfo, hI0, hZ0]
        have hcl : ∀ ty, (Builtin.clear_ #[55] ty #[.slice (some ⟨G, i, none⟩) (j - i) (vc - i)]).run Tryz.prog wr = .ok (.tuple #[]) (wr.setCells G i (List.replicate (j - i) (.int .i64 0))) := fun ty => Lib.run_clear_slice wr 55 3 ty (.int .i64 0) Tryz.underlying55 v23 rfl rfl G i (j - i) (vc - i) (by omega) (fun t ht => by rw [cell_in hc1, Array.getElem?_eq_getElem (by omega)]; rfl) (fun t ht => by simp [World.frozen?, hc1])
        have HFIN : Hid (∃ cur', (wr.setCells G i (List.replicate (j - i) (.int .i64 0))).heap[G]? = some (.cells cur' 3 (0, 0)) ∧ cur'.size = cur.size ∧ ∀ t, t < i → cur'[t]? = cur[t]?) := setCells_at G _ i wr cur _ hc1
        have HBF : Hid (Below base w (wr.setCells G i (List.replicate (j - i) (.int .i64 0)))) := HBr.out.trans (setCells_only G _ i wr hbG)
        have HC3 : Hid (cur.size = vc ∧ i = (l.filter fun x => !p x).length ∧ ∀ t, (h : t < (l.filter fun x => !p x).length) → cur[t]? = some (.int .i64 (((l.filter fun x => !p x)[t] : Nat) : Int))) := by
          rw [HEQ.out] at hlen hc3
          exact ⟨hc2, hlen.symm, hc3⟩
        have hib2 : i < j := hij
        have hic : ¬ vc = i := by omega
        have hivc : i ≤ vc := by omega
        have hmx2 : vc ≤ 9223372036854775807 := by unfold maxLen at hmx; omega
        clear hc1 hc2 hc3 hc4 hlen v23
        go_wp2
        go_ret
        obtain ⟨cur', q1, q2, q3⟩ := HFIN.out
        obtain ⟨r1, r2, r3⟩ := HC3.out
        refine ⟨_, rfl, ⟨by simp [cellP], .inr ⟨G, vc, cur', by rw [← r2]; rfl, hbG, q1, by omega, hmx, by rw [q2, r1]; simp, ?_⟩⟩, HBF.out⟩
        apply List.ext_getElem?
        intro t
        rw [Nat.mul_one, List.getElem?_take]
        by_cases ht : t < (l.filter fun x => !p x).length
        · rw [if_pos ht, Array.getElem?_toList, q3 t (by omega), r3 t ht]
          simp only [cellP, List.getElem?_map, List.getElem?_eq_getElem ht, Option.map_some]
        · rw [if_neg ht, List.getElem?_eq_none (by rw [cellP_length]; omega)]
end Go.Proofs.YtklhjjgnhigbiaaGreatDoor

namespace Go.Proofs.YtklhjjgnhigbiaaGreatDoor
open Go.RowKit Go.Shelf
set_option linter.unusedVariables false

/-- The places that follow one, or begin. -/
def folP (d : AutD) (x : Nat) : List Nat := if x = 0 then d.first else d.fol.getD (x - 1) []
/-- An automaton whose lists are as they should be. -/
structure OkA (d : AutD) : Prop where
  sets : d.sets.length ≤ 300
  s64 : ∀ s ∈ d.sets, 0 ≤ s ∧ s < 64
  fol : d.fol.length = d.sets.length
  in1 : InR 0 d.sets.length d.first
  in2 : InR 0 d.sets.length d.last
  in3 : ∀ l ∈ d.fol, InR 0 d.sets.length l
theorem OkA.folP {d : AutD} (h : OkA d) {x : Nat} (hx : x ≤ d.sets.length) : InR 0 d.sets.length (Go.Proofs.YtklhjjgnhigbiaaGreatDoor.folP d x) := by
  unfold Go.Proofs.YtklhjjgnhigbiaaGreatDoor.folP
  split
  · exact h.in1
  · rw [List.getD_eq_getElem?_getD]
    have : x - 1 < d.fol.length := by rw [h.fol]; omega
    rw [List.getElem?_eq_getElem this]
    exact h.in3 _ (List.getElem_mem this)
/-- Where one stands behind a sign. -/
def stepL (d : AutD) (at' : List Nat) (sign : Nat) : List Nat := rgF (fun y => at'.any (fun x => (folP d x).contains y) && tkP d sign y) (d.sets.length + 1)

theorem PlcAt.older {w0 w' : World} {v : Value} {l : List Nat} (h : PlcAt 0 0 w0 v l) (hb : Below w0.heap.size w0 w') (B : Nat) : PlcAt w0.heap.size B w' v l := by
  obtain ⟨a, cap, rfl, hc, hn, hx⟩ := h
  refine ⟨a, cap, rfl, hc, hn, fun i hi => ?_⟩
  obtain ⟨g, off, h1, _, h3, h4⟩ := hx i hi
  exact ⟨g, off, h1, .inl h3, Nat.lt_of_lt_of_le h3 hb.size, (hb.cell (p := ⟨g, _, none⟩) h3).trans h4⟩
set_option maxRecDepth 100000 in
set_option maxHeartbeats 4000000 in
theorem following_any (d : AutD) (av : Value) (x : Nat) (w0 w : World) (ha0 : AutAt w0 av d) (hb0 : Below w0.heap.size w0 w) (hok : OkA d) (hx : x ≤ d.sets.length) :
    Calls Tryz.prog 62 #[av, .int .i64 (x : Int)] w fun e w' => ∃ v, e = .returned v ∧ (∀ B, PlcAt w0.heap.size B w' v (folP d x)) ∧ Below w.heap.size w w' := by
  obtain ⟨sv, fv, lv, wv, rfl, hs0, hf0, hl0, hw0⟩ := ha0
  have hs := hs0.below hb0
  have hf := hf0.below hb0
  have hl1 := hl0.below hb0
  have hw := hw0.below hb0
  have HB00 : Hid (Below w0.heap.size w0 w) := hb0
  have HF0 : Hid (PlcAt 0 0 w0 fv d.first) := hf0
  have HW0 : Hid (FolAt w0 wv d.fol) := hw0
  clear hs0 hf0 hl0 hw0 hb0
  have hfn := hok.fol
  obtain ⟨sa, sc, hes, _⟩ := hs.slice
  obtain ⟨fa, fc, hef, _⟩ := hf.slice
  obtain ⟨la, lc, hel, _⟩ := hl1.slice
  obtain ⟨xa, xc, hex, hxc⟩ := hw.slice
  have hx300 : d.sets.length ≤ 300 := hok.sets
  have HF : Hid (PlcAt 0 0 w fv d.first) := hf
  have HW : Hid (FolAt w wv d.fol) := hw
  obtain ⟨n1, hn1⟩ : ∃ x, x = d.null := ⟨_, rfl⟩
  obtain ⟨n2, hn2⟩ : ∃ x, x = d.sets.length := ⟨_, rfl⟩
  obtain ⟨n3, hn3⟩ : ∃ x, x = d.first.length := ⟨_, rfl⟩
  obtain ⟨n4, hn4⟩ : ∃ x, x = d.last.length := ⟨_, rfl⟩
  obtain ⟨n5, hn5⟩ : ∃ x, x = d.fol.length := ⟨_, rfl⟩
  have hn52 : n5 = n2 := by omega
  rw [← hn2] at hes hx hx300
  rw [← hn3] at hef
  rw [← hn4] at hel
  rw [← hn5] at hex hxc
  subst hes hef hel hex
  rw [← hn1]
  have HB0 : Hid (∀ o, Below w.heap.size w (w.alloc o)) := fun o => below_alloc _ _
  by_cases h0 : x = 0
  · subst h0
    have HT : Hid (folP d 0 = d.first) := by show _ = _; simp [folP]
    clear hs hf hl1 hw hn1 hn2 hn3 hn4 hn5 hn52 hfn
    go_enter Tryz.func62, Tryz.ntmps62
    go_wp2
    go_ret
    exact ⟨_, rfl, fun B => by rw [HT.out]; exact HF0.out.older (below_after HB00.out (HB0.out _)) B, HB0.out _⟩
  · obtain ⟨q, rfl⟩ : ∃ q, x = q + 1 := ⟨x - 1, by omega⟩
    have hqn : q < d.fol.length := by omega
    obtain ⟨ga, oa, yv, rfl, hga0, e0, p1⟩ := HW0.out.at hqn
    have hga : ga < w.heap.size := Nat.lt_of_lt_of_le hga0 HB00.out.size
    have e1 : w.cell? ⟨ga, oa + q, none⟩ = some yv := (HB00.out.cell (p := ⟨ga, _, none⟩) hga0).trans e0
    have HT : Hid (folP d (q + 1) = d.fol[q]) := by
      show _ = _
      unfold folP
      rw [if_neg (by omega), show q + 1 - 1 = q by omega, List.getD_eq_getElem?_getD, List.getElem?_eq_getElem hqn]; rfl
    have HP : Hid (PlcAt 0 0 w0 yv d.fol[q]) := p1
    clear e0
    obtain ⟨ya, yc, hey, _⟩ := p1.slice
    obtain ⟨N, hN⟩ : ∃ N, N = d.fol[q].length := ⟨_, rfl⟩
    rw [← hN] at hey
    subst hey
    have hq0 : (0 : Int) ≤ (q : Int) := by omega
    have hq1 : (q : Int) < (n5 : Int) := by omega
    have hq2 : q < n5 := by omega
    have hwq : IntKind.i64.wrap (q : Int) = (q : Int) := by rw [IntKind.wrap_i64]; omega
    have hx0 : (((q : Int) + 1) == 0) = false := beq_eq_false_iff_ne.2 (by omega)
    have e1' : (w.alloc (.cells #[.bool n1, .slice sa n2 sc, .slice fa n3 fc, .slice la n4 lc, .slice (some ⟨ga, oa, none⟩) n5 xc] 29)).cell? ⟨ga, oa + q, none⟩ = some (.slice ya N yc) := ((below_alloc w _).cell (p := ⟨ga, _, none⟩) hga).trans e1
    have hcast : (((q + 1 : Nat)) : Int) = (q : Int) + 1 := by omega
    rw [hcast]
    clear hs hf hl1 hw hn1 hn2 hn3 hn4 hn5 hn52 h0 hcast hN p1 hfn
    go_enter Tryz.func62, Tryz.ntmps62
    go_wp2
    go_ret
    exact ⟨_, rfl, fun B => by rw [HT.out]; exact HP.out.older (below_after HB00.out (HB0.out _)) B, HB0.out _⟩

set_option maxRecDepth 100000 in
set_option maxHeartbeats 4000000 in
theorem step1_any (d : AutD) (b bs sign : Nat) (sv fv lv wv : Value) (x : Nat) (w : World) (hb : ABox w b d.null sv fv lv wv) (hsb : w.cell? ⟨bs, 0, none⟩ = some (.int .u64 (sign : Int))) (ha : AutAt w (.agg #[.bool d.null, sv, fv, lv, wv]) d) (hok : OkA d) (hx : x ≤ d.sets.length) (hsg : sign < 18446744073709551616) :
    Calls Tryz.prog 64 #[.int .i64 (x : Int), .pointer (some ⟨b, 0, none⟩), .pointer (some ⟨bs, 0, none⟩)] w fun e w' => e = .returned (.bool (!tkP d sign x)) ∧ Below w.heap.size w w' := by
  have hc := takes_any d _ sign x w ha hx hok.s64 hsg (by have := hok.sets; omega)
  obtain ⟨sv', fv', lv', wv', e, hs, hf, hl1, hw⟩ := ha
  obtain ⟨rfl, rfl, rfl, rfl⟩ : sv = sv' ∧ fv = fv' ∧ lv = lv' ∧ wv = wv' := by simpa using e
  obtain ⟨sa, sc, hes, _⟩ := hs.slice
  obtain ⟨fa, fc, hef, _⟩ := hf.slice
  obtain ⟨la, lc, hel, _⟩ := hl1.slice
  obtain ⟨xa, xc, hex, _⟩ := hw.slice
  obtain ⟨n1, hn1⟩ : ∃ x, x = d.null := ⟨_, rfl⟩
  obtain ⟨n2, hn2⟩ : ∃ x, x = d.sets.length := ⟨_, rfl⟩
  obtain ⟨n3, hn3⟩ : ∃ x, x = d.first.length := ⟨_, rfl⟩
  obtain ⟨n4, hn4⟩ : ∃ x, x = d.last.length := ⟨_, rfl⟩
  obtain ⟨n5, hn5⟩ : ∃ x, x = d.fol.length := ⟨_, rfl⟩
  rw [← hn2] at hes
  rw [← hn3] at hef
  rw [← hn4] at hel
  rw [← hn5] at hex
  subst hes hef hel hex
  rw [← hn1] at hb hc
  obtain ⟨r, hr⟩ : ∃ r, r = tkP d sign x := ⟨_, rfl⟩
  rw [← hr] at hc ⊢
  have c0 := hb.c0
  have c1' := hb.c1
  have c2' := hb.c2
  have c3' := hb.c3
  have c4' := hb.c4
  clear hb hs hf hl1 hw hn1 hn2 hn3 hn4 hn5 hr e
  go_enter Tryz.func64, Tryz.ntmps64
  go_wp2_with fail
  refine hc.mono ?_
  rintro e w1 ⟨rfl, hB1⟩
  have HB1 : Hid (Below w.heap.size w w1) := hB1
  clear hc hB1
  go_wp2
  go_ret
  exact ⟨rfl, HB1.out⟩
theorem rgF_filt (f p : Nat → Bool) (n : Nat) : (rgF f n).filter p = rgF (fun y => f y && p y) n := by
  unfold rgF
  rw [List.filter_filter]
  congr 1
  funext x
  cases f x <;> cases p x <;> rfl
theorem rgF_ext {f g : Nat → Bool} {n : Nat} (h : ∀ y, y < n → f y = g y) : rgF f n = rgF g n := by
  unfold rgF
  exact List.filter_congr (fun x hx => h x (by simpa using hx))
theorem own_base {w : World} {base b e size n : Nat} {v : Value} {xs : List Value} (h : w.ownsRow base e size v n xs) (hb : b ≤ base) : w.ownsRow b e size v n xs := by
  refine ⟨h.1, ?_⟩
  rcases h.2 with ⟨h1, h2⟩ | ⟨g, cap, cur, h1, h2, h3⟩
  · exact .inl ⟨h1, h2⟩
  · exact .inr ⟨g, cap, cur, h1, Nat.le_trans hb h2, h3⟩
theorem step1_ent : ∀ args w, (callFunc 64 args).run Tryz.prog w = .ok (.enter 64 args) w := enters_of Tryz.func64 (by kernel_rfl) rfl

set_option maxRecDepth 100000 in
set_option maxHeartbeats 16000000 in
theorem step_any (d : AutD) (av : Value) (at' : List Nat) (v : Value) (sign : Nat) (w : World) (hT : TabW w) (ha : AutAt w av d) (hok : OkA d) (hv : PlcAt 0 0 w v at') (hat : ∀ x ∈ at', x ≤ d.sets.length) (hal : at'.length ≤ 1000) (hsg : sign < 18446744073709551616) :
    Calls Tryz.prog 44 #[av, v, .int .u64 (sign : Int)] w fun e w' => ∃ v', e = .returned v' ∧ w'.ownsRow w.heap.size 3 1 v' (stepL d at' sign).length (cellP (stepL d at' sign)) ∧ Below w.heap.size w w' := by
  have HAU : Hid (AutAt w av d) := ha
  obtain ⟨sv, fv, lv, wv, hav, hs, hf, hl1, hw⟩ := ha
  subst hav
  obtain ⟨sa, sc, hes, _⟩ := hs.slice
  obtain ⟨fa, fc, hef, _⟩ := hf.slice
  obtain ⟨la, lc, hel, _⟩ := hl1.slice
  obtain ⟨xa, xc, hex, _⟩ := hw.slice
  obtain ⟨va, vc, hev, _⟩ := hv.slice
  obtain ⟨n1, hn1⟩ : ∃ x, x = d.null := ⟨_, rfl⟩
  obtain ⟨m, hn2⟩ : ∃ x, x = d.sets.length := ⟨_, rfl⟩
  obtain ⟨n3, hn3⟩ : ∃ x, x = d.first.length := ⟨_, rfl⟩
  obtain ⟨n4, hn4⟩ : ∃ x, x = d.last.length := ⟨_, rfl⟩
  obtain ⟨n6, hn6⟩ : ∃ x, x = at'.length := ⟨_, rfl⟩
  have HV : Hid (PlcAt 0 0 w v at') := hv
  have hm5 : d.fol.length = m := by rw [hn2]; exact hok.fol
  rw [← hn2] at hes
  rw [← hn3] at hef
  rw [← hn4] at hel
  rw [hm5] at hex
  rw [← hn6] at hev
  subst hes hef hel hex hev
  have HM : Hid (m = d.sets.length) := hn2
  have hm300 : m ≤ 300 := by rw [hn2]; exact hok.sets
  have HOK : Hid (OkA d) := hok
  have HAT : Hid (∀ x ∈ at', x ≤ m) := by rw [hn2]; exact hat
  have HT : Hid (TabW w) := hT
  rw [← hn1] at HAU ⊢
  have HN1 : Hid (n1 = d.null) := hn1
  obtain ⟨W0, hW0⟩ : ∃ W, W = (w.alloc (.cells #[.bool n1, .slice sa m sc, .slice fa n3 fc, .slice la n4 lc, .slice xa m xc] 29)).alloc (.cells #[.int .u64 (sign : Int)] 38) := ⟨_, rfl⟩
  obtain ⟨h0, h1, hB0, hs0⟩ := alloc2 hW0
  have HAB : Hid (ABox W0 w.heap.size n1 (.slice sa m sc) (.slice fa n3 fc) (.slice la n4 lc) (.slice xa m xc)) := h0
  have HSB : Hid (W0.heap[w.heap.size + 1]? = some (.cells #[.int .u64 (sign : Int)] 38 (0, 0))) := h1
  have HB0 : Hid (Below w.heap.size w W0) := hB0
  have hnm := newMarks_any m (by omega) W0
  obtain ⟨nw, hnw⟩ : ∃ nw, nw = m / 64 + 1 := ⟨_, rfl⟩
  have HNW : Hid (nw = m / 64 + 1) := hnw
  rw [← hnw] at hnm
  have hnl : nw ≤ 100 := by omega
  have HMK : Hid (∀ W, Below w.heap.size w W → Calls Tryz.prog 17 #[.slice va n6 vc, .int .i64 (m : Int)] W fun e w' => ∃ g ms, e = .returned (mrkV m g nw) ∧ W.heap.size ≤ g ∧ ms.length = nw ∧ Fit ms ∧ (∀ y, mb ms y = decide (y ∈ at')) ∧ MrkAt w' g ms ∧ Below W.heap.size W w') := fun W hb => by
    rw [hnw]
    exact marked_any m at' _ W 0 0 (HV.out.below hb) HAT.out (by omega) (by omega)
  have HW0 : Hid (W0 = _) := hW0
  rw [hW0] at hnm
  clear hs hf hl1 hw hv hn1 hn2 hn3 hn4 hn6 hm5 h0 h1 hB0 hs0 hok hat hT hnw hW0
  go_enter Tryz.func44, Tryz.ntmps44
  go_wp2_with fail
  refine hnm.mono ?_
  rintro e w1 ⟨g1, rfl, hg1, hm1, hB1⟩
  rw [← HW0.out] at hB1 hg1
  unfold mrkV
  obtain ⟨W1, hW1⟩ : ∃ W, W = w1.alloc (.cells #[.int .i64 (m : Int), .slice (some ⟨g1, 0, none⟩) nw nw] 53) := ⟨_, rfl⟩
  have hBW : Below w1.heap.size w1 W1 := by rw [hW1]; exact below_alloc _ _
  have HBX : Hid (W1.heap[w1.heap.size]? = some (.cells #[.int .i64 (m : Int), .slice (some ⟨g1, 0, none⟩) nw nw] 53 (0, 0))) := by rw [hW1]; exact heap_new' _ _
  have HM1 : Hid (MrkAt W1 g1 (List.replicate nw 0)) := (hBW.block _ hm1.lt).trans hm1
  have HB1 : Hid (Below W0.heap.size W0 W1) := below_after hB1 hBW
  have hs1 : W0.heap.size ≤ w1.heap.size := hB1.size
  have hg1l : g1 < w1.heap.size := hm1.lt
  have hmk := HMK.out W1 (below_after HB0.out HB1.out)
  have c4' := (HAB.out.below HB1.out).c4
  have hlt1 := (HAB.out.below HB1.out).lt
  have hsW1 : W1.heap.size = w1.heap.size + 1 := by rw [hW1]; simp
  have HSW1 : Hid (W1.heap.size = w1.heap.size + 1) := hsW1
  have HW1 : Hid (W1 = _) := hW1
  rw [hW1] at hmk c4' hlt1
  clear hnm hm1 hB1 hBW hW1 hsW1
  go_wp2_with fail
  refine hmk.mono ?_
  rintro e w2 ⟨g2, ms2, rfl, hg2, hl2, hf2, hb2, hm2, hB2⟩
  rw [← HW1.out] at hB2 hg2
  have hls := mlist_any m g2 nw ms2 w2 (HT.out.below (below_after (below_after HB0.out HB1.out) hB2)) hm2 hf2 hl2 (by omega)
  have hlist : rgF (mb ms2) (64 * nw) = rgF (fun y => at'.contains y) (m + 1) := by
    have e1 : mb ms2 = fun y => at'.contains y := funext fun y => by rw [hb2, Bool.eq_iff_iff]; simp
    rw [e1]
    refine rgF_gap (by rw [HNW.out]; omega) (fun y h1 h2 => ?_)
    cases q : at'.contains y with
    | false => rfl
    | true => have := HAT.out y (by simpa using q); omega
  rw [hlist] at hls
  have HB2 : Hid (Below W1.heap.size W1 w2) := hB2
  clear hmk hg2 hl2 hf2 hb2 hm2 hB2 hlist
  unfold mrkV at hls ⊢
  go_wp2_with fail
  refine hls.mono ?_
  rintro e w3 ⟨v3, rfl, ho3, hB3⟩
  obtain ⟨L3, hL3⟩ : ∃ L, L = rgF (fun y => at'.contains y) (m + 1) := ⟨_, rfl⟩
  rw [← hL3] at ho3
  have HL3 : Hid (∀ x, x ∈ L3 ↔ x ∈ at') := fun x => by
    rw [hL3, rgF_mem]
    constructor
    · rintro ⟨_, h⟩; simpa using h
    · intro h; exact ⟨by have := HAT.out x h; omega, by simpa using h⟩
  have hll3 : L3.length ≤ m + 1 := by rw [hL3]; exact rgF_len _ _
  have hp3 : PlcAt 0 (g1 + 1) w3 v3 L3 := plc_of_row ho3 (by have := HB2.out.size; have := HSW1.out; omega)
  obtain ⟨a3, c3, hev3, hc3⟩ := hp3.slice
  obtain ⟨n7, hn7⟩ : ∃ n, n = L3.length := ⟨_, rfl⟩
  rw [← hn7] at hev3 hc3 hll3
  subst hev3
  have HP3 : Hid (PlcAt 0 (g1 + 1) w3 (.slice a3 n7 c3) L3) := hp3
  have HN7 : Hid (n7 = L3.length) := hn7
  have HB3 : Hid (Below W1.heap.size W1 w3) := below_after HB2.out hB3
  have HM3 : Hid (MrkAt w3 g1 (List.replicate nw 0)) := (HB3.out.block _ HM1.out.lt).trans HM1.out
  have HFR0 : Hid (FrI g1 (g1 + 1) w3 w3) := FrI.refl _ _ _
  clear hls ho3 hB3 hp3 hn7 hL3
  go_wp2
  go_loopw [21] (fun x21 wr => ∃ (j : Nat) (ms : List Nat), j ≤ n7 ∧ x21 = .int .i64 (j : Int) ∧ Hid (ms.length = nw ∧ Fit ms ∧ ∀ y, mb ms y = (L3.take j).any (fun x => (folP d x).contains y)) ∧ Hid (MrkAt wr g1 ms) ∧ Hid (FrI g1 (g1 + 1) w3 wr)) (fun x21 _ => n7 - (intOf x21).toNat)
  case atStart => exact ⟨0, _, Nat.zero_le _, rfl, (⟨by simp, fit_zero _, fun y => by rw [mb_zero]; simp⟩), HM3, HFR0⟩
  case round =>
    obtain ⟨j, ms, hj, rfl, HMS, HMr, HFr⟩ := hrel
    have HBW : Hid (Below w.heap.size w wr) := (below_after (below_after HB0.out HB1.out) HB3.out).trans (HFr.out.1.mono (by have := HB0.out.size; omega))
    have hs3 : W1.heap.size ≤ w3.heap.size := HB3.out.size
    have hsr : w3.heap.size ≤ wr.heap.size := HFr.out.size
    have hw0s : w.heap.size ≤ W0.heap.size := HB0.out.size
    have HBXr : Hid (wr.heap[w1.heap.size]? = some (.cells #[.int .i64 (m : Int), .slice (some ⟨g1, 0, none⟩) nw nw] 53 (0, 0))) := (HFr.out.block (k := w1.heap.size) (by have := HSW1.out; omega)).trans ((HB3.out.block _ (by have := HSW1.out; omega)).trans HBX.out)
    have HABr : Hid (ABox wr w.heap.size n1 (.slice sa m sc) (.slice fa n3 fc) (.slice la n4 lc) (.slice xa m xc)) := (HFr.out.1.block _ (by have := HAB.out.lt; omega)).trans (((HAB.out.below HB1.out).below HB3.out))
    by_cases hjl : j < n7
    · have hjn : j < L3.length := by rw [← HN7.out]; exact hjl
      obtain ⟨ga, oa, rfl, hgq, hga, e0⟩ := HP3.out.at HN7.out hjn
      obtain ⟨x, hx⟩ : ∃ x, x = L3[j] := ⟨_, rfl⟩
      have HX : Hid (x = L3[j]) := hx
      rw [← hx] at e0
      have hg1ne : ga ≠ g1 := by omega
      have e1 : wr.cell? ⟨ga, oa + j, none⟩ = some (.int .i64 (x : Int)) := (World.cell?_of_block (a := ⟨ga, _, none⟩) (HFr.out.block (k := ga) (by omega))).trans e0
      have hxm : x ≤ d.sets.length := by rw [← HM.out, hx]; exact HAT.out _ ((HL3.out _).1 (List.getElem_mem hjn))
      have hfo := following_any d _ x w wr.drew HAU.out HBW.out.drew HOK.out hxm
      have HPT : Hid (∀ w5 v5, Below wr.heap.size wr w5 → (∀ B, PlcAt w.heap.size B w5 v5 (folP d x)) → Calls Tryz.prog 41 #[.agg #[.int .i64 (m : Int), .slice (some ⟨g1, 0, none⟩) nw nw], v5] w5 fun e w' => e = .returned (.tuple #[]) ∧ ∃ ms', ms'.length = nw ∧ Fit ms' ∧ (∀ y, mb ms' y = (mb ms y || decide (y ∈ folP d x))) ∧ MrkAt w' g1 ms' ∧ FrI g1 (g1 + 1) w5 w') := fun w5 v5 hb hp => by
        have hin := HOK.out.folP hxm
        have hle := hin.len (Nat.zero_le _)
        rw [← HM.out] at hin hle
        exact mput_any m g1 nw ms (folP d x) v5 w5 w.heap.size (g1 + 1) ((hb.block _ HMr.out.lt).trans HMr.out) HMS.out.2.1 HMS.out.1 HNW.out (hp _) (fun y hy => (hin.2 y hy).2) (by omega) ⟨by omega, by omega⟩ (by omega)
      have b0 : wr.cell? ⟨w1.heap.size, 0, none⟩ = some (.int .i64 (m : Int)) := cell_in HBXr.out 0
      have b1 : wr.cell? ⟨w1.heap.size, 1, none⟩ = some (.slice (some ⟨g1, 0, none⟩) nw nw) := cell_in HBXr.out 1
      have a0 := HABr.out.c0
      have a1 := HABr.out.c1
      have a2 := HABr.out.c2
      have a3' := HABr.out.c3
      have a4 := HABr.out.c4
      have HCB : Hid (∀ W, Below wr.heap.size wr W → W.cell? ⟨w1.heap.size, 0, none⟩ = some (.int .i64 (m : Int)) ∧ W.cell? ⟨w1.heap.size, 1, none⟩ = some (.slice (some ⟨g1, 0, none⟩) nw nw)) := fun W hb => ⟨(hb.cell (p := ⟨w1.heap.size, 0, none⟩) (lt_of_heap HBXr.out)).trans b0, (hb.cell (p := ⟨w1.heap.size, 1, none⟩) (lt_of_heap HBXr.out)).trans b1⟩
      have hj0 : (0 : Int) ≤ (j : Int) := by omega
      have hj1 : (j : Int) < (n7 : Int) := by omega
      have HTK : Hid (∀ y, (L3.take (j + 1)).any (fun x => (folP d x).contains y) = ((L3.take j).any (fun x => (folP d x).contains y) || decide (y ∈ folP d x))) := fun y => by
        rw [List.take_add_one, List.getElem?_eq_getElem hjn, ← hx, List.any_append]
        congr 1
        rw [Bool.eq_iff_iff]; simp
      clear hx e0
      go_wp2
      go_region_law (first | (go_simp; (with_reducible refine hfo.mono ?_); rintro e w5 ⟨v5, rfl, hv5, hB5⟩; have hB5' : Below wr.heap.size wr w5 := below_drw hB5; have hpt := HPT.out w5 v5 hB5' hv5; obtain ⟨s0, s1⟩ := HCB.out w5 hB5'; obtain ⟨va5, vc5, hev5, _⟩ := (hv5 0).slice; obtain ⟨vn5, hvn5⟩ : ∃ n, n = (folP d x).length := ⟨_, rfl⟩; rw [← hvn5] at hev5; subst hev5; clear hvn5; try dsimp only) | (go_simp; (with_reducible refine hpt.mono ?_); rintro e w7 ⟨rfl, ms7, hl7, hf7, hb7, hm7, hfr7⟩; try dsimp only))
      all_goals (
        have HMS7 : Hid (ms7.length = nw ∧ Fit ms7 ∧ ∀ y, mb ms7 y = (L3.take (j + 1)).any (fun x => (folP d x).contains y)) := ⟨hl7, hf7, fun y => by rw [hb7, HMS.out.2.2, HTK.out]⟩
        have HM7 : Hid (MrkAt w7 g1 ms7) := hm7
        have HF7 : Hid (FrI g1 (g1 + 1) w3 w7) := HFr.out.trans ((FrI.of hB5' (by omega)).trans hfr7)
        clear hfo hl7 hf7 hb7 hm7 hfr7 hpt hv5 hB5 s0 s1
        go_wp2
        go_roundw
        case rel => exact ⟨j + 1, ms7, by omega, by go_num, HMS7, HM7, HF7⟩
        case measure => simp [intOf]; omega)
    · obtain rfl : j = n7 := by omega
      have HEQ : Hid (L3.take j = L3) := List.take_of_length_le (by rw [← HN7.out]; exact Nat.le_refl _)
      have b0 : wr.cell? ⟨w1.heap.size, 0, none⟩ = some (.int .i64 (m : Int)) := cell_in HBXr.out 0
      have b1 : wr.cell? ⟨w1.heap.size, 1, none⟩ = some (.slice (some ⟨g1, 0, none⟩) nw nw) := cell_in HBXr.out 1
      have hls := mlist_any m g1 nw ms wr (HT.out.below HBW.out) HMr.out HMS.out.2.1 HMS.out.1 (by omega)
      unfold mrkV at hls
      obtain ⟨L4, hL4⟩ : ∃ L, L = rgF (mb ms) (64 * nw) := ⟨_, rfl⟩
      rw [← hL4] at hls
      have HL4 : Hid (L4 = rgF (fun y => at'.any (fun x => (folP d x).contains y)) (m + 1)) := by
        have e1 : mb ms = fun y => at'.any (fun x => (folP d x).contains y) := funext fun y => by
          rw [HMS.out.2.2, HEQ.out, Bool.eq_iff_iff]
          simp only [List.any_eq_true]
          exact ⟨fun ⟨x, h1, h2⟩ => ⟨x, (HL3.out x).1 h1, h2⟩, fun ⟨x, h1, h2⟩ => ⟨x, (HL3.out x).2 h1, h2⟩⟩
        show _ = _
        rw [hL4, e1]
        refine rgF_gap (by rw [HNW.out]; omega) (fun y h1 h2 => ?_)
        cases q : at'.any (fun x => (folP d x).contains y) with
        | false => rfl
        | true =>
          obtain ⟨x, hx, h3⟩ := List.any_eq_true.1 q
          have := (HOK.out.folP (by rw [← HM.out]; exact HAT.out x hx)).2 y (by simpa using h3)
          have := HM.out
          omega
      have HLL : Hid (L4.length ≤ 1000) := by show _ ≤ _; rw [HL4.out]; have := rgF_len (fun y => at'.any (fun x => (folP d x).contains y)) (m + 1); omega
      have HLM : Hid (∀ x ∈ L4, x ≤ d.sets.length) := fun x hx => by rw [HL4.out, rgF_mem] at hx; have := HM.out; omega
      have HST : Hid (stepL d at' sign = L4.filter (fun x => !(!tkP d sign x))) := by
        show _ = _
        rw [HL4.out, rgF_filt]
        unfold stepL
        rw [← HM.out]
        refine rgF_ext fun y _ => ?_
        simp
      have hltr : w1.heap.size < wr.heap.size := lt_of_heap HBXr.out
      have HSBr : Hid (wr.heap[w.heap.size + 1]? = some (.cells #[.int .u64 (sign : Int)] 38 (0, 0))) := (HFr.out.1.block _ (by have := lt_of_heap HSB.out; omega)).trans ((HB3.out.block _ (by have := lt_of_heap HSB.out; have := HB1.out.size; omega)).trans ((HB1.out.block _ (lt_of_heap HSB.out)).trans HSB.out))
      clear hL4
      go_wp2_with fail
      refine hls.mono ?_
      rintro e w8 ⟨v8, rfl, ho8, hB8⟩
      have hAU8 : AutAt wr (.agg #[.bool d.null, .slice sa m sc, .slice fa n3 fc, .slice la n4 lc, .slice xa m xc]) d := by rw [← HN1.out]; exact HAU.out.below HBW.out
      have hABd : ABox wr w.heap.size d.null (.slice sa m sc) (.slice fa n3 fc) (.slice la n4 lc) (.slice xa m xc) := by rw [← HN1.out]; exact HABr.out
      have hpr : PrdT 64 #[.pointer (some ⟨w.heap.size, 0, none⟩), .pointer (some ⟨w.heap.size + 1, 0, none⟩)] wr.heap.size wr (fun x => !tkP d sign x) L4 := ⟨step1_ent, fun x hx W hb => step1_any d w.heap.size (w.heap.size + 1) sign _ _ _ _ x W (hABd.below hb) ((hb.cell (p := ⟨w.heap.size + 1, 0, none⟩) (lt_of_heap HSBr.out)).trans (cell_in HSBr.out 0)) (hAU8.below hb) HOK.out (HLM.out x hx) hsg⟩
      have hdl := delF_any 64 #[.pointer (some ⟨w.heap.size, 0, none⟩), .pointer (some ⟨w.heap.size + 1, 0, none⟩)] wr.heap.size wr (fun x => !tkP d sign x) L4 v8 w8 wr.heap.size hpr hB8 (Nat.le_refl _) hB8.size ho8 (by have := HLL.out; omega)
      rw [← HST.out] at hdl
      have HB8 : Hid (Below wr.heap.size wr w8) := hB8
      obtain ⟨a8, n8, c8, hev8⟩ := own_any ho8
      subst hev8
      clear hls ho8 hB8 hAU8 hABd hpr b0 b1
      go_wp2_with fail
      refine hdl.mono ?_
      rintro e w9 ⟨v9, rfl, ho9, hB9⟩
      have HO9 : Hid (w9.ownsRow w.heap.size 3 1 v9 (stepL d at' sign).length (cellP (stepL d at' sign))) := own_base ho9 HBW.out.size
      have HB9 : Hid (Below w.heap.size w w9) := HBW.out.trans ((HB8.out.trans hB9).mono HBW.out.size)
      clear hdl ho9 hB9
      go_wp2
      go_ret
      exact ⟨_, rfl, HO9.out, HB9.out⟩
end Go.Proofs.YtklhjjgnhigbiaaGreatDoor
