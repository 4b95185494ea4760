/-
  Step and End of package follow.
-/
import Derived.Test.YtehkaiohmcenbaaDoorFlLaw
import Derived.Deep.RegionLaw
namespace Go.Proofs.YtehkaiohmcenbaaDoor
open Go.RowKit Go.Shelf
set_option linter.unusedVariables false

set_option maxRecDepth 100000 in
set_option maxHeartbeats 4000000 in
theorem begin_any (w : World) : Calls Tryd.prog 15 #[] w fun e w' => ∃ v, e = .returned v ∧ w'.ownsRow w.heap.size 3 1 v 1 (cellP [0]) ∧ Below w.heap.size w w' := by
  go_enter Tryd.func15, Tryd.ntmps15
  go_wp2
  go_ret
  exact ⟨_, rfl, ⟨by simp [cellP], .inr ⟨w.heap.size, 1, _, rfl, Nat.le_refl _, heap_new' _ _, Nat.le_refl _, by decide, by simp, by simp [cellP]⟩⟩, below_alloc _ _⟩

/-- An index of a place in a list, or -1. -/
def idxN (x : Nat) : List Nat → Nat → Int
  | [], _ => -1
  | y :: l, i => if x = y then (i : Int) else idxN x l (i + 1)

set_option maxRecDepth 100000 in
set_option maxHeartbeats 4000000 in
theorem contains_any (l : List Nat) (v : Value) (x : Nat) (w : World) (hv : PlcAt 0 0 w v l) (hl : l.length ≤ 100000) : Calls Tryd.prog 73 #[v, .int .i64 (x : Int)] w fun e w' => ∃ r : Int, e = .returned (.int .i64 r) ∧ (0 ≤ r ↔ x ∈ l) ∧ w' = w := by
  have HV : Hid (PlcAt 0 0 w v l) := hv
  obtain ⟨a, c, hev, hc⟩ := hv.slice
  subst hev
  obtain ⟨len, hle⟩ : ∃ n, n = l.length := ⟨_, rfl⟩
  have HLE : Hid (len = l.length) := hle
  rw [← hle] at hc hl HV ⊢
  clear hle hv
  go_enter Tryd.func73, Tryd.ntmps73
  go_wp2
  go_loopw [8] (fun x8 wr => ∃ (i : Nat), i ≤ len ∧ x8 = .int .i64 (i : Int) ∧ Hid (x ∉ l.take i) ∧ wr = w) (fun x8 _ => len - (intOf x8).toNat)
  case atStart => exact ⟨0, Nat.zero_le _, rfl, (by show _ ∉ _; simp), rfl⟩
  case round =>
    obtain ⟨i, hi, rfl, HNI, hwr⟩ := hrel
    have hwr' := hwr.symm
    subst hwr'
    by_cases hil : i < len
    · have hin : i < l.length := by rw [← HLE.out]; exact hil
      obtain ⟨ga, oa, rfl, _, hga, e1⟩ := HV.out.at HLE.out hin
      obtain ⟨y, hy⟩ : ∃ y, y = l[i] := ⟨_, rfl⟩
      have HY : Hid (y = l[i]) := hy
      rw [← hy] at e1
      have hi0 : (0 : Int) ≤ (i : Int) := by omega
      have hi1 : (i : Int) < (len : Int) := by omega
      clear hy
      by_cases hxy : x = y
      · have hxy' : ((x : Int) == (y : Int)) = true := by rw [beq_iff_eq]; omega
        have HM : Hid (x ∈ l) := by show _ ∈ _; rw [hxy, HY.out]; exact List.getElem_mem hin
        clear hxy
        go_wp2
        go_ret
        exact ⟨i, rfl, ⟨fun _ => HM.out, fun _ => by omega⟩, rfl⟩
      · have hxy' : ((x : Int) == (y : Int)) = false := beq_eq_false_iff_ne.2 (by omega)
        have HN2 : Hid (x ∉ l.take (i + 1)) := by
          show _ ∉ _
          rw [List.take_add_one, List.getElem?_eq_getElem hin, ← HY.out]
          simp only [Option.toList_some, List.mem_append, List.mem_singleton, not_or]
          exact ⟨HNI.out, hxy⟩
        clear hxy
        go_wp2
        go_roundw
        case rel => exact ⟨i + 1, by omega, by go_num, HN2, by first | exact rfl | trivial⟩
        case measure => simp [intOf]; omega
    · obtain rfl : i = len := by omega
      have HEQ : Hid (l.take i = l) := List.take_of_length_le (by rw [← HLE.out]; exact Nat.le_refl _)
      go_wp2
      go_ret
      refine ⟨-1, rfl, ⟨fun h => by omega, fun h => ?_⟩, rfl⟩
      have := HNI.out
      rw [HEQ.out] at this
      exact absurd h this

set_option maxRecDepth 100000 in
set_option maxHeartbeats 4000000 in
theorem has_any' (l : List Nat) (v : Value) (x : Nat) (w : World) (hv : PlcAt 0 0 w v l) (hl : l.length ≤ 100000) : Calls Tryd.prog 49 #[v, .int .i64 (x : Int)] w fun e w' => e = .returned (.bool (l.contains x)) ∧ w' = w := by
  have hc := contains_any l v x w hv hl
  obtain ⟨a, c, hev, _⟩ := hv.slice
  subst hev
  obtain ⟨len, hle⟩ : ∃ n, n = l.length := ⟨_, rfl⟩
  rw [← hle] at hc ⊢
  clear hle hv
  go_enter Tryd.func49, Tryd.ntmps49
  go_wp2_with fail
  refine hc.mono ?_
  rintro e w1 ⟨r, rfl, hr, rfl⟩
  have hd : decide (r ≥ 0) = l.contains x := by rw [Bool.eq_iff_iff]; simp; exact hr
  clear hr hc
  go_wp2
  go_ret
  exact ⟨by simp, rfl⟩

/-- Where p first holds, or -1. -/
def idxF (p : Nat → Bool) : List Nat → Nat → Int
  | [], _ => -1
  | y :: l, i => if p y then (i : Int) else idxF p l (i + 1)
/-- A predicate as a function of the program, in every world that is below B0 as w0. -/
def PrdT (g : Nat) (caps : Array Value) (B0 : Nat) (w0 : World) (p : Nat → Bool) (l : List Nat) : Prop :=
  (∀ args w, (callFunc g args).run Tryd.prog w = .ok (.enter g args) w) ∧ ∀ x ∈ l, ∀ W, Below B0 w0 W → Calls Tryd.prog g (#[.int .i64 (x : Int)] ++ caps) W fun e w' => e = .returned (.bool (p x)) ∧ Below W.heap.size W w'
/-- The first place is i. -/
def FstI (p : Nat → Bool) (l : List Nat) (r : Int) : Prop := (r = -1 ∧ ∀ x ∈ l, p x = false) ∨ ∃ i, ∃ h : i < l.length, r = (i : Int) ∧ p l[i] = true ∧ ∀ x ∈ l.take i, p x = false

set_option maxRecDepth 100000 in
set_option maxHeartbeats 4000000 in
theorem idxI_any (g : Nat) (caps : Array Value) (B0 : Nat) (w0 : World) (p : Nat → Bool) (l : List Nat) (v : Value) (w : World) (hp : PrdT g caps B0 w0 p l) (hB : Below B0 w0 w) (hB0 : B0 ≤ w.heap.size) (hv : PlcAt 0 0 w v l) (hl : l.length ≤ 100000) : Calls Tryd.prog 72 #[v, .func (.func g) #[] caps] w fun e w' => ∃ r : Int, e = .returned (.int .i64 r) ∧ FstI p l r ∧ Below w.heap.size w w' := by
  have HV : Hid (PlcAt 0 0 w v l) := hv
  have HP : Hid (PrdT g caps B0 w0 p l) := hp
  have HB : Hid (Below B0 w0 w) := hB
  have eg := hp.1
  obtain ⟨a, c, hev, hc⟩ := hv.slice
  subst hev
  obtain ⟨len, hle⟩ : ∃ n, n = l.length := ⟨_, rfl⟩
  have HLE : Hid (len = l.length) := hle
  rw [← hle] at hc hl HV ⊢
  clear hle hv hp hB
  go_enter Tryd.func72, Tryd.ntmps72
  go_wp2
  go_loopw [8] (fun x8 wr => ∃ (i : Nat), i ≤ len ∧ x8 = .int .i64 (i : Int) ∧ Hid (∀ x ∈ l.take i, p x = false) ∧ Hid (Below w.heap.size w wr)) (fun x8 _ => len - (intOf x8).toNat)
  case atStart => exact ⟨0, Nat.zero_le _, rfl, (fun x hx => by simp at hx), Below.refl _ _⟩
  case round =>
    obtain ⟨i, hi, rfl, HNI, HBr⟩ := hrel
    by_cases hil : i < len
    · have hin : i < l.length := by rw [← HLE.out]; exact hil
      obtain ⟨ga, oa, rfl, _, hga, e0⟩ := HV.out.at HLE.out hin
      obtain ⟨y, hy⟩ : ∃ y, y = l[i] := ⟨_, rfl⟩
      have HY : Hid (y = l[i]) := hy
      rw [← hy] at e0
      have e1 : wr.cell? ⟨ga, oa + i, none⟩ = some (.int .i64 (y : Int)) := (HBr.out.cell (p := ⟨ga, _, none⟩) hga).trans e0
      have hcl := HP.out.2 y (by rw [hy]; exact List.getElem_mem hin) wr (HB.out.trans (HBr.out.mono hB0))
      have hi0 : (0 : Int) ≤ (i : Int) := by omega
      have hi1 : (i : Int) < (len : Int) := by omega
      obtain ⟨b, hb⟩ : ∃ b, b = p y := ⟨_, rfl⟩
      rw [← hb] at hcl
      have HBB : Hid (b = p y) := hb
      clear hy hb e0
      cases b with
      | true =>
        go_wp2_with fail
        refine hcl.mono ?_
        rintro e w1 ⟨rfl, hB1⟩
        have HB1 : Hid (Below w.heap.size w w1) := below_after HBr.out hB1
        clear hcl hB1
        go_wp2
        go_ret
        exact ⟨i, rfl, .inr ⟨i, hin, rfl, by rw [← HY.out]; exact HBB.out.symm, HNI.out⟩, HB1.out⟩
      | false =>
        go_wp2_with fail
        refine hcl.mono ?_
        rintro e w1 ⟨rfl, hB1⟩
        have HB1 : Hid (Below w.heap.size w w1) := below_after HBr.out hB1
        have HN2 : Hid (∀ x ∈ l.take (i + 1), p x = false) := fun x hx => by
          rw [List.take_add_one, List.getElem?_eq_getElem hin, ← HY.out] at hx
          simp only [Option.toList_some, List.mem_append, List.mem_singleton] at hx
          rcases hx with hx | rfl
          · exact HNI.out x hx
          · exact HBB.out.symm
        clear hcl hB1
        go_wp2
        go_roundw
        case rel => exact ⟨i + 1, by omega, by go_num, HN2, HB1⟩
        case measure => simp [intOf]; omega
    · obtain rfl : i = len := by omega
      have HEQ : Hid (l.take i = l) := List.take_of_length_le (by rw [← HLE.out]; exact Nat.le_refl _)
      go_wp2
      go_ret
      refine ⟨-1, rfl, .inl ⟨rfl, ?_⟩, HBr.out⟩
      have := HNI.out
      rw [HEQ.out] at this
      exact this

set_option maxRecDepth 100000 in
set_option maxHeartbeats 4000000 in
theorem idxP_any (g : Nat) (caps : Array Value) (B0 : Nat) (w0 : World) (p : Nat → Bool) (l : List Nat) (v : Value) (w : World) (hp : PrdT g caps B0 w0 p l) (hB : Below B0 w0 w) (hB0 : B0 ≤ w.heap.size) (hv : PlcAt 0 0 w v l) (hl : l.length ≤ 100000) : Calls Tryd.prog 74 #[v, .func (.func g) #[] caps] w fun e w' => ∃ r : Int, e = .returned (.int .i64 r) ∧ FstI p l r ∧ Below w.heap.size w w' := by
  have HV : Hid (PlcAt 0 0 w v l) := hv
  have HP : Hid (PrdT g caps B0 w0 p l) := hp
  have HB : Hid (Below B0 w0 w) := hB
  have eg := hp.1
  obtain ⟨a, c, hev, hc⟩ := hv.slice
  subst hev
  obtain ⟨len, hle⟩ : ∃ n, n = l.length := ⟨_, rfl⟩
  have HLE : Hid (len = l.length) := hle
  rw [← hle] at hc hl HV ⊢
  clear hle hv hp hB
  go_enter Tryd.func74, Tryd.ntmps74
  go_wp2
  go_loopw [8] (fun x8 wr => ∃ (i : Nat), i ≤ len ∧ x8 = .int .i64 (i : Int) ∧ Hid (∀ x ∈ l.take i, p x = false) ∧ Hid (Below w.heap.size w wr)) (fun x8 _ => len - (intOf x8).toNat)
  case atStart => exact ⟨0, Nat.zero_le _, rfl, (fun x hx => by simp at hx), Below.refl _ _⟩
  case round =>
    obtain ⟨i, hi, rfl, HNI, HBr⟩ := hrel
    by_cases hil : i < len
    · have hin : i < l.length := by rw [← HLE.out]; exact hil
      obtain ⟨ga, oa, rfl, _, hga, e0⟩ := HV.out.at HLE.out hin
      obtain ⟨y, hy⟩ : ∃ y, y = l[i] := ⟨_, rfl⟩
      have HY : Hid (y = l[i]) := hy
      rw [← hy] at e0
      have e1 : wr.cell? ⟨ga, oa + i, none⟩ = some (.int .i64 (y : Int)) := (HBr.out.cell (p := ⟨ga, _, none⟩) hga).trans e0
      have hcl := HP.out.2 y (by rw [hy]; exact List.getElem_mem hin) wr (HB.out.trans (HBr.out.mono hB0))
      have hi0 : (0 : Int) ≤ (i : Int) := by omega
      have hi1 : (i : Int) < (len : Int) := by omega
      obtain ⟨b, hb⟩ : ∃ b, b = p y := ⟨_, rfl⟩
      rw [← hb] at hcl
      have HBB : Hid (b = p y) := hb
      clear hy hb e0
      cases b with
      | true =>
        go_wp2_with fail
        refine hcl.mono ?_
        rintro e w1 ⟨rfl, hB1⟩
        have HB1 : Hid (Below w.heap.size w w1) := below_after HBr.out hB1
        clear hcl hB1
        go_wp2
        go_ret
        exact ⟨i, rfl, .inr ⟨i, hin, rfl, by rw [← HY.out]; exact HBB.out.symm, HNI.out⟩, HB1.out⟩
      | false =>
        go_wp2_with fail
        refine hcl.mono ?_
        rintro e w1 ⟨rfl, hB1⟩
        have HB1 : Hid (Below w.heap.size w w1) := below_after HBr.out hB1
        have HN2 : Hid (∀ x ∈ l.take (i + 1), p x = false) := fun x hx => by
          rw [List.take_add_one, List.getElem?_eq_getElem hin, ← HY.out] at hx
          simp only [Option.toList_some, List.mem_append, List.mem_singleton] at hx
          rcases hx with hx | rfl
          · exact HNI.out x hx
          · exact HBB.out.symm
        clear hcl hB1
        go_wp2
        go_roundw
        case rel => exact ⟨i + 1, by omega, by go_num, HN2, HB1⟩
        case measure => simp [intOf]; omega
    · obtain rfl : i = len := by omega
      have HEQ : Hid (l.take i = l) := List.take_of_length_le (by rw [← HLE.out]; exact Nat.le_refl _)
      go_wp2
      go_ret
      refine ⟨-1, rfl, .inl ⟨rfl, ?_⟩, HBr.out⟩
      have := HNI.out
      rw [HEQ.out] at this
      exact this

set_option maxRecDepth 100000 in
set_option maxHeartbeats 4000000 in
theorem cfun_any (g : Nat) (caps : Array Value) (B0 : Nat) (w0 : World) (p : Nat → Bool) (l : List Nat) (v : Value) (w : World) (hp : PrdT g caps B0 w0 p l) (hB : Below B0 w0 w) (hB0 : B0 ≤ w.heap.size) (hv : PlcAt 0 0 w v l) (hl : l.length ≤ 100000) : Calls Tryd.prog 47 #[v, .func (.func g) #[] caps] w fun e w' => e = .returned (.bool (l.any p)) ∧ Below w.heap.size w w' := by
  have hc := idxI_any g caps B0 w0 p l v w hp hB hB0 hv hl
  obtain ⟨a, c, hev, _⟩ := hv.slice
  subst hev
  obtain ⟨len, hle⟩ : ∃ n, n = l.length := ⟨_, rfl⟩
  rw [← hle] at hc ⊢
  clear hle hv hp hB
  go_enter Tryd.func47, Tryd.ntmps47
  go_wp2_with fail
  refine hc.mono ?_
  rintro e w1 ⟨r, rfl, hr, hB1⟩
  have hd : decide (r ≥ 0) = l.any p := by
    rw [Bool.eq_iff_iff]
    simp only [decide_eq_true_eq, List.any_eq_true]
    rcases hr with ⟨rfl, h⟩ | ⟨i, hi, rfl, h, _⟩
    · constructor
      · intro h; omega
      · rintro ⟨x, hx, h1⟩; rw [h x hx] at h1; cases h1
    · exact ⟨fun _ => ⟨l[i], List.getElem_mem hi, h⟩, fun _ => by omega⟩
  have HB1 : Hid (Below w.heap.size w w1) := hB1
  clear hr hc hB1
  go_wp2
  go_ret
  exact ⟨by first | rfl | (rw [← hd]; rfl), HB1.out⟩
end Go.Proofs.YtehkaiohmcenbaaDoor
