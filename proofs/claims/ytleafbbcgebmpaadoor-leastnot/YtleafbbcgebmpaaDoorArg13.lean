/-
  Arguments of the types []int and api.Dfa.
-/
import Derived.Test.YtleafbbcgebmpaaDoorLsMem
import Derived.WalkKit
import Derived.ProofKit
import Derived.OpenShut
import Derived.ChangeOld
import Derived.Below
import Derived.SizedLaws
import Derived.Deep.SlicePairs
namespace Go.Proofs.YtleafbbcgebmpaaDoor
open Go.ChangeShapes Go.WideShapes Go.ChangeAt Go.RowKit Go.Deep
set_option linter.unusedVariables false

theorem own : ownKnob Tryd.prog.godebug = none := by kernel_rfl
theorem laidOut : laidOutB Tryd.prog = true := by kernel_rfl
theorem cInt8 : Tryd.prog.cellsOf 3 = 1 := by kernel_rfl
section
variable {H : Type} {enc : TypeId × Value → H} {W : World}
/-- Numbers. -/
theorem open_ints_of {fuel : Nat} {cs : List Value} {x : DataW H × List MemPlace} (h : DataW.trod enc Tryd.prog W 0 (fun _ => true) true fuel 33 cs = some x) : ∃ v l, cs = [v] ∧ IntsAt W v l := by
  rcases open_slice1 Tryd.underlying33 cInt8 h with ⟨e, _⟩ | ⟨a, len, cap, m, n, V, D, Pl, e, _, hl, _, hmm, _, hcell⟩
  · exact ⟨_, [], e, IntsAt.nil _⟩
  · have hmc : m = cap := by simpa using hmm
    subst hmc
    have each : ∀ i, i < len → ∃ q : Int, W.cell? (a.add i) = some (.int .i64 q) := fun i hi => by
      obtain ⟨c0, h1⟩ := hcell i (by omega)
      obtain ⟨k, ek, _, _⟩ := DataW.trod_int Tryd.underlying3 h1
      have : V i = .int .i64 k := by simpa using ek
      rw [this] at c0
      exact ⟨k, c0⟩
    obtain ⟨q, hq⟩ := choose_lt each
    obtain ⟨b, off, spot⟩ := a
    have hlen : ((List.range len).map q).length = len := by simp
    refine ⟨_, (List.range len).map q, e, _, m, by rw [hlen], by rw [hlen]; exact hl, fun e => (by cases e), fun i hi => ?_⟩
    rw [hlen] at hi
    have c0 := hq i hi
    have hsp : spot = none := by simpa [Addr.add] using World.cell?_spot (hq 0 (by omega))
    subst hsp
    rw [addr_add] at c0
    have eg : ((List.range len).map q)[i]'(by rw [hlen]; exact hi) = q i := by simp
    rw [eg]
    exact ⟨b, off, rfl, cell_some_lt c0, c0⟩
theorem open_ints {v : Value} {d : DataW H} {p : List MemPlace} (h : DataW.Trod enc Tryd.prog W 0 (fun _ => true) true 33 v d p) (hv : ∃ a len cap, v = .slice a len cap) : ∃ l : List Int, IntsAt W v l := by
  obtain ⟨a0, len0, cap0, rfl⟩ := hv
  obtain ⟨fuel, h⟩ := h
  obtain ⟨v, l, e, hi⟩ := open_ints_of h
  have e2 : Value.slice a0 len0 cap0 = v := by simpa [Value.cells] using e
  rw [e2]
  exact ⟨l, hi⟩
theorem cBool12 : Tryd.prog.cellsOf 4 = 1 := by kernel_rfl
theorem cInts12 : Tryd.prog.cellsOf 33 = 1 := by kernel_rfl
theorem cRows12 : Tryd.prog.cellsOf 22 = 1 := by kernel_rfl
theorem cBools12 : Tryd.prog.cellsOf 23 = 1 := by kernel_rfl
theorem cDfa12 : Tryd.prog.cellsOf 25 = 2 := by kernel_rfl
/-- Marks. -/
theorem open_bools_of {fuel : Nat} {cs : List Value} {x : DataW H × List MemPlace} (h : DataW.trod enc Tryd.prog W 0 (fun _ => true) true fuel 23 cs = some x) : ∃ v l, cs = [v] ∧ BolAt W v l := by
  rcases open_slice1 Tryd.underlying23 cBool12 h with ⟨e, _⟩ | ⟨a, len, cap, m, n, V, D, Pl, e, _, hl, _, hmm, _, hcell⟩
  · exact ⟨_, [], e, BolAt.nil _⟩
  · have hmc : m = cap := by simpa using hmm
    subst hmc
    have each : ∀ i, i < len → ∃ q : Bool, W.cell? (a.add i) = some (.bool q) := fun i hi => by
      obtain ⟨c0, h1⟩ := hcell i (by omega)
      obtain ⟨k, ek, _⟩ := DataW.trod_bool Tryd.underlying4 h1
      have : V i = .bool k := by simpa using ek
      rw [this] at c0
      exact ⟨k, c0⟩
    obtain ⟨q, hq⟩ := choose_lt each
    obtain ⟨b, off, spot⟩ := a
    have hlen : ((List.range len).map q).length = len := by simp
    refine ⟨_, (List.range len).map q, e, _, m, by rw [hlen], by rw [hlen]; exact hl, fun e => (by cases e), fun i hi => ?_⟩
    rw [hlen] at hi
    have c0 := hq i hi
    have hsp : spot = none := by simpa [Addr.add] using World.cell?_spot (hq 0 (by omega))
    subst hsp
    rw [addr_add] at c0
    have eg : ((List.range len).map q)[i]'(by rw [hlen]; exact hi) = q i := by simp
    rw [eg]
    exact ⟨b, off, rfl, cell_some_lt c0, c0⟩
/-- Rows of numbers. -/
theorem open_rows_of {fuel : Nat} {cs : List Value} {x : DataW H × List MemPlace} (h : DataW.trod enc Tryd.prog W 0 (fun _ => true) true fuel 22 cs = some x) : ∃ v, ∃ N : List (List Int), cs = [v] ∧ ∃ a cap, v = .slice a N.length cap ∧ N.length ≤ cap ∧ (a = none → cap = 0) ∧ ∀ i, (h : i < N.length) → ∃ g off x, a = some ⟨g, off, none⟩ ∧ g < W.heap.size ∧ W.cell? ⟨g, off + i, none⟩ = some x ∧ IntsAt W x N[i] := by
  rcases open_slice1 Tryd.underlying22 cInts12 h with ⟨e, _⟩ | ⟨a, len, cap, m, n, V, D, Pl, e, _, hl, _, hmm, _, hcell⟩
  · exact ⟨_, [], e, none, 0, rfl, Nat.le_refl _, fun _ => rfl, fun i h => (by cases h)⟩
  · have hmc : m = cap := by simpa using hmm
    subst hmc
    have each : ∀ i, i < len → ∃ q : Value × List Int, W.cell? (a.add i) = some q.1 ∧ IntsAt W q.1 q.2 := fun i hi => by
      obtain ⟨c0, h1⟩ := hcell i (by omega)
      obtain ⟨v, l, ev, hv⟩ := open_ints_of h1
      have : V i = v := by simpa using ev
      rw [this] at c0
      exact ⟨(v, l), c0, hv⟩
    haveI : Inhabited (Value × List Int) := ⟨(.slice none 0 0, [])⟩
    obtain ⟨q, hq⟩ := choose_lt each
    obtain ⟨b, off, spot⟩ := a
    have hlen : ((List.range len).map fun i => (q i).2).length = len := by simp
    refine ⟨_, (List.range len).map fun i => (q i).2, e, _, m, by rw [hlen], by rw [hlen]; exact hl, fun e => (by cases e), fun i hi => ?_⟩
    rw [hlen] at hi
    obtain ⟨c0, hv⟩ := hq i hi
    have hsp : spot = none := by simpa [Addr.add] using World.cell?_spot (hq 0 (by omega)).1
    subst hsp
    rw [addr_add] at c0
    have eg : ((List.range len).map fun i => (q i).2)[i]'(by rw [hlen]; exact hi) = (q i).2 := by simp
    rw [eg]
    exact ⟨b, off, _, rfl, cell_some_lt c0, c0, hv⟩
theorem len2 {α : Type} {l : List α} (h : l.length = 2) : ∃ a b, l = [a, b] := by
  match l, h with
  | [a, b], _ => exact ⟨a, b, rfl⟩
set_option maxRecDepth 100000 in
/-- States that came in. -/
theorem open_dfa {v : Value} {d : DataW H} {p : List MemPlace} (hv : Value.okWide Tryd.prog W .any 0 25 v) (h : DataW.Trod enc Tryd.prog W 0 (fun _ => true) true 25 v d p) : ∃ (N : List (List Int)) (F : List Bool), DfaAt W v N F := by
  obtain ⟨cs, rfl, _⟩ := okWide_struct Tryd.underlying25 hv
  obtain ⟨fuel, h⟩ := h
  obtain ⟨xs, n, rfl, _, hlen, hxl, hf⟩ := DataW.trod_struct Tryd.underlying25 h
  rw [cDfa12] at hlen
  obtain ⟨v0, v1, e⟩ := len2 hlen
  obtain ⟨y0, y1, rfl⟩ := len2 hxl
  rw [e] at hf
  have g0 := hf 0 _ rfl
  have g1 := hf 1 _ rfl
  simp [cRows12, cBools12] at g0 g1
  obtain ⟨nv, N, e0, hN⟩ := open_rows_of g0
  obtain ⟨fv, F, e1, hF⟩ := open_bools_of g1
  obtain rfl : v0 = nv := by simpa using e0
  obtain rfl : v1 = fv := by simpa using e1
  obtain ⟨cl⟩ := cs
  have e2 : cl = [v0, v1] := by simpa [Value.cells] using e
  subst e2
  exact ⟨N, F, v0, v1, rfl, hN, hF⟩
end
end Go.Proofs.YtleafbbcgebmpaaDoor
