/-
  Arguments of the types api.Node and []uint64.
-/
import Derived.Test.YtehkaiohmcenbaaDoorGA
import Derived.WalkKit
import Derived.ProofKit
import Derived.OpenShut
import Derived.ChangeOld
import Derived.Below
import Derived.SizedLaws
import Derived.Deep.SlicePairs
namespace Go.Proofs.YtehkaiohmcenbaaDoor
open Go.ChangeShapes Go.WideShapes Go.ChangeAt Go.RowKit Go.Deep
set_option linter.unusedVariables false

theorem own : ownKnob Tryd.prog.godebug = none := by kernel_rfl
theorem laidOut : laidOutB Tryd.prog = true := by kernel_rfl
theorem cInt8 : Tryd.prog.cellsOf 3 = 1 := by kernel_rfl
theorem cU64 : Tryd.prog.cellsOf 42 = 1 := by kernel_rfl
theorem cNodes8 : Tryd.prog.cellsOf 22 = 1 := by kernel_rfl
theorem cNode8 : Tryd.prog.cellsOf 24 = 3 := by kernel_rfl
theorem len3 {α : Type} {l : List α} (h : l.length = 3) : ∃ a b c, l = [a, b, c] := by
  match l, h with
  | [a, b, c], _ => exact ⟨a, b, c, rfl⟩
section
variable {H : Type} {enc : TypeId × Value → H} {W : World}

/-- An expression's three cells. -/
theorem open_node_of {fuel : Nat} (ih : ∀ m, m < fuel → ∀ (cs : List Value) (x : DataW H × List MemPlace), DataW.trod enc Tryd.prog W 0 (fun _ => true) true m 22 cs = some x → ∃ z l, cs = [z] ∧ KidS (fun k => k < W.heap.size) W m z l)
    {cs : List Value} {x : DataW H × List MemPlace} (h : DataW.trod enc Tryd.prog W 0 (fun _ => true) true fuel 24 cs = some x) : ∃ (k s : Int) (z : Value) (l : List Nd), cs = [.int .i64 k, .int .i64 s, z] ∧ KidS (fun k => k < W.heap.size) W fuel z l := by
  obtain ⟨xs, n, rfl, _, hlen, hxl, hf⟩ := DataW.trod_struct Tryd.underlying24 h
  rw [cNode8] at hlen
  obtain ⟨v0, v1, v2, rfl⟩ := len3 hlen
  obtain ⟨y0, y1, y2, rfl⟩ := len3 hxl
  have g0 := hf 0 _ rfl
  have g1 := hf 1 _ rfl
  have g2 := hf 2 _ rfl
  simp [cInt8, cNodes8] at g0 g1 g2
  obtain ⟨n0, e0, _⟩ := DataW.trod_int Tryd.underlying3 g0
  obtain ⟨n1, e1, _⟩ := DataW.trod_int Tryd.underlying3 g1
  obtain ⟨z, l, e2, hk⟩ := ih n (by omega) _ _ g2
  obtain rfl : v0 = .int .i64 n0 := by simpa using e0
  obtain rfl : v1 = .int .i64 n1 := by simpa using e1
  obtain rfl : v2 = z := by simpa using e2
  exact ⟨n0, n1, _, l, rfl, hk.up⟩
theorem open_kids (fuel : Nat) : ∀ (cs : List Value) (x : DataW H × List MemPlace), DataW.trod enc Tryd.prog W 0 (fun _ => true) true fuel 22 cs = some x → ∃ z l, cs = [z] ∧ KidS (fun k => k < W.heap.size) W fuel z l := by
  induction fuel using Nat.strongRecOn with
  | _ fuel ih =>
    intro cs x h
    rcases DataW.trod_slice Tryd.underlying22 h with ⟨rfl, _⟩ | ⟨a, len, cap, elems, rest, n, rfl, rfl, _, _, hl, _, hlen, hel, _, _⟩
    · exact ⟨_, [], rfl, kidS_nil _ _ _ _ _⟩
    · have each : ∀ i, i < len → ∃ q : (Int × Int) × Value × List Nd, W.cell? (a.add (i * 3)) = some (.int .i64 q.1.1) ∧ W.cell? (a.add (i * 3 + 1)) = some (.int .i64 q.1.2) ∧ W.cell? (a.add (i * 3 + 2)) = some q.2.1 ∧ KidS (fun k => k < W.heap.size) W n q.2.1 q.2.2 := fun i hi => by
        have h1 := hel i hi
        rw [List.getElem?_eq_getElem (by omega), Option.bind_eq_some_iff] at h1
        obtain ⟨cs', c1, c2⟩ := h1
        obtain ⟨k, s, z, l, rfl, hk⟩ := open_node_of (fun m hm => ih m (by omega)) c2
        rw [cNode8] at c1
        obtain ⟨_, _, hcell⟩ := World.cells?_some c1
        have c0 := hcell 0 (by omega)
        have c1' := hcell 1 (by omega)
        have c2' := hcell 2 (by omega)
        rw [add_add] at c0 c1' c2'
        exact ⟨((k, s), z, l), by simpa using c0, by simpa using c1', by simpa using c2', hk⟩
      haveI : Inhabited Nd := ⟨⟨0, 0, []⟩⟩
      obtain ⟨q, hq⟩ := choose_lt each
      have hlen2 : ((List.range len).map fun i => (⟨(q i).1.1, (q i).1.2, (q i).2.2⟩ : Nd)).length = len := by simp
      refine ⟨_, (List.range len).map fun i => ⟨(q i).1.1, (q i).1.2, (q i).2.2⟩, rfl, some a, cap, by rw [hlen2], by rw [hlen2]; exact hl, fun i hi => ?_⟩
      rw [hlen2] at hi
      obtain ⟨c0, c1, c2, hk⟩ := hq i hi
      have eg : ((List.range len).map fun i => (⟨(q i).1.1, (q i).1.2, (q i).2.2⟩ : Nd))[i]'(by rw [hlen2]; exact hi) = ⟨(q i).1.1, (q i).1.2, (q i).2.2⟩ := by simp
      rw [eg]
      obtain ⟨b, off, spot⟩ := a
      have hsp : spot = none := by simpa [Addr.add] using World.cell?_spot (hq 0 (by omega)).1
      subst hsp
      rw [addr_add] at c0 c1 c2
      exact ⟨b, off, (q i).2.1, rfl, cell_some_lt c0, c0, c1, c2, hk⟩
set_option maxRecDepth 100000 in
/-- An expression that came in. -/
theorem open_node {v : Value} {d : DataW H} {p : List MemPlace} (hv : Value.okWide Tryd.prog W .any 0 24 v) (h : DataW.Trod enc Tryd.prog W 0 (fun _ => true) true 24 v d p) :
    ∃ (n : Nd) (z : Value), v = ndV n z ∧ KdX (fun k => k < W.heap.size) W z n.kids := by
  obtain ⟨cs, rfl, _⟩ := okWide_struct Tryd.underlying24 hv
  obtain ⟨fuel, h⟩ := h
  obtain ⟨k, s, z, l, e, hk⟩ := open_node_of (fun m _ => open_kids m) h
  have e2 : cs.toList = [.int .i64 k, .int .i64 s, z] := by simpa [Value.cells] using e
  refine ⟨⟨k, s, l⟩, z, ?_, fuel, hk⟩
  obtain ⟨cl⟩ := cs
  simp at e2
  rw [e2]
  rfl
theorem u64_wf {n : Int} (h : (Lit.int .u64 n).wf = true) : ∃ m : Nat, n = (m : Int) ∧ m < 18446744073709551616 := by
  simp only [Lit.wf, Bool.and_eq_true, decide_eq_true_eq] at h
  have h1 : IntKind.u64.min = 0 := by kernel_rfl
  have h2 : IntKind.u64.max = 18446744073709551615 := by kernel_rfl
  rw [h1, h2] at h
  exact ⟨n.toNat, by omega, by omega⟩
/-- A word that came in. -/
theorem open_word {v : Value} {d : DataW H} {p : List MemPlace} (h : DataW.Trod enc Tryd.prog W 0 (fun _ => true) true 36 v d p) (hv : ∃ a len cap, v = .slice a len cap) :
    ∃ (ws : List Nat) (wa : Option Addr) (wc : Nat), v = .slice wa ws.length wc ∧ WrdAt W.heap.size W v ws ∧ (wa = none → wc = 0) := by
  obtain ⟨a0, len0, cap0, rfl⟩ := hv
  obtain ⟨fuel, h⟩ := h
  rcases open_slice1 Tryd.underlying36 cU64 h with ⟨e, _⟩ | ⟨a, len, cap, m, n, V, D, Pl, e, _, hl, _, hmm, _, hcell⟩
  · obtain ⟨rfl, rfl, rfl⟩ : a0 = none ∧ len0 = 0 ∧ cap0 = 0 := by simpa [Value.cells] using e
    exact ⟨[], none, 0, rfl, ⟨none, 0, rfl, Nat.le_refl _, fun i hi => by cases hi⟩, fun _ => rfl⟩
  · obtain ⟨rfl, rfl, rfl⟩ : a0 = some a ∧ len0 = len ∧ cap0 = cap := by simpa [Value.cells] using e
    have hmc : m = cap0 := by simpa using hmm
    subst hmc
    have each : ∀ i, i < len0 → ∃ q : Nat, W.cell? (a.add i) = some (.int .u64 (q : Int)) ∧ q < 18446744073709551616 := fun i hi => by
      obtain ⟨c0, h1⟩ := hcell i (by omega)
      obtain ⟨k, ek, _, hwf⟩ := DataW.trod_int Tryd.underlying42 h1
      obtain ⟨q, rfl, hq⟩ := u64_wf hwf
      have : V i = .int .u64 (q : Int) := by simpa using ek
      rw [this] at c0
      exact ⟨q, c0, hq⟩
    obtain ⟨q, hq⟩ := choose_lt each
    obtain ⟨b, off, spot⟩ := a
    have hlen : ((List.range len0).map q).length = len0 := by simp
    refine ⟨(List.range len0).map q, _, m, by rw [hlen], ⟨_, m, by rw [hlen], by rw [hlen]; exact hl, fun i hi => ?_⟩, fun e => by cases e⟩
    rw [hlen] at hi
    obtain ⟨c0, hlt⟩ := hq i hi
    have hsp : spot = none := by simpa [Addr.add] using World.cell?_spot (hq 0 (by omega)).1
    subst hsp
    rw [addr_add] at c0
    have eg : ((List.range len0).map q)[i]'(by rw [hlen]; exact hi) = q i := by simp
    rw [eg]
    exact ⟨hlt, b, off, rfl, cell_some_lt c0, c0⟩
end
end Go.Proofs.YtehkaiohmcenbaaDoor
