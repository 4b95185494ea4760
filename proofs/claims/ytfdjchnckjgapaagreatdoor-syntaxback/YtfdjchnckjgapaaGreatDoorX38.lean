/-
  RefTxt SrcP Arg8
-/
import Derived.Test.YtfdjchnckjgapaaGreatDoorX37
import Derived.BigQuiet
import Derived.Test.YtfdjchnckjgapaaGreatDoorX33
import Derived.Test.YtfdjchnckjgapaaGreatDoorX32
import Derived.Test.YtfdjchnckjgapaaGreatDoorX35
import Derived.Deep.SlicePairs
namespace Go.Proofs.YtfdjchnckjgapaaGreatDoor
open Go.RowKit Go.Shelf S1
set_option linter.unusedVariables false
end Go.Proofs.YtfdjchnckjgapaaGreatDoor

namespace Go.Proofs.YtfdjchnckjgapaaGreatDoor
open Go.RowKit Go.Shelf S1
set_option linter.unusedVariables false
def SetSrc (w : World) (sv : Value) (st : Sts) : Prop :=
  ∃ a cap, sv = .slice a st.length cap ∧ st.length ≤ cap ∧ ∀ i, (h : i < st.length) → ∃ g off x, a = some ⟨g, off, none⟩ ∧ g < w.heap.size ∧ w.cell? ⟨g, off + i, none⟩ = some x ∧ RngSrc w x st[i]
theorem SetSrc.in {w : World} {sv : Value} {st : Sts} (h : SetSrc w sv st) : SetIn w sv st := by
  obtain ⟨a, cap, e, hc, hi⟩ := h
  refine ⟨a, cap, e, hc, fun i hlt => ?_⟩
  obtain ⟨g, off, x, h1, h2, h3, h4⟩ := hi i hlt
  exact ⟨g, off, x, h1, h2, h3, h4.1⟩
end Go.Proofs.YtfdjchnckjgapaaGreatDoor

namespace Go.Proofs.YtfdjchnckjgapaaGreatDoor
open Go.ChangeShapes Go.WideShapes Go.ChangeAt Go.RowKit Go.Deep S1
set_option linter.unusedVariables false
theorem cInt8 : Tryz.prog.cellsOf 3 = 1 := by kernel_rfl
theorem cBool8 : Tryz.prog.cellsOf 4 = 1 := by kernel_rfl
theorem cNodes8 : Tryz.prog.cellsOf 37 = 1 := by kernel_rfl
theorem cNode8 : Tryz.prog.cellsOf 39 = 3 := by kernel_rfl
theorem cRule8 : Tryz.prog.cellsOf 41 = 7 := by kernel_rfl
theorem cRules8 : Tryz.prog.cellsOf 25 = 1 := by kernel_rfl
theorem cRngs8 : Tryz.prog.cellsOf 43 = 1 := by kernel_rfl
theorem cProg8 : Tryz.prog.cellsOf 27 = 2 := by kernel_rfl
theorem cSets8 : Tryz.prog.cellsOf 24 = 1 := by kernel_rfl
theorem len2 {α : Type} {l : List α} (h : l.length = 2) : ∃ a b, l = [a, b] := by
  match l, h with
  | [a, b], _ => exact ⟨a, b, rfl⟩
theorem len3 {α : Type} {l : List α} (h : l.length = 3) : ∃ a b c, l = [a, b, c] := by
  match l, h with
  | [a, b, c], _ => exact ⟨a, b, c, rfl⟩
theorem len7 {α : Type} {l : List α} (h : l.length = 7) : ∃ a b c d e f g, l = [a, b, c, d, e, f, g] := by
  match l, h with
  | [a, b, c, d, e, f, g], _ => exact ⟨a, b, c, d, e, f, g, rfl⟩
section
variable {H : Type} {enc : TypeId × Value → H} {W : World}
theorem kidS_nil (Q : Nat → Prop) (w : World) (f : Nat) (a : Option Addr) (cap : Nat) : KidS Q w f (.slice a 0 cap) [] := by
  cases f with
  | zero => exact ⟨rfl, a, cap, rfl⟩
  | succ f => exact ⟨a, cap, rfl, Nat.zero_le _, fun i h => (by cases h)⟩
theorem open_node_of {fuel : Nat} (ih : ∀ m, m < fuel → ∀ (cs : List Value) (x : DataW H × List MemPlace), DataW.trod enc Tryz.prog W 0 (fun _ => true) true m 37 cs = some x → ∃ z l, cs = [z] ∧ KidS (fun k => k < W.heap.size) W m z l)
    {cs : List Value} {x : DataW H × List MemPlace} (h : DataW.trod enc Tryz.prog W 0 (fun _ => true) true fuel 39 cs = some x) : ∃ (k s : Int) (z : Value) (l : List Nd), cs = [.int .i64 k, .int .i64 s, z] ∧ KidS (fun k => k < W.heap.size) W fuel z l := by
  obtain ⟨xs, n, rfl, _, hlen, hxl, hf⟩ := DataW.trod_struct Tryz.underlying39 h
  rw [cNode8] at hlen
  obtain ⟨v0, v1, v2, rfl⟩ := len3 hlen
  obtain ⟨y0, y1, y2, rfl⟩ := len3 hxl
  have g0 := hf 0 _ rfl
  have g1 := hf 1 _ rfl
  have g2 := hf 2 _ rfl
  simp [cInt8, cNodes8] at g0 g1 g2
  obtain ⟨n0, e0, _⟩ := DataW.trod_int Tryz.underlying3 g0
  obtain ⟨n1, e1, _⟩ := DataW.trod_int Tryz.underlying3 g1
  obtain ⟨z, l, e2, hk⟩ := ih n (by omega) _ _ g2
  obtain rfl : v0 = .int .i64 n0 := by simpa using e0
  obtain rfl : v1 = .int .i64 n1 := by simpa using e1
  obtain rfl : v2 = z := by simpa using e2
  exact ⟨n0, n1, _, l, rfl, hk.up⟩
theorem open_kids (fuel : Nat) : ∀ (cs : List Value) (x : DataW H × List MemPlace), DataW.trod enc Tryz.prog W 0 (fun _ => true) true fuel 37 cs = some x → ∃ z l, cs = [z] ∧ KidS (fun k => k < W.heap.size) W fuel z l := by
  induction fuel using Nat.strongRecOn with
  | _ fuel ih =>
    intro cs x h
    rcases DataW.trod_slice Tryz.underlying37 h with ⟨rfl, _⟩ | ⟨a, len, cap, elems, rest, n, rfl, rfl, _, _, hl, _, hlen, hel, _, _⟩
    · exact ⟨_, [], rfl, kidS_nil _ _ _ _ _⟩
    · have each : ∀ i, i < len → ∃ q : (Int × Int) × Value × List Nd, W.cell? (a.add (i * 3)) = some (.int .i64 q.1.1) ∧ W.cell? (a.add (i * 3 + 1)) = some (.int .i64 q.1.2) ∧ W.cell? (a.add (i * 3 + 2)) = some q.2.1 ∧ KidS (fun k => k < W.heap.size) W n q.2.1 q.2.2 := fun i hi => by
        have h1 := hel i hi
        rw [List.getElem?_eq_getElem (by omega), Option.bind_eq_some_iff] at h1
        obtain ⟨cs', c1, c2⟩ := h1
        obtain ⟨k, s, z, l, rfl, hk⟩ := open_node_of (fun m hm => ih m (by omega)) c2
        rw [cNode8] at c1
        obtain ⟨_, _, hcell⟩ := World.cells?_some c1
        have c0 := hcell 0 (by omega)
        have c1' := hcell 1 (by omega)
        have c2' := hcell 2 (by omega)
        rw [add_add] at c0 c1' c2'
        exact ⟨((k, s), z, l), by simpa using c0, by simpa using c1', by simpa using c2', hk⟩
      obtain ⟨q, hq⟩ := choose_lt each
      have hlen2 : ((List.range len).map fun i => (⟨(q i).1.1, (q i).1.2, (q i).2.2⟩ : Nd)).length = len := by simp
      refine ⟨_, (List.range len).map fun i => ⟨(q i).1.1, (q i).1.2, (q i).2.2⟩, rfl, some a, cap, by rw [hlen2], by rw [hlen2]; exact hl, fun i hi => ?_⟩
      rw [hlen2] at hi
      obtain ⟨c0, c1, c2, hk⟩ := hq i hi
      have eg : ((List.range len).map fun i => (⟨(q i).1.1, (q i).1.2, (q i).2.2⟩ : Nd))[i]'(by rw [hlen2]; exact hi) = ⟨(q i).1.1, (q i).1.2, (q i).2.2⟩ := by simp
      rw [eg]
      obtain ⟨b, off, spot⟩ := a
      have hsp : spot = none := by simpa [Addr.add] using World.cell?_spot (hq 0 (by omega)).1
      subst hsp
      rw [addr_add7] at c0 c1 c2
      exact ⟨b, off, (q i).2.1, rfl, cell_lt7 c0, c0, c1, c2, hk⟩
theorem open_rngs {fuel : Nat} {cs : List Value} {x : DataW H × List MemPlace} (h : DataW.trod enc Tryz.prog W 0 (fun _ => true) true fuel 43 cs = some x) : ∃ v l, cs = [v] ∧ RngSrc W v l := by
  rcases open_slice_pairs Tryz.underlying43 Tryz.underlying94 (by kernel_rfl) rfl rfl (by kernel_rfl) (by kernel_rfl) h with ⟨hcs, hx⟩ | ⟨x, len, c, m, n, V0, V1, D0, D1, P0, P1, hcs, _, hl, hm, hmm, hx, hcell⟩
  · exact ⟨_, [], hcs, RngSrc.nil _⟩
  · have hmc : m = c := by simpa using hmm
    subst hmc
    have hz : ∀ i, i < m → ∃ q : Int × Int, V0 i = .int .i64 q.1 ∧ V1 i = .int .i64 q.2 := fun i hi => by
      obtain ⟨_, _, h0, h1⟩ := hcell i hi
      obtain ⟨n0, e0, _⟩ := DataW.trod_int Tryz.underlying3 h0
      obtain ⟨n1, e1, _⟩ := DataW.trod_int Tryz.underlying3 h1
      exact ⟨(n0, n1), by simpa using e0, by simpa using e1⟩
    obtain ⟨q, hq⟩ := choose_lt hz
    obtain ⟨b, off, spot⟩ := x
    have hlen : ((List.range len).map fun i => (⟨(q i).1, (q i).2⟩ : Rg)).length = len := by simp
    have hget : ∀ i, (h : i < ((List.range len).map fun i => (⟨(q i).1, (q i).2⟩ : Rg)).length) → ((List.range len).map fun i => (⟨(q i).1, (q i).2⟩ : Rg))[i] = ⟨(q i).1, (q i).2⟩ := fun i h => by simp
    have hsp : 0 < len → spot = none := fun h0 => by
      have hc0 := (hcell 0 (by omega)).1
      simpa [Addr.add] using World.cell?_spot hc0
    have hrng : RngIn W (.slice (some ⟨b, off, spot⟩) len m) ((List.range len).map fun i => (⟨(q i).1, (q i).2⟩ : Rg)) := by
      refine ⟨_, m, by rw [hlen], by rw [hlen]; exact hl, fun i hi => ?_⟩
      rw [hlen] at hi
      obtain rfl := hsp (by omega)
      obtain ⟨c0, c1, _, _⟩ := hcell i (by omega)
      obtain ⟨e0, e1⟩ := hq i (by omega)
      rw [e0] at c0
      rw [e1] at c1
      rw [addr_add7] at c0 c1
      rw [hget i (by rw [hlen]; exact hi)]
      exact ⟨b, off, rfl, cell_lt7 c0, c0, c1⟩
    refine ⟨_, (List.range len).map fun i => (⟨(q i).1, (q i).2⟩ : Rg), hcs, hrng, .inr ⟨_, m, by rw [hlen], by rw [cellsRs_length], fun j u hj => ?_, cellsRs_one _⟩⟩
    have hjl : j < len * 2 := by
      have := (List.getElem?_eq_some_iff.1 hj).1
      rwa [cellsRs_length, hlen] at this
    have hlt : j / 2 < len := by omega
    have hxx := cellsRs_at ((List.range len).map fun i => (⟨(q i).1, (q i).2⟩ : Rg)) (j / 2) (j % 2) (by rw [hlen]; exact hlt) (by omega)
    have e1 : j / 2 * 2 + j % 2 = j := by omega
    rw [e1, hj, hget _ (by rw [hlen]; exact hlt)] at hxx
    obtain rfl := hsp (by omega)
    obtain ⟨c0, c1, _, _⟩ := hcell (j / 2) (by omega)
    obtain ⟨f0, f1⟩ := hq (j / 2) (by omega)
    rw [f0] at c0
    rw [f1] at c1
    rcases Nat.mod_two_eq_zero_or_one j with z | z
    · rw [z] at hxx
      have e : j / 2 * 2 = j := by omega
      rw [e] at c0
      rw [c0]
      simpa [cellsR] using hxx.symm
    · rw [z] at hxx
      have e : j / 2 * 2 + 1 = j := by omega
      rw [e] at c1
      rw [c1]
      simpa [cellsR] using hxx.symm
theorem open_sets {fuel : Nat} {cs : List Value} {x : DataW H × List MemPlace} (h : DataW.trod enc Tryz.prog W 0 (fun _ => true) true fuel 24 cs = some x) : ∃ sv st, cs = [sv] ∧ SetSrc W sv st := by
  rcases open_slice1 Tryz.underlying24 cRngs8 h with ⟨rfl, _⟩ | ⟨a, len, cap, m, n, V, D, Pl, rfl, _, hl, _, hmm, _, hcell⟩
  · exact ⟨_, [], rfl, none, 0, rfl, by simp, fun i hi => (by cases hi)⟩
  · have hmc : m = cap := by simpa using hmm
    subst hmc
    have each : ∀ i, i < len → ∃ q : List Rg, RngSrc W (V i) q := fun i hi => by
      obtain ⟨_, h1⟩ := hcell i (by omega)
      obtain ⟨v, l, e, hr⟩ := open_rngs h1
      obtain rfl : V i = v := by simpa using e
      exact ⟨l, hr⟩
    obtain ⟨q, hq⟩ := choose_lt each
    obtain ⟨b, off, spot⟩ := a
    have hlen : ((List.range len).map q).length = len := by simp
    refine ⟨_, (List.range len).map q, rfl, _, m, by rw [hlen], by rw [hlen]; exact hl, fun i hi => ?_⟩
    rw [hlen] at hi
    obtain ⟨c0, _⟩ := hcell i (by omega)
    have hsp : spot = none := by simpa [Addr.add] using World.cell?_spot (hcell 0 (by omega)).1
    subst hsp
    rw [addr_add7] at c0
    have eg : ((List.range len).map q)[i]'(by rw [hlen]; exact hi) = q i := by simp
    rw [eg]
    exact ⟨b, off, V i, rfl, cell_lt7 c0, c0, hq i hi⟩
theorem open_rules {fuel : Nat} {cs : List Value} {x : DataW H × List MemPlace} (h : DataW.trod enc Tryz.prog W 0 (fun _ => true) true fuel 25 cs = some x) : ∃ rv rl, cs = [rv] ∧ RulIn W rv rl := by
  rcases DataW.trod_slice Tryz.underlying25 h with ⟨rfl, _⟩ | ⟨a, len, cap, elems, rest, n, rfl, rfl, _, _, hl, _, hlen, hel, _, _⟩
  · exact ⟨_, [], rfl, none, 0, rfl, by simp, fun i hi => (by cases hi)⟩
  · have each : ∀ i, i < len → ∃ q : (Bool × (Int × Int) × (Int × Int)) × (List Nd × List Nd) × (Value × Value), W.cell? (a.add (i * 7)) = some (.bool q.1.1) ∧ W.cell? (a.add (i * 7 + 1)) = some (.int .i64 q.1.2.1.1) ∧ W.cell? (a.add (i * 7 + 2)) = some (.int .i64 q.1.2.1.2) ∧ W.cell? (a.add (i * 7 + 3)) = some q.2.2.1 ∧ W.cell? (a.add (i * 7 + 4)) = some (.int .i64 q.1.2.2.1) ∧ W.cell? (a.add (i * 7 + 5)) = some (.int .i64 q.1.2.2.2) ∧ W.cell? (a.add (i * 7 + 6)) = some q.2.2.2 ∧
        KdX (fun k => k < W.heap.size) W q.2.2.1 q.2.1.1 ∧ KdX (fun k => k < W.heap.size) W q.2.2.2 q.2.1.2 := fun i hi => by
      have h1 := hel i hi
      rw [List.getElem?_eq_getElem (by omega), Option.bind_eq_some_iff] at h1
      obtain ⟨cs', c1, c2⟩ := h1
      rw [cRule8] at c1
      obtain ⟨_, hl7, hcell⟩ := World.cells?_some c1
      obtain ⟨xs, k, _, _, _, hxl, hf⟩ := DataW.trod_struct Tryz.underlying41 c2
      obtain ⟨v0, v1, v2, v3, v4, v5, v6, rfl⟩ := len7 hl7
      obtain ⟨y0, y1, y2, rfl⟩ := len3 hxl
      have g0 := hf 0 _ rfl
      have g1 := hf 1 _ rfl
      have g2 := hf 2 _ rfl
      simp [cBool8, cNode8] at g0 g1 g2
      obtain ⟨bb, e0, _⟩ := DataW.trod_bool Tryz.underlying4 g0
      obtain ⟨k1, s1, z1, l1, e1, hk1⟩ := open_node_of (fun m _ => open_kids m) g1
      obtain ⟨k2, s2, z2, l2, e2, hk2⟩ := open_node_of (fun m _ => open_kids m) g2
      obtain rfl : v0 = .bool bb := by simpa using e0
      simp only [List.cons.injEq, and_true] at e1 e2
      obtain ⟨rfl, rfl, rfl⟩ := e1
      obtain ⟨rfl, rfl, rfl⟩ := e2
      have d0 := hcell 0 (by omega)
      have d1 := hcell 1 (by omega)
      have d2 := hcell 2 (by omega)
      have d3 := hcell 3 (by omega)
      have d4 := hcell 4 (by omega)
      have d5 := hcell 5 (by omega)
      have d6 := hcell 6 (by omega)
      rw [add_add] at d0 d1 d2 d3 d4 d5 d6
      exact ⟨((bb, (k1, s1), (k2, s2)), (l1, l2), (v3, v6)), by simpa using d0, by simpa using d1, by simpa using d2, by simpa using d3, by simpa using d4, by simpa using d5, by simpa using d6, ⟨_, hk1⟩, ⟨_, hk2⟩⟩
    obtain ⟨q, hq⟩ := choose_lt each
    have hlen2 : ((List.range len).map fun i => (⟨(q i).1.1, ⟨(q i).1.2.1.1, (q i).1.2.1.2, (q i).2.1.1⟩, ⟨(q i).1.2.2.1, (q i).1.2.2.2, (q i).2.1.2⟩⟩ : Rl)).length = len := by simp
    refine ⟨_, (List.range len).map fun i => (⟨(q i).1.1, ⟨(q i).1.2.1.1, (q i).1.2.1.2, (q i).2.1.1⟩, ⟨(q i).1.2.2.1, (q i).1.2.2.2, (q i).2.1.2⟩⟩ : Rl), rfl, some a, cap, by rw [hlen2], by rw [hlen2]; exact hl, fun i hi => ?_⟩
    rw [hlen2] at hi
    obtain ⟨c0, c1, c2, c3, c4, c5, c6, k1, k2⟩ := hq i hi
    have eg : ((List.range len).map fun i => (⟨(q i).1.1, ⟨(q i).1.2.1.1, (q i).1.2.1.2, (q i).2.1.1⟩, ⟨(q i).1.2.2.1, (q i).1.2.2.2, (q i).2.1.2⟩⟩ : Rl))[i]'(by rw [hlen2]; exact hi) = (⟨(q i).1.1, ⟨(q i).1.2.1.1, (q i).1.2.1.2, (q i).2.1.1⟩, ⟨(q i).1.2.2.1, (q i).1.2.2.2, (q i).2.1.2⟩⟩ : Rl) := by simp
    rw [eg]
    obtain ⟨b, off, spot⟩ := a
    have hsp : spot = none := by simpa [Addr.add] using World.cell?_spot (hq 0 (by omega)).1
    subst hsp
    rw [addr_add7] at c0 c1 c2 c3 c4 c5 c6
    exact ⟨b, off, (q i).2.2.1, (q i).2.2.2, rfl, cell_lt7 c0, c0, c1, c2, c3, c4, c5, c6, k1, k2⟩
set_option maxRecDepth 100000 in

theorem open_program {v : Value} {d : DataW H} {p : List MemPlace} (hv : Value.okWide Tryz.prog W .any 0 27 v) (h : DataW.Trod enc Tryz.prog W 0 (fun _ => true) true 27 v d p) :
    ∃ sv rv st rl, v = .agg #[sv, rv] ∧ SetSrc W sv st ∧ RulIn W rv rl := by
  obtain ⟨cs, rfl, _⟩ := okWide_struct Tryz.underlying27 hv
  obtain ⟨fuel, h⟩ := h
  obtain ⟨xs, n, _, _, hl, hxl, hf⟩ := DataW.trod_struct Tryz.underlying27 h
  have hl2 : cs.toList.length = 2 := by simpa [Value.cells] using hl.trans cProg8
  obtain ⟨cl⟩ := cs
  obtain ⟨sv, rv, rfl⟩ := len2 (l := cl) hl2
  obtain ⟨y0, y1, rfl⟩ := len2 hxl
  have g0 := hf 0 _ rfl
  have g1 := hf 1 _ rfl
  simp [Value.cells, cSets8, cRules8] at g0 g1
  obtain ⟨z, st, e0, hs⟩ := open_sets g0
  obtain ⟨y, rl, e1, hr⟩ := open_rules g1
  obtain rfl : sv = z := by simpa using e0
  obtain rfl : rv = y := by simpa using e1
  exact ⟨sv, rv, st, rl, rfl, hs, hr⟩
end
end Go.Proofs.YtfdjchnckjgapaaGreatDoor
