/-
  Arguments of the types [][]api.Range and []int.
-/
import Derived.Test.YtmknifnhcgdkaaaX08
import Derived.Test.YtmknifnhcgdkaaaX37
import Derived.Deep.Matrix
namespace Go.Proofs.Ytmknifnhcgdkaaa
open Go.ChangeShapes Go.WideShapes Go.ChangeAt Go.RowKit Go.Deep
set_option linter.unusedVariables false

theorem cRngs9 : Try.prog.cellsOf 46 = 1 := by kernel_rfl
section
variable {H : Type} {enc : TypeId × Value → H} {W : World}
theorem open_rngs {fuel : Nat} {cs : List Value} {x : DataW H × List MemPlace} (h : DataW.trod enc Try.prog W 0 (fun _ => true) true fuel 46 cs = some x) : ∃ v l, cs = [v] ∧ RngSrc W v l := by
  rcases open_slice_pairs Try.underlying46 Try.underlying51 (by kernel_rfl) rfl rfl (by kernel_rfl) (by kernel_rfl) h with ⟨hcs, hx⟩ | ⟨x, len, c, m, n, V0, V1, D0, D1, P0, P1, hcs, _, hl, hm, hmm, hx, hcell⟩
  · exact ⟨_, [], hcs, RngSrc.nil _⟩
  · have hmc : m = c := by simpa using hmm
    subst hmc
    have hz : ∀ i, i < m → ∃ q : Int × Int, V0 i = .int .i64 q.1 ∧ V1 i = .int .i64 q.2 := fun i hi => by
      obtain ⟨_, _, h0, h1⟩ := hcell i hi
      obtain ⟨n0, e0, _⟩ := DataW.trod_int Try.underlying3 h0
      obtain ⟨n1, e1, _⟩ := DataW.trod_int Try.underlying3 h1
      exact ⟨(n0, n1), by simpa using e0, by simpa using e1⟩
    obtain ⟨q, hq⟩ := choose_lt hz
    obtain ⟨b, off, spot⟩ := x
    have hlen : ((List.range len).map fun i => (⟨(q i).1, (q i).2⟩ : Rg)).length = len := by simp
    have hget : ∀ i, (h : i < ((List.range len).map fun i => (⟨(q i).1, (q i).2⟩ : Rg)).length) → ((List.range len).map fun i => (⟨(q i).1, (q i).2⟩ : Rg))[i] = ⟨(q i).1, (q i).2⟩ := fun i h => by simp
    have hsp : 0 < len → spot = none := fun h0 => by
      have hc0 := (hcell 0 (by omega)).1
      simpa [Addr.add] using World.cell?_spot hc0
    have hrng : RngIn W (.slice (some ⟨b, off, spot⟩) len m) ((List.range len).map fun i => (⟨(q i).1, (q i).2⟩ : Rg)) := by
      refine ⟨_, m, by rw [hlen], by rw [hlen]; exact hl, fun i hi => ?_⟩
      rw [hlen] at hi
      obtain rfl := hsp (by omega)
      obtain ⟨c0, c1, _, _⟩ := hcell i (by omega)
      obtain ⟨e0, e1⟩ := hq i (by omega)
      rw [e0] at c0
      rw [e1] at c1
      rw [addr_add] at c0 c1
      rw [hget i (by rw [hlen]; exact hi)]
      exact ⟨b, off, rfl, cell_some_lt c0, c0, c1⟩
    refine ⟨_, (List.range len).map fun i => (⟨(q i).1, (q i).2⟩ : Rg), hcs, hrng, .inr ⟨_, m, by rw [hlen], by rw [cellsRs_length], fun j u hj => ?_, cellsRs_one _⟩⟩
    have hjl : j < len * 2 := by
      have := (List.getElem?_eq_some_iff.1 hj).1
      rwa [cellsRs_length, hlen] at this
    have hlt : j / 2 < len := by omega
    have hxx := cellsRs_at ((List.range len).map fun i => (⟨(q i).1, (q i).2⟩ : Rg)) (j / 2) (j % 2) (by rw [hlen]; exact hlt) (by omega)
    have e1 : j / 2 * 2 + j % 2 = j := by omega
    rw [e1, hj, hget _ (by rw [hlen]; exact hlt)] at hxx
    obtain rfl := hsp (by omega)
    obtain ⟨c0, c1, _, _⟩ := hcell (j / 2) (by omega)
    obtain ⟨f0, f1⟩ := hq (j / 2) (by omega)
    rw [f0] at c0
    rw [f1] at c1
    rcases Nat.mod_two_eq_zero_or_one j with z | z
    · rw [z] at hxx
      have e : j / 2 * 2 = j := by omega
      rw [e] at c0
      rw [c0]
      simpa [cellsR] using hxx.symm
    · rw [z] at hxx
      have e : j / 2 * 2 + 1 = j := by omega
      rw [e] at c1
      rw [c1]
      simpa [cellsR] using hxx.symm
theorem open_sets {fuel : Nat} {cs : List Value} {x : DataW H × List MemPlace} (h : DataW.trod enc Try.prog W 0 (fun _ => true) true fuel 22 cs = some x) : ∃ sv st, cs = [sv] ∧ StsIn W sv st := by
  rcases open_slice1 Try.underlying22 cRngs9 h with ⟨rfl, _⟩ | ⟨a, len, cap, m, n, V, D, Pl, rfl, _, hl, _, hmm, _, hcell⟩
  · exact ⟨_, [], rfl, none, 0, rfl, by simp, fun i hi => (by cases hi)⟩
  · have hmc : m = cap := by simpa using hmm
    subst hmc
    have each : ∀ i, i < len → ∃ q : List Rg, RngSrc W (V i) q := fun i hi => by
      obtain ⟨_, h1⟩ := hcell i (by omega)
      obtain ⟨v, l, e, hr⟩ := open_rngs h1
      obtain rfl : V i = v := by simpa using e
      exact ⟨l, hr⟩
    obtain ⟨q, hq⟩ := choose_lt each
    obtain ⟨b, off, spot⟩ := a
    have hlen : ((List.range len).map q).length = len := by simp
    refine ⟨_, (List.range len).map q, rfl, _, m, by rw [hlen], by rw [hlen]; exact hl, fun i hi => ?_⟩
    rw [hlen] at hi
    obtain ⟨c0, _⟩ := hcell i (by omega)
    have hsp : spot = none := by simpa [Addr.add] using World.cell?_spot (hcell 0 (by omega)).1
    subst hsp
    rw [addr_add] at c0
    have eg : ((List.range len).map q)[i]'(by rw [hlen]; exact hi) = q i := by simp
    rw [eg]
    exact ⟨b, off, V i, rfl, cell_some_lt c0, c0, hq i hi⟩
end
theorem open_stsS {H : Type} {enc : TypeId × Value → H} {W : World} {v : Value} {d : DataW H} {p : List MemPlace}
    (h : DataW.Trod enc Try.prog W 0 (fun _ => true) true 22 v d p) (hv : ∃ a len cap, v = .slice a len cap) : ∃ l : List (List Rg), StsIn W v l := by
  obtain ⟨fuel, hf⟩ := h
  obtain ⟨a, len, cap, rfl⟩ := hv
  obtain ⟨sv, st, e, hs⟩ := open_sets hf
  obtain rfl : .slice a len cap = sv := by simpa [Value.cells] using e
  exact ⟨st, hs⟩
theorem open_intsS {H : Type} {enc : TypeId × Value → H} {W : World} {a : Option Addr} {len cap : Nat} {d : DataW H} {p : List MemPlace}
    (h : DataW.Trod enc Try.prog W 0 (fun _ => true) true 23 (.slice a len cap) d p) : ∃ l : List Int, l.length = len ∧ IntsIn W (.slice a len cap) l := by
  obtain ⟨fuel, hf⟩ := h
  rcases open_ints Try.underlying23 Try.underlying3 (by kernel_rfl) hf with ⟨hcs, _⟩ | ⟨x, l, c, zs, hcs, _, hl, hmx, hz, _, hcell, hwz⟩
  · simp [Value.cells] at hcs
    obtain ⟨rfl, rfl, rfl⟩ := hcs
    exact ⟨[], rfl, none, 0, rfl, Nat.le_refl _, (fun i hi => by cases hi)⟩
  · simp [Value.cells] at hcs
    obtain ⟨rfl, rfl, rfl⟩ := hcs
    have hzl : zs.length = cap := by simpa using hz
    have hlen : (zs.take len).length = len := by rw [List.length_take]; omega
    refine ⟨zs.take len, hlen, some x, cap, by rw [hlen], by rw [hlen]; exact hl, fun i hi => ?_⟩
    rw [hlen] at hi
    have hci := hcell i (by omega)
    obtain ⟨b, off, spot⟩ := x
    obtain rfl : spot = none := by
      have hc0 := hcell 0 (by omega)
      simpa [Addr.add] using World.cell?_spot hc0
    rw [addr_add] at hci
    refine ⟨b, off, rfl, cell_some_lt hci, ?_⟩
    rw [hci]
    have hiz : i < zs.length := by omega
    simp [hiz]
end Go.Proofs.Ytmknifnhcgdkaaa
