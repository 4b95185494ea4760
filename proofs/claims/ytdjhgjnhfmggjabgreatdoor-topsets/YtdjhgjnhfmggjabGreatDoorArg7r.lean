/-
  An argument of type []api.Range, that is read alone.
-/
import Derived.Test.YtdjhgjnhfmggjabGreatDoorArg7
import Derived.Test.YtdjhgjnhfmggjabGreatDoorMem
import Derived.SizedLaws
namespace Go.Proofs.YtdjhgjnhfmggjabGreatDoor
open Go.ChangeShapes Go.WideShapes Go.ChangeAt Go.RowKit Go.Deep
set_option linter.unusedVariables false

theorem open_rangesR {H : Type} {enc : TypeId × Value → H} {W : World} {a : Option Addr} {len cap : Nat} {d : DataW H} {p : List MemPlace}
    (h : DataW.Trod enc Tryz.prog W 0 (fun _ => true) true 22 (.slice a len cap) d p) : ∃ l : List Rg, l.length = len ∧ RngIn W (.slice a len cap) l := by
  obtain ⟨fuel, hf⟩ := h
  rcases open_slice_pairs Tryz.underlying22 Tryz.underlying27 (by kernel_rfl) rfl rfl (by kernel_rfl) (by kernel_rfl) hf with ⟨hcs, hx⟩ | ⟨x, l, c, m, n, V0, V1, D0, D1, P0, P1, hcs, _, hl, hm, hmm, hx, hcell⟩
  · simp [Value.cells] at hcs
    obtain ⟨rfl, rfl, rfl⟩ := hcs
    exact ⟨[], rfl, RngAt.nil _ _⟩
  · simp [Value.cells] at hcs
    obtain ⟨rfl, rfl, rfl⟩ := hcs
    have hmc : m = cap := by simpa using hmm
    subst hmc
    have hz : ∀ i, i < m → ∃ q : Int × Int, V0 i = .int .i64 q.1 ∧ V1 i = .int .i64 q.2 := fun i hi => by
      obtain ⟨_, _, h0, h1⟩ := hcell i hi
      obtain ⟨n0, e0, _⟩ := DataW.trod_int Tryz.underlying3 h0
      obtain ⟨n1, e1, _⟩ := DataW.trod_int Tryz.underlying3 h1
      exact ⟨(n0, n1), by simpa using e0, by simpa using e1⟩
    obtain ⟨q, hq⟩ := choose_lt hz
    obtain ⟨b, off, spot⟩ := x
    have hlen : ((List.range len).map fun i => (⟨(q i).1, (q i).2⟩ : Rg)).length = len := by simp
    have hget : ∀ i, (h : i < ((List.range len).map fun i => (⟨(q i).1, (q i).2⟩ : Rg)).length) → ((List.range len).map fun i => (⟨(q i).1, (q i).2⟩ : Rg))[i] = ⟨(q i).1, (q i).2⟩ := fun i h => by simp
    have hsp : 0 < len → spot = none := fun h0 => by
      have hc0 := (hcell 0 (by omega)).1
      simpa [Addr.add] using World.cell?_spot hc0
    refine ⟨_, hlen, _, m, by rw [hlen], by rw [hlen]; exact hl, fun i hi => ?_⟩
    rw [hlen] at hi
    obtain rfl := hsp (by omega)
    obtain ⟨c0, c1, _, _⟩ := hcell i (by omega)
    obtain ⟨e0, e1⟩ := hq i (by omega)
    rw [e0] at c0
    rw [e1] at c1
    rw [addr_add7] at c0 c1
    rw [hget i (by rw [hlen]; exact hi)]
    exact ⟨b, off, rfl, cell_lt7 c0, c0, c1⟩
end Go.Proofs.YtdjhgjnhfmggjabGreatDoor
