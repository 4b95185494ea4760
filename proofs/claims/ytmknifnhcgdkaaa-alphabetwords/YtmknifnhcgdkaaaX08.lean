/-
  Slices of ranges that came in: what the walks are told of them.
-/
import Derived.Test.YtmknifnhcgdkaaaX07
import Derived.WalkKit
import Derived.ProofKit
import Derived.OpenShut
import Derived.ChangeOld
import Derived.Below
import Derived.SizedLaws
import Derived.Deep.SlicePairs
namespace Go.Proofs.Ytmknifnhcgdkaaa
open Go.ChangeShapes Go.WideShapes Go.ChangeAt Go.RowKit Go.Deep
set_option linter.unusedVariables false

theorem own : ownKnob Try.prog.godebug = none := by kernel_rfl
theorem laidOut : laidOutB Try.prog = true := by kernel_rfl

theorem open_ranges {H : Type} {enc : TypeId × Value → H} {W : World} {a : Option Addr} {len cap : Nat} {d : DataW H} {p : List MemPlace}
    (h : DataW.Trod enc Try.prog W 0 (fun _ => true) true 46 (.slice a len cap) d p) :
    ∃ l : List Rg, l.length = len ∧ RngSrc W (.slice a len cap) l ∧ ((d = .nil ∧ len = 0) ∨ ∃ es sp, d = .slice es sp ∧ es.length = len) := by
  obtain ⟨fuel, hf⟩ := h
  rcases open_slice_pairs Try.underlying46 Try.underlying51 (by kernel_rfl) rfl rfl (by kernel_rfl) (by kernel_rfl) hf with ⟨hcs, hx⟩ | ⟨x, l, c, m, n, V0, V1, D0, D1, P0, P1, hcs, _, hl, hm, hmm, hx, hcell⟩
  · simp [Value.cells] at hcs
    obtain ⟨rfl, rfl, rfl⟩ := hcs
    exact ⟨[], rfl, RngSrc.nil _, .inl ⟨(Prod.mk.inj hx).1, rfl⟩⟩
  · simp [Value.cells] at hcs
    obtain ⟨rfl, rfl, rfl⟩ := hcs
    have hmc : m = cap := by simpa using hmm
    subst hmc
    have hz : ∀ i, i < m → ∃ q : Int × Int, V0 i = .int .i64 q.1 ∧ V1 i = .int .i64 q.2 := fun i hi => by
      obtain ⟨_, _, h0, h1⟩ := hcell i hi
      obtain ⟨n0, e0, _⟩ := DataW.trod_int Try.underlying3 h0
      obtain ⟨n1, e1, _⟩ := DataW.trod_int Try.underlying3 h1
      exact ⟨(n0, n1), by simpa using e0, by simpa using e1⟩
    obtain ⟨q, hq⟩ := choose_lt hz
    obtain ⟨b, off, spot⟩ := x
    have hlen : ((List.range len).map fun i => (⟨(q i).1, (q i).2⟩ : Rg)).length = len := by simp
    have hget : ∀ i, (h : i < ((List.range len).map fun i => (⟨(q i).1, (q i).2⟩ : Rg)).length) → ((List.range len).map fun i => (⟨(q i).1, (q i).2⟩ : Rg))[i] = ⟨(q i).1, (q i).2⟩ := fun i h => by simp
    have hsp : 0 < len → spot = none := fun h0 => by
      have hc0 := (hcell 0 (by omega)).1
      simpa [Addr.add] using World.cell?_spot hc0
    have hrng : RngIn W (.slice (some ⟨b, off, spot⟩) len m) ((List.range len).map fun i => (⟨(q i).1, (q i).2⟩ : Rg)) := by
      refine ⟨_, m, by rw [hlen], by rw [hlen]; exact hl, fun i hi => ?_⟩
      rw [hlen] at hi
      obtain rfl := hsp (by omega)
      obtain ⟨c0, c1, _, _⟩ := hcell i (by omega)
      obtain ⟨e0, e1⟩ := hq i (by omega)
      rw [e0] at c0
      rw [e1] at c1
      rw [addr_add] at c0 c1
      rw [hget i (by rw [hlen]; exact hi)]
      exact ⟨b, off, rfl, cell_some_lt c0, c0, c1⟩
    refine ⟨_, hlen, ⟨hrng, .inr ⟨_, m, by rw [hlen], by rw [cellsRs_length], fun j u hj => ?_, cellsRs_one _⟩⟩, .inr ⟨_, _, (Prod.mk.inj hx).1, by simp⟩⟩
    have hjl : j < len * 2 := by
      have := (List.getElem?_eq_some_iff.1 hj).1
      rwa [cellsRs_length, hlen] at this
    have hlt : j / 2 < len := by omega
    have hxx := cellsRs_at ((List.range len).map fun i => (⟨(q i).1, (q i).2⟩ : Rg)) (j / 2) (j % 2) (by rw [hlen]; exact hlt) (by omega)
    have e1 : j / 2 * 2 + j % 2 = j := by omega
    rw [e1, hj, hget _ (by rw [hlen]; exact hlt)] at hxx
    obtain rfl := hsp (by omega)
    obtain ⟨c0, c1, _, _⟩ := hcell (j / 2) (by omega)
    obtain ⟨f0, f1⟩ := hq (j / 2) (by omega)
    rw [f0] at c0
    rw [f1] at c1
    rcases Nat.mod_two_eq_zero_or_one j with z | z
    · rw [z] at hxx
      have e : j / 2 * 2 = j := by omega
      rw [e] at c0
      rw [c0]
      simpa [cellsR] using hxx.symm
    · rw [z] at hxx
      have e : j / 2 * 2 + 1 = j := by omega
      rw [e] at c1
      rw [c1]
      simpa [cellsR] using hxx.symm

theorem bytes_range : Try.prog.bytesOf 51 = 16 := by kernel_rfl
end Go.Proofs.Ytmknifnhcgdkaaa
