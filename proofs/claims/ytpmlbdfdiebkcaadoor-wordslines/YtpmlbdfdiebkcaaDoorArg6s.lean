/-
  An argument of type []int that is appended.
-/
import Derived.Test.YtpmlbdfdiebkcaaDoorLayU
import Derived.Test.YtpmlbdfdiebkcaaDoorApp6
namespace Go.Proofs.YtpmlbdfdiebkcaaDoor
open Go.ChangeShapes Go.WideShapes Go.ChangeAt Go.RowKit Go.Deep
set_option linter.unusedVariables false

theorem open_intsSrc {H : Type} {enc : TypeId × Value → H} {W : World} {a : Option Addr} {len cap : Nat} {d : DataW H} {p : List MemPlace}
    (h : DataW.Trod enc Tryd.prog W 0 (fun _ => true) true 22 (.slice a len cap) d p) : ∃ l : List Int, l.length = len ∧ (IntsAt W.heap.size W (.slice a len cap) l ∧ SrcIs W (.slice a len cap) l.length 1 (cellI l)) := by
  obtain ⟨fuel, hf⟩ := h
  rcases open_ints Tryd.underlying22 Tryd.underlying3 (by kernel_rfl) hf with ⟨hcs, _⟩ | ⟨x, l, c, zs, hcs, _, hl, hmx, hz, _, hcell, hwz⟩
  · simp [Value.cells] at hcs
    obtain ⟨rfl, rfl, rfl⟩ := hcs
    exact ⟨[], rfl, ⟨none, 0, rfl, Nat.le_refl _, (fun i hi => by cases hi)⟩, .inl ⟨rfl, rfl, rfl⟩⟩
  · simp [Value.cells] at hcs
    obtain ⟨rfl, rfl, rfl⟩ := hcs
    have hzl : zs.length = cap := by simpa using hz
    have hlen : (zs.take len).length = len := by rw [List.length_take]; omega
    have hat : ∀ i, (hi : i < (zs.take len).length) → W.cell? (x.add i) = some (.int .i64 (zs.take len)[i]) := fun i hi => by
      rw [hlen] at hi
      have hci := hcell i (by omega)
      rw [hci]
      have hiz : i < zs.length := by omega
      simp [hiz]
    refine ⟨zs.take len, hlen, ⟨some x, cap, by rw [hlen], by rw [hlen]; exact hl, fun i hi => ?_⟩, .inr ⟨x, cap, by rw [hlen], by rw [cellI_length, Nat.mul_one], fun j u hj => ?_, fun u hu => ?_⟩⟩
    · have hci := hat i hi
      obtain ⟨b, off, spot⟩ := x
      obtain rfl : spot = none := by
        have hc0 := hat 0 (by omega)
        simpa [Addr.add] using World.cell?_spot hc0
      rw [addr_add] at hci
      exact ⟨b, off, rfl, cell_some_lt hci, hci⟩
    · have hlt : j < (zs.take len).length := by
        have := (List.getElem?_eq_some_iff.1 hj).1
        rwa [cellI_length] at this
      rw [hat j hlt]
      simp only [cellI, List.getElem?_map, List.getElem?_eq_getElem hlt, Option.map_some] at hj
      exact hj
    · obtain ⟨y, _, rfl⟩ := List.mem_map.1 hu
      rfl
end Go.Proofs.YtpmlbdfdiebkcaaDoor
