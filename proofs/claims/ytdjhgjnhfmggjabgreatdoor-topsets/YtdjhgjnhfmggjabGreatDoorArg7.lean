/-
  An argument of type []uint8.
-/
import Derived.Test.YtdjhgjnhfmggjabGreatDoorLay7
import Derived.Test.YtdjhgjnhfmggjabGreatDoorS1Decode
import Derived.Deep.SlicePairs
namespace Go.Proofs.YtdjhgjnhfmggjabGreatDoor
open Go.ChangeShapes Go.WideShapes Go.ChangeAt Go.RowKit Go.Deep S1
set_option linter.unusedVariables false

/-- WHAT IS KNOWN OF BYTES THAT CAME IN: the slice holds the bytes l. -/
def ArgB (W : World) (v : Value) (l : List Int) : Prop := Byt l ∧ BytesAt W.heap.size W v l ∧ ∃ a cap, v = .slice a l.length cap ∧ (a = none → cap = 0)
theorem addr_add7 (b off j : Nat) : (⟨b, off, none⟩ : Addr).add j = ⟨b, off + j, none⟩ := by unfold Addr.add; split <;> simp_all
theorem cell_lt7 {w : World} {a : Addr} {v : Value} (h : w.cell? a = some v) : a.block < w.heap.size := by
  rcases Nat.lt_or_ge a.block w.heap.size with q | q
  · exact q
  · simp [World.cell?, Array.getElem?_eq_none q] at h
theorem open_bytesS {H : Type} {enc : TypeId × Value → H} {W : World} {a : Option Addr} {len cap : Nat} {d : DataW H} {p : List MemPlace}
    (h : DataW.Trod enc Tryz.prog W 0 (fun _ => true) true 32 (.slice a len cap) d p) : ∃ l : List Int, l.length = len ∧ ArgB W (.slice a len cap) l := by
  obtain ⟨fuel, hf⟩ := h
  rcases open_ints Tryz.underlying32 Tryz.underlying5 (by kernel_rfl) hf with ⟨hcs, _⟩ | ⟨x, l, c, zs, hcs, _, hl, hmx, hz, _, hcell, hwz⟩
  · simp [Value.cells] at hcs
    obtain ⟨rfl, rfl, rfl⟩ := hcs
    exact ⟨[], rfl, (fun c hc => by cases hc), .inl ⟨none, 0, rfl, rfl⟩, none, 0, rfl, fun _ => rfl⟩
  · simp [Value.cells] at hcs
    obtain ⟨rfl, rfl, rfl⟩ := hcs
    have hzl : zs.length = cap := by simpa using hz
    have hlen : (zs.take len).length = len := by rw [List.length_take]; omega
    refine ⟨zs.take len, hlen, fun c hc => ?_, ?_, some x, cap, by rw [hlen], fun h => by cases h⟩
    · have := hwz c (List.mem_of_mem_take hc)
      simpa [Lit.wf, IntKind.min, IntKind.max, IntKind.signed, IntKind.bits] using this
    · by_cases h0 : len = 0
      · left
        exact ⟨some x, cap, by rw [h0], by rw [h0]; rfl⟩
      · right
        obtain ⟨b, off, spot⟩ := x
        have hc0 := hcell 0 (by omega)
        obtain rfl : spot = none := by simpa [Addr.add] using World.cell?_spot hc0
        refine ⟨b, off, cap, by rw [hlen], by rw [hlen]; exact hl, ?_, fun j hj => ?_⟩
        · have := cell_lt7 hc0
          rwa [addr_add7] at this
        · have hci := hcell j (by omega)
          rw [addr_add7] at hci
          rw [hci]
          have hjz : j < zs.length := by omega
          have hjl : j < len := by omega
          simp [hjl]
end Go.Proofs.YtdjhgjnhfmggjabGreatDoor
