/-
  An argument of type [][]uint8.
-/
import Derived.Test.YtdjhgjnhfmggjaaDoorArg7
import Derived.Test.YtdjhgjnhfmggjaaDoorBkMath3
import Derived.Deep.Matrix
namespace Go.Proofs.YtdjhgjnhfmggjaaDoor
open Go.ChangeShapes Go.WideShapes Go.ChangeAt Go.RowKit Go.Deep S1
set_option linter.unusedVariables false

theorem open_rowsS {H : Type} {enc : TypeId × Value → H} {W : World} {a : Option Addr} {len cap : Nat} {d : DataW H} {p : List MemPlace}
    (h : DataW.Trod enc Tryd.prog W 0 (fun _ => true) true 32 (.slice a len cap) d p) : ∃ ls : List (List Int), ls.length = len ∧ (∀ l ∈ ls, Byt l) ∧ BytesIn W (.slice a len cap) ls := by
  obtain ⟨fuel, hf⟩ := h
  rcases open_int_rows Tryd.underlying32 Tryd.underlying27 Tryd.underlying5 (by kernel_rfl) (by kernel_rfl) hf with ⟨hcs, _⟩ | ⟨x, l, c, A, L, C, Z, hcs, _, hl, hmx, _, hrow⟩
  · simp [Value.cells] at hcs
    obtain ⟨rfl, rfl, rfl⟩ := hcs
    exact ⟨[], rfl, (fun l hl => by cases hl), none, 0, rfl, Nat.le_refl _, (fun i hi => by cases hi)⟩
  · simp [Value.cells] at hcs
    obtain ⟨rfl, rfl, rfl⟩ := hcs
    have hlen : ((List.range len).map fun r => (Z r).take (L r)).length = len := by simp
    refine ⟨(List.range len).map fun r => (Z r).take (L r), hlen, fun l hl' => ?_, some x, cap, by rw [hlen], by rw [hlen]; exact hl, fun i hi => ?_⟩
    · obtain ⟨r, hr, rfl⟩ := List.mem_map.1 hl'
      have hr' := List.mem_range.1 hr
      obtain ⟨_, _, _, _, hw, _, _⟩ := hrow r (by omega)
      intro z hz
      have := hw z (List.mem_of_mem_take hz)
      simpa [Lit.wf, IntKind.min, IntKind.max, IntKind.signed, IntKind.bits] using this
    · rw [hlen] at hi
      obtain ⟨hc, hLC, _, hZ, hw, hn, hs⟩ := hrow i (by omega)
      obtain ⟨b, off, spot⟩ := x
      have hsp : spot = none := by
        obtain ⟨hc0, _⟩ := hrow 0 (by omega)
        simpa [Addr.add] using World.cell?_spot hc0
      subst hsp
      have e : ((List.range len).map fun r => (Z r).take (L r))[i]'(by rw [hlen]; exact hi) = (Z i).take (L i) := by simp
      have el : ((Z i).take (L i)).length = L i := by rw [List.length_take]; omega
      rw [addr_add7] at hc
      refine ⟨b, off, rfl, cell_lt7 hc, A i, C i, by rw [e, el]; exact hc, ?_⟩
      rw [e, el]
      by_cases h0 : L i = 0
      · left
        exact ⟨A i, C i, by rw [h0], by rw [h0]; rfl⟩
      · right
        cases hA : A i with
        | none => have := hn hA; omega
        | some a' =>
          obtain ⟨_, hcc⟩ := hs a' hA
          obtain ⟨b', off', spot'⟩ := a'
          have hc0 := hcc 0 (by omega)
          obtain rfl : spot' = none := by simpa [Addr.add] using World.cell?_spot hc0
          refine ⟨b', off', C i, by rw [el], by rw [el]; exact hLC, ?_, fun j hj => ?_⟩
          · have := cell_lt7 hc0
            rwa [addr_add7] at this
          · rw [el] at hj
            have hci := hcc j (by omega)
            rw [addr_add7] at hci
            rw [hci]
            have hjz : j < (Z i).length := by omega
            simp [hj, hjz]
end Go.Proofs.YtdjhgjnhfmggjaaDoor
