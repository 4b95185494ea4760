/-
  Numbers that were handed in, and how many they may be.
-/
import Derived.Test.YtehkaiohmcenbabDoorArg12
namespace Go.Proofs.YtehkaiohmcenbabDoor
open Go.ChangeShapes Go.WideShapes Go.ChangeAt Go.RowKit Go.Deep
set_option linter.unusedVariables false

section
variable {H : Type} {enc : TypeId × Value → H} {W : World}
theorem open_ints_z {v : Value} {d : DataW H} {p : List MemPlace} (h : DataW.Trod enc Tryd.prog W 0 (fun _ => true) true 28 v d p) (hv : ∃ a len cap, v = .slice a len cap) : ∃ l : List Int, IntsAt W v l ∧ ((d = .nil ∧ l.length = 0) ∨ ∃ es sp, d = .slice es sp ∧ es.length = l.length) := by
  obtain ⟨l, hl⟩ := open_ints h hv
  refine ⟨l, hl, ?_⟩
  obtain ⟨a0, len0, cap0, rfl⟩ := hv
  obtain ⟨fuel, h⟩ := h
  obtain ⟨a1, c1, e1, _⟩ := hl.slice
  rcases open_slice1 Tryd.underlying28 cInt8 h with ⟨e, hx⟩ | ⟨a, len, cap, m, n, V, D, Pl, e, _, hl, _, hmm, hx, hcell⟩
  · left
    have e2 : Value.slice a0 len0 cap0 = .slice none 0 0 := by simpa [Value.cells] using e
    rw [e1] at e2
    injection e2 with _ h2 _
    exact ⟨(Prod.mk.inj hx).1, h2⟩
  · right
    have e2 : Value.slice a0 len0 cap0 = .slice (some a) len cap := by simpa [Value.cells] using e
    rw [e1] at e2
    injection e2 with _ h2 _
    exact ⟨_, _, (Prod.mk.inj hx).1, by simp [h2]⟩
end
end Go.Proofs.YtehkaiohmcenbabDoor
