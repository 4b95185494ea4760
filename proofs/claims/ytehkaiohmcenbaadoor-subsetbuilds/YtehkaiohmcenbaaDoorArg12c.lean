/-
  Two numbers that were handed in as one array.
-/
import Derived.Test.YtehkaiohmcenbaaDoorArg12
import Derived.OpenShut
namespace Go.Proofs.YtehkaiohmcenbaaDoor
open Go.ChangeShapes Go.WideShapes Go.ChangeAt Go.RowKit Go.Deep
set_option linter.unusedVariables false

section
variable {H : Type} {enc : TypeId × Value → H} {W : World}
theorem cInt2 : Tryd.prog.cellsOf 43 = 2 := by kernel_rfl
set_option maxRecDepth 100000 in
theorem open_int2 {v : Value} {d : DataW H} {p : List MemPlace} (hv : Value.okWide Tryd.prog W .any 0 43 v) (h : DataW.Trod enc Tryd.prog W 0 (fun _ => true) true 43 v d p) : ∃ x y : Int, v = .agg #[.int .i64 x, .int .i64 y] := by
  obtain ⟨cs, rfl⟩ : ∃ cs, v = .agg cs := by
    simp only [Value.okWide, Tryd.underlying43] at hv
    obtain ⟨cs, h1, _⟩ := hv
    exact ⟨cs, h1⟩
  obtain ⟨fuel, h⟩ := h
  obtain ⟨xs, n, rfl, _, hlen, hxl, hf⟩ := DataW.trod_array Tryd.underlying43 h
  rw [cInt2] at hlen
  obtain ⟨v0, v1, e⟩ := len2 hlen
  obtain ⟨y0, y1, rfl⟩ := len2 hxl
  rw [e] at hf
  have g0 := hf 0 (by omega)
  have g1 := hf 1 (by omega)
  simp [cInt8] at g0 g1
  obtain ⟨k0, e0, _⟩ := DataW.trod_int Tryd.underlying3 g0
  obtain ⟨k1, e1, _⟩ := DataW.trod_int Tryd.underlying3 g1
  obtain rfl : v0 = .int .i64 k0 := by simpa using e0
  obtain rfl : v1 = .int .i64 k1 := by simpa using e1
  obtain ⟨cl⟩ := cs
  have e2 : cl = [.int .i64 k0, .int .i64 k1] := by simpa [Value.cells] using e
  subst e2
  exact ⟨k0, k1, rfl⟩
end
end Go.Proofs.YtehkaiohmcenbaaDoor
