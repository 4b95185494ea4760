/-
  Slices of bytes and of ints that came in: what the walks are told of them.
-/
import Derived.Test.YtahgjhpcfmjjkaaDoorSame
import Derived.Test.YtahgjhpcfmjjkaaDoorLay
namespace Go.Proofs.YtahgjhpcfmjjkaaDoor
open Go.ChangeShapes Go.WideShapes Go.ChangeAt Go.RowKit
set_option linter.unusedVariables false

/-- WHAT IS KNOWN OF A SLICE OF INTEGERS THAT CAME IN: it is nil; or it leads to a row of 'cap' cells, the numbers 'zs' (the first 'len' are its elements). -/
def IsRow (k : IntKind) (w : World) (a : Option Addr) (len cap : Nat) (zs : List Int) : Prop :=
  (a = none ∧ len = 0 ∧ cap = 0 ∧ zs = []) ∨
  ∃ x, a = some x ∧ len ≤ cap ∧ cap ≤ maxLen ∧ zs.length = cap ∧ (∀ i, i < zs.length → w.cell? (x.add i) = some (.int k (zs.getD i 0))) ∧ ∀ n ∈ zs, (Lit.int k n).wf = true

theorem cell_some_lt {w : World} {a : Addr} {v : Value} (h : w.cell? a = some v) : a.block < w.heap.size := by
  rcases Nat.lt_or_ge a.block w.heap.size with q | q
  · exact q
  · simp [World.cell?, Array.getElem?_eq_none q] at h

theorem IsRow.take {k : IntKind} {w : World} {a : Option Addr} {len cap : Nat} {zs : List Int} (h : IsRow k w a len cap zs) : (zs.take len).length = len ∧ len ≤ cap ∧ ((zs.take len = [] ∧ len = 0) ∨ ∃ b off, a = some ⟨b, off, none⟩ ∧ b < w.heap.size ∧ ∀ j, j < len → w.cell? ⟨b, off + j, none⟩ = some (.int k ((zs.take len)[j]?.getD 0))) := by
  rcases h with ⟨rfl, rfl, rfl, rfl⟩ | ⟨x, rfl, hl, hm, hz, hc, hw⟩
  · exact ⟨rfl, Nat.le_refl _, .inl ⟨rfl, rfl⟩⟩
  · refine ⟨by rw [List.length_take]; omega, hl, ?_⟩
    by_cases h0 : len = 0
    · exact .inl ⟨by rw [h0]; simp, h0⟩
    · right
      obtain ⟨b, off, spot⟩ := x
      have hc0 := hc 0 (by omega)
      obtain rfl : spot = none := by simpa [Addr.add] using World.cell?_spot hc0
      have hadd : ∀ j, (⟨b, off, none⟩ : Addr).add j = ⟨b, off + j, none⟩ := fun j => by unfold Addr.add; split <;> simp_all
      refine ⟨b, off, rfl, by have := cell_some_lt hc0; rwa [hadd] at this, fun j hj => ?_⟩
      have := hc j (by omega)
      rw [hadd] at this
      rw [this]
      simp [List.getD, hj]

theorem IsRow.bytes {w : World} {a : Option Addr} {len cap : Nat} {zs : List Int} (h : IsRow .u8 w a len cap zs) : ∃ l, l.length = len ∧ Byt l ∧ BytesAt w.heap.size w (.slice a len cap) l := by
  have hb : Byt zs := by
    rcases h with ⟨_, _, _, rfl⟩ | ⟨x, _, _, _, _, _, hw⟩
    · intro c hc; cases hc
    · intro c hc
      have := hw c hc
      simpa [Lit.wf, IntKind.min, IntKind.max, IntKind.signed, IntKind.bits] using this
  obtain ⟨h1, h2, h3⟩ := h.take
  refine ⟨zs.take len, h1, byt_take hb len, ?_⟩
  rcases h3 with ⟨q1, q2⟩ | ⟨b, off, rfl, hlt, hc⟩
  · exact .inl ⟨a, cap, by rw [q2], q1⟩
  · exact .inr ⟨b, off, cap, by rw [h1], by omega, hlt, fun j hj => hc j (by omega)⟩

theorem IsRow.ints {w : World} {a : Option Addr} {len cap : Nat} {zs : List Int} (h : IsRow .i64 w a len cap zs) : ∃ l, l.length = len ∧ IntsIn w (.slice a len cap) l := by
  obtain ⟨h1, h2, h3⟩ := h.take
  refine ⟨zs.take len, h1, a, cap, by rw [h1], by omega, fun i hi => ?_⟩
  rcases h3 with ⟨q1, q2⟩ | ⟨b, off, rfl, hlt, hc⟩
  · omega
  · exact ⟨b, off, rfl, hlt, hc i (by omega)⟩
end Go.Proofs.YtahgjhpcfmjjkaaDoor
