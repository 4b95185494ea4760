/-
  Slices of bytes, and bytes as strings; a condition that grows within a region.
-/
import Derived.Test.YtmknifnhcgdkaaaX30
import Derived.Test.YtmknifnhcgdkaaaX31
import Derived.Laws.BytesArg
namespace Go.Proofs.Ytmknifnhcgdkaaa.S3
open Go.RowKit
set_option linter.unusedVariables false

/-- The slice value v holds the bytes l, in a block below n. -/
def BytesAt (n : Nat) (w : World) (v : Value) (l : List Int) : Prop :=
  ∃ a cap, v = .slice a l.length cap ∧ l.length ≤ cap ∧ ∀ i, (h : i < l.length) → ∃ g off, a = some ⟨g, off, none⟩ ∧ g < n ∧ w.cell? ⟨g, off + i, none⟩ = some (.int .u8 l[i])
theorem BytesAt.below {n : Nat} {w w' : World} {v : Value} {l : List Int} (h : BytesAt n w v l) (hb : Below n w w') : BytesAt n w' v l := by
  obtain ⟨a, cap, rfl, hc, hi⟩ := h
  refine ⟨a, cap, rfl, hc, fun i hlt => ?_⟩
  obtain ⟨g, off, rfl, hg, h0⟩ := hi i hlt
  exact ⟨g, off, rfl, hg, (hb.cell (p := ⟨g, _, none⟩) hg).trans h0⟩
theorem BytesAt.mono {n m : Nat} {w : World} {v : Value} {l : List Int} (h : BytesAt n w v l) (hm : n ≤ m) : BytesAt m w v l := by
  obtain ⟨a, cap, rfl, hc, hi⟩ := h
  refine ⟨a, cap, rfl, hc, fun i hlt => ?_⟩
  obtain ⟨g, off, rfl, hg, h0⟩ := hi i hlt
  exact ⟨g, off, rfl, by omega, h0⟩
theorem bytes_of_row {w : World} {base : Nat} {v : Value} {l : List Int} (h : w.ownsRow base 5 1 v l.length (i8 l)) : BytesAt w.heap.size w v l := by
  rcases h.2 with ⟨rfl, h0⟩ | ⟨g, cap, cur, rfl, hb, hg, hc, hm, hs, ht⟩
  · exact ⟨none, 0, by rw [h0], by omega, fun i hi => by omega⟩
  · refine ⟨_, cap, rfl, hc, fun i hi => ⟨g, 0, rfl, heap_lt hg, ?_⟩⟩
    have := h.cells (g := g) rfl i (.int .u8 l[i]) (i8_get hi)
    rw [Addr.add_mid] at this
    exact this
theorem wpAnyB_mono {P : Program} {ops : Array Oper} {Q : Exit → Act → World → Prop} {md : Region.Mode} {S S' : World → Prop} {bad : List Nat} (h : ∀ w, S' w → S w) : ∀ {fuel : Nat} {listed : Array Bool} {a : Act} {w : World}, wpAnyB P md ops Q S' bad fuel listed a w → wpAnyB P md ops Q S bad fuel listed a w
  | 0, _, _, _, k => k
  | fuel + 1, _, _, _, k => ⟨k.1, fun i hi => wpOp_mono (fun a' w' h' => ⟨fun q => h w' (h'.1 q), wpAnyB_mono h h'.2⟩) (k.2 i hi)⟩
theorem yields_convert {P : Program} {ops : Array Oper} {S : World → Prop} {op : Oper} {a : Act} (hw : Region.wanted op (yielded ops a.tmps) = true) {src dst : TypeId} {x : Operand} (ho : op.op = .convert src dst x) {v res : Value}
    (hx : a.eval x = v) (hS : ∀ w, S w → (convert src dst v).run P w = .ok res w) : YieldsIf P ops S op res a :=
  .inl ⟨hw, fun w hw' => by
    have h := hS w hw'
    unfold execOp
    simp [ho, hx, h, Result.andThen]⟩
theorem BytesAt.conv {n : Nat} {w : World} {v : Value} {l : List Int} (h : BytesAt n w v l) : (convert 86 9 v).run Try.prog w = .ok (.string (strOfNums l)) w := by
  obtain ⟨a, cap, rfl, hc, hi⟩ := h
  by_cases h0 : l.length = 0
  · obtain rfl : l = [] := List.length_eq_zero_iff.1 h0
    cases a with
    | none =>
      rw [run_convert_bytes_nil w 86 5 Try.underlying86 Try.underlying5 _ _ 9 Try.underlying9]
      rfl
    | some ad =>
      have hl : (loadCells ad 0).run Try.prog w = .ok (([] : List Int).map (Value.int .u8)).toArray w := by
        simpa using run_loadCells_list (P := Try.prog) w ad [] (fun j v hj => by simp at hj)
      show (convert 86 9 (.slice (some ad) 0 cap)).run Try.prog w = _
      rw [run_convert_bytes_string w 86 9 5 _ 0 cap Try.underlying86 Try.underlying5 Try.underlying9, run_bytesToString w _ 0 cap [] hl, foldl_push_bytes]
      simp [strOfNums, ByteArray.empty, ByteArray.emptyWithCapacity]
      rfl
  · obtain ⟨g, off, rfl, _, _⟩ := hi 0 (by omega)
    refine run_convert_bytes_arg w 86 5 Try.underlying86 Try.underlying5 g off l.length cap l rfl (fun i hlt => ?_) 9 Try.underlying9
    obtain ⟨g', off', e, _, hcc⟩ := hi i hlt
    obtain ⟨rfl, rfl⟩ : g = g' ∧ off = off' := by simpa using e
    rw [hcc]
    simp [hlt]
end Go.Proofs.Ytmknifnhcgdkaaa.S3
