/-
  Bits: and with a small number, and of bytes the one or the other.
-/
import Derived.Test.YtpnkljfgdbkffaaReg2
import Derived.Laws.Bits64b
namespace Go.Proofs.Ytpnkljfgdbkffaa
open Go.RowKit
set_option linter.unusedVariables false

theorem and_small (a : Int) (m : Nat) (hm : m < 9223372036854775808) : ∃ k : Nat, k ≤ m ∧ bits .and .i64 a (m : Int) = (k : Int) := by
  have h2 : (BitVec.ofInt 64 (m : Int)).toNat = m := by
    rw [BitVec.ofInt_natCast, BitVec.toNat_ofNat]; exact Nat.mod_eq_of_lt (by omega)
  have hk : (BitVec.ofInt 64 a &&& BitVec.ofInt 64 (m : Int)).toNat ≤ m := by
    rw [BitVec.toNat_and, h2]
    exact Nat.and_le_right
  refine ⟨_, hk, ?_⟩
  show IntKind.i64.wrap ((BitVec.ofInt 64 a &&& BitVec.ofInt 64 (m : Int)).toNat : Int) = _
  exact IntWalk.i64_in _ (by omega)
theorem u8_wrap (x : Int) : IntKind.u8.wrap x = x % 256 := by simp [IntKind.wrap, IntKind.signed, IntKind.bits]
theorem xor_byte (a b : Int) : ∃ k : Nat, k ≤ 255 ∧ bits .xor .u8 a b = (k : Int) := by
  have hk : (BitVec.ofInt 8 a ^^^ BitVec.ofInt 8 b).toNat < 256 := (BitVec.ofInt 8 a ^^^ BitVec.ofInt 8 b).isLt
  refine ⟨_, Nat.le_of_lt_succ hk, ?_⟩
  show IntKind.u8.wrap ((BitVec.ofInt 8 a ^^^ BitVec.ofInt 8 b).toNat : Int) = _
  rw [u8_wrap]
  omega
/-- One byte of a row that a call made is turned. -/
theorem own_setByte {w : World} {base g k cap : Nat} {l : List Int} (h : w.ownsRow base 5 1 (.slice (some ⟨g, 0, none⟩) l.length cap) l.length (i8 l)) (hk : k < l.length) (z : Int) :
    (w.setCell ⟨g, k, none⟩ (.int .u8 z)).ownsRow base 5 1 (.slice (some ⟨g, 0, none⟩) (l.set k z).length cap) (l.set k z).length (i8 (l.set k z)) ∧ w.frozen? ⟨g, k, none⟩ = false ∧ w.cell? ⟨g, k, none⟩ = some (.int .u8 l[k]) ∧ base ≤ g := by
  have hc := h.cells (g := g) rfl k (.int .u8 l[k]) (i8_get hk)
  rw [Addr.add_mid, Nat.zero_add] at hc
  rcases h.2 with ⟨e, _⟩ | ⟨g', cap', cur, e, hb, hg, hn, hm, hs, ht⟩
  · cases e
  · obtain ⟨rfl, rfl⟩ : g = g' ∧ cap = cap' := by simpa using e
    refine ⟨⟨by rw [i8_length]; omega, .inr ⟨g, cap, (cur.toList.set k (.int .u8 z)).toArray, rfl, hb, ?_, by rw [List.length_set]; exact hn, hm, by simpa using hs, ?_⟩⟩, frozen_of_row _ _ _ _ _ hg, hc, hb⟩
    · exact heap_set_row (cs := cur.toList) (by simpa using hg) rfl
    · have e1 : (l.set k z).length * 1 = l.length * 1 := by rw [List.length_set]
      rw [e1]
      show (cur.toList.set k (.int .u8 z)).take (l.length * 1) = _
      rw [List.take_set, ht]
      unfold i8
      rw [List.map_set]
end Go.Proofs.Ytpnkljfgdbkffaa
