/-
  What scansionref02.with answers: a range more behind a row of the call's own, or its last one grown. What ranges.choose answers of two sets: the one list of the numbers that the closure takes; and what Or, And, Less, Not answer.
-/
import Derived.Test.YtmknifnhcgdkaaaX04
import Derived.Shelf.Abstract
namespace Go.Proofs.Ytmknifnhcgdkaaa
open Go.RowKit
set_option linter.unusedVariables false

set_option maxRecDepth 100000 in
set_option maxHeartbeats 2000000 in
theorem with_any (base : Nat) (l : List Rg) (lo hi : Int) (v : Value) (w : World) (hlen : l.length ≤ 600000) (hbd : -10 ≤ lo ∧ lo ≤ 2000000) (hbase : base ≤ w.heap.size) (hown : w.ownsRow base 51 2 v l.length (cellsRs l)) :
    Calls Try.prog 58 #[v, .int .i64 lo, .int .i64 hi] w fun e w' => ∃ v', e = .returned v' ∧ w'.ownsRow base 51 2 v' (withL l lo hi).length (cellsRs (withL l lo hi)) ∧ Below base w w' := by
  obtain ⟨i0, hi0, hz0, hz1, hz2⟩ := info_parts Try.infoRange
  obtain ⟨a, cap, rfl, hc, hcell⟩ := rng_of_row hown
  have HO : Hid (w.ownsRow base 51 2 (.slice a l.length cap) l.length (cellsRs l)) := hown
  clear hown
  rcases list_last l with rfl | ⟨ini, s, rfl⟩
  · have HO2 : Hid ((w.alloc (.cells #[.int .i64 lo, .int .i64 hi] 51)).ownsRow base 51 2 (.slice a 0 cap) 0 []) := World.ownsRow.alloc HO.out _
    have HN : Hid _ := heap_new' w (.cells #[.int .i64 lo, .int .i64 hi] 51)
    have HB : Hid (Below base w (w.alloc (.cells #[.int .i64 lo, .int .i64 hi] 51))) := (Below.refl base w).alloc hbase _
    rw [withL_nil]
    clear hcell HO
    have hid : decide ((0 : Int) < 0) = false := rfl
    go_enter Try.func58, Try.ntmps58
    go_wp2_with (at_builtin; go_must (refine wpList_append_own _ rfl (.tmp 30) (.tmp 34) 46 rfl base 51 i0 (.agg #[.int .i64 0, .int .i64 0]) 2 16 Try.underlying46 hi0 hz0 hz1 hz2 rfl (by decide) _ _ _ rfl HO2.out ⟨w.heap.size, 0, none⟩ 1 1 (cellsR ⟨lo, hi⟩) rfl rfl (World.news_of_block HN.out) (by simp [cellsR, Value.oneCell']) (by unfold maxLen; omega) (by omega) (by simp; omega) ?_); intro v' w1 hown' hgrow hnil)
    go_ret
    exact ⟨v', rfl, by simpa [cellsRs] using hown', HB.out.grown hgrow (by simp; omega) (fun j e => (World.ownsRow.lt HO2.out j e).1)⟩
  · have hl1 : (ini ++ [s]).length = ini.length + 1 := by simp
    have hle : ini.length + 1 ≤ 600000 := by rw [← hl1]; exact hlen
    obtain ⟨g, off, rfl, hg, c0, c1⟩ := hcell ini.length (by omega)
    have e1 : (ini ++ [s])[ini.length]'(by omega) = s := by simp
    rw [e1] at c0 c1
    have hoff : off = 0 ∧ base ≤ g := by
      rcases HO.out.2 with ⟨e, _⟩ | ⟨g', cap', cur, e, hb, _⟩
      · cases e
      · simp at e; exact ⟨e.1.2, by rw [e.1.1]; exact hb⟩
    obtain ⟨hoff, hbg⟩ := hoff
    subst hoff
    simp only [Nat.zero_add] at c0 c1
    rw [hl1] at HO hc ⊢
    have f1 : w.frozen? ⟨g, ini.length * 2 + 1, none⟩ = false := own_frozen HO.out _
    clear hcell hlen e1
    have hn0 : (0 : Int) < (ini.length : Int) + 1 := by omega
    by_cases q : s.hi = lo - 1
    · rw [withL_join q]
      have hq : (s.hi == lo - 1) = true := by simp [q]
      clear q
      have HO4 : Hid ((w.setCell ⟨g, ini.length * 2 + 1, none⟩ (.int .i64 hi)).ownsRow base 51 2 (.slice (some ⟨g, 0, none⟩) (ini.length + 1) cap) (ini ++ [(⟨s.lo, hi⟩ : Rg)]).length (cellsRs (ini ++ [⟨s.lo, hi⟩]))) := by
        have := own_grow (base := base) (g := g) (cap := cap) (ini := ini) (s := s) (w := w) (by rw [hl1]; exact HO.out) hi
        rw [hl1] at this
        exact this
      have HB4 : Hid (Below base w (w.setCell ⟨g, ini.length * 2 + 1, none⟩ (.int .i64 hi))) := (Below.refl base w).setCell (p := ⟨g, ini.length * 2 + 1, none⟩) hbg _
      clear HO
      go_enter Try.func58, Try.ntmps58
      go_wp2
      go_ret
      exact ⟨.slice (some ⟨g, 0, none⟩) (ini.length + 1) cap, rfl, HO4.out, HB4.out⟩
    · rw [withL_snoc q]
      have hq : (s.hi == lo - 1) = false := by simp [q]
      clear q
      have HO3 : Hid ((w.alloc (.cells #[.int .i64 lo, .int .i64 hi] 51)).ownsRow base 51 2 (.slice (some ⟨g, 0, none⟩) (ini.length + 1) cap) (ini.length + 1) (cellsRs (ini ++ [s]))) := World.ownsRow.alloc HO.out _
      have HN3 : Hid _ := heap_new' w (.cells #[.int .i64 lo, .int .i64 hi] 51)
      have HB3 : Hid (Below base w (w.alloc (.cells #[.int .i64 lo, .int .i64 hi] 51))) := (Below.refl base w).alloc hbase _
      clear HO
      go_enter Try.func58, Try.ntmps58
      go_wp2_with (at_builtin; go_must (refine wpList_append_own _ rfl (.tmp 30) (.tmp 34) 46 rfl base 51 i0 (.agg #[.int .i64 0, .int .i64 0]) 2 16 Try.underlying46 hi0 hz0 hz1 hz2 rfl (by decide) _ _ _ rfl HO3.out ⟨w.heap.size, 0, none⟩ 1 1 (cellsR ⟨lo, hi⟩) rfl rfl (World.news_of_block HN3.out) (by simp [cellsR, Value.oneCell']) (by unfold maxLen; omega) (by omega) (by simp; omega) ?_); intro v' w1 hown' hgrow hnil)
      go_ret
      refine ⟨v', rfl, ?_, HB3.out.grown hgrow (by simp; omega) (fun j e => (World.ownsRow.lt HO3.out j e).1)⟩
      rw [cellsRs_snoc]
      simpa using hown'
end Go.Proofs.Ytmknifnhcgdkaaa

namespace Go.Proofs.Ytmknifnhcgdkaaa
open Go.RowKit Go.Shelf
set_option linter.unusedVariables false

/-- A set: its ranges rise and do not touch, from 0 to 10FFFF. -/
def IsSet (a : List Rg) : Prop := NormFrom 0 a ∧ ∀ r ∈ a, r.hi ≤ 1114111
theorem IsSet.upto {a : List Rg} (h : IsSet a) : Upto (hasR a) a 1114112 := by
  refine ⟨h.1, fun x => ?_⟩
  cases q : hasR a x with
  | false => exact (decide_eq_false (fun z => by cases z.2.2)).symm
  | true =>
    obtain ⟨r, hr, z1, z2⟩ := hasR_iff.1 q
    have := h.2 r hr
    have := h.1.ord r hr
    exact (decide_eq_true ⟨by omega, by omega, rfl⟩).symm
theorem Upto.isSet {f : Int → Bool} {a : List Rg} (h : Upto f a 1114112) : IsSet a := ⟨h.1, fun r hr => by have := h.hi r hr; omega⟩
theorem IsSet.len {a : List Rg} (h : IsSet a) : a.length ≤ 557056 := h.upto.len (by omega) (by omega)
theorem IsSet.nil : IsSet [] := ⟨trivial, fun r hr => by cases hr⟩

/-- The closure g answers f, and turns nothing. -/
def Takes (g : Nat) (f : Bool → Bool → Bool) : Prop := ∀ x y w, Calls Try.prog g #[.bool x, .bool y] w fun e w' => e = .returned (.bool (f x y)) ∧ w' = w

end Go.Proofs.Ytmknifnhcgdkaaa
