/-
  What ranges.add answers: a range more behind a row of the call's own, or its last one grown. What ranges.stretch answers of a set.
-/
import Derived.Test.YtmknifnhcgdkaaaX03
import Derived.BigQuiet
import Derived.BigRegion
import Derived.RegionTactic
namespace Go.Proofs.Ytmknifnhcgdkaaa
open Go.RowKit
set_option linter.unusedVariables false

theorem heap_new2 (w : World) (o o' : Obj) : ((w.alloc o).alloc o').heap[w.heap.size + 1]? = some o' := by
  have := heap_new' (w.alloc o) o'
  rwa [World.size_alloc] at this

theorem own_frozen {w : World} {base e size n g m c : Nat} {xs : List Value} (h : w.ownsRow base e size (.slice (some ⟨g, 0, none⟩) m c) n xs) (j : Nat) : w.frozen? ⟨g, j, none⟩ = false := by
  rcases h.2 with ⟨e, _⟩ | ⟨g', cap', cur, e, hb, hg, _⟩
  · cases e
  · obtain ⟨rfl, _⟩ : g = g' ∧ _ := by simpa using e
    exact frozen_of_row _ _ _ _ _ hg

set_option maxRecDepth 100000 in
set_option maxHeartbeats 2000000 in
theorem add_any (base : Nat) (l : List Rg) (r : Rg) (v : Value) (w : World) (hlen : l.length ≤ 600000) (hbd : ∀ s ∈ l, -10 ≤ s.hi ∧ s.hi ≤ 2000000) (hbase : base ≤ w.heap.size) (hown : w.ownsRow base 51 2 v l.length (cellsRs l)) :
    Calls Try.prog 53 #[v, .agg #[.int .i64 r.lo, .int .i64 r.hi]] w fun e w' => ∃ v', e = .returned v' ∧ w'.ownsRow base 51 2 v' (addL l r).length (cellsRs (addL l r)) ∧ Below base w w' := by
  obtain ⟨i0, hi, hz0, hz1, hz2⟩ := info_parts Try.infoRange
  obtain ⟨a, cap, rfl, hc, hcell⟩ := rng_of_row hown
  have HO : Hid (w.ownsRow base 51 2 (.slice a l.length cap) l.length (cellsRs l)) := hown
  clear hown
  rcases list_last l with rfl | ⟨ini, s, rfl⟩
  · have HO2 : Hid (((w.alloc (.cells #[.int .i64 r.lo, .int .i64 r.hi] 51)).alloc (.cells #[.int .i64 r.lo, .int .i64 r.hi] 51)).ownsRow base 51 2 (.slice a 0 cap) 0 []) := (World.ownsRow.alloc HO.out _).alloc _
    have HN : Hid _ := heap_new2 w (.cells #[.int .i64 r.lo, .int .i64 r.hi] 51) (.cells #[.int .i64 r.lo, .int .i64 r.hi] 51)
    have HB : Hid (Below base w ((w.alloc (.cells #[.int .i64 r.lo, .int .i64 r.hi] 51)).alloc (.cells #[.int .i64 r.lo, .int .i64 r.hi] 51))) := ((Below.refl base w).alloc hbase _).alloc (by simp; omega) _
    rw [addL_nil]
    clear hcell HO
    go_enter Try.func53, Try.ntmps53
    go_wp2_with (at_builtin; go_must (refine wpList_append_own _ rfl (.tmp 33) (.tmp 35) 46 rfl base 51 i0 (.agg #[.int .i64 0, .int .i64 0]) 2 16 Try.underlying46 hi hz0 hz1 hz2 rfl (by decide) _ _ _ rfl HO2.out ⟨w.heap.size + 1, 0, none⟩ 1 1 (cellsR r) rfl rfl (World.news_of_block HN.out) (by simp [cellsR, Value.oneCell']) (by unfold maxLen; omega) (by omega) (by simp; omega) ?_); intro v' w1 hown' hgrow hnil)
    go_ret
    exact ⟨v', rfl, by simpa [cellsRs] using hown', HB.out.grown hgrow (by simp; omega) (fun j e => (World.ownsRow.lt HO2.out j e).1)⟩
  · have hl1 : (ini ++ [s]).length = ini.length + 1 := by simp
    have hbs := hbd s (by simp)
    have hle : ini.length + 1 ≤ 600000 := by rw [← hl1]; exact hlen
    obtain ⟨g, off, rfl, hg, c0, c1⟩ := hcell ini.length (by omega)
    have e1 : (ini ++ [s])[ini.length]'(by omega) = s := by simp
    rw [e1] at c0 c1
    have hoff : off = 0 ∧ base ≤ g := by
      rcases HO.out.2 with ⟨e, _⟩ | ⟨g', cap', cur, e, hb, _⟩
      · cases e
      · simp at e; exact ⟨e.1.2, by rw [e.1.1]; exact hb⟩
    obtain ⟨hoff, hbg⟩ := hoff
    subst hoff
    simp only [Nat.zero_add] at c0 c1
    rw [hl1] at HO hc ⊢
    have HO1 : Hid ((w.alloc (.cells #[.int .i64 r.lo, .int .i64 r.hi] 51)).ownsRow base 51 2 (.slice (some ⟨g, 0, none⟩) (ini.length + 1) cap) (ini.length + 1) (cellsRs (ini ++ [s]))) := World.ownsRow.alloc HO.out _
    have hB1 : Below base w (w.alloc (.cells #[.int .i64 r.lo, .int .i64 r.hi] 51)) := (Below.refl base w).alloc hbase _
    clear hcell hbd hlen e1 HO
    have hn0 : (0 : Int) < (ini.length : Int) + 1 := by omega
    by_cases q : r.lo ≤ s.hi + 1
    · rw [addL_join q]
      obtain ⟨mx, hmx0⟩ : ∃ mx, max s.hi r.hi = mx := ⟨_, rfl⟩
      rw [hmx0]
      have HMX : Hid (max s.hi r.hi = mx) := hmx0
      clear hmx0
      go_enter Try.func53, Try.ntmps53
      go_wp2
      go_quiet (fail)
      have HB2 := below_drewN' hB1 nq
      have HO2 := ownsRow_drewN HO1.out nq
      have b0 : ((w.alloc (.cells #[.int .i64 r.lo, .int .i64 r.hi] 51)).drewN nq).cell? ⟨w.heap.size, 0, none⟩ = some (.int .i64 r.lo) := cell_of_row _ _ 0 _ _ _ (heap_new' w _)
      have b1 : ((w.alloc (.cells #[.int .i64 r.lo, .int .i64 r.hi] 51)).drewN nq).cell? ⟨w.heap.size, 1, none⟩ = some (.int .i64 r.hi) := cell_of_row _ _ 1 _ _ _ (heap_new' w _)
      have d1 : ((w.alloc (.cells #[.int .i64 r.lo, .int .i64 r.hi] 51)).drewN nq).cell? ⟨g, ini.length * 2 + 1, none⟩ = some (.int .i64 s.hi) := (World.cell?_of_block (a := ⟨g, ini.length * 2 + 1, none⟩) (Below.heap_alloc w _ g hg)).trans c1
      have f1 : ((w.alloc (.cells #[.int .i64 r.lo, .int .i64 r.hi] 51)).drewN nq).frozen? ⟨g, ini.length * 2 + 1, none⟩ = false := own_frozen HO2 _
      obtain ⟨W1, hW1⟩ : ∃ W1, (w.alloc (.cells #[.int .i64 r.lo, .int .i64 r.hi] 51)).drewN nq = W1 := ⟨_, rfl⟩
      rw [hW1] at HO2 HB2 b0 b1 d1 f1 ⊢
      have HO3 : Hid (W1.ownsRow base 51 2 (.slice (some ⟨g, 0, none⟩) (ini.length + 1) cap) (ini.length + 1) (cellsRs (ini ++ [s]))) := HO2
      have HB3 : Hid (Below base w W1) := HB2
      clear hW1 HO1 hB1 c0 c1 HO2 HB2
      go_wp2
      go_region
      have hmx : (if s.hi < r.hi then r.hi else s.hi) = mx := by
        rw [← HMX.out]
        split
        · rename_i z; exact (Int.max_eq_right (by omega)).symm
        · rename_i z; exact (Int.max_eq_left (by omega)).symm
      rw [hmx]
      clear hmx
      have HO4 : Hid ((W1.setCell ⟨g, ini.length * 2 + 1, none⟩ (.int .i64 mx)).ownsRow base 51 2 (.slice (some ⟨g, 0, none⟩) (ini.length + 1) cap) (ini ++ [(⟨s.lo, mx⟩ : Rg)]).length (cellsRs (ini ++ [⟨s.lo, mx⟩]))) := by
        have := own_grow (base := base) (g := g) (cap := cap) (ini := ini) (s := s) (w := W1) (by rw [hl1]; exact HO3.out) mx
        rw [hl1] at this
        exact this
      have HB4 : Hid (Below base w (W1.setCell ⟨g, ini.length * 2 + 1, none⟩ (.int .i64 mx))) := HB3.out.setCell (p := ⟨g, ini.length * 2 + 1, none⟩) hbg _
      clear d1 f1 b0 b1 HO3 HB3
      go_wp2
      go_ret
      exact ⟨.slice (some ⟨g, 0, none⟩) (ini.length + 1) cap, rfl, ownsRow_drewN HO4.out 1, below_drewN' HB4.out 1⟩
    · rw [addL_snoc q]
      go_enter Try.func53, Try.ntmps53
      go_wp2
      go_quiet (fail)
      have HO2 := World.ownsRow.alloc (ownsRow_drewN HO1.out nq) (.cells #[.int .i64 r.lo, .int .i64 r.hi] 51)
      have HB2 := (below_drewN' hB1 nq).alloc (by simp; omega) (.cells #[.int .i64 r.lo, .int .i64 r.hi] 51)
      have HN2 := heap_new' ((w.alloc (.cells #[.int .i64 r.lo, .int .i64 r.hi] 51)).drewN nq) (.cells #[.int .i64 r.lo, .int .i64 r.hi] 51)
      have b0 : ((w.alloc (.cells #[.int .i64 r.lo, .int .i64 r.hi] 51)).drewN nq).cell? ⟨w.heap.size, 0, none⟩ = some (.int .i64 r.lo) := cell_of_row _ _ 0 _ _ _ (heap_new' w _)
      have b1 : ((w.alloc (.cells #[.int .i64 r.lo, .int .i64 r.hi] 51)).drewN nq).cell? ⟨w.heap.size, 1, none⟩ = some (.int .i64 r.hi) := cell_of_row _ _ 1 _ _ _ (heap_new' w _)
      have hsz : ((w.alloc (.cells #[.int .i64 r.lo, .int .i64 r.hi] 51)).drewN nq).heap.size = w.heap.size + 1 := by show (w.alloc _).heap.size = _; simp
      obtain ⟨W1, hW1⟩ : ∃ W1, (w.alloc (.cells #[.int .i64 r.lo, .int .i64 r.hi] 51)).drewN nq = W1 := ⟨_, rfl⟩
      rw [hW1] at HO2 HB2 HN2 b0 b1 hsz ⊢
      have HO3 : Hid ((W1.alloc (.cells #[.int .i64 r.lo, .int .i64 r.hi] 51)).ownsRow base 51 2 (.slice (some ⟨g, 0, none⟩) (ini.length + 1) cap) (ini.length + 1) (cellsRs (ini ++ [s]))) := HO2
      have HB3 : Hid (Below base w (W1.alloc (.cells #[.int .i64 r.lo, .int .i64 r.hi] 51))) := HB2
      have HN3 : Hid ((W1.alloc (.cells #[.int .i64 r.lo, .int .i64 r.hi] 51)).heap[W1.heap.size]? = some (.cells #[.int .i64 r.lo, .int .i64 r.hi] 51)) := HN2
      have HS : Hid (W1.heap.size = w.heap.size + 1) := hsz
      clear hW1 HO1 hB1 c0 c1 HO2 HB2 HN2 hsz
      go_wp2_with (at_builtin; go_must (refine wpList_append_own _ rfl (.tmp 33) (.tmp 35) 46 rfl base 51 i0 (.agg #[.int .i64 0, .int .i64 0]) 2 16 Try.underlying46 hi hz0 hz1 hz2 rfl (by decide) _ _ _ rfl HO3.out ⟨W1.heap.size, 0, none⟩ 1 1 (cellsR r) rfl rfl (World.news_of_block HN3.out) (by simp [cellsR, Value.oneCell']) (by unfold maxLen; omega) (by omega) (by simp; have := HS.out; omega) ?_); intro v' w1 hown' hgrow hnil)
      go_ret
      refine ⟨v', rfl, ?_, HB3.out.grown hgrow (by simp; have := HS.out; omega) (fun j e => (World.ownsRow.lt HO3.out j e).1)⟩
      rw [cellsRs_snoc]
      simpa using hown'
end Go.Proofs.Ytmknifnhcgdkaaa

namespace Go.Proofs.Ytmknifnhcgdkaaa
open Go.RowKit
set_option linter.unusedVariables false

theorem RngAt.cons {n : Nat} {w : World} {v : Value} {r : Rg} {t : List Rg} (h : RngAt n w v (r :: t)) : ∃ g off cap, v = .slice (some ⟨g, off, none⟩) (t.length + 1) cap ∧ t.length + 1 ≤ cap ∧ g < n ∧ w.cell? ⟨g, off, none⟩ = some (.int .i64 r.lo) ∧ w.cell? ⟨g, off + 1, none⟩ = some (.int .i64 r.hi) := by
  obtain ⟨a, cap, rfl, hc, hi⟩ := h
  obtain ⟨g, off, rfl, hg, h0, h1⟩ := hi 0 (by simp)
  refine ⟨g, off, cap, rfl, by simpa using hc, hg, by simpa using h0, by simpa using h1⟩
theorem RngAt.tail' {n : Nat} {w : World} {g off cap : Nat} {r : Rg} {t : List Rg} (h : RngAt n w (.slice (some ⟨g, off, none⟩) (t.length + 1) cap) (r :: t)) : RngAt n w (.slice (if cap = 1 then some ⟨g, off, none⟩ else some ⟨g, off + 2, none⟩) t.length (cap - 1)) t := by
  by_cases q : cap = 1
  · obtain ⟨a, c, e, hc, _⟩ := h
    simp at e hc
    have : t = [] := List.length_eq_zero_iff.1 (by omega)
    subst this
    exact RngAt.empty _ _
  · rw [if_neg q]
    exact h.tail
theorem RngAt.drew {m : Nat} {w : World} {v : Value} {l : List Rg} (h : RngAt m w v l) (n : Nat) : RngAt m (w.drewN n) v l := h.below (below_drewN' (Below.refl _ _) n)

end Go.Proofs.Ytmknifnhcgdkaaa
