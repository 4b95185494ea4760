/-
  Slices of ints, and parts of them; what the cluster's small functions answer.
-/
import Derived.Test.YtmhligcmcfikfaaDoorClMath
namespace Go.Proofs.YtmhligcmcfikfaaDoor
open Go.RowKit
set_option linter.unusedVariables false

/-- The slice value v holds the ints l, in a block below n. -/
def IntsAt (n : Nat) (w : World) (v : Value) (l : List Int) : Prop :=
  ∃ a cap, v = .slice a l.length cap ∧ l.length ≤ cap ∧ ∀ i, (h : i < l.length) → ∃ g off, a = some ⟨g, off, none⟩ ∧ g < n ∧ w.cell? ⟨g, off + i, none⟩ = some (.int .i64 l[i])
theorem IntsAt.below {n : Nat} {w w' : World} {v : Value} {l : List Int} (h : IntsAt n w v l) (hb : Below n w w') : IntsAt n w' v l := by
  obtain ⟨a, cap, rfl, hc, hi⟩ := h
  refine ⟨a, cap, rfl, hc, fun i hlt => ?_⟩
  obtain ⟨g, off, rfl, hg, hj⟩ := hi i hlt
  exact ⟨g, off, rfl, hg, (hb.cell (p := ⟨g, off + i, none⟩) hg).trans hj⟩
theorem IntsAt.mono {n m : Nat} {w : World} {v : Value} {l : List Int} (h : IntsAt n w v l) (hm : n ≤ m) : IntsAt m w v l := by
  obtain ⟨a, cap, rfl, hc, hi⟩ := h
  refine ⟨a, cap, rfl, hc, fun i hlt => ?_⟩
  obtain ⟨g, off, rfl, hg, hj⟩ := hi i hlt
  exact ⟨g, off, rfl, Nat.lt_of_lt_of_le hg hm, hj⟩
/-- Behind whatever leaves the blocks below. -/
theorem IntsAt.on {w w' : World} {v : Value} {l : List Int} (h : IntsAt w.heap.size w v l) (hb : Below w.heap.size w w') : IntsAt w'.heap.size w' v l := (h.below hb).mono hb.size
/-- A part of a slice. -/
theorem IntsAt.part {n : Nat} {w : World} {g off cap : Nat} {l : List Int} (h : IntsAt n w (.slice (some ⟨g, off, none⟩) l.length cap) l) {a b : Nat} (hab : a ≤ b) (hb : b ≤ l.length) : IntsAt n w (.slice (some ⟨g, off + a, none⟩) (b - a) (cap - a)) ((l.take b).drop a) := by
  obtain ⟨x, c, e, hc, hi⟩ := h
  obtain ⟨rfl, rfl⟩ : x = some ⟨g, off, none⟩ ∧ c = cap := by cases e; exact ⟨rfl, rfl⟩
  have hlen : ((l.take b).drop a).length = b - a := by rw [List.length_drop, List.length_take]; omega
  refine ⟨_, _, by rw [hlen], by rw [hlen]; omega, fun i hlt => ?_⟩
  rw [hlen] at hlt
  obtain ⟨g', off', e', hg, hj⟩ := hi (a + i) (by omega)
  obtain ⟨rfl, rfl⟩ : g = g' ∧ off = off' := by cases e'; exact ⟨rfl, rfl⟩
  refine ⟨g, off + a, rfl, hg, ?_⟩
  rw [Nat.add_assoc, hj, List.getElem_drop, List.getElem_take]
theorem IntsAt.front {n : Nat} {w : World} {g off cap : Nat} {l : List Int} (h : IntsAt n w (.slice (some ⟨g, off, none⟩) l.length cap) l) {b : Nat} (hb : b ≤ l.length) : IntsAt n w (.slice (some ⟨g, off, none⟩) b cap) (l.take b) := by
  have := h.part (Nat.zero_le b) hb
  rw [List.drop_zero] at this
  exact this
theorem ints_of_row {w : World} {base : Nat} {v : Value} {zs : List Int} (h : w.ownsRow base 3 1 v zs.length (zs.map (Value.int .i64))) : IntsAt w.heap.size w v zs := by
  rcases h.2 with ⟨rfl, h0⟩ | ⟨g, cap, cur, rfl, hb, hg, hc, hm, hs, ht⟩
  · exact ⟨none, 0, by rw [h0], by omega, fun i hi => by omega⟩
  · refine ⟨_, cap, rfl, hc, fun i hi => ⟨g, 0, rfl, (Array.getElem?_eq_some_iff.1 hg).1, ?_⟩⟩
    have := h.cells (g := g) rfl i (.int .i64 zs[i]) (by simp [hi])
    rw [addr_add] at this
    exact this

theorem alone_any (k : Int) (w : World) : Calls Tryd.prog 45 #[.int .i64 k] w fun e w' => e = .returned (.bool (aloneK k)) ∧ w = w' := by
  by_cases h1 : k = 1
  · subst h1
    go_enter Tryd.func45, Tryd.ntmps45
    go_wp2
    go_ret
    exact ⟨rfl, rfl⟩
  by_cases h2 : k = 2
  · subst h2
    clear h1
    go_enter Tryd.func45, Tryd.ntmps45
    go_wp2
    go_ret
    exact ⟨rfl, rfl⟩
  by_cases h3 : k = 3
  · subst h3
    clear h1 h2
    go_enter Tryd.func45, Tryd.ntmps45
    go_wp2
    go_ret
    exact ⟨rfl, rfl⟩
  have e1 : (k == 1) = false := by simpa using h1
  have e2 : (k == 2) = false := by simpa using h2
  have e3 : (k == 3) = false := by simpa using h3
  have e : aloneK k = false := by unfold aloneK; rw [e1, e2, e3]; rfl
  rw [e]
  clear h1 h2 h3 e
  go_enter Tryd.func45, Tryd.ntmps45
  go_wp2
  go_ret
  exact ⟨rfl, rfl⟩
theorem mark_any (k : Int) (w : World) : Calls Tryd.prog 47 #[.int .i64 k] w fun e w' => e = .returned (.bool (markK k)) ∧ w = w' := by
  by_cases h1 : k = 4
  · subst h1
    go_enter Tryd.func47, Tryd.ntmps47
    go_wp2
    go_ret
    exact ⟨rfl, rfl⟩
  by_cases h2 : k = 5
  · subst h2
    clear h1
    go_enter Tryd.func47, Tryd.ntmps47
    go_wp2
    go_ret
    exact ⟨rfl, rfl⟩
  by_cases h3 : k = 8
  · subst h3
    clear h1 h2
    go_enter Tryd.func47, Tryd.ntmps47
    go_wp2
    go_ret
    exact ⟨rfl, rfl⟩
  have e1 : (k == 4) = false := by simpa using h1
  have e2 : (k == 5) = false := by simpa using h2
  have e3 : (k == 8) = false := by simpa using h3
  have e : markK k = false := by unfold markK; rw [e1, e2, e3]; rfl
  rw [e]
  clear h1 h2 h3 e
  go_enter Tryd.func47, Tryd.ntmps47
  go_wp2
  go_ret
  exact ⟨rfl, rfl⟩
--@syl
theorem syl_any (a b : Int) (w : World) : Calls Tryd.prog 46 #[.int .i64 a, .int .i64 b] w fun e w' => e = .returned (.bool (sylK a b)) ∧ w = w' := by
  by_cases h9 : a = 9
  · subst h9
    by_cases b9 : b = 9
    · subst b9
      go_enter Tryd.func46, Tryd.ntmps46
      go_wp2
      go_ret
      exact ⟨rfl, rfl⟩
    by_cases b10 : b = 10
    · subst b10
      clear b9
      go_enter Tryd.func46, Tryd.ntmps46
      go_wp2
      go_ret
      exact ⟨rfl, rfl⟩
    by_cases b12 : b = 12
    · subst b12
      clear b9 b10
      go_enter Tryd.func46, Tryd.ntmps46
      go_wp2
      go_ret
      exact ⟨rfl, rfl⟩
    by_cases b13 : b = 13
    · subst b13
      clear b9 b10 b12
      go_enter Tryd.func46, Tryd.ntmps46
      go_wp2
      go_ret
      exact ⟨rfl, rfl⟩
    have e9 : (b == 9) = false := by simpa using b9
    have e10 : (b == 10) = false := by simpa using b10
    have e12 : (b == 12) = false := by simpa using b12
    have e13 : (b == 13) = false := by simpa using b13
    have e : sylK 9 b = false := by unfold sylK; rw [e9, e10, e12, e13]; simp
    rw [e]
    clear e b9 b10 b12 b13
    go_enter Tryd.func46, Tryd.ntmps46
    go_wp2
    go_ret
    exact ⟨rfl, rfl⟩
  by_cases h10 : a = 10
  · subst h10
    clear h9
    by_cases b10 : b = 10
    · subst b10
      go_enter Tryd.func46, Tryd.ntmps46
      go_wp2
      go_ret
      exact ⟨rfl, rfl⟩
    by_cases b11 : b = 11
    · subst b11
      clear b10
      go_enter Tryd.func46, Tryd.ntmps46
      go_wp2
      go_ret
      exact ⟨rfl, rfl⟩
    have e10 : (b == 10) = false := by simpa using b10
    have e11 : (b == 11) = false := by simpa using b11
    have e : sylK 10 b = false := by unfold sylK; rw [e10, e11]; simp
    rw [e]
    clear e b10 b11
    go_enter Tryd.func46, Tryd.ntmps46
    go_wp2
    go_ret
    exact ⟨rfl, rfl⟩
  by_cases h12 : a = 12
  · subst h12
    clear h9 h10
    by_cases b10 : b = 10
    · subst b10
      go_enter Tryd.func46, Tryd.ntmps46
      go_wp2
      go_ret
      exact ⟨rfl, rfl⟩
    by_cases b11 : b = 11
    · subst b11
      clear b10
      go_enter Tryd.func46, Tryd.ntmps46
      go_wp2
      go_ret
      exact ⟨rfl, rfl⟩
    have e10 : (b == 10) = false := by simpa using b10
    have e11 : (b == 11) = false := by simpa using b11
    have e : sylK 12 b = false := by unfold sylK; rw [e10, e11]; simp
    rw [e]
    clear e b10 b11
    go_enter Tryd.func46, Tryd.ntmps46
    go_wp2
    go_ret
    exact ⟨rfl, rfl⟩
  by_cases h11 : a = 11
  · subst h11
    clear h9 h10 h12
    by_cases b11 : b = 11
    · subst b11
      go_enter Tryd.func46, Tryd.ntmps46
      go_wp2
      go_ret
      exact ⟨rfl, rfl⟩
    have e11 : (b == 11) = false := by simpa using b11
    have e : sylK 11 b = false := by unfold sylK; rw [e11]; simp
    rw [e]
    clear e b11
    go_enter Tryd.func46, Tryd.ntmps46
    go_wp2
    go_ret
    exact ⟨rfl, rfl⟩
  by_cases h13 : a = 13
  · subst h13
    clear h9 h10 h12 h11
    by_cases b11 : b = 11
    · subst b11
      go_enter Tryd.func46, Tryd.ntmps46
      go_wp2
      go_ret
      exact ⟨rfl, rfl⟩
    have e11 : (b == 11) = false := by simpa using b11
    have e : sylK 13 b = false := by unfold sylK; rw [e11]; simp
    rw [e]
    clear e b11
    go_enter Tryd.func46, Tryd.ntmps46
    go_wp2
    go_ret
    exact ⟨rfl, rfl⟩
  have f9 : (a == 9) = false := by simpa using h9
  have f10 : (a == 10) = false := by simpa using h10
  have f12 : (a == 12) = false := by simpa using h12
  have f11 : (a == 11) = false := by simpa using h11
  have f13 : (a == 13) = false := by simpa using h13
  have e : sylK a b = false := by unfold sylK; rw [f9, f10, f12, f11, f13]; simp
  rw [e]
  clear e h9 h10 h12 h11 h13
  go_enter Tryd.func46, Tryd.ntmps46
  go_wp2
  go_ret
  exact ⟨rfl, rfl⟩
end Go.Proofs.YtmhligcmcfikfaaDoor
