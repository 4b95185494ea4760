/-
  What scansionref01.Same and SameInts answer where the two lists are the same.
-/
import Derived.Test.YtahgjhpcfmjjkaaDoorRefDecode
namespace Go.Proofs.YtahgjhpcfmjjkaaDoor
open Go.RowKit
set_option linter.unusedVariables false

theorem cellsUs_at : ∀ (us : List U) (i j : Nat) (h : i < us.length), j < 4 → (cellsUs us)[i * 4 + j]? = (cellsU us[i])[j]?
  | u :: us, 0, j, h, hj => by
    have e : cellsUs (u :: us) = cellsU u ++ cellsUs us := rfl
    rw [e, Nat.zero_mul, Nat.zero_add, List.getElem?_append_left (by simpa [cellsU] using hj)]
    rfl
  | u :: us, i + 1, j, h, hj => by
    have e : cellsUs (u :: us) = cellsU u ++ cellsUs us := rfl
    rw [e, List.getElem?_append_right (by simp [cellsU]; omega)]
    have e2 : (i + 1) * 4 + j - (cellsU u).length = i * 4 + j := by simp [cellsU]; omega
    rw [e2, cellsUs_at us i j (by simpa using h) hj]
    rfl

/-- The slice value v holds the units us. -/
def UnitsIn (w : World) (v : Value) (us : List U) : Prop :=
  ∃ a cap, v = .slice a us.length cap ∧ us.length ≤ cap ∧ ∀ i, (h : i < us.length) → ∃ g off, a = some ⟨g, off, none⟩ ∧ g < w.heap.size ∧ ∀ j, j < 4 → w.cell? ⟨g, off + i * 4 + j, none⟩ = (cellsU us[i])[j]?

theorem units_of_row {w : World} {base : Nat} {v : Value} {us : List U} (h : w.ownsRow base 40 4 v us.length (cellsUs us)) : UnitsIn w v us := by
  rcases h.2 with ⟨rfl, h0⟩ | ⟨g, cap, cur, rfl, hb, hg, hc, hm, hs, ht⟩
  · exact ⟨none, 0, by rw [h0], by omega, fun i hi => by omega⟩
  · refine ⟨_, cap, rfl, hc, fun i hi => ⟨g, 0, rfl, (Array.getElem?_eq_some_iff.1 hg).1, fun j hj => ?_⟩⟩
    have hx := cellsUs_at us i j hi hj
    have hy : (cellsU us[i])[j]? = some ((cellsU us[i])[j]'(by simpa [cellsU] using hj)) := by simp [cellsU, hj]
    rw [hy] at hx ⊢
    have := h.cells (g := g) rfl (i * 4 + j) _ hx
    have hp : (⟨g, 0, none⟩ : Addr).add (i * 4 + j) = ⟨g, 0 + i * 4 + j, none⟩ := by unfold Addr.add; split <;> simp_all
    rw [hp] at this
    exact this

theorem UnitsIn.below {w w' : World} {v : Value} {us : List U} (h : UnitsIn w v us) (hb : Below w.heap.size w w') : UnitsIn w' v us := by
  obtain ⟨a, cap, rfl, hc, hi⟩ := h
  refine ⟨a, cap, rfl, hc, fun i hlt => ?_⟩
  obtain ⟨g, off, rfl, hg, hj⟩ := hi i hlt
  exact ⟨g, off, rfl, Nat.lt_of_lt_of_le hg hb.size, fun j h4 => (hb.cell (p := ⟨g, off + i * 4 + j, none⟩) hg).trans (hj j h4)⟩

set_option maxRecDepth 100000 in
set_option maxHeartbeats 2000000 in
theorem same_any (us : List U) (hlen : us.length ≤ 10000) (va vb : Value) (w : World) (ha : UnitsIn w va us) (hb : UnitsIn w vb us) :
    Calls Tryd.prog 12 #[va, vb] w fun e w' => e = .returned (.bool true) ∧ Below w.heap.size w w' := by
  obtain ⟨a, ca, rfl, hca, hia⟩ := ha
  obtain ⟨b, cb, rfl, hcb, hib⟩ := hb
  have HA : Hid (∀ i, (h : i < us.length) → ∃ g off, a = some ⟨g, off, none⟩ ∧ g < w.heap.size ∧ ∀ j, j < 4 → w.cell? ⟨g, off + i * 4 + j, none⟩ = (cellsU us[i])[j]?) := hia
  have HB : Hid (∀ i, (h : i < us.length) → ∃ g off, b = some ⟨g, off, none⟩ ∧ g < w.heap.size ∧ ∀ j, j < 4 → w.cell? ⟨g, off + i * 4 + j, none⟩ = (cellsU us[i])[j]?) := hib
  clear hia hib
  have hneq : ((us.length : Int) != (us.length : Int)) = false := by simp
  go_enter Tryd.func12, Tryd.ntmps12
  go_wp2
  go_loopw [5] (fun i wr => ∃ k : Nat, k ≤ us.length ∧ i = .int .i64 k ∧ ∃ nd, wr = w.drewN nd) (fun i _ => us.length - (intOf i).toNat)
  case atStart => exact ⟨0, Nat.zero_le _, rfl, 0, rfl⟩
  case round =>
    obtain ⟨k, hk, rfl, nd, rfl⟩ := hrel
    by_cases hlt : k < us.length
    · obtain ⟨ga, oa, rfl, hga, hja⟩ := HA.out k hlt
      obtain ⟨gb, ob, rfl, hgb, hjb⟩ := HB.out k hlt
      obtain ⟨u, hu⟩ : ∃ u, u = us[k] := ⟨_, rfl⟩
      rw [← hu] at hja hjb
      have a0 : w.cell? ⟨ga, oa + k * 4, none⟩ = some (.int .i64 u.r) := hja 0 (by omega)
      have a1 : w.cell? ⟨ga, oa + k * 4 + 1, none⟩ = some (.int .i64 (u.p : Int)) := hja 1 (by omega)
      have a2 : w.cell? ⟨ga, oa + k * 4 + 2, none⟩ = some (.int .i64 (u.w : Int)) := hja 2 (by omega)
      have a3 : w.cell? ⟨ga, oa + k * 4 + 3, none⟩ = some (.bool u.bad) := hja 3 (by omega)
      have b0 : w.cell? ⟨gb, ob + k * 4, none⟩ = some (.int .i64 u.r) := hjb 0 (by omega)
      have b1 : w.cell? ⟨gb, ob + k * 4 + 1, none⟩ = some (.int .i64 (u.p : Int)) := hjb 1 (by omega)
      have b2 : w.cell? ⟨gb, ob + k * 4 + 2, none⟩ = some (.int .i64 (u.w : Int)) := hjb 2 (by omega)
      have b3 : w.cell? ⟨gb, ob + k * 4 + 3, none⟩ = some (.bool u.bad) := hjb 3 (by omega)
      clear hja hjb hu
      have hk0 : (0 : Int) ≤ (k : Int) := by omega
      have hk1 : (k : Int) < (us.length : Int) := by omega
      go_wp2
      go_quiet (fail)
      go_wp2
      go_roundw
      case rel => exact ⟨k + 1, by omega, by go_num, _, rfl⟩
      case measure => simp [intOf]; omega
    · obtain rfl : k = us.length := by omega
      go_wp2
      go_ret
      exact ⟨rfl, below_drewN' (Below.refl _ _) _⟩

/-- The slice value v holds the ints zs. -/
def IntsIn (w : World) (v : Value) (zs : List Int) : Prop :=
  ∃ a cap, v = .slice a zs.length cap ∧ zs.length ≤ cap ∧ ∀ i, i < zs.length → ∃ g off, a = some ⟨g, off, none⟩ ∧ g < w.heap.size ∧ w.cell? ⟨g, off + i, none⟩ = some (.int .i64 (zs[i]?.getD 0))

theorem ints_of_row {w : World} {base : Nat} {v : Value} {zs : List Int} (h : w.ownsRow base 3 1 v zs.length (zs.map (Value.int .i64))) : IntsIn w v zs := by
  rcases h.2 with ⟨rfl, h0⟩ | ⟨g, cap, cur, rfl, hb, hg, hc, hm, hs, ht⟩
  · exact ⟨none, 0, by rw [h0], by omega, fun i hi => by omega⟩
  · refine ⟨_, cap, rfl, hc, fun i hi => ⟨g, 0, rfl, (Array.getElem?_eq_some_iff.1 hg).1, ?_⟩⟩
    have := h.cells (g := g) rfl i (.int .i64 (zs[i]?.getD 0)) (by simp [hi])
    have hp : (⟨g, 0, none⟩ : Addr).add i = ⟨g, 0 + i, none⟩ := by unfold Addr.add; split <;> simp_all
    rw [hp] at this
    exact this

theorem IntsIn.below {w w' : World} {v : Value} {zs : List Int} (h : IntsIn w v zs) (hb : Below w.heap.size w w') : IntsIn w' v zs := by
  obtain ⟨a, cap, rfl, hc, hi⟩ := h
  refine ⟨a, cap, rfl, hc, fun i hlt => ?_⟩
  obtain ⟨g, off, rfl, hg, hj⟩ := hi i hlt
  exact ⟨g, off, rfl, Nat.lt_of_lt_of_le hg hb.size, (hb.cell (p := ⟨g, off + i, none⟩) hg).trans hj⟩

set_option maxRecDepth 100000 in
set_option maxHeartbeats 2000000 in
theorem sameInts_any (zs : List Int) (hlen : zs.length ≤ 10000) (va vb : Value) (w : World) (ha : IntsIn w va zs) (hb : IntsIn w vb zs) :
    Calls Tryd.prog 15 #[va, vb] w fun e w' => e = .returned (.bool true) ∧ Below w.heap.size w w' := by
  obtain ⟨a, ca, rfl, hca, hia⟩ := ha
  obtain ⟨b, cb, rfl, hcb, hib⟩ := hb
  have HA : Hid (∀ i, i < zs.length → ∃ g off, a = some ⟨g, off, none⟩ ∧ g < w.heap.size ∧ w.cell? ⟨g, off + i, none⟩ = some (.int .i64 (zs[i]?.getD 0))) := hia
  have HB : Hid (∀ i, i < zs.length → ∃ g off, b = some ⟨g, off, none⟩ ∧ g < w.heap.size ∧ w.cell? ⟨g, off + i, none⟩ = some (.int .i64 (zs[i]?.getD 0))) := hib
  clear hia hib
  have hneq : ((zs.length : Int) != (zs.length : Int)) = false := by simp
  go_enter Tryd.func15, Tryd.ntmps15
  go_wp2
  go_loopw [5] (fun i wr => ∃ k : Nat, k ≤ zs.length ∧ i = .int .i64 k ∧ ∃ nd, wr = w.drewN nd) (fun i _ => zs.length - (intOf i).toNat)
  case atStart => exact ⟨0, Nat.zero_le _, rfl, 0, rfl⟩
  case round =>
    obtain ⟨k, hk, rfl, nd, rfl⟩ := hrel
    by_cases hlt : k < zs.length
    · obtain ⟨ga, oa, rfl, hga, a0⟩ := HA.out k hlt
      obtain ⟨gb, ob, rfl, hgb, b0⟩ := HB.out k hlt
      obtain ⟨z, hz⟩ : ∃ z : Int, z = zs[k]?.getD 0 := ⟨_, rfl⟩
      rw [← hz] at a0 b0
      clear hz
      have hk0 : (0 : Int) ≤ (k : Int) := by omega
      have hk1 : (k : Int) < (zs.length : Int) := by omega
      have hzz : (z != z) = false := by simp
      go_wp2
      go_quiet (fail)
      go_wp2
      go_roundw
      case rel => exact ⟨k + 1, by omega, by go_num, _, rfl⟩
      case measure => simp [intOf]; omega
    · obtain rfl : k = zs.length := by omega
      go_wp2
      go_ret
      exact ⟨rfl, below_drewN' (Below.refl _ _) _⟩
end Go.Proofs.YtahgjhpcfmjjkaaDoor
