/-
  scansionlaw03.awake: true. Slices of entries that a call made.
-/
import Derived.Test.YtmknifnhcgdkaaaX28
namespace Go.Proofs.Ytmknifnhcgdkaaa.S3
open Go.RowKit
set_option linter.unusedVariables false

theorem TrieAt.ptr {n : Nat} {w : World} {pv : Value} {like : List Int} {F : List (List Int)} (h : TrieAt n w pv like F) : ∃ g, pv = .pointer (some ⟨g, 0, none⟩) := by
  obtain ⟨g, _, _, h, _⟩ := h
  exact ⟨g, h⟩
theorem errB_zero {l : List Pp} (h : errB l = 0) : l.length ≤ 4096 ∧ (∀ p ∈ l, 0 ≤ p.lo ∧ p.hi ≤ 1114111 ∧ p.lo ≤ p.hi) ∧ (firstB l).length ≤ 256 := by
  unfold errB at h
  by_cases h1 : 4096 < l.length
  · rw [if_pos h1] at h; cases h
  · rw [if_neg h1] at h
    by_cases h2 : l.all good1 = false
    · rw [if_pos h2] at h; cases h
    · rw [if_neg h2] at h
      by_cases h3 : 256 < (firstB l).length
      · rw [if_pos h3] at h; cases h
      · rw [Bool.not_eq_false] at h2
        exact ⟨by omega, fun p hp => good1_iff.1 (List.all_eq_true.1 h2 p hp), by omega⟩
theorem errB_mk {l : List Pp} (h1 : l.length ≤ 4096) (h2 : ∀ p ∈ l, 0 ≤ p.lo ∧ p.hi ≤ 1114111 ∧ p.lo ≤ p.hi) (h3 : (firstB l).length ≤ 256) : errB l = 0 := by
  unfold errB
  rw [if_neg (by omega), if_neg, if_neg (by omega)]
  rw [Bool.not_eq_false]
  exact List.all_eq_true.2 (fun p hp => good1_iff.2 (h2 p hp))
/-- The entry that awake builds. -/
def l65 : List Pp := [⟨65, 66, 3⟩]
theorem val_l65 (r : Int) : valP l65 r = if 65 ≤ r ∧ r ≤ 66 then 3 else 0 := by
  unfold l65 valP stepV hasP
  simp
theorem first_l65 : (firstB l65).length = 2 := by
  have e1 : ∀ k, k ≠ 0 → blkF (valP l65) k = zeroB := fun k hk => by
    unfold blkF zeroB
    rw [List.eq_replicate_iff]
    refine ⟨by rw [List.length_map, List.length_range], fun y hy => ?_⟩
    obtain ⟨j, hj, rfl⟩ := List.mem_map.1 hy
    have := List.mem_range.1 hj
    rw [val_l65, if_neg (by omega)]
  have e2 : blkF (valP l65) 0 ≠ zeroB := fun e => by
    have h1 := blkF_get (valP l65) 0 65 (by omega)
    rw [e] at h1
    unfold zeroB at h1
    rw [List.getElem?_replicate, if_pos (by omega), val_l65, if_pos (by omega)] at h1
    cases h1
  have hm : ∀ k, k < 4352 → blkF (valP l65) k ∈ blocksF (valP l65) := fun k hk => List.mem_map.2 ⟨k, List.mem_range.2 hk, rfl⟩
  have h2 : (firstB l65).length ≤ 2 := by
    have := firsts_le (bs := blocksF (valP l65)) (m := [blkF (valP l65) 0, zeroB]) (fun x hx => by
      obtain ⟨k, hk, rfl⟩ := List.mem_map.1 hx
      by_cases q : k = 0
      · subst q; exact List.mem_cons.2 (.inl rfl)
      · rw [e1 k q]; exact List.mem_cons.2 (.inr (List.mem_cons.2 (.inl rfl))))
    exact this
  have h3 : 2 ≤ (firstB l65).length := by
    have := nodup_le (l := [blkF (valP l65) 0, zeroB]) (m := firstB l65) (by
      rw [List.nodup_cons]
      refine ⟨fun q => e2 (List.mem_singleton.1 q), by simp⟩) (fun x hx => by
      rcases List.mem_cons.1 hx with q | q
      · rw [q]; exact firsts_mem.2 (hm 0 (by omega))
      · rw [List.mem_singleton.1 q, ← e1 1 (by omega)]; exact firsts_mem.2 (hm 1 (by omega)))
    exact this
  omega
theorem err_l65 : errB l65 = 0 := errB_mk (by simp [l65]) (fun p hp => by
  rw [List.mem_singleton.1 hp]; simp) (by rw [first_l65]; omega)
theorem bytes_l65 : Bytes l65 := fun p hp => by rw [List.mem_singleton.1 hp]; simp

end Go.Proofs.Ytmknifnhcgdkaaa.S3

namespace Go.Proofs.Ytmknifnhcgdkaaa.S3
open Go.RowKit
set_option linter.unusedVariables false

theorem Try.undPs : Try.prog.underlying 62 = some (.slice 66) := by kernel_rfl
/-- The cells of entries. -/
def cellsP (p : Pp) : List Value := [.int .i64 p.lo, .int .i64 p.hi, .int .u8 p.v]
def cellsPs (l : List Pp) : List Value := l.flatMap cellsP
theorem cellsPs_snoc (l : List Pp) (p : Pp) : cellsPs (l ++ [p]) = cellsPs l ++ cellsP p := by simp [cellsPs]
theorem cellsPs_length : ∀ (l : List Pp), (cellsPs l).length = l.length * 3
  | [] => rfl
  | r :: l => by
    have e : cellsPs (r :: l) = cellsP r ++ cellsPs l := rfl
    rw [e, List.length_append, cellsPs_length l]
    simp [cellsP]; omega
theorem cellsPs_at : ∀ (l : List Pp) (i j : Nat) (h : i < l.length), j < 3 → (cellsPs l)[i * 3 + j]? = (cellsP l[i])[j]?
  | u :: us, 0, j, h, hj => by
    have e : cellsPs (u :: us) = cellsP u ++ cellsPs us := rfl
    rw [e, Nat.zero_mul, Nat.zero_add, List.getElem?_append_left (by simpa [cellsP] using hj)]
    rfl
  | u :: us, i + 1, j, h, hj => by
    have e : cellsPs (u :: us) = cellsP u ++ cellsPs us := rfl
    rw [e, List.getElem?_append_right (by simp [cellsP]; omega)]
    have e2 : (i + 1) * 3 + j - (cellsP u).length = i * 3 + j := by simp [cellsP]; omega
    rw [e2, cellsPs_at us i j (by simpa using h) hj]
    rfl
theorem cellsPs_one (l : List Pp) : ∀ u ∈ cellsPs l, u.oneCell' = true := fun u hu => by
  obtain ⟨r, _, h⟩ := List.mem_flatMap.1 hu
  simp [cellsP] at h
  rcases h with rfl | rfl | rfl <;> rfl
theorem props_of_row {w : World} {base : Nat} {v : Value} {l : List Pp} (h : w.ownsRow base 66 3 v l.length (cellsPs l)) : PropsIn w v l := by
  rcases h.2 with ⟨rfl, h0⟩ | ⟨g, cap, cur, rfl, hb, hg, hc, hm, hs, ht⟩
  · exact ⟨none, 0, by rw [h0], by omega, fun i hi => by omega⟩
  · refine ⟨_, cap, rfl, hc, fun i hi => ⟨g, 0, rfl, heap_lt hg, ?_, ?_, ?_⟩⟩
    · have := h.cells (g := g) rfl (i * 3 + 0) (.int .i64 l[i].lo) (by rw [cellsPs_at l i 0 hi (by omega)]; rfl)
      rw [Addr.add_mid] at this
      exact this
    · have := h.cells (g := g) rfl (i * 3 + 1) (.int .i64 l[i].hi) (by rw [cellsPs_at l i 1 hi (by omega)]; rfl)
      rw [Addr.add_mid] at this
      exact this
    · have := h.cells (g := g) rfl (i * 3 + 2) (.int .u8 l[i].v) (by rw [cellsPs_at l i 2 hi (by omega)]; rfl)
      rw [Addr.add_mid] at this
      exact this

theorem below_drewN' {B : Nat} {a w : World} (h : Below B a w) : ∀ k, Below B a (w.drewN k)
  | 0 => h
  | k + 1 => (below_drewN' h k).drew
theorem size_drewN (w : World) : ∀ k, (w.drewN k).heap.size = w.heap.size
  | 0 => rfl
  | k + 1 => by
    show ((w.drewN k).drew).heap.size = _
    exact size_drewN w k
end Go.Proofs.Ytmknifnhcgdkaaa.S3
