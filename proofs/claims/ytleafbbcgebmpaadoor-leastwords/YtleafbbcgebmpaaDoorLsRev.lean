/-
  slices.Reverse of numbers.
-/
import Derived.Test.YtleafbbcgebmpaaDoorLsLnk
namespace Go.Proofs.YtleafbbcgebmpaaDoor
open Go.RowKit Go.Shelf
set_option linter.unusedVariables false

/-- As RowN, with room behind. -/
def RowC (w : World) (base g n cap : Nat) (L : Nat → Nat) : Prop := w.ownsRow base 3 1 (.slice (some ⟨g, 0, none⟩) n cap) n (rowN n L)
section
variable {w w' : World} {base g n cap : Nat} {L : Nat → Nat}
theorem RowC.below (h : RowC w base g n cap L) (hb : Below w.heap.size w w') : RowC w' base g n cap L := ownsRow_below h hb
theorem RowC.at (h : RowC w base g n cap L) {i : Nat} (hi : i < n) : w.cell? ⟨g, i, none⟩ = some (.int .i64 ((L i : Nat) : Int)) := by
  have := h.cells (g := g) rfl i (.int .i64 ((L i : Nat) : Int)) (by simp [rowN, hi])
  rw [add_lit', Nat.zero_add] at this
  exact this
theorem RowC.lt (h : RowC w base g n cap L) : g < w.heap.size ∧ base ≤ g := by
  have := World.ownsRow.lt h g rfl
  exact ⟨this.2, this.1⟩
theorem RowC.nf (h : RowC w base g n cap L) (i : Nat) : w.frozen? ⟨g, i, none⟩ = false := nf_own h i
theorem RowC.set (h : RowC w base g n cap L) {i : Nat} (hi : i < n) (v : Nat) : RowC (w.setCell ⟨g, i, none⟩ (.int .i64 (v : Int))) base g n cap (upN L i v) := by
  have := own_set (i := i) h (.int .i64 (v : Int))
  rw [rowN_set hi] at this
  exact this
theorem RowC.same (h : RowC w base g n cap L) {L' : Nat → Nat} (e : ∀ x, x < n → L x = L' x) : RowC w base g n cap L' := by
  have e2 : rowN n L = rowN n L' := List.map_congr_left (fun x hx => by rw [e x (List.mem_range.1 hx)])
  unfold RowC at h ⊢
  rw [← e2]
  exact h
theorem rowN_cellP (l : List Nat) : rowN l.length (fun k => l.getD k 0) = cellP l := by
  refine List.ext_getElem (by simp [rowN, cellP]) (fun i h1 h2 => ?_)
  have hi : i < l.length := by simpa [rowN] using h1
  simp [rowN, cellP, hi]
end

set_option maxRecDepth 100000 in
set_option maxHeartbeats 4000000 in
theorem reverse_none (cap : Nat) (a : Option Addr) (w : World) : Calls Tryd.prog 46 #[.slice a 0 cap] w fun e w' => e = .returned (.tuple #[]) ∧ w' = w := by
  go_enter Tryd.func46, Tryd.ntmps46
  go_wp2
  go_loopw [2, 3] (fun x y wr => x = .int .i64 0 ∧ y = .int .i64 (-1) ∧ wr = w) (fun _ _ _ => 0)
  case atStart => exact ⟨rfl, by go_num, rfl⟩
  case round =>
    obtain ⟨rfl, rfl, rfl⟩ := hrel
    go_wp2
    go_end0
    exact ⟨rfl, rfl⟩

set_option maxRecDepth 100000 in
set_option maxHeartbeats 8000000 in
theorem reverse_any (base g n cap : Nat) (L : Nat → Nat) (w : World) (h : RowC w base g n cap L) (hn : 1 ≤ n) (hn2 : n ≤ 100000) : Calls Tryd.prog 46 #[.slice (some ⟨g, 0, none⟩) n cap] w fun e w' => e = .returned (.tuple #[]) ∧ RowC w' base g n cap (fun k => L (n - 1 - k)) ∧ OnlyB g w w' := by
  have H : Hid (RowC w base g n cap L) := h
  clear h
  go_enter Tryd.func46, Tryd.ntmps46
  go_wp2
  go_loopw [2, 3] (fun x y wr => ∃ (i j : Nat) (L' : Nat → Nat), 2 * i ≤ n ∧ i + j + 1 = n ∧ x = .int .i64 (i : Int) ∧ y = .int .i64 (j : Int) ∧ Hid (RowC wr base g n cap L') ∧ Hid (∀ k, k < n → L' k = if k < i ∨ n ≤ k + i then L (n - 1 - k) else L k) ∧ Hid (OnlyB g w wr)) (fun x _ _ => n - (intOf x).toNat)
  case atStart => exact ⟨0, n - 1, L, by omega, by omega, rfl, by go_num, H, fun k hk => by rw [if_neg (by omega)], OnlyB.refl _ _⟩
  case round =>
    obtain ⟨i, j, L', hi2, hij, rfl, rfl, HR, HL, HO⟩ := hrel
    by_cases hlt : i < j
    · have c0 := HR.out.at (i := i) (by omega)
      have c1 := HR.out.at (i := j) (by omega)
      have e0 : L' i = L i := by rw [HL.out i (by omega), if_neg (by omega)]
      have e1 : L' j = L j := by rw [HL.out j (by omega), if_neg (by omega)]
      rw [e0] at c0
      rw [e1] at c1
      have n0 := HR.out.nf i
      have gl := HR.out.lt.1
      have HR2 : Hid (RowC (wr.setCell ⟨g, i, none⟩ (.int .i64 ((L j : Nat) : Int))) base g n cap (upN L' i (L j))) := HR.out.set (by omega) _
      have c2 := HR2.out.at (i := j) (by omega)
      have e2 : upN L' i (L j) j = L j := by unfold upN; rw [if_neg (by omega)]; exact e1
      rw [e2] at c2
      have n2 := HR2.out.nf j
      have gl2 := HR2.out.lt.1
      have HR3 : Hid (RowC (((wr.setCell ⟨g, i, none⟩ (.int .i64 ((L j : Nat) : Int))).setCell ⟨g, j, none⟩ (.int .i64 ((L i : Nat) : Int)))).drew base g n cap (upN (upN L' i (L j)) j (L i))) := (HR2.out.set (i := j) (by omega) (L i)).below (Below.refl _ _).drew
      have HO3 : Hid (OnlyB g w (((wr.setCell ⟨g, i, none⟩ (.int .i64 ((L j : Nat) : Int))).setCell ⟨g, j, none⟩ (.int .i64 ((L i : Nat) : Int)))).drew) := ((HO.out.set _ _).set _ _).drew
      have HL3 : Hid (∀ k, k < n → upN (upN L' i (L j)) j (L i) k = if k < i + 1 ∨ n ≤ k + (i + 1) then L (n - 1 - k) else L k) := fun k hk => by
        unfold upN
        by_cases q : k = j
        · rw [if_pos q, if_pos (by omega)]
          congr 1; omega
        · rw [if_neg q]
          by_cases q2 : k = i
          · rw [if_pos q2, if_pos (by omega)]
            congr 1; omega
          · rw [if_neg q2, HL.out k hk]
            by_cases q3 : k < i ∨ n ≤ k + i
            · rw [if_pos q3, if_pos (by omega)]
            · rw [if_neg q3, if_neg (by omega)]
      obtain ⟨X, hX⟩ : ∃ x, x = L i := ⟨_, rfl⟩
      obtain ⟨Y, hY⟩ : ∃ x, x = L j := ⟨_, rfl⟩
      rw [← hX] at c0 HR3 HO3 HL3
      rw [← hY] at c1 c2 n2 gl2 HR3 HO3 HL3
      have hi0 : (0 : Int) ≤ (i : Int) := by omega
      have hi1 : (i : Int) < (n : Int) := by omega
      have hj0 : (0 : Int) ≤ (j : Int) := by omega
      have hj1 : (j : Int) < (n : Int) := by omega
      clear e0 e1 e2 hX hY HR2
      go_wp2
      go_region
      all_goals (
        go_wp2
        go_roundw
        case rel => exact ⟨i + 1, j - 1, _, by omega, by omega, by go_num, by go_num, HR3, HL3, HO3⟩
        case measure => simp [intOf]; omega)
    · go_wp2
      go_end0
      refine ⟨rfl, HR.out.same (fun k hk => ?_), HO.out⟩
      rw [HL.out k hk]
      by_cases q : k < i ∨ n ≤ k + i
      · rw [if_pos q]
      · rw [if_neg q]
        congr 1; omega
end Go.Proofs.YtleafbbcgebmpaaDoor
