/-
  slices.Repeat of one number.
-/
import Derived.Test.YtklhjjgnhigbiaaGreatDoorLsDel
import Derived.Laws.CopyOwn
import Derived.Laws.Bits64b
namespace Go.Proofs.YtklhjjgnhigbiaaGreatDoor
open Go.RowKit Go.Shelf
set_option linter.unusedVariables false

def rowZ (n : Nat) (L : Nat → Int) : List Value := (List.range n).map fun x => Value.int .i64 (L x)
def upZ (L : Nat → Int) (i : Nat) (v : Int) : Nat → Int := fun x => if x = i then v else L x
theorem rowZ_set {n : Nat} {L : Nat → Int} {i : Nat} (hi : i < n) (v : Int) : (rowZ n L).set i (.int .i64 v) = rowZ n (upZ L i v) := by
  refine List.ext_getElem (by simp [rowZ]) (fun k h1 h2 => ?_)
  rw [List.getElem_set]
  by_cases e : i = k
  · subst e
    simp [rowZ, upZ]
  · have e2 : ¬ k = i := fun q => e q.symm
    simp [rowZ, upZ, e, e2]
/-- The block g holds the n numbers that L tells. -/
def RowZ (w : World) (base g n : Nat) (L : Nat → Int) : Prop := w.ownsRow base 3 1 (.slice (some ⟨g, 0, none⟩) n n) n (rowZ n L)
section
variable {w w' : World} {base g n : Nat} {L : Nat → Int}
theorem RowZ.below (h : RowZ w base g n L) (hb : Below w.heap.size w w') : RowZ w' base g n L := ownsRow_below h hb
theorem RowZ.at (h : RowZ w base g n L) {i : Nat} (hi : i < n) : w.cell? ⟨g, i, none⟩ = some (.int .i64 (L i)) := by
  have := h.cells (g := g) rfl i (.int .i64 (L i)) (by simp [rowZ, hi])
  rw [add_lit', Nat.zero_add] at this
  exact this
theorem RowZ.lt (h : RowZ w base g n L) : g < w.heap.size ∧ base ≤ g := by
  have := World.ownsRow.lt h g rfl
  exact ⟨this.2, this.1⟩
theorem RowZ.nf (h : RowZ w base g n L) (i : Nat) : w.frozen? ⟨g, i, none⟩ = false := nf_own h i
theorem RowZ.typed (h : RowZ w base g n L) : ∃ cs, w.heap[g]? = some (.cells cs 3 (0, 0)) := own_typed h (k := g) rfl
theorem RowZ.set (h : RowZ w base g n L) {i : Nat} (hi : i < n) (v : Int) : RowZ (w.setCell ⟨g, i, none⟩ (.int .i64 v)) base g n (upZ L i v) := by
  have := own_set (i := i) h (.int .i64 v)
  rw [rowZ_set hi] at this
  exact this
theorem RowZ.blk (h : RowZ w base g n L) (hk : w'.heap[g]? = w.heap[g]?) : RowZ w' base g n L := own_blk h (fun k e => by
  have : g = k := by injection e
  subst this
  exact hk)
theorem RowZ.same (h : RowZ w base g n L) {L' : Nat → Int} (e : ∀ x, x < n → L x = L' x) : RowZ w base g n L' := by
  have e2 : rowZ n L = rowZ n L' := List.map_congr_left (fun x hx => by rw [e x (List.mem_range.1 hx)])
  unfold RowZ at h ⊢
  rw [← e2]
  exact h
theorem rowZ_made (w : World) (hb : base ≤ w.heap.size) (hn : n ≤ maxLen) : RowZ (w.alloc (.cells (madeCells #[.int .i64 0] n) 3)) base w.heap.size n (fun _ => 0) := by
  have := World.ownsRow_lit (base := base) (e := 3) (size := 1) w (madeCells #[.int .i64 0] n) n hb hn (by simp [size_madeCells])
  rw [made_one] at this
  exact this
end

set_option maxRecDepth 100000 in
set_option maxHeartbeats 4000000 in
theorem mul64_any (n : Nat) (hn : n ≤ 100000) (w : World) : Calls Tryz.prog 108 #[.int .u64 1, .int .u64 (n : Int)] w fun e w' => e = .returned (.tuple #[.int .u64 0, .int .u64 (n : Int)]) ∧ w' = w := by
  have h1 : bits .and .u64 (n : Int) 4294967295 = (n : Int) := by
    have := bits_and_u64_nat n 4294967295 (by omega) (by omega)
    have e : n &&& 4294967295 = n := by
      have : (4294967295 : Nat) = 2 ^ 32 - 1 := by decide
      rw [this, Nat.and_two_pow_sub_one_eq_mod, Nat.mod_eq_of_lt (by omega)]
    rw [e] at this
    exact this
  have h2 : bits .and .u64 1 4294967295 = 1 := by decide
  have h3 : (n : Int) / 4294967296 = 0 := by omega
  have h4 : bits .and .u64 0 4294967295 = 0 := by decide
  go_enter Tryz.func108, Tryz.ntmps108
  go_wp2
  go_ret2
  exact ⟨rfl, rfl⟩

set_option maxRecDepth 100000 in
set_option maxHeartbeats 4000000 in
theorem mul_any13 (n : Nat) (hn : n ≤ 100000) (w : World) : Calls Tryz.prog 98 #[.int .u64 1, .int .u64 (n : Int)] w fun e w' => e = .returned (.tuple #[.int .u64 0, .int .u64 (n : Int)]) ∧ w' = w := by
  have hm := mul64_any n hn w
  go_enter Tryz.func98, Tryz.ntmps98
  go_wp2_with fail
  refine hm.mono ?_
  rintro e w' ⟨rfl, rfl⟩
  clear hm
  go_wp2
  go_ret2
  exact ⟨rfl, rfl⟩
theorem rowZ_take {n k : Nat} {L : Nat → Int} (hk : k ≤ n) : (rowZ n L).take k = rowZ k L := by
  unfold rowZ
  rw [← List.map_take, List.take_range, Nat.min_eq_left hk]
/-- What a copy behind itself leaves. -/
theorem splice_twice {n k m : Nat} (hkm : k + m ≤ n) (hm : m ≤ k) : splice (rowZ n fun x => if x < k then -1 else 0) k ((rowZ n fun x => if x < k then -1 else 0).take m) = rowZ n (fun x => if x < k + m then -1 else 0) := by
  have hl : (rowZ n fun x => if x < k then (-1 : Int) else 0).length = n := by simp [rowZ]
  obtain ⟨R, hR⟩ : ∃ R, R = rowZ n fun x => if x < k then (-1 : Int) else 0 := ⟨_, rfl⟩
  rw [← hR] at hl ⊢
  have l1 : (R.take k).length = k := by rw [List.length_take, hl]; omega
  have l2 : (R.take m).length = m := by rw [List.length_take, hl]; omega
  have hat : ∀ i, i < n → R[i]? = some (.int .i64 (if i < k then -1 else 0)) := fun i hi => by rw [hR]; simp [rowZ, hi]
  have hout : ∀ i, n ≤ i → R[i]? = none := fun i hi => List.getElem?_eq_none (by omega)
  have hat2 : ∀ i, i < n → (rowZ n fun x => if x < k + m then (-1 : Int) else 0)[i]? = some (.int .i64 (if i < k + m then -1 else 0)) := fun i hi => by simp [rowZ, hi]
  refine List.ext_getElem? (fun i => ?_)
  unfold splice
  rw [l2]
  by_cases h1 : i < k
  · rw [List.getElem?_append_left (by omega), List.getElem?_take, if_pos h1, hat i (by omega), hat2 i (by omega), if_pos h1, if_pos (by omega)]
  · rw [List.getElem?_append_right (by omega), l1]
    by_cases h2 : i < k + m
    · rw [List.getElem?_append_left (by omega), List.getElem?_take, if_pos (by omega), hat _ (by omega), hat2 i (by omega), if_pos (by omega), if_pos h2]
    · rw [List.getElem?_append_right (by omega), l2, List.getElem?_drop, show k + m + (i - k - m) = i by omega]
      by_cases h3 : i < n
      · rw [hat i h3, hat2 i h3, if_neg h1, if_neg h2]
      · rw [hout i (by omega), List.getElem?_eq_none (by simp [rowZ]; omega)]

set_option maxRecDepth 100000 in
set_option maxHeartbeats 8000000 in
theorem repeat_any (n gx : Nat) (hn : 1 ≤ n) (hn2 : n ≤ 100000) (w : World) (hx : w.cell? ⟨gx, 0, none⟩ = some (.int .i64 (-1))) (hxl : gx < w.heap.size) : Calls Tryz.prog 83 #[.slice (some ⟨gx, 0, none⟩) 1 1, .int .i64 (n : Int)] w fun e w' => ∃ g, e = .returned (.slice (some ⟨g, 0, none⟩) n n) ∧ RowZ w' w.heap.size g n (fun _ => -1) ∧ Below w.heap.size w w' := by
  obtain ⟨iI, hiI, hzI0, hzI1, hzI2⟩ := info_parts Tryz.infoInt
  have hmul := mul_any13 n hn2 w
  have hmk := run_make13 w 26 3 iI (.int .i64 0) Tryz.underlying26 hiI hzI0 hzI1 rfl n (by omega) (by omega)
  have hm := rowZ_made (base := w.heap.size) w (Nat.le_refl _) (show n ≤ maxLen by unfold maxLen; omega)
  obtain ⟨W1, hW1⟩ : ∃ W, W = w.alloc (.cells (madeCells #[.int .i64 0] n) 3) := ⟨_, rfl⟩
  have HW1 : Hid (W1 = _) := hW1
  rw [← hW1] at hm
  have hb1 : Below w.heap.size w W1 := by rw [hW1]; exact below_alloc _ _
  obtain ⟨g, hg⟩ : ∃ g, g = w.heap.size := ⟨_, rfl⟩
  have HG : Hid (g = w.heap.size) := hg
  have HM : Hid (RowZ W1 w.heap.size g n (fun _ => 0) ∧ W1.heap[g]? = some (.cells (rowZ n fun x => if x < 0 then -1 else 0).toArray 3 (0, 0))) := by
    refine ⟨by rw [hg]; exact hm, ?_⟩
    have h0 : W1.heap[g]? = some (.cells (madeCells #[.int .i64 0] n) 3 (0, 0)) := by rw [hW1, hg]; exact heap_new' _ _
    rw [h0]
    have e : (madeCells #[Value.int .i64 0] n) = (rowZ n fun x => if x < 0 then -1 else 0).toArray := by
      apply Array.ext'
      rw [made_one]
      simp [rowZ]
    rw [e]
  have HB1 : Hid (Below w.heap.size w W1) := hb1
  rw [← hg] at hmk
  have x0 : W1.cell? ⟨gx, 0, none⟩ = some (.int .i64 (-1)) := (hb1.cell (p := ⟨gx, 0, none⟩) hxl).trans hx
  have xl : gx < W1.heap.size := Nat.lt_of_lt_of_le hxl hb1.size
  have HX : Hid (W1.cell? ⟨gx, 0, none⟩ = some (.int .i64 (-1))) := x0
  have hsz : (Tryz.prog.info? 3).map (·.size) = some 1 := by rw [hiI]; simp [hzI1]
  clear hm hb1 hg hW1
  go_enter Tryz.func83, Tryz.ntmps83
  go_wp2_with fail
  refine hmul.mono ?_
  rintro e w0 ⟨rfl, hw0⟩
  have hw0' := hw0.symm
  subst hw0'
  clear hmul
  go_upto_region 7 with fail
  rw [← HW1.out]
  have hcp : (Builtin.copy_ #[26, 26] 3 #[.slice (some ⟨g, 0, none⟩) n n, .slice (some ⟨gx, 0, none⟩) 1 1]).run Tryz.prog W1 = .ok (.int .i64 1) (W1.setRow g (((rowZ n fun x => if x < 0 then -1 else 0).toArray.toList.take 0) ++ [Value.int .i64 (-1)] ++ ((rowZ n fun x => if x < 0 then -1 else 0).toArray.toList.drop (0 + 1))).toArray) :=
    run_copy_row (P := Tryz.prog) W1 26 26 3 3 g 0 n n ⟨gx, 0, none⟩ 1 1 (rowZ n fun x => if x < 0 then -1 else 0).toArray 3 [Value.int .i64 (-1)] Tryz.underlying26 hsz HM.out.2 (by show 1 = min 1 n; omega) (fun j v hj => by
      have hj0 : j = 0 := by have := (List.getElem?_eq_some_iff.1 hj).1; simp at this; omega
      subst hj0
      simp at hj
      subst hj
      exact x0) (by simp [rowZ]; omega) (by simp [Value.oneCell'])
  obtain ⟨W2, hW2⟩ : ∃ W, W = W1.setRow g (((rowZ n fun x => if x < 0 then -1 else 0).toArray.toList.take 0) ++ [Value.int .i64 (-1)] ++ ((rowZ n fun x => if x < 0 then -1 else 0).toArray.toList.drop (0 + 1))).toArray := ⟨_, rfl⟩
  have hgl : g < W1.heap.size := HM.out.1.lt.1
  have HW2 : Hid (W2.heap[g]? = some (.cells (rowZ n fun x => if x < 1 then -1 else 0).toArray 3 (0, 0)) ∧ Below w.heap.size w W2) := by
    refine ⟨?_, ?_⟩
    · rw [hW2, setRow_heap W1 g _ _ 3 _ HM.out.2]
      have := splice_twice (n := n) (k := 0) (m := 0) (by omega) (Nat.le_refl _)
      congr 2
      apply Array.ext'
      have hl : (rowZ n fun x => if x < 0 then (-1 : Int) else 0).length = n := by simp [rowZ]
      refine List.ext_getElem? (fun i => ?_)
      simp only [List.take_zero, List.nil_append]
      cases i with
      | zero =>
        have h0 : 0 < n := by omega
        simp [rowZ, h0]
      | succ i =>
        simp only [List.cons_append, List.nil_append, List.getElem?_cons_succ, List.getElem?_drop]
        rw [show 0 + 1 + i = i + 1 by omega]
        by_cases h : i + 1 < n
        · simp [rowZ, h]
        · simp [rowZ, h]
    · rw [hW2]
      exact below_setRow HB1.out (by rw [HG.out]; exact Nat.le_refl _) _
  rw [← hW2] at hcp
  clear hmk hW2 hx x0 HX hxl xl
  go_wp2
  go_loopw [8] (fun x8 wr => ∃ k : Nat, 1 ≤ k ∧ k ≤ n ∧ x8 = .int .i64 (k : Int) ∧ Hid (wr.heap[g]? = some (.cells (rowZ n fun x => if x < k then -1 else 0).toArray 3 (0, 0)) ∧ Below w.heap.size w wr)) (fun x8 _ => n - (intOf x8).toNat)
  case atStart => exact ⟨1, Nat.le_refl _, hn, rfl, HW2⟩
  case round =>
    obtain ⟨k, hk1, hkn, rfl, HK⟩ := hrel
    by_cases hlt : k < n
    · obtain ⟨m, hm⟩ : ∃ m, m = min k (n - k) := ⟨_, rfl⟩
      have hmk : m ≤ k := by omega
      have hmn : k + m ≤ n := by omega
      have hm1 : 1 ≤ m := by omega
      have hl : (rowZ n fun x => if x < k then (-1 : Int) else 0).length = n := by simp [rowZ]
      have hl2 : ((rowZ n fun x => if x < k then (-1 : Int) else 0).take m).length = m := by rw [List.length_take, hl]; omega
      have hcp2 : (Builtin.copy_ #[26, 26] 3 #[.slice (some ⟨g, k, none⟩) (n - k) (n - k), .slice (some ⟨g, 0, none⟩) k n]).run Tryz.prog wr.drew = .ok (.int .i64 (m : Int)) (wr.drew.setRow g (splice (rowZ n fun x => if x < k then -1 else 0) k ((rowZ n fun x => if x < k then -1 else 0).take m)).toArray) := by
        have := run_copy_row (P := Tryz.prog) wr.drew 26 26 3 3 g k (n - k) (n - k) ⟨g, 0, none⟩ k n (rowZ n fun x => if x < k then -1 else 0).toArray 3 ((rowZ n fun x => if x < k then -1 else 0).take m) Tryz.underlying26 hsz HK.out.1 (by rw [hl2, hm]) (fun j v hj => by
          rw [add_lit', Nat.zero_add]
          have e : wr.drew.cell? ⟨g, j, none⟩ = (rowZ n fun x => if x < k then -1 else 0).toArray[j]? := cell_in (w := wr) HK.out.1 j
          rw [e, List.getElem?_toArray]
          rw [List.getElem?_take] at hj
          split at hj
          · exact hj
          · cases hj) (by rw [hl2]; have : (rowZ n fun x => if x < k then (-1 : Int) else 0).toArray.size = n := hl; omega) (fun v hv => by
          obtain ⟨i, _, rfl⟩ := List.mem_map.1 (List.mem_of_mem_take hv)
          rfl)
        rw [hl2] at this
        rw [this]
        unfold splice
        rw [hl2, List.append_assoc]
        rfl
      rw [splice_twice hmn hmk] at hcp2
      obtain ⟨W3, hW3⟩ : ∃ W, W = wr.drew.setRow g (rowZ n fun x => if x < k + m then -1 else 0).toArray := ⟨_, rfl⟩
      have HW3 : Hid (W3.heap[g]? = some (.cells (rowZ n fun x => if x < k + m then -1 else 0).toArray 3 (0, 0)) ∧ Below w.heap.size w W3) := ⟨by rw [hW3]; exact setRow_heap wr.drew g _ _ 3 _ HK.out.1, by rw [hW3]; exact below_setRow HK.out.2.drew (by rw [HG.out]; exact Nat.le_refl _) _⟩
      rw [← hW3] at hcp2
      have hk0 : (0 : Int) ≤ (k : Int) := by omega
      have hk2 : (k : Int) ≤ (n : Int) := by omega
      have hnk : ¬ n = k := by omega
      clear hm hl hl2 hW3
      go_wp2
      go_region
      all_goals (
        go_wp2
        go_roundw
        case rel => exact ⟨k + m, by omega, hmn, by go_num, HW3⟩
        case measure => simp [intOf]; omega)
    · obtain rfl : k = n := by omega
      go_wp2
      go_ret
      refine ⟨g, rfl, ?_, HK.out.2⟩
      have h0 : wr.heap[g]? = some (.cells (rowZ k fun _ => -1).toArray 3 (0, 0)) := by
        rw [HK.out.1]
        congr 3
        exact List.map_congr_left (fun x hx => by simp only [if_pos (List.mem_range.1 hx)])
      exact ⟨by simp [rowZ], .inr ⟨g, k, _, rfl, by rw [HG.out]; exact Nat.le_refl _, h0, Nat.le_refl _, by unfold maxLen; omega, by simp [rowZ], by simp only [rowZ]; exact List.take_of_length_le (by simp)⟩⟩
end Go.Proofs.YtklhjjgnhigbiaaGreatDoor
