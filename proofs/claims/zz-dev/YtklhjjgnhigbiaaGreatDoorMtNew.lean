/-
  Steps made.
-/
import Derived.Test.YtklhjjgnhigbiaaGreatDoorMtAgW
namespace Go.Proofs.YtklhjjgnhigbiaaGreatDoor
open Go.RowKit Go.Shelf
set_option linter.unusedVariables false

theorem over_new (a : Option Addr) (n c : Nat) (s : Int) (w : World) : Calls Tryz.prog 74 #[.slice a n c, .int .i64 s] w fun e w' => e = .returned (.func (.func 85) #[] #[.pointer (some ⟨w.heap.size, 0, none⟩), .pointer (some ⟨w.heap.size + 1, 0, none⟩)]) ∧ w' = (w.alloc (.cells #[.slice a n c] 25)).alloc (.cells #[.int .i64 s] 3) := by
  go_enter Tryz.func74, Tryz.ntmps74
  go_wp2
  go_ret
  exact ⟨rfl, rfl⟩
theorem joined_new (a : Option Addr) (n c : Nat) (w : World) : Calls Tryz.prog 75 #[.func (.func 76) #[] #[], .slice a n c] w fun e w' => e = .returned (.func (.func 86) #[] #[.pointer (some ⟨w.heap.size + 1, 0, none⟩), .pointer (some ⟨w.heap.size, 0, none⟩)]) ∧ w' = (w.alloc (.cells #[.func (.func 76) #[] #[]] 125)).alloc (.cells #[.slice a n c] 122) := by
  go_enter Tryz.func75, Tryz.ntmps75
  go_wp2
  go_ret
  exact ⟨rfl, rfl⟩
theorem inTurn_new (a : Option Addr) (n c : Nat) (w : World) : Calls Tryz.prog 79 #[.slice a n c] w fun e w' => e = .returned (.func (.func 92) #[] #[.pointer (some ⟨w.heap.size, 0, none⟩)]) ∧ w' = w.alloc (.cells #[.slice a n c] 122) := by
  go_enter Tryz.func79, Tryz.ntmps79
  go_wp2
  go_ret
  exact ⟨rfl, rfl⟩
theorem Tryz.infoU : (Tryz.prog.info? 38).map (fun i => (i.zero, i.size, i.bytes)) = some (some (.int .u64 0), 1, 8) := by kernel_rfl
theorem mk_of_row {w : World} {base g : Nat} (h : w.ownsRow base 38 1 (.slice (some ⟨g, 0, none⟩) 1 1) 1 [.int .u64 0]) : MkAt w g 0 := by
  rcases h.2 with ⟨e, _⟩ | ⟨g', cap', cur, e0, hb, hg, hc, hm, hs, ht⟩
  · cases e
  · obtain ⟨rfl, rfl⟩ : g = g' ∧ 1 = cap' := by simpa using e0
    have e : cur = #[.int .u64 0] := by
      apply Array.toList_inj.1
      rw [List.take_of_length_le (by simp; omega)] at ht
      rw [ht]
    rw [e] at hg
    exact hg
theorem marks_new (a : Option Addr) (n c : Nat) (hn : n < 64) (w : World) : Calls Tryz.prog 87 #[.slice a n c] w fun e w' => e = .returned (.slice (some ⟨w.heap.size, 0, none⟩) 1 1) ∧ MkAt w' w.heap.size 0 ∧ Below w.heap.size w w' := by
  obtain ⟨i0, hi0, hz0, hz1, hz2⟩ := info_parts Tryz.infoU
  have h1 : n / 64 = 0 := by omega
  have h2 : (n : Int) / 64 = 0 := by omega
  have HMC : Hid ((madeCells (Value.int .u64 0).cells (1 * 1)).toList = [.int .u64 0]) := by
    show _ = _
    rw [Nat.mul_one]
    exact toList_madeCells_one _ _
  go_enter Tryz.func87, Tryz.ntmps87
  go_wp2_with (first | (at_make; go_loud (refine wpList_make_full w rfl _ _ 132 rfl w.heap.size 38 i0 (.int .u64 0) 1 Tryz.underlying132 hi0 hz0 hz1 .i64 .i64 _ _ 1 rfl rfl rfl rfl (by rw [hz2]; omega) (by unfold maxLen; omega) (Nat.le_refl _) ?_; intro w1 ho1 hg1; have hB1 : Below w.heap.size w w1 := (Below.refl _ _).grown hg1 (Nat.le_refl _) (fun j e => (by cases e)))) | fail)
  go_ret
  rw [HMC.out] at ho1
  exact ⟨rfl, mk_of_row ho1, hB1⟩
theorem again_new (a : Option Addr) (n c : Nat) (hn : n < 64) (f : Fn) (bs cs : Array Value) (w : World) : Calls Tryz.prog 78 #[.slice a n c, .func f bs cs] w fun e w' => ∃ b1 mb b2, e = .returned (.func (.func 88) #[] #[.pointer (some ⟨b1, 0, none⟩), .pointer (some ⟨b2, 0, none⟩)]) ∧ b1 ≠ mb ∧ b2 ≠ mb ∧ (w.heap.size ≤ b1 ∧ b1 < w'.heap.size) ∧ (w.heap.size ≤ b2 ∧ b2 < w'.heap.size) ∧ (w.heap.size ≤ mb ∧ mb < w'.heap.size) ∧ w'.cell? ⟨b1, 0, none⟩ = some (.slice (some ⟨mb, 0, none⟩) 1 1) ∧ w'.cell? ⟨b2, 0, none⟩ = some (.func f bs cs) ∧ MkAt w' mb 0 ∧ Below w.heap.size w w' := by
  have h1 := marks_new a n c hn (w.alloc (.cells #[.func f bs cs] 106))
  have HN : Hid ((w.alloc (.cells #[.func f bs cs] 106)).heap[w.heap.size]? = some (.cells #[.func f bs cs] 106)) := heap_new' _ _
  have HB : Hid (Below w.heap.size w (w.alloc (.cells #[.func f bs cs] 106))) := below_alloc _ _
  have hsz : (w.alloc (.cells #[.func f bs cs] 106)).heap.size = w.heap.size + 1 := by simp
  go_enter Tryz.func78, Tryz.ntmps78
  go_wp2_with fail
  refine h1.mono ?_
  rintro e w1 ⟨rfl, hm, hb⟩
  rw [hsz] at hm hb ⊢
  have hs1 := hb.size
  have HM : Hid (MkAt w1 (w.heap.size + 1) 0) := hm
  have HB1 : Hid (Below (w.heap.size + 1) (w.alloc (.cells #[.func f bs cs] 106)) w1) := hb
  have hlt := lt_of_heap hm
  clear h1 hm hb
  go_wp2
  go_ret
  have hb := HB1.out
  refine ⟨w1.heap.size, w.heap.size + 1, w.heap.size, rfl, by omega, by omega, by simp; omega, by simp; omega, by simp; omega, ?_, ?_, ?_, ?_⟩
  · exact cell_in (heap_new' _ _) 0
  · rw [World.cell?_of_block (a := ⟨w.heap.size, 0, none⟩) (Below.heap_alloc _ _ _ (show w.heap.size < _ by omega)), World.cell?_of_block (a := ⟨w.heap.size, 0, none⟩) (hb.block w.heap.size (by omega))]
    exact cell_in HN.out 0
  · show (w1.alloc _).heap[_]? = _
    rw [Below.heap_alloc _ _ _ hlt]
    exact HM.out
  · exact ((HB.out.trans (hb.mono (by omega)))).alloc (by omega) _
end Go.Proofs.YtklhjjgnhigbiaaGreatDoor
