/-
  The program's Turn.
-/
import Derived.Test.YtlllmoelhholfaaMtTurned
import Derived.Test.YtlllmoelhholfaaMtSame
import Derived.Test.YtlllmoelhholfaaMtBackW
namespace Go.Proofs.Ytlllmoelhholfaa
open Go.RowKit Go.Shelf
set_option linter.unusedVariables false

theorem dp_turnL : ∀ (d : Nat) (l : List Nd), Dp d l → Dp d (l.map turnN)
  | 0, l, h => by
    have h0 : l = [] := h
    subst h0; rfl
  | d + 1, l, h => by
    refine ⟨by rw [List.length_map]; exact h.1, fun x hx => ?_⟩
    obtain ⟨y, hy, rfl⟩ := List.mem_map.1 hx
    have := dp_turnL d y.kids (h.2 y hy)
    rw [turnN_eq]
    show Dp d (if y.k = 0 then (y.kids.map turnN).reverse else y.kids.map turnN)
    split
    · cases d with
      | zero => have h0 : y.kids.map turnN = [] := this; rw [h0]; rfl
      | succ d => exact ⟨by rw [List.length_reverse]; exact this.1, fun x hx => this.2 x (List.mem_reverse.1 hx)⟩
    · exact this
theorem dp_turn {d : Nat} {n : Nd} (h : Dp d n.kids) : Dp d (turnN n).kids := by
  have := dp_turnL d n.kids h
  rw [turnN_eq]
  show Dp d (if n.k = 0 then (n.kids.map turnN).reverse else n.kids.map turnN)
  split
  · cases d with
    | zero => have h0 : n.kids.map turnN = [] := this; rw [h0]; rfl
    | succ d => exact ⟨by rw [List.length_reverse]; exact this.1, fun x hx => this.2 x (List.mem_reverse.1 hx)⟩
  · exact this
theorem turn1_any (n : Nd) (za : Option Addr) (ca : Nat) (W : World) : Calls Try.prog 30 #[.agg #[.int .i64 n.k, .int .i64 n.s, .slice za n.kids.length ca]] W fun e w' => e = .returned (.bool true) ∧ Below W.heap.size W w' := by
  go_enter Try.func30, Try.ntmps30
  go_wp2
  go_ret
  exact ⟨rfl, below_alloc _ _⟩

set_option maxRecDepth 100000 in
set_option maxHeartbeats 8000000 in
theorem turn_any (d : Nat) (hd : d ≤ 60000) (n : Nd) (z : Value) (w : World) (hdp : Dp d n.kids) (hz : KdX (fun k => k < w.heap.size) w z n.kids) : Calls Try.prog 19 #[ndV n z] w (TurnA n w) := by
  obtain ⟨za, ca, rfl, _⟩ := hz.slice
  obtain ⟨W0, hW0⟩ : ∃ W, W = (w.alloc (.cells #[.int .i64 n.k, .int .i64 n.s, .slice za n.kids.length ca] 24)).alloc (.cells #[.int .i64 0, .int .i64 0, .slice none 0 0] 24) := ⟨_, rfl⟩
  have hB0 : Below w.heap.size w W0 := by rw [hW0]; exact below_after (below_alloc _ _) (below_alloc _ _)
  have hs0 : W0.heap.size = w.heap.size + 1 + 1 := by rw [hW0]; simp
  have hall := all_any 30 (fun _ => true) (enters_of Try.func30 (by kernel_rfl) rfl) (fun n za ca W => turn1_any n za ca W) d n (.slice za n.kids.length ca) 0 W0 (by omega) hdp (kdx_below hz hB0)
  rw [allN_true] at hall
  have HT : Hid (∀ W, Below w.heap.size w W → Calls Try.prog 31 #[ndV n (.slice za n.kids.length ca)] W (TurnA n W)) := fun W h => turned_any d n _ W hdp (kdx_below hz h)
  unfold ndV at hall HT ⊢
  obtain ⟨len, hlen⟩ : ∃ len, len = n.kids.length := ⟨_, rfl⟩
  obtain ⟨nk, hnk⟩ : ∃ x, x = n.k := ⟨_, rfl⟩
  obtain ⟨ns, hns⟩ : ∃ x, x = n.s := ⟨_, rfl⟩
  have HN : Hid (nk = n.k ∧ ns = n.s) := ⟨hnk, hns⟩
  rw [← hlen, ← hnk, ← hns] at hall HT hW0 ⊢
  have HE0 : Hid (W0.heap[w.heap.size]? = some (.cells #[.int .i64 nk, .int .i64 ns, .slice za len ca] 24 (0, 0)) ∧ W0.heap[w.heap.size + 1]? = some (.cells #[.int .i64 0, .int .i64 0, .slice none 0 0] 24 (0, 0))) := by
    have k1 := heap_new' w (.cells #[.int .i64 nk, .int .i64 ns, .slice za len ca] 24)
    have k2 := heap_new' (w.alloc (.cells #[.int .i64 nk, .int .i64 ns, .slice za len ca] 24)) (.cells #[.int .i64 0, .int .i64 0, .slice none 0 0] 24)
    rw [World.size_alloc] at k2
    rw [hW0]
    exact ⟨((below_alloc _ _).block _ (by rw [World.size_alloc]; omega)).trans k1, k2⟩
  have HB0 : Hid (Below w.heap.size w W0) := hB0
  have HS0 : Hid (W0.heap.size = w.heap.size + 1 + 1) := hs0
  rw [hW0] at hall
  clear hlen hnk hns hB0 hs0 hz
  go_enter Try.func19, Try.ntmps19
  go_wp2_with fail
  refine hall.mono ?_
  rintro e w1 ⟨rfl, hB1⟩
  rw [← hW0] at hB1
  have HE1 : Hid (w1.heap[w.heap.size]? = some (.cells #[.int .i64 nk, .int .i64 ns, .slice za len ca] 24 (0, 0)) ∧ w1.heap[w.heap.size + 1]? = some (.cells #[.int .i64 0, .int .i64 0, .slice none 0 0] 24 (0, 0))) := ⟨(hB1.block _ (by rw [HS0.out]; omega)).trans HE0.out.1, (hB1.block _ (by rw [HS0.out]; omega)).trans HE0.out.2⟩
  have HBW1 : Hid (Below w.heap.size w w1) := below_after HB0.out hB1
  have n0 : w1.cell? ⟨w.heap.size, 0, none⟩ = some (.int .i64 nk) := cell_in HE1.out.1 0
  have n1 : w1.cell? ⟨w.heap.size, 1, none⟩ = some (.int .i64 ns) := cell_in HE1.out.1 1
  have n2 : w1.cell? ⟨w.heap.size, 2, none⟩ = some (.slice za len ca) := cell_in HE1.out.1 2
  have hlt1 : w.heap.size + 1 < w1.heap.size := lt_of_heap HE1.out.2
  have hc2 := HT.out w1 HBW1.out
  clear hall hB1 hW0
  go_wp2_with fail
  refine hc2.mono ?_
  rintro e w2 ⟨z', rfl, hkd, hB2⟩
  obtain ⟨sa, sc, rfl, _⟩ := hkd.slice
  obtain ⟨sl, hsl⟩ : ∃ sl, sl = (turnN n).kids.length := ⟨_, rfl⟩
  rw [← hsl] at hkd ⊢
  rw [← HN.out.1, ← HN.out.2]
  have hE2 : w2.heap[w.heap.size + 1]? = some (.cells #[.int .i64 0, .int .i64 0, .slice none 0 0] 24 (0, 0)) := (hB2.block _ hlt1).trans HE1.out.2
  have s0 : w2.cell? ⟨w.heap.size + 1, 0, none⟩ = some (.int .i64 0) := cell_in hE2 0
  have s1 : w2.cell? ⟨w.heap.size + 1, 1, none⟩ = some (.int .i64 0) := cell_in hE2 1
  have s2 : w2.cell? ⟨w.heap.size + 1, 2, none⟩ = some (.slice none 0 0) := cell_in hE2 2
  have sf0 : w2.frozen? ⟨w.heap.size + 1, 0, none⟩ = false := frozen_of_row _ _ 0 _ _ hE2
  have sf1 : w2.frozen? ⟨w.heap.size + 1, 1, none⟩ = false := frozen_of_row _ _ 1 _ _ hE2
  have sf2 : w2.frozen? ⟨w.heap.size + 1, 2, none⟩ = false := frozen_of_row _ _ 2 _ _ hE2
  have HE2 : Hid (w2.heap[w.heap.size + 1]? = some (.cells #[.int .i64 0, .int .i64 0, .slice none 0 0] 24 (0, 0))) := hE2
  have HB2 : Hid (Below w.heap.size w w2) := below_after HBW1.out hB2
  have HKD : Hid (KdX (fun k => w1.heap.size ≤ k ∧ k < w2.heap.size) w2 (.slice sa sl sc) (turnN n).kids) := hkd
  clear hc2 hkd hB2 hE2 hsl
  go_wp2
  refine bodyPost_ret (results_cell_row rfl _ _ (w.heap.size + 1) 24 #[.int .i64 nk, .int .i64 ns, .slice sa sl sc] (0, 0) _ rfl ?_ Try.underlying24 rfl (by kernel_rfl)) rfl ?_
  · exact heap_setN (heap_setN (heap_setN HE2.out _) _) _
  · have hset : ∀ k, k ≠ w.heap.size + 1 → (((w2.setCell ⟨w.heap.size + 1, 0, none⟩ (.int .i64 nk)).setCell ⟨w.heap.size + 1, 1, none⟩ (.int .i64 ns)).setCell ⟨w.heap.size + 1, 2, none⟩ (.slice sa sl sc)).heap[k]? = w2.heap[k]? := fun k hk => by
      rw [Below.heap_setCell _ _ _ k (by simpa using hk), Below.heap_setCell _ _ _ k (by simpa using hk), Below.heap_setCell _ _ _ k (by simpa using hk)]
    have hsz : (((w2.setCell ⟨w.heap.size + 1, 0, none⟩ (.int .i64 nk)).setCell ⟨w.heap.size + 1, 1, none⟩ (.int .i64 ns)).setCell ⟨w.heap.size + 1, 2, none⟩ (.slice sa sl sc)).heap.size = w2.heap.size := by simp
    refine ⟨.slice sa sl sc, by rw [HN.out.1, HN.out.2], HKD.out.to (fun k hk => ⟨hset k (by have := hk.1; omega), by have := hk.1; omega, by rw [hsz]; exact hk.2⟩), ?_⟩
    exact ((HB2.out.setCell (by show w.heap.size ≤ w.heap.size + 1; omega) _).setCell (by show w.heap.size ≤ w.heap.size + 1; omega) _).setCell (by show w.heap.size ≤ w.heap.size + 1; omega) _
end Go.Proofs.Ytlllmoelhholfaa
