/-
  scansionref01.Runes of bytes below 128: they are its code points.
-/
import Derived.Test.YtpmlbdfdiebkcaaDoorAll6
import Derived.Laws.BytesArg
import Derived.Deep.QuietTactic
import Derived.BigQuiet
namespace Go.Proofs.YtpmlbdfdiebkcaaDoor
open Go.RowKit
set_option linter.unusedVariables false

theorem Tryd.infoUnit : (Tryd.prog.info? 68).map (fun i => (i.zero, i.size, i.bytes)) = some (some (.agg #[.int .i64 0, .int .i64 0, .int .i64 0, .bool false]), 4, 32) := by kernel_rfl
theorem isRune_low (c : Int) (h0 : 0 ≤ c) (h1 : c < 128) (w : World) : Calls Tryd.prog 85 #[.int .i64 c] w fun e w' => e = .returned (.bool true) ∧ w' = w := by
  have h2 : c ≤ 1114111 := by omega
  have h3 : c < 55296 := by omega
  go_enter Tryd.func85, Tryd.ntmps85
  go_wp2
  go_ret
  exact ⟨rfl, rfl⟩
theorem enc_low (c : Int) (h0 : 0 ≤ c) (h1 : c < 128) (w : World) : Calls Tryd.prog 83 #[.int .i64 c] w fun e w' => e = .returned (.tuple #[.slice (some ⟨w.heap.size, 0, none⟩) 1 1, .int .i64 0]) ∧ w' = w.alloc (.cells #[.int .u8 c] 5) := by
  have hi := isRune_low c h0 h1
  go_enter Tryd.func83, Tryd.ntmps83
  go_wp2_with (first | (go_at_call 85; refine (hi _).mono ?_; rintro e w' ⟨rfl, rfl⟩))
  go_ret2
  exact ⟨rfl, rfl⟩
theorem cell_drewN6 (w : World) (a : Addr) : ∀ k, (w.drewN k).cell? a = w.cell? a
  | 0 => rfl
  | k + 1 => cell_drewN6 w a k
theorem one_cell {w : World} {b off : Nat} {c : Int} (h : w.cell? ⟨b, off, none⟩ = some (.int .u8 c)) : ∀ i, i < 1 → w.cell? ⟨b, off + i, none⟩ = some (.int .u8 ([c].getD i 0))
  | 0, _ => h
  | i + 1, hi => by omega
theorem frozen_new6 (w : World) (cs : Array Value) (t : TypeId) (j : Nat) : (w.alloc (.cells cs t)).frozen? ⟨w.heap.size, j, none⟩ = false := frozen_of_row _ _ _ _ _ (heap_new' w (.cells cs t))

set_option maxRecDepth 100000 in
set_option maxHeartbeats 2000000 in
theorem first_low (c : Int) (h0 : 0 ≤ c) (h1 : c < 128) (L : Nat) (hL : 1 ≤ L) (b off cap : Nat) (hcap : L ≤ cap) (w : World) (hb : b < w.heap.size) (hc : w.cell? ⟨b, off, none⟩ = some (.int .u8 c)) :
    Calls Tryd.prog 63 #[.slice (some ⟨b, off, none⟩) L cap] w fun e w' => e = .returned (.agg #[.int .i64 c, .int .i64 0, .int .i64 1, .bool false]) ∧ Below w.heap.size w w' := by
  have k0 : ∀ o, (w.alloc o).cell? ⟨b, off, none⟩ = some (.int .u8 c) := fun o => (World.cell?_of_block (a := ⟨b, off, none⟩) (Below.heap_alloc w o b hb)).trans hc
  have hL0 : (0 : Int) < (L : Int) := by omega
  go_enter Tryd.func63, Tryd.ntmps63
  go_wp2_with fail
  refine (enc_low c h0 h1 _).mono ?_
  rintro e' w1 ⟨rfl, hw1⟩
  clear k0
  have hB1 : Below (w.alloc (.cells #[.int .i64 0, .int .i64 0, .int .i64 0, .bool false] 68)).heap.size (w.alloc (.cells #[.int .i64 0, .int .i64 0, .int .i64 0, .bool false] 68)) w1 := by rw [hw1]; exact (Below.refl _ _).alloc (Nat.le_refl _) _
  have hnew : w1.cell? ⟨w.heap.size + 1, 0, none⟩ = some (.int .u8 c) := by
    rw [hw1]
    have h := heap_new' (w.alloc (.cells #[.int .i64 0, .int .i64 0, .int .i64 0, .bool false] 68)) (.cells #[.int .u8 c] 5)
    rw [World.size_alloc] at h
    exact cell_of_row _ _ _ _ _ _ h
  clear hw1
  have hBw : Below w.heap.size w w1 := ((Below.refl _ w).alloc (Nat.le_refl _) _).trans (hB1.mono (by simp))
  have hu : w1.heap[w.heap.size]? = some (.cells #[.int .i64 0, .int .i64 0, .int .i64 0, .bool false] 68 (0, 0)) := (hB1.block w.heap.size (by simp)).trans (heap_new' w _)
  have q0 : w1.cell? ⟨w.heap.size, 0, none⟩ = some (.int .i64 0) := cell_of_row _ _ _ _ _ _ hu
  have q1 : w1.cell? ⟨w.heap.size, 1, none⟩ = some (.int .i64 0) := cell_of_row _ _ _ _ _ _ hu
  have q2 : w1.cell? ⟨w.heap.size, 2, none⟩ = some (.int .i64 0) := cell_of_row _ _ _ _ _ _ hu
  have q3 : w1.cell? ⟨w.heap.size, 3, none⟩ = some (.bool false) := cell_of_row _ _ _ _ _ _ hu
  have g0 : ∀ j, w1.frozen? ⟨w.heap.size, j, none⟩ = false := fun j => frozen_of_row _ _ _ _ _ hu
  have cv1 : ∀ k, (convert 37 9 (.slice (some ⟨w.heap.size + 1, 0, none⟩) 1 1)).run Tryd.prog (w1.drewN k) = .ok (.string (strOfNums [c])) (w1.drewN k) := fun k =>
    run_convert_bytes_arg _ 37 5 Tryd.underlying37 Tryd.underlying5 (w.heap.size + 1) 0 1 1 [c] rfl (one_cell (by rw [cell_drewN6]; exact hnew)) 9 Tryd.underlying9
  have cv2 : ∀ k, (convert 37 9 (.slice (some ⟨b, off, none⟩) 1 cap)).run Tryd.prog (w1.drewN k) = .ok (.string (strOfNums [c])) (w1.drewN k) := fun k =>
    run_convert_bytes_arg _ 37 5 Tryd.underlying37 Tryd.underlying5 b off 1 cap [c] rfl (one_cell (by rw [cell_drewN6]; exact (hBw.cell (p := ⟨b, off, none⟩) hb).trans hc)) 9 Tryd.underlying9
  obtain ⟨T, hT⟩ : ∃ T, T = [c] := ⟨_, rfl⟩
  rw [← hT] at cv1 cv2
  have hs1 : ((strOfNums T).toList == (strOfNums T).toList) = true := by simp
  have hn0 : (0 : Int) ≤ 1 := by omega
  have hn1 : (1 : Int) ≤ (cap : Int) := by omega
  have HBW : Hid (Below w.heap.size w w1) := hBw
  clear hT hB1 hnew hu hc hBw
  go_wp2
  go_quiet (fail)
  go_wp2
  refine bodyPost_ret (v := .agg #[.int .i64 c, .int .i64 0, .int .i64 1, .bool false]) (by simp [results, Tryd.results63, go_sem, q0, q1, q2, q3]) rfl ⟨rfl, ?_⟩
  exact ((((below_drewN' HBW.out _).setCell (p := ⟨w.heap.size, 0, none⟩) (Nat.le_refl _) _).setCell (p := ⟨w.heap.size, 1, none⟩) (Nat.le_refl _) _).setCell (p := ⟨w.heap.size, 2, none⟩) (Nat.le_refl _) _).setCell (p := ⟨w.heap.size, 3, none⟩) (Nat.le_refl _) _

/-- The units of bytes below 128, as cells. -/
def asU (zs : List Int) (p : Nat) : List Value := (List.range p).flatMap fun i : Nat => [.int .i64 (zs[i]?.getD 0), .int .i64 (i : Int), .int .i64 1, .bool false]
theorem asU_succ (zs : List Int) (p : Nat) : asU zs (p + 1) = asU zs p ++ [.int .i64 (zs[p]?.getD 0), .int .i64 (p : Int), .int .i64 1, .bool false] := by
  unfold asU; rw [List.range_succ, List.flatMap_append]; simp
theorem asU_len (zs : List Int) : ∀ p, (asU zs p).length = p * 4
  | 0 => rfl
  | p + 1 => by rw [asU_succ, List.length_append, asU_len zs p]; simp; omega
theorem asU_at (zs : List Int) : ∀ (p i : Nat), i < p → (asU zs p)[i * 4]? = some (.int .i64 (zs[i]?.getD 0))
  | 0, i, h => by omega
  | p + 1, i, h => by
    rw [asU_succ]
    rcases Nat.lt_or_ge i p with q | q
    · rw [List.getElem?_append_left (by rw [asU_len]; omega), asU_at zs p i q]
    · obtain rfl : i = p := by omega
      rw [List.getElem?_append_right (by rw [asU_len]; omega), asU_len, Nat.sub_self]; rfl
theorem heap_new26 (w : World) (o o' : Obj) : ((w.alloc o).alloc o').heap[w.heap.size + 1]? = some o' := by
  have := heap_new' (w.alloc o) o'
  rwa [World.size_alloc] at this
theorem heap_new16 (w : World) (o o' : Obj) : ((w.alloc o).alloc o').heap[w.heap.size]? = some o :=
  (Below.heap_alloc (w.alloc o) o' w.heap.size (by simp)).trans (heap_new' w o)

set_option maxRecDepth 100000 in
set_option maxHeartbeats 2000000 in
theorem decode_low (zs : List Int) (hz : ∀ c ∈ zs, 0 ≤ c ∧ c < 128) (hlen : zs.length ≤ 10000) (b off cap : Nat) (hcap : zs.length ≤ cap) (w : World) (hb : b < w.heap.size) (hc : ∀ j, j < zs.length → w.cell? ⟨b, off + j, none⟩ = some (.int .u8 (zs[j]?.getD 0))) :
    Calls Tryd.prog 41 #[.slice (some ⟨b, off, none⟩) zs.length cap] w fun e w' => ∃ v, e = .returned v ∧ w'.ownsRow w.heap.size 68 4 v zs.length (asU zs zs.length) ∧ Below w.heap.size w w' := by
  obtain ⟨i0, hi, hz0, hz1, hz2⟩ := info_parts Tryd.infoUnit
  have HC : Hid (∀ j, j < zs.length → w.cell? ⟨b, off + j, none⟩ = some (.int .u8 (zs[j]?.getD 0))) := hc
  have HZ : Hid (∀ c ∈ zs, 0 ≤ c ∧ c < 128) := hz
  clear hc hz
  go_enter Tryd.func41, Tryd.ntmps41
  go_wp2
  go_loopw [3, 4] (fun v i wr => ∃ (p : Nat), p ≤ zs.length ∧ i = .int .i64 p ∧ wr.ownsRow w.heap.size 68 4 v p (asU zs p) ∧ Below w.heap.size w wr) (fun _ i _ => zs.length - (intOf i).toNat)
  case atStart => exact ⟨0, Nat.zero_le _, rfl, World.ownsRow_nil _ _ _ _, Below.refl _ _⟩
  case round =>
    obtain ⟨p, hle, rfl, hrow, hB⟩ := hrel
    have hbs := hB.size
    by_cases hlt : p < zs.length
    · obtain ⟨u, hu⟩ : ∃ u, u = zs[p]?.getD 0 := ⟨_, rfl⟩
      have hub : 0 ≤ u ∧ u < 128 := by rw [hu, List.getElem?_eq_getElem hlt]; exact HZ.out _ (List.getElem_mem _)
      have HF : Hid (∀ len, len = zs.length - p → Calls Tryd.prog 63 #[.slice (some ⟨b, off + p, none⟩) len (cap - p)] wr fun e w' => e = .returned (.agg #[.int .i64 u, .int .i64 0, .int .i64 1, .bool false]) ∧ Below wr.heap.size wr w') := by
        intro len hl
        exact first_low u hub.1 hub.2 len (by omega) b (off + p) (cap - p) (by omega) wr (by omega) ((hB.cell (p := ⟨b, off + p, none⟩) hb).trans (by rw [hu]; exact HC.out p hlt))
      have HU : Hid (u = zs[p]?.getD 0) := hu
      clear hu hub
      have hul : Hid (∀ k, u3.ownBlock = some k → w.heap.size ≤ k ∧ k < wr.heap.size) := fun k e => hrow.lt k e
      go_wp2_with (first | (go_at_call 63; refine (HF.out _ (by omega)).mono ?_; rintro e w1 ⟨rfl, hB1⟩; have hrow1 := row_below hrow hB1; have hs1 := hB1.size) | (at_builtin; refine wpList_append_lies _ rfl _ _ 65 rfl w.heap.size 68 i0 (.agg #[.int .i64 0, .int .i64 0, .int .i64 0, .bool false]) 4 32 Tryd.underlying65 hi hz0 hz1 hz2 rfl (by decide) _ _ _ rfl ((hrow1.alloc _).alloc _) ⟨w1.heap.size + 1, 0, none⟩ 1 1 [.int .i64 u, .int .i64 (p : Int), .int .i64 1, .bool false] rfl rfl (World.news_of_block (heap_new26 _ _ _)) (by simp [Value.oneCell']) (by omega) (by unfold maxLen; omega) (by omega) (by simp; omega) _ rfl ?_; intro g cap2 w2 hown2 hgrow2 hat2 hlt2; have hc2 : w2.cell? ⟨w1.heap.size, 2, none⟩ = some (.int .i64 1) := (hgrow2.cell_far ⟨w1.heap.size, 2, none⟩ (by simp; omega) (fun e => by have := (hul.out _ e.symm).2; simp at this; omega)).trans (cell_of_row _ _ 2 _ _ _ (heap_new16 _ _ _))))
      have hB2 : Below w.heap.size w w2 := (((hB.trans (hB1.mono hbs)).alloc (by omega) _).alloc (by simp; omega) _).grown hgrow2 (by simp; omega) (fun k e => (hul.out k e).1)
      go_roundw
      case rel => exact ⟨p + 1, by omega, by go_num, by rw [asU_succ, ← HU.out]; exact hown2, hB2⟩
      case measure => simp [intOf]; omega
    · obtain rfl : p = zs.length := by omega
      go_wp2
      go_ret
      exact ⟨_, rfl, hrow, hB⟩

theorem cellsI_take (zs : List Int) (k : Nat) (h : k < zs.length) : (zs.take (k + 1)).map (Value.int .i64) = (zs.take k).map (Value.int .i64) ++ [.int .i64 (zs[k]?.getD 0)] := by
  rw [List.take_succ_eq_append_getElem h, List.map_append, List.getElem?_eq_getElem h]; rfl
set_option maxRecDepth 100000 in
set_option maxHeartbeats 2000000 in
theorem runes_low (zs : List Int) (hz : ∀ c ∈ zs, 0 ≤ c ∧ c < 128) (hlen : zs.length ≤ 10000) (b off cap : Nat) (hcap : zs.length ≤ cap) (w : World) (hb : b < w.heap.size) (hc : ∀ j, j < zs.length → w.cell? ⟨b, off + j, none⟩ = some (.int .u8 (zs[j]?.getD 0))) :
    Calls Tryd.prog 20 #[.slice (some ⟨b, off, none⟩) zs.length cap] w fun e w' => ∃ v, e = .returned v ∧ IntsAt w'.heap.size w' v zs ∧ Below w.heap.size w w' := by
  obtain ⟨i0, hi, hz0, hz1, hz2⟩ := info_parts Tryd.infoInt
  go_enter Tryd.func20, Tryd.ntmps20
  go_wp2_with fail
  refine (decode_low zs hz hlen b off cap hcap w hb hc).mono ?_
  rintro e w1 ⟨v1, rfl, ho, hB1⟩
  have hs1 := hB1.size
  have HU : Hid (∃ a1 c1, v1 = .slice a1 zs.length c1 ∧ zs.length ≤ c1 ∧ ∀ i, i < zs.length → ∃ g, a1 = some ⟨g, 0, none⟩ ∧ g < w1.heap.size ∧ w1.cell? ⟨g, i * 4, none⟩ = some (.int .i64 (zs[i]?.getD 0))) := by
    rcases ho.2 with ⟨rfl, h0⟩ | ⟨g, cap, cur, rfl, hb, hg, hc, hm, hs, ht⟩
    · exact ⟨none, 0, by rw [h0], by omega, fun i hi => by omega⟩
    · refine ⟨_, cap, rfl, hc, fun i hi => ⟨g, rfl, (Array.getElem?_eq_some_iff.1 hg).1, ?_⟩⟩
      have := ho.cells (g := g) rfl (i * 4) _ (asU_at zs zs.length i hi)
      rw [addr_add, Nat.zero_add] at this
      exact this
  obtain ⟨a1, c1, rfl, hc1, hu⟩ := HU.out
  have HV : Hid (∀ i, i < zs.length → ∃ g, a1 = some ⟨g, 0, none⟩ ∧ g < w1.heap.size ∧ w1.cell? ⟨g, i * 4, none⟩ = some (.int .i64 (zs[i]?.getD 0))) := hu
  clear hu ho HU hc hz
  go_wp2
  go_loopw [4, 5] (fun v i wr => ∃ k : Nat, k ≤ zs.length ∧ i = .int .i64 k ∧ wr.ownsRow w1.heap.size 3 1 v k ((zs.take k).map (Value.int .i64)) ∧ Below w1.heap.size w1 wr) (fun _ i _ => zs.length - (intOf i).toNat)
  case atStart => exact ⟨0, Nat.zero_le _, rfl, World.ownsRow_nil _ _ _ _, Below.refl _ _⟩
  case round =>
    obtain ⟨k, hk, rfl, hrow, hB⟩ := hrel
    have hbs := hB.size
    by_cases hlt : k < zs.length
    · obtain ⟨g, rfl, hg, hj⟩ := HV.out k hlt
      obtain ⟨u, hud⟩ : ∃ u, u = zs[k]?.getD 0 := ⟨_, rfl⟩
      rw [← hud] at hj
      have c0 : wr.cell? ⟨g, k * 4, none⟩ = some (.int .i64 u) := (hB.cell (p := ⟨g, k * 4, none⟩) hg).trans hj
      have HT : Hid ((zs.take (k + 1)).map (Value.int .i64) = (zs.take k).map (Value.int .i64) ++ [.int .i64 u]) := by
        show _ = _
        rw [cellsI_take zs k hlt, hud]
      clear hj hud
      have hul : Hid (∀ j, u4.ownBlock = some j → w1.heap.size ≤ j) := fun j e => (hrow.lt j e).1
      go_wp2_with (at_builtin; refine wpList_append_lies _ rfl _ _ 22 rfl w1.heap.size 3 i0 (.int .i64 0) 1 8 Tryd.underlying22 hi hz0 hz1 hz2 rfl (by decide) _ _ _ rfl (hrow.alloc _) ⟨wr.heap.size, 0, none⟩ 1 1 [.int .i64 u] rfl rfl (World.news_of_block (World.alloc_heap_new _ _)) (by simp [Value.oneCell']) (by omega) (by unfold maxLen; omega) (by omega) (by simp; omega) _ rfl ?_; intro g2 cap2 w2 hown2 hgrow2 hat2 hlt2)
      have hB2 : Below w1.heap.size w1 w2 := (hB.alloc hbs _).grown hgrow2 (by simp; omega) hul.out
      go_roundw
      case rel => exact ⟨k + 1, by omega, by go_num, by rw [HT.out]; exact hown2, hB2⟩
      case measure => simp [intOf]; omega
    · obtain rfl : k = zs.length := by omega
      rw [List.take_length] at hrow
      go_wp2
      go_ret
      exact ⟨_, rfl, ints_of_row hrow, hB1.trans (hB.mono hs1)⟩
end Go.Proofs.YtpmlbdfdiebkcaaDoor
