/-
  The document's word read from behind.
-/
import Derived.Test.YtlllmoelhholfaaMtBackM
import Derived.Test.YtlllmoelhholfaaMtLaw
namespace Go.Proofs.Ytlllmoelhholfaa
open Go.RowKit Go.Shelf
set_option linter.unusedVariables false

def cellW (l : List Nat) : List Value := l.map fun (n : Nat) => Value.int .u64 (n : Int)
theorem cellW_snoc (l : List Nat) (x : Nat) : cellW (l ++ [x]) = cellW l ++ [.int .u64 (x : Int)] := by simp [cellW]
theorem wrd_of_row {w : World} {base : Nat} {v : Value} {ws : List Nat} (h : w.ownsRow base 34 1 v ws.length (cellW ws)) (h64 : ∀ x ∈ ws, x < 18446744073709551616) : WrdAt w.heap.size w v ws := by
  rcases h.2 with ⟨rfl, h0⟩ | ⟨g, cap, cur, rfl, hb, hg, hc, hm, hs, ht⟩
  · obtain rfl : ws = [] := List.length_eq_zero_iff.1 h0
    exact ⟨none, 0, rfl, Nat.le_refl _, fun i hi => by cases hi⟩
  · refine ⟨_, cap, rfl, hc, fun i hi => ⟨h64 _ (List.getElem_mem hi), g, 0, rfl, lt_of_heap hg, ?_⟩⟩
    have := h.cells (g := g) rfl i (.int .u64 (ws[i] : Int)) (by simp [cellW, hi])
    rw [add_lit'] at this
    exact this
theorem wrd_64 {B : Nat} {w : World} {v : Value} {ws : List Nat} (h : WrdAt B w v ws) : ∀ x ∈ ws, x < 18446744073709551616 := fun x hx => by
  obtain ⟨i, hi, rfl⟩ := List.getElem_of_mem hx
  obtain ⟨_, _, _, _, hx⟩ := h
  exact (hx i hi).1

set_option maxRecDepth 100000 in
set_option maxHeartbeats 4000000 in
theorem back_any (ws : List Nat) (wa : Option Addr) (wk : Nat) (w : World) (hL : ws.length ≤ 1000) (hw : WrdAt w.heap.size w (.slice wa ws.length wk) ws) :
    Calls Try.prog 22 #[.slice wa ws.length wk] w fun e w' => ∃ v', e = .returned v' ∧ w'.ownsRow w.heap.size 34 1 v' ws.reverse.length (cellW ws.reverse) ∧ Below w.heap.size w w' := by
  obtain ⟨i0, hi0, hz0, hz1, hz2⟩ := info_parts Try.infoU
  obtain ⟨wl, hwl⟩ : ∃ len, len = ws.length := ⟨_, rfl⟩
  have HW : Hid (WrdAt w.heap.size w (.slice wa wl wk) ws) := by rw [hwl]; exact hw
  have hwlk : wl ≤ wk := by
    obtain ⟨a', c', e1, hc, _⟩ := hw
    have e3 : wa = a' ∧ wk = c' := by simpa using e1
    omega
  rw [← hwl] at hL ⊢
  have HWL : Hid (wl = ws.length) := hwl
  clear hwl hw
  go_enter Try.func22, Try.ntmps22
  go_wp2
  go_loopw [3, 4] (fun x3 x4 wr => ∃ (j : Nat), j ≤ wl ∧ x4 = .int .i64 ((wl : Int) - 1 - (j : Int)) ∧ Hid (wr.ownsRow w.heap.size 34 1 x3 (ws.reverse.take j).length (cellW (ws.reverse.take j))) ∧ Hid (Below w.heap.size w wr)) (fun _ x4 _ => (intOf x4 + 1).toNat)
  case atStart => exact ⟨0, Nat.zero_le _, by simp, (by show w.ownsRow _ _ _ _ _ _; simpa [cellW] using World.ownsRow_nil _ _ _ _), Below.refl _ _⟩
  case round =>
    obtain ⟨j, hj, rfl, HO, HB⟩ := hrel
    by_cases hjl : j < wl
    · obtain ⟨i, hi⟩ : ∃ i, i + 1 + j = wl := ⟨wl - 1 - j, by omega⟩
      have hie : (wl : Int) - 1 - (j : Int) = (i : Int) := by omega
      rw [hie]
      have hin : i < ws.length := by have := HWL.out; omega
      obtain ⟨y, hy⟩ : ∃ y, y = ws[i] := ⟨_, rfl⟩
      obtain ⟨gw, ow, rfl, hgw, e0, hy64⟩ : ∃ ga oa, wa = some ⟨ga, oa, none⟩ ∧ ga < w.heap.size ∧ w.cell? ⟨ga, oa + i, none⟩ = some (.int .u64 (y : Int)) ∧ y < 18446744073709551616 := by
        obtain ⟨a', c', e1, _, h⟩ := HW.out
        obtain ⟨h0, g, off, e2, h1, h3⟩ := h i hin
        exact ⟨g, off, by simp at e1; rw [e1.1]; exact e2, h1, by rw [hy]; exact h3, by rw [hy]; exact h0⟩
      have e1 : wr.cell? ⟨gw, ow + i, none⟩ = some (.int .u64 (y : Int)) := (HB.out.cell (p := ⟨gw, _, none⟩) hgw).trans e0
      have hws : w.heap.size ≤ wr.heap.size := HB.out.size
      have hj0 : (0 : Int) ≤ (i : Int) := by omega
      have hj1 : (i : Int) < (wl : Int) := by omega
      have HTK : Hid (ws.reverse.take (j + 1) = ws.reverse.take j ++ [y]) := by
        show _ = _
        have hjr : j < ws.reverse.length := by rw [List.length_reverse]; have := HWL.out; omega
        rw [List.take_add_one, List.getElem?_eq_getElem hjr, List.getElem_reverse, hy]
        have hx : ws.length - 1 - j = i := by have := HWL.out; omega
        simp [hx]
      have HFL : Hid ((ws.reverse.take j).length ≤ 1000) := by
        show _ ≤ _
        rw [List.length_take]
        omega
      have hnx : (i : Int) - 1 = (wl : Int) - 1 - ((j + 1 : Nat) : Int) := by omega
      clear e0 hy
      go_wp2_with (at_builtin; go_must (refine wpList_append_own _ rfl _ _ 25 rfl w.heap.size 34 i0 (.int .u64 0) 1 8 Try.underlying25 hi0 hz0 hz1 hz2 rfl (by decide) _ _ _ rfl (HO.out.alloc _) ⟨wr.heap.size, 0, none⟩ 1 1 [.int .u64 (y : Int)] rfl rfl (World.news_of_block (heap_new' _ _)) (by simp [Value.oneCell']) (by unfold maxLen; have := HFL.out; omega) (by have := HFL.out; omega) (by simp; omega) ?_); intro v2 w2 ho2 hg2 _)
      have HO2 : Hid (w2.ownsRow w.heap.size 34 1 v2 (ws.reverse.take (j + 1)).length (cellW (ws.reverse.take (j + 1)))) := by
        show w2.ownsRow _ _ _ _ _ _
        rw [HTK.out, cellW_snoc, List.length_append]
        simpa using ho2
      have HG2 : Hid (Below w.heap.size w w2) := (HB.out.alloc (by omega) _).grown hg2 (by simp; omega) (fun j e => (HO.out.lt j e).1)
      clear ho2 hg2
      go_wp2
      go_roundw
      case rel => exact ⟨j + 1, by omega, by first | rw [hnx] | (rw [← hnx]; go_num), HO2, HG2⟩
      case measure => simp [intOf]; omega
    · obtain rfl : j = wl := by omega
      have HEQ : Hid (ws.reverse.take j = ws.reverse) := List.take_of_length_le (by rw [List.length_reverse, ← HWL.out]; exact Nat.le_refl _)
      have hie : (j : Int) - 1 - (j : Int) = -1 := by omega
      rw [hie]
      go_wp2
      go_ret
      have h := HO.out
      rw [HEQ.out] at h
      exact ⟨_, rfl, h, HB.out⟩
end Go.Proofs.Ytlllmoelhholfaa
