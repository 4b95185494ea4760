/-
  The statements' awake.
-/
import Derived.Test.YtfdjchnckjgapaaGreatDoorX28
import Derived.Test.YtfdjchnckjgapaaGreatDoorX33
namespace Go.Proofs.YtfdjchnckjgapaaGreatDoor
open Go.RowKit Go.Shelf S1
set_option linter.unusedVariables false

def aw8 : List Int := 115 :: 101 :: 116 :: 32 :: 97 :: 32 :: 61 :: 32 :: 91 :: 97 :: 45 :: 122 :: 93 :: 32 :: 45 :: 32 :: 91 :: 120 :: 93 :: 59 :: 32 :: 107 :: 101 :: 101 :: 112 :: 32 :: 97 :: 32 :: 47 :: 32 :: 97 :: 42 :: 59 :: []
theorem aw8_parse : parseL (toksL 33 (ascU 0 aw8)) = .inr ([⟨false, ⟨1, 0, []⟩, ⟨3, 0, [⟨1, 0, []⟩]⟩⟩], [[⟨97, 119⟩, ⟨121, 122⟩]]) := by kernel_rfl
theorem aw8_byt : Byt aw8 := by intro c hc; simp [aw8] at hc; omega

set_option maxRecDepth 100000 in
set_option maxHeartbeats 4000000 in
theorem awake8_any (w : World) (hsv : SynV w) : Calls Tryz.prog 8 #[] w fun e w' => e = .returned (.bool true) ∧ Below w.heap.size w w' := by
  have hcv := Go.Lib.run_convert_bytes_const (P := Tryz.prog) w 22 5 (aw8.map (Value.int .u8)).toArray 33 33 Tryz.underlying22 Tryz.underlying5
  have hbl := bytes_lit (w := w) aw8 5 (33, 34) 33 (Nat.le_refl _)
  have hB1 : Below w.heap.size w (w.alloc (.cells (aw8.map (Value.int .u8)).toArray 5 (33, 34))) := (Below.refl _ w).alloc (Nat.le_refl _) _
  have htk := parse_any8 aw8 aw8_byt (by decide) (ascU 0 aw8) (run_ascii (by intro c hc; simp [aw8] at hc; omega)) (some ⟨w.heap.size, 0, none⟩) 33 (w.alloc (.cells (aw8.map (Value.int .u8)).toArray 5 (33, 34))) (hsv.grown (World.grownBy_alloc _ _ none) (by simp)) (by rw [World.size_alloc]; exact hbl)
  have e33 : aw8.length = 33 := rfl
  rw [e33, aw8_parse] at htk
  have HB1 : Hid (Below w.heap.size w (w.alloc (.cells (aw8.map (Value.int .u8)).toArray 5 (33, 34)))) := hB1
  obtain ⟨W1, hW1⟩ : ∃ W1, W1 = w.alloc (.cells (aw8.map (Value.int .u8)).toArray 5 (33, 34)) := ⟨_, rfl⟩
  have hcv' : (convert 22 22 (.slice (some ⟨w.heap.size, 0, none⟩) 33 33)).run Tryz.prog (w.alloc (.cells (List.toArray (.int .u8 115 :: .int .u8 101 :: .int .u8 116 :: .int .u8 32 :: .int .u8 97 :: .int .u8 32 :: .int .u8 61 :: .int .u8 32 :: .int .u8 91 :: .int .u8 97 :: .int .u8 45 :: .int .u8 122 :: .int .u8 93 :: .int .u8 32 :: .int .u8 45 :: .int .u8 32 :: .int .u8 91 :: .int .u8 120 :: .int .u8 93 :: .int .u8 59 :: .int .u8 32 :: .int .u8 107 :: .int .u8 101 :: .int .u8 101 :: .int .u8 112 :: .int .u8 32 :: .int .u8 97 :: .int .u8 32 :: .int .u8 47 :: .int .u8 32 :: .int .u8 97 :: .int .u8 42 :: .int .u8 59 :: [])) 5)) = .ok (.slice (some ⟨w.heap.size, 0, none⟩) 33 33) W1 := by rw [hW1]; exact hcv
  rw [← hW1] at htk HB1
  clear hW1 hcv hbl hB1 e33
  go_enter Tryz.func8, Tryz.ntmps8
  go_wp2_with fail
  refine htk.mono ?_
  rintro e w2 ⟨hB2, (⟨a, x, h, _⟩ | ⟨rs, st, sv, rv, hl, rfl, hpg⟩)⟩
  · cases h
  · have hl := Sum.inr.inj hl
    obtain ⟨hl1, hl2⟩ := Prod.mk.inj hl
    have hss := hpg.sets
    have hrr := hpg.rules
    rw [← hl1] at hrr
    rw [← hl2] at hss
    obtain ⟨sa, sc, rfl, hsc, hs⟩ := hss
    obtain ⟨ra, rc, rfl, hrc, hr⟩ := hrr
    obtain ⟨gs, os, x, rfl, hgs, s0, hx⟩ := hs 0 (by simp)
    obtain ⟨gr, or, zl, zr, rfl, hgr, c0, c1, c2, c3, c4, c5, c6, _⟩ := hr 0 (by simp)
    obtain ⟨xa, xc, rfl, _⟩ := hx
    simp only [List.length_cons, List.length_nil, Nat.zero_add, List.getElem_cons_zero, Nat.add_zero, Nat.zero_mul] at s0 c4 hsc hrc ⊢
    have hB : Below w.heap.size w w2 := HB1.out.trans (hB2.mono HB1.out.size)
    clear htk hcv' hs hr hpg hl hl1 hl2 c0 c1 c2 c3 c5 c6 hB2
    go_wp2
    go_ret
    exact ⟨rfl, below_after hB (below_alloc _ _)⟩
end Go.Proofs.YtfdjchnckjgapaaGreatDoor
