/-
  ucd.scriptEntries: the table of scripts, a variable.
-/
import Derived.Test.YtpmlbdfdiebkcaaDoorEnts
namespace Go.Proofs.YtpmlbdfdiebkcaaDoor
open Go.RowKit
set_option linter.unusedVariables false

/-- The variable's block holds the table of scripts. -/
def Scripts (w : World) : Prop := w.rangeAt 0 0 (cellsPs scP)
theorem Tryd.undScr : Tryd.prog.underlying 111 = some (.array 24 70) := by kernel_rfl
theorem Tryd.sizeScr : (Tryd.prog.info? 111).map (·.size) = some 72 := by kernel_rfl
theorem scP_len : scP.length = 24 := rfl
theorem Scripts.below {w w' : World} (h : Scripts w) (h0 : 0 < w.heap.size) (hb : Below w.heap.size w w') : Scripts w' := fun j u hj => (hb.cell (p := ⟨0, _, none⟩) h0).trans (h j u hj)

set_option maxRecDepth 100000 in
theorem scr_index (w : World) (i : Nat) (h : i < 24) : (Instr.index 111 (.agg (cellsPs scP).toArray) (.int .i64 (i : Int))).run Tryd.prog w = .ok (.agg #[.int .i64 (scP[i]'h).lo, .int .i64 (scP[i]'h).hi, .int .u8 (scP[i]'h).v]) w := by
  have : i = 0 ∨ i = 1 ∨ i = 2 ∨ i = 3 ∨ i = 4 ∨ i = 5 ∨ i = 6 ∨ i = 7 ∨ i = 8 ∨ i = 9 ∨ i = 10 ∨ i = 11 ∨ i = 12 ∨ i = 13 ∨ i = 14 ∨ i = 15 ∨ i = 16 ∨ i = 17 ∨ i = 18 ∨ i = 19 ∨ i = 20 ∨ i = 21 ∨ i = 22 ∨ i = 23 := by omega
  rcases this with rfl | rfl | rfl | rfl | rfl | rfl | rfl | rfl | rfl | rfl | rfl | rfl | rfl | rfl | rfl | rfl | rfl | rfl | rfl | rfl | rfl | rfl | rfl | rfl <;> (show _ = _; kernel_rfl)

set_option maxRecDepth 100000 in
set_option maxHeartbeats 8000000 in
theorem scriptEntries_any (w : World) (hs : Scripts w) (h0 : 0 < w.heap.size) :
    Calls Tryd.prog 48 #[] w fun e w' => ∃ v', e = .returned v' ∧ w'.ownsRow w.heap.size 70 3 v' scP.length (cellsPs scP) ∧ Below w.heap.size w w' := by
  obtain ⟨iP, hiP, hzP0, hzP1, hzP2⟩ := info_parts Tryd.infoProp
  obtain ⟨S, hS⟩ : ∃ S, S = scP := ⟨_, rfl⟩
  have HSL : Hid (S.length = 24) := by show _ = _; rw [hS]; rfl
  have HR : Hid (w.rangeAt 0 0 (cellsPs S)) := by rw [hS]; exact hs
  have HI : Hid ((Tryd.prog.info? 111).map (·.size) = some (cellsPs S).length) := by show _ = _; rw [cellsPs_length, HSL.out]; exact Tryd.sizeScr
  have HIX : Hid (∀ (w' : World) (i : Nat) (h : i < S.length), (Instr.index 111 (.agg (cellsPs S).toArray) (.int .i64 (i : Int))).run Tryd.prog w' = .ok (.agg #[.int .i64 S[i].lo, .int .i64 S[i].hi, .int .u8 S[i].v]) w') := by
    intro w' i h
    subst hS
    exact scr_index w' i h
  rw [← hS]
  clear hs hS
  go_enter Tryd.func48, Tryd.ntmps48
  go_wp2_with (first | (refine wpList_load_mid rfl 111 _ rfl 0 0 rfl (cellsPs S) _ HR.out Tryd.undScr rfl HI.out ?_) | fail)
  obtain ⟨LI, hLI⟩ : ∃ LI, LI = (cellsPs S).toArray := ⟨_, rfl⟩
  rw [← hLI] at HIX
  rw [← hLI]
  clear hLI HR HI
  go_loopw [1, 5] (fun y x wr => ∃ k : Nat, k ≤ 24 ∧ x = .int .i64 k ∧ wr.ownsRow w.heap.size 70 3 y (S.take k).length (cellsPs (S.take k)) ∧ Below w.heap.size w wr) (fun _ x _ => 24 - (intOf x).toNat)
  case atStart => exact ⟨0, Nat.zero_le _, rfl, World.ownsRow_nil _ _ _ _, Below.refl _ _⟩
  case round =>
    obtain ⟨k, hk, rfl, ho, hB⟩ := hrel
    have hsi := hB.size
    by_cases hlt : k < 24
    · have hlt' : (k : Int) < 24 := by omega
      have hkS : k < S.length := by rw [HSL.out]; exact hlt
      obtain ⟨p, hp⟩ : ∃ p, p = S[k] := ⟨_, rfl⟩
      have hIX : ∀ w' : World, (Instr.index 111 (.agg LI) (.int .i64 (k : Int))).run Tryd.prog w' = .ok (.agg #[.int .i64 p.lo, .int .i64 p.hi, .int .u8 p.v]) w' := fun w' => by rw [hp]; exact HIX.out w' k hkS
      have HST : Hid (S.take (k + 1) = S.take k ++ [p]) := by show _ = _; rw [List.take_succ_eq_append_getElem hkS, hp]
      have HN : Hid ((S.take k).length ≤ 24) := by show _ ≤ _; rw [List.length_take]; omega
      obtain ⟨R, hR⟩ : ∃ R, R = S.take k := ⟨_, rfl⟩
      rw [← hR] at HST HN ho
      obtain ⟨HO, HB⟩ : Hid (wr.ownsRow w.heap.size 70 3 u1 R.length (cellsPs R)) ∧ Hid (Below w.heap.size w wr) := ⟨ho, hB⟩
      have HWJ : Hid (wrap64 ((k : Int) + 1) = ((k + 1 : Nat) : Int)) := wrap_next (by omega)
      have HOA : Hid (((wr.alloc (.cells #[.int .i64 p.lo, .int .i64 p.hi, .int .u8 p.v] 70)).alloc (.cells #[.int .i64 p.lo, .int .i64 p.hi, .int .u8 p.v] 70)).ownsRow w.heap.size 70 3 u1 R.length (cellsPs R)) := (HO.out.alloc _).alloc _
      have HNA : Hid (((wr.alloc (.cells #[.int .i64 p.lo, .int .i64 p.hi, .int .u8 p.v] 70)).alloc (.cells #[.int .i64 p.lo, .int .i64 p.hi, .int .u8 p.v] 70)).heap[wr.heap.size + 1]? = some (.cells #[.int .i64 p.lo, .int .i64 p.hi, .int .u8 p.v] 70 (0, 0))) := heap_alloc2_new wr _ _
      have HBA : Hid (Below w.heap.size w ((wr.alloc (.cells #[.int .i64 p.lo, .int .i64 p.hi, .int .u8 p.v] 70)).alloc (.cells #[.int .i64 p.lo, .int .i64 p.hi, .int .u8 p.v] 70))) := (HB.out.alloc hsi _).alloc (by simp; omega) _
      clear hp hR ho hB
      go_wp2_with (first | (at_builtin; refine wpList_append_own _ rfl _ _ 45 rfl w.heap.size 70 iP (.agg #[.int .i64 0, .int .i64 0, .int .u8 0]) 3 24 Tryd.undPs hiP hzP0 hzP1 hzP2 rfl (by decide) _ _ _ rfl HOA.out ⟨wr.heap.size + 1, 0, none⟩ 1 1 (cellsP p) rfl rfl (World.news_of_block HNA.out) (by simp [cellsP, Value.oneCell']) (by unfold maxLen; have := HN.out; omega) (by have := HN.out; omega) (by simp; omega) ?_; intro v2 w2 ho2 hg2 _; have HO2 : Hid (w2.ownsRow w.heap.size 70 3 v2 (R ++ [p]).length (cellsPs (R ++ [p]))) := (by rw [cellsPs_snoc, List.length_append]; exact ho2); have HG2 : Hid (Below w.heap.size w w2) := HBA.out.grown hg2 (by simp; omega) (fun j e => (HOA.out.lt j e).1); clear ho2 hg2) | fail)
      go_roundw
      case rel => exact ⟨k + 1, Nat.succ_le_of_lt hlt, by go_num, by rw [HST.out]; exact HO2.out, HG2.out⟩
      case measure => simp [intOf]; omega
    · have hlt' : ¬ ((k : Int) < 24) := by omega
      have hke : S.take k = S := List.take_of_length_le (by rw [HSL.out]; omega)
      rw [hke] at ho
      obtain ⟨HO, HB⟩ : Hid (wr.ownsRow w.heap.size 70 3 u1 S.length (cellsPs S)) ∧ Hid (Below w.heap.size w wr) := ⟨ho, hB⟩
      clear ho hB hke
      go_wp2
      go_ret
      exact ⟨_, rfl, HO.out, HB.out⟩
end Go.Proofs.YtpmlbdfdiebkcaaDoor
