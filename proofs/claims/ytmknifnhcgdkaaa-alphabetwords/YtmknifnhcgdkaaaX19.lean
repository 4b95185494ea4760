/-
  Tries in memory: the types' facts; blocks as keys of a map. trie.filled: a block with a value from one place to another.
-/
import Derived.Test.YtmknifnhcgdkaaaRows
import Derived.Test.YtmknifnhcgdkaaaX17
import Derived.Test.YtmknifnhcgdkaaaX18
import Derived.WalkKit
import Derived.WalkSpells
import Derived.OwnWalk
import Derived.Outline
import Derived.Maps.AppendAt
import Derived.Maps.OwnSet
import Derived.Maps.Views
import Derived.DeepKeys3
import Derived.Deep.MidRow
import Derived.Deep.WholeRow
import Derived.Deep.AppendLies
import Derived.Laws.Rows
import Derived.Laws.AppendOwnNone
import Derived.Deep.QuietTactic
import Derived.BigRegion
import Derived.RegionTactic
namespace Go.Proofs.Ytmknifnhcgdkaaa.S3
open Go.RowKit
set_option linter.unusedVariables false

def u8 (n : Int) : Value := .int .u8 n
def i8 (l : List Int) : List Value := l.map (Value.int .u8)
set_option maxRecDepth 100000 in
theorem Try.infoBlock : (Try.prog.info? 93).map (fun i => (i.zero, i.size, i.bytes)) = some (some (.agg (List.replicate 256 (Value.int .u8 0)).toArray), 256, 256) := by kernel_rfl
set_option maxRecDepth 100000 in
theorem Try.infoTrie : (Try.prog.info? 97).map (fun i => (i.zero, i.size, i.bytes)) = some (some (.agg (List.replicate 4352 (Value.int .u8 0) ++ [Value.slice none 0 0]).toArray), 4353, 4376) := by kernel_rfl
set_option maxRecDepth 100000 in
theorem Try.infoDraft : (Try.prog.info? 116).map (fun i => (i.zero, i.size, i.bytes)) = some (some (.agg (List.replicate 4352 (Value.int .i64 0) ++ [Value.slice none 0 0, Value.map none]).toArray), 4354, 34848) := by kernel_rfl
theorem Try.sizeLike8 : (Try.prog.info? 94).map (·.size) = some 4352 := by kernel_rfl
theorem Try.sizeLikeI : (Try.prog.info? 114).map (·.size) = some 4352 := by kernel_rfl
theorem Try.infoProp : (Try.prog.info? 66).map (fun i => (i.zero, i.size, i.bytes)) = some (some (.agg #[.int .i64 0, .int .i64 0, .int .u8 0]), 3, 24) := by kernel_rfl
theorem Try.infoInt : (Try.prog.info? 3).map (fun i => (i.zero, i.size, i.bytes)) = some (some (.int .i64 0), 1, 8) := by kernel_rfl
theorem Try.infoByte : (Try.prog.info? 5).map (fun i => (i.zero, i.size, i.bytes)) = some (some (.int .u8 0), 1, 1) := by kernel_rfl
theorem Try.typesPos : decide (1 ≤ Try.prog.types.size) = true := by kernel_rfl
theorem Try.keyTypeB : Try.prog.keyTypeAt 2 93 = true := by kernel_rfl
theorem Try.keyTypeC : Try.prog.keyType 93 = true := by kernel_rfl
theorem Try.tiledB : Try.prog.tiled 2 93 = true := by kernel_rfl
theorem Try.cellsB : Try.prog.cellsOf 93 = 256 := by kernel_rfl
theorem Try.cellsU : Try.prog.cellsOf 5 = 1 := by kernel_rfl
theorem Try.undB : Try.prog.underlying 93 = some (.array 256 5) := by kernel_rfl
theorem Try.undBs : Try.prog.underlying 95 = some (.slice 93) := by kernel_rfl
theorem Try.undU : Try.prog.underlying 5 = some (.int .u8) := by kernel_rfl
theorem Try.undI : Try.prog.underlying 3 = some (.int .i64) := by kernel_rfl
theorem Try.undM : Try.prog.underlying 113 = some (.map 93 3) := by kernel_rfl
theorem Try.undMI : Try.prog.underlying 119 = some (.map 3 3) := by kernel_rfl
theorem Try.keyLawB : Maps.Keyed Try.prog 93 := Maps.Keyed.of_law (deep_law (m := 2) (by omega) Try.keyTypeB Try.tiledB (by rw [Try.undB]))
theorem Try.keyLawI : Maps.Keyed Try.prog 3 := Maps.int_keyed Try.undI
/-- The block of the value 0. -/
def zeroB : List Int := List.replicate 256 0
theorem zeroB_length : zeroB.length = 256 := by unfold zeroB; rw [List.length_replicate]
theorem i8_zeroB : i8 zeroB = List.replicate 256 (Value.int .u8 0) := by unfold i8 zeroB; rw [List.map_replicate]
theorem i8_length (l : List Int) : (i8 l).length = l.length := by simp [i8]
theorem i8_one (l : List Int) : ∀ u ∈ i8 l, u.oneCell' = true := fun u hu => by
  obtain ⟨n, _, rfl⟩ := List.mem_map.1 hu
  rfl
theorem i8_set (l : List Int) (k : Nat) (v : Int) : (i8 l).set k (.int .u8 v) = i8 (l.set k v) := by simp [i8, List.map_set]
theorem i8_get {l : List Int} {k : Nat} (h : k < l.length) : (i8 l)[k]? = some (.int .u8 l[k]) := by simp [i8, h]
theorem Try.sizeInt : (Try.prog.info? 3).map (·.size) = some 1 := by kernel_rfl
theorem Try.sizeByte : (Try.prog.info? 5).map (·.size) = some 1 := by kernel_rfl
theorem Try.sizeBlock : (Try.prog.info? 93).map (·.size) = some 256 := by kernel_rfl
theorem Try.zeroBlock (w : World) : (zeroValue 93).run Try.prog w = .ok (.agg (i8 zeroB).toArray) w := by
  rw [i8_zeroB]
  refine (zero_of_info (n := 256) ?_).1 w
  have := Try.infoBlock
  revert this
  cases Try.prog.info? 93 with
  | none => intro h; cases h
  | some i => intro h; simp only [Option.map_some, Option.some.injEq, Prod.mk.injEq] at h ⊢; exact ⟨h.1, h.2.1⟩
end Go.Proofs.Ytmknifnhcgdkaaa.S3

namespace Go.Proofs.Ytmknifnhcgdkaaa.S3
open Go.RowKit
set_option linter.unusedVariables false

/-- A block with the value v from lo on, up to k. -/
def fillTo (b : List Int) (lo k v : Int) : List Int := (List.range b.length).map fun (i : Nat) => if lo ≤ (i : Int) ∧ (i : Int) < k then v else b[i]?.getD 0
theorem fillTo_length (b : List Int) (lo k v : Int) : (fillTo b lo k v).length = b.length := by simp [fillTo]
theorem fillTo_start (b : List Int) (lo v : Int) : fillTo b lo lo v = b := by
  apply List.ext_getElem
  · rw [fillTo_length]
  · intro i h1 h2
    simp only [fillTo, List.getElem_map, List.getElem_range]
    rw [if_neg (by omega), List.getElem?_eq_getElem h2]
    rfl
theorem fillTo_step (b : List Int) (lo v : Int) (k : Nat) (hlo : lo ≤ k) : (fillTo b lo k v).set k v = fillTo b lo ((k : Int) + 1) v := by
  apply List.ext_getElem
  · rw [List.length_set, fillTo_length, fillTo_length]
  · intro i h1 h2
    rw [List.getElem_set]
    simp only [fillTo, List.getElem_map, List.getElem_range]
    by_cases q : k = i
    · rw [if_pos q, if_pos (by omega)]
    · rw [if_neg q]
      by_cases q2 : lo ≤ (i : Int) ∧ (i : Int) < k
      · rw [if_pos q2, if_pos (by omega)]
      · rw [if_neg q2, if_neg (by omega)]
set_option maxRecDepth 100000 in
set_option maxHeartbeats 2000000 in
theorem filled_any (b : List Int) (lo hi : Nat) (v : Int) (w : World) (hb : b.length = 256) (hh : hi < 256) (hl : lo ≤ hi + 1) :
    Calls Try.prog 64 #[.agg (i8 b).toArray, .int .i64 lo, .int .i64 hi, .int .u8 v] w fun e w' => e = .returned (.agg (i8 (fillTo b lo ((hi : Int) + 1) v)).toArray) ∧ Below w.heap.size w w' := by
  obtain ⟨iB, hiB, hzB0, hzB1, hzB2⟩ := info_parts Try.infoBlock
  have hzero := Try.zeroBlock
  obtain ⟨C0, hC0⟩ : ∃ C : Nat → List Value, C = fun (k : Nat) => i8 (fillTo b lo k v) := ⟨_, rfl⟩
  have HC : Hid (C0 = fun (k : Nat) => i8 (fillTo b lo k v)) := hC0
  have h0 : Hid (i8 b = C0 lo) := by show _ = _; rw [hC0]; show _ = i8 (fillTo b lo lo v); rw [fillTo_start]
  have hlen : ∀ k, (C0 k).length = 256 := fun k => by rw [hC0]; show (i8 _).length = 256; rw [i8_length, fillTo_length, hb]
  have HE : Hid (C0 (hi + 1) = i8 (fillTo b lo ((hi : Int) + 1) v)) := by show _ = _; rw [hC0]; simp
  have HS : Hid (∀ k : Nat, lo ≤ k → (C0 k).set k (.int .u8 v) = C0 (k + 1)) := fun k hk => by
    rw [hC0]
    show (i8 _).set k _ = i8 _
    rw [i8_set, fillTo_step _ _ _ _ (by omega)]
    simp
  have HO : Hid (∀ k, ∀ u ∈ C0 k, u.oneCell' = true) := fun k => by rw [hC0]; exact i8_one _
  rw [h0.out, ← HE.out]
  clear hC0
  obtain ⟨Z, hZ⟩ : ∃ Z, Z = (i8 zeroB).toArray := ⟨_, rfl⟩
  have hZs : Z.size = 256 := by rw [hZ]; simp [i8_length, zeroB_length]
  rw [← hZ] at hzero
  clear hZ
  go_enter Try.func64, Try.ntmps64
  go_wp2
  go_loopw [9] (fun x wr => ∃ k : Nat, lo ≤ k ∧ k ≤ hi + 1 ∧ x = .int .i64 k ∧ wr.heap[w.heap.size]? = some (.cells (C0 k).toArray 93 (0, 0)) ∧ wr.heap[w.heap.size + 1]? = some (.cells Z 93 (0, 0)) ∧ Below w.heap.size w wr) (fun x _ => hi + 1 - (intOf x).toNat)
  case atStart => exact ⟨lo, Nat.le_refl _, hl, rfl, heap_alloc2_old w _ _, heap_alloc2_new w _ _, ((Below.refl _ _).alloc (Nat.le_refl _) _).alloc (by simp) _⟩
  case round =>
    obtain ⟨k, hk1, hk2, rfl, hg1, hg2, hB⟩ := hrel
    have hck := hlen k
    by_cases hlt : k ≤ hi
    · have hlt' : (k : Int) ≤ hi := by omega
      have hk256 : (k : Int) < 256 := by omega
      obtain ⟨x, hx⟩ : ∃ x, (C0 k)[k]? = some x := ⟨_, List.getElem?_eq_getElem (by omega)⟩
      have hcell : wr.cell? ⟨w.heap.size, k, none⟩ = some x := by
        rw [cell_of_row _ _ k (C0 k).toArray 93 (0, 0) hg1]; simpa using hx
      have hfr : wr.frozen? ⟨w.heap.size, k, none⟩ = false := frozen_of_row _ _ _ _ _ hg1
      obtain ⟨HG1, HG2, HB⟩ : Hid (wr.heap[w.heap.size]? = some (.cells (C0 k).toArray 93 (0, 0))) ∧ Hid (wr.heap[w.heap.size + 1]? = some (.cells Z 93 (0, 0))) ∧ Hid (Below w.heap.size w wr) := ⟨hg1, hg2, hB⟩
      clear hg1 hg2 hB hx
      go_wp2
      go_roundw
      case rel =>
        refine ⟨k + 1, by omega, by omega, by go_num, ?_, ?_, HB.out.setCell (Nat.le_refl _) _⟩
        · rw [heap_setCell_same _ _ _ _ _ _ HG1.out, ← HS.out k hk1]
          simp
        · rw [heap_setCell_other _ _ _ _ (by simp)]
          exact HG2.out
      case measure => simp [intOf]; omega
    · have hlt' : ¬ ((k : Int) ≤ hi) := by omega
      obtain rfl : k = hi + 1 := by omega
      have HZ : Hid (Z.size = (C0 (hi + 1)).toArray.size) := by show _ = _; rw [hZs, List.size_toArray, hck]
      have HI : Hid ((Try.prog.info? 93).map (·.size) = some (C0 (hi + 1)).toArray.size) := by show _ = _; rw [List.size_toArray, hck]; exact Try.sizeBlock
      go_wp2_with (first
        | (refine wpList_load_row rfl 93 _ rfl _ rfl 93 (C0 (hi + 1)).toArray (0, 0) _ hg1 Try.undB rfl HI.out ?_)
        | (refine wpList_store_row rfl 93 _ _ rfl (w.heap.size + 1) (C0 (hi + 1)).toArray rfl rfl 93 Z hg2 HI.out HZ.out (all_oneCell_toArray (HO.out _)) ?_)
        | go_in)
      (try simp only [Exit.inBlock, Exit.then])
      refine bodyPost_ret (v := .agg (C0 (hi + 1)).toArray) ?_ rfl ⟨rfl, ?_⟩
      · exact results_cell_row rfl _ _ (w.heap.size + 1) 93 (C0 (hi + 1)).toArray (0, 0) _ rfl (setRow_heap _ _ _ _ _ _ hg2) Try.undB rfl HI.out
      · exact hB.trans ⟨rfl, rfl, rfl, by simp, fun i hi => setRow_other _ _ _ _ (by omega)⟩
end Go.Proofs.Ytmknifnhcgdkaaa.S3
