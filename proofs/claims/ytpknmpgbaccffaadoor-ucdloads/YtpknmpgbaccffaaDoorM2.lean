/-
  Tries in memory: the types' facts; blocks as keys of a map. trie.filled: a block with a value from one place to another. The draft in memory: which block each is like, the blocks, and where each stands. Whole values laid into new memory: a slice of one array; a struct with one field. trie.draft.number: where a block stands in the draft. trie.newDraft: the draft of the value 0.
-/
import Derived.Test.YtpknmpgbaccffaaDoorRows
import Derived.Test.YtpknmpgbaccffaaDoorM1
import Derived.WalkKit
import Derived.WalkSpells
import Derived.OwnWalk
import Derived.Outline
import Derived.Maps.AppendAt
import Derived.Maps.OwnSet
import Derived.Maps.Views
import Derived.DeepKeys3
import Derived.Deep.MidRow
import Derived.Deep.WholeRow
import Derived.Deep.AppendLies
import Derived.Laws.Rows
import Derived.Laws.AppendOwnNone
import Derived.Deep.QuietTactic
import Derived.BigRegion
import Derived.RegionTactic
namespace Go.Proofs.YtpknmpgbaccffaaDoor
open Go.RowKit
set_option linter.unusedVariables false

def u8 (n : Int) : Value := .int .u8 n
def i8 (l : List Int) : List Value := l.map (Value.int .u8)
set_option maxRecDepth 100000 in
theorem Tryd.infoBlock : (Tryd.prog.info? 82).map (fun i => (i.zero, i.size, i.bytes)) = some (some (.agg (List.replicate 256 (Value.int .u8 0)).toArray), 256, 256) := by kernel_rfl
set_option maxRecDepth 100000 in
theorem Tryd.infoTrie : (Tryd.prog.info? 80).map (fun i => (i.zero, i.size, i.bytes)) = some (some (.agg (List.replicate 4352 (Value.int .u8 0) ++ [Value.slice none 0 0]).toArray), 4353, 4376) := by kernel_rfl
set_option maxRecDepth 100000 in
theorem Tryd.infoDraft : (Tryd.prog.info? 93).map (fun i => (i.zero, i.size, i.bytes)) = some (some (.agg (List.replicate 4352 (Value.int .i64 0) ++ [Value.slice none 0 0, Value.map none]).toArray), 4354, 34848) := by kernel_rfl
theorem Tryd.sizeLike8 : (Tryd.prog.info? 77).map (·.size) = some 4352 := by kernel_rfl
theorem Tryd.sizeLikeI : (Tryd.prog.info? 91).map (·.size) = some 4352 := by kernel_rfl
theorem Tryd.infoProp : (Tryd.prog.info? 51).map (fun i => (i.zero, i.size, i.bytes)) = some (some (.agg #[.int .i64 0, .int .i64 0, .int .u8 0]), 3, 24) := by kernel_rfl
theorem Tryd.infoInt : (Tryd.prog.info? 3).map (fun i => (i.zero, i.size, i.bytes)) = some (some (.int .i64 0), 1, 8) := by kernel_rfl
theorem Tryd.infoByte : (Tryd.prog.info? 5).map (fun i => (i.zero, i.size, i.bytes)) = some (some (.int .u8 0), 1, 1) := by kernel_rfl
theorem Tryd.typesPos : decide (1 ≤ Tryd.prog.types.size) = true := by kernel_rfl
theorem Tryd.keyTypeB : Tryd.prog.keyTypeAt 2 82 = true := by kernel_rfl
theorem Tryd.keyTypeC : Tryd.prog.keyType 82 = true := by kernel_rfl
theorem Tryd.tiledB : Tryd.prog.tiled 2 82 = true := by kernel_rfl
theorem Tryd.cellsB : Tryd.prog.cellsOf 82 = 256 := by kernel_rfl
theorem Tryd.cellsU : Tryd.prog.cellsOf 5 = 1 := by kernel_rfl
theorem Tryd.undB : Tryd.prog.underlying 82 = some (.array 256 5) := by kernel_rfl
theorem Tryd.undBs : Tryd.prog.underlying 78 = some (.slice 82) := by kernel_rfl
theorem Tryd.undU : Tryd.prog.underlying 5 = some (.int .u8) := by kernel_rfl
theorem Tryd.undI : Tryd.prog.underlying 3 = some (.int .i64) := by kernel_rfl
theorem Tryd.undM : Tryd.prog.underlying 90 = some (.map 82 3) := by kernel_rfl
theorem Tryd.undMI : Tryd.prog.underlying 96 = some (.map 3 3) := by kernel_rfl
theorem Tryd.keyLawB : Maps.Keyed Tryd.prog 82 := Maps.Keyed.of_law (deep_law (m := 2) (by omega) Tryd.keyTypeB Tryd.tiledB (by rw [Tryd.undB]))
theorem Tryd.keyLawI : Maps.Keyed Tryd.prog 3 := Maps.int_keyed Tryd.undI
/-- The block of the value 0. -/
def zeroB : List Int := List.replicate 256 0
theorem zeroB_length : zeroB.length = 256 := by unfold zeroB; rw [List.length_replicate]
theorem i8_zeroB : i8 zeroB = List.replicate 256 (Value.int .u8 0) := by unfold i8 zeroB; rw [List.map_replicate]
theorem i8_length (l : List Int) : (i8 l).length = l.length := by simp [i8]
theorem i8_one (l : List Int) : ∀ u ∈ i8 l, u.oneCell' = true := fun u hu => by
  obtain ⟨n, _, rfl⟩ := List.mem_map.1 hu
  rfl
theorem i8_set (l : List Int) (k : Nat) (v : Int) : (i8 l).set k (.int .u8 v) = i8 (l.set k v) := by simp [i8, List.map_set]
theorem i8_get {l : List Int} {k : Nat} (h : k < l.length) : (i8 l)[k]? = some (.int .u8 l[k]) := by simp [i8, h]
theorem Tryd.sizeInt : (Tryd.prog.info? 3).map (·.size) = some 1 := by kernel_rfl
theorem Tryd.sizeByte : (Tryd.prog.info? 5).map (·.size) = some 1 := by kernel_rfl
theorem Tryd.sizeBlock : (Tryd.prog.info? 82).map (·.size) = some 256 := by kernel_rfl
theorem Tryd.zeroBlock (w : World) : (zeroValue 82).run Tryd.prog w = .ok (.agg (i8 zeroB).toArray) w := by
  rw [i8_zeroB]
  refine (zero_of_info (n := 256) ?_).1 w
  have := Tryd.infoBlock
  revert this
  cases Tryd.prog.info? 82 with
  | none => intro h; cases h
  | some i => intro h; simp only [Option.map_some, Option.some.injEq, Prod.mk.injEq] at h ⊢; exact ⟨h.1, h.2.1⟩
end Go.Proofs.YtpknmpgbaccffaaDoor

namespace Go.Proofs.YtpknmpgbaccffaaDoor
open Go.RowKit
set_option linter.unusedVariables false

/-- A block with the value v from lo on, up to k. -/
def fillTo (b : List Int) (lo k v : Int) : List Int := (List.range b.length).map fun (i : Nat) => if lo ≤ (i : Int) ∧ (i : Int) < k then v else b[i]?.getD 0
theorem fillTo_length (b : List Int) (lo k v : Int) : (fillTo b lo k v).length = b.length := by simp [fillTo]
theorem fillTo_start (b : List Int) (lo v : Int) : fillTo b lo lo v = b := by
  apply List.ext_getElem
  · rw [fillTo_length]
  · intro i h1 h2
    simp only [fillTo, List.getElem_map, List.getElem_range]
    rw [if_neg (by omega), List.getElem?_eq_getElem h2]
    rfl
theorem fillTo_step (b : List Int) (lo v : Int) (k : Nat) (hlo : lo ≤ k) : (fillTo b lo k v).set k v = fillTo b lo ((k : Int) + 1) v := by
  apply List.ext_getElem
  · rw [List.length_set, fillTo_length, fillTo_length]
  · intro i h1 h2
    rw [List.getElem_set]
    simp only [fillTo, List.getElem_map, List.getElem_range]
    by_cases q : k = i
    · rw [if_pos q, if_pos (by omega)]
    · rw [if_neg q]
      by_cases q2 : lo ≤ (i : Int) ∧ (i : Int) < k
      · rw [if_pos q2, if_pos (by omega)]
      · rw [if_neg q2, if_neg (by omega)]
set_option maxRecDepth 100000 in
set_option maxHeartbeats 2000000 in
theorem filled_any (b : List Int) (lo hi : Nat) (v : Int) (w : World) (hb : b.length = 256) (hh : hi < 256) (hl : lo ≤ hi + 1) :
    Calls Tryd.prog 54 #[.agg (i8 b).toArray, .int .i64 lo, .int .i64 hi, .int .u8 v] w fun e w' => e = .returned (.agg (i8 (fillTo b lo ((hi : Int) + 1) v)).toArray) ∧ Below w.heap.size w w' := by
  obtain ⟨iB, hiB, hzB0, hzB1, hzB2⟩ := info_parts Tryd.infoBlock
  have hzero := Tryd.zeroBlock
  obtain ⟨C0, hC0⟩ : ∃ C : Nat → List Value, C = fun (k : Nat) => i8 (fillTo b lo k v) := ⟨_, rfl⟩
  have HC : Hid (C0 = fun (k : Nat) => i8 (fillTo b lo k v)) := hC0
  have h0 : Hid (i8 b = C0 lo) := by show _ = _; rw [hC0]; show _ = i8 (fillTo b lo lo v); rw [fillTo_start]
  have hlen : ∀ k, (C0 k).length = 256 := fun k => by rw [hC0]; show (i8 _).length = 256; rw [i8_length, fillTo_length, hb]
  have HE : Hid (C0 (hi + 1) = i8 (fillTo b lo ((hi : Int) + 1) v)) := by show _ = _; rw [hC0]; simp
  have HS : Hid (∀ k : Nat, lo ≤ k → (C0 k).set k (.int .u8 v) = C0 (k + 1)) := fun k hk => by
    rw [hC0]
    show (i8 _).set k _ = i8 _
    rw [i8_set, fillTo_step _ _ _ _ (by omega)]
    simp
  have HO : Hid (∀ k, ∀ u ∈ C0 k, u.oneCell' = true) := fun k => by rw [hC0]; exact i8_one _
  rw [h0.out, ← HE.out]
  clear hC0
  obtain ⟨Z, hZ⟩ : ∃ Z, Z = (i8 zeroB).toArray := ⟨_, rfl⟩
  have hZs : Z.size = 256 := by rw [hZ]; simp [i8_length, zeroB_length]
  rw [← hZ] at hzero
  clear hZ
  go_enter Tryd.func54, Tryd.ntmps54
  go_wp2
  go_loopw [9] (fun x wr => ∃ k : Nat, lo ≤ k ∧ k ≤ hi + 1 ∧ x = .int .i64 k ∧ wr.heap[w.heap.size]? = some (.cells (C0 k).toArray 82 (0, 0)) ∧ wr.heap[w.heap.size + 1]? = some (.cells Z 82 (0, 0)) ∧ Below w.heap.size w wr) (fun x _ => hi + 1 - (intOf x).toNat)
  case atStart => exact ⟨lo, Nat.le_refl _, hl, rfl, heap_alloc2_old w _ _, heap_alloc2_new w _ _, ((Below.refl _ _).alloc (Nat.le_refl _) _).alloc (by simp) _⟩
  case round =>
    obtain ⟨k, hk1, hk2, rfl, hg1, hg2, hB⟩ := hrel
    have hck := hlen k
    by_cases hlt : k ≤ hi
    · have hlt' : (k : Int) ≤ hi := by omega
      have hk256 : (k : Int) < 256 := by omega
      obtain ⟨x, hx⟩ : ∃ x, (C0 k)[k]? = some x := ⟨_, List.getElem?_eq_getElem (by omega)⟩
      have hcell : wr.cell? ⟨w.heap.size, k, none⟩ = some x := by
        rw [cell_of_row _ _ k (C0 k).toArray 82 (0, 0) hg1]; simpa using hx
      have hfr : wr.frozen? ⟨w.heap.size, k, none⟩ = false := frozen_of_row _ _ _ _ _ hg1
      obtain ⟨HG1, HG2, HB⟩ : Hid (wr.heap[w.heap.size]? = some (.cells (C0 k).toArray 82 (0, 0))) ∧ Hid (wr.heap[w.heap.size + 1]? = some (.cells Z 82 (0, 0))) ∧ Hid (Below w.heap.size w wr) := ⟨hg1, hg2, hB⟩
      clear hg1 hg2 hB hx
      go_wp2
      go_roundw
      case rel =>
        refine ⟨k + 1, by omega, by omega, by go_num, ?_, ?_, HB.out.setCell (Nat.le_refl _) _⟩
        · rw [heap_setCell_same _ _ _ _ _ _ HG1.out, ← HS.out k hk1]
          simp
        · rw [heap_setCell_other _ _ _ _ (by simp)]
          exact HG2.out
      case measure => simp [intOf]; omega
    · have hlt' : ¬ ((k : Int) ≤ hi) := by omega
      obtain rfl : k = hi + 1 := by omega
      have HZ : Hid (Z.size = (C0 (hi + 1)).toArray.size) := by show _ = _; rw [hZs, List.size_toArray, hck]
      have HI : Hid ((Tryd.prog.info? 82).map (·.size) = some (C0 (hi + 1)).toArray.size) := by show _ = _; rw [List.size_toArray, hck]; exact Tryd.sizeBlock
      go_wp2_with (first
        | (refine wpList_load_row rfl 82 _ rfl _ rfl 82 (C0 (hi + 1)).toArray (0, 0) _ hg1 Tryd.undB rfl HI.out ?_)
        | (refine wpList_store_row rfl 82 _ _ rfl (w.heap.size + 1) (C0 (hi + 1)).toArray rfl rfl 82 Z hg2 HI.out HZ.out (all_oneCell_toArray (HO.out _)) ?_)
        | go_in)
      (try simp only [Exit.inBlock, Exit.then])
      refine bodyPost_ret (v := .agg (C0 (hi + 1)).toArray) ?_ rfl ⟨rfl, ?_⟩
      · exact results_cell_row rfl _ _ (w.heap.size + 1) 82 (C0 (hi + 1)).toArray (0, 0) _ rfl (setRow_heap _ _ _ _ _ _ hg2) Tryd.undB rfl HI.out
      · exact hB.trans ⟨rfl, rfl, rfl, by simp, fun i hi => setRow_other _ _ _ _ (by omega)⟩
end Go.Proofs.YtpknmpgbaccffaaDoor

namespace Go.Proofs.YtpknmpgbaccffaaDoor
open Go.RowKit
set_option linter.unusedVariables false

/-- 256 bytes. -/
def IsB (b : List Int) : Prop := b.length = 256 ∧ ∀ x ∈ b, 0 ≤ x ∧ x ≤ 255
/-- A block as the key of a map. -/
def kB (b : List Int) : Lit := .string (keyBytes (b.map (Lit.int .u8)))

theorem mapM_some {α β : Type} (f : α → Option β) (g : α → β) : ∀ (l : List α), (∀ x ∈ l, f x = some (g x)) → l.mapM f = some (l.map g)
  | [], _ => rfl
  | x :: l, h => by
    rw [List.mapM_cons, h x (by simp), mapM_some f g l (fun y hy => h y (by simp [hy]))]
    rfl
theorem wf_u8 {x : Int} (h : 0 ≤ x ∧ x ≤ 255) : (Lit.int .u8 x).wf = true := by
  have e1 : IntKind.u8.min = 0 := by decide
  have e2 : IntKind.u8.max = 255 := by decide
  simp [Lit.wf, e1, e2]
  omega
theorem flat_one {β : Type} : ∀ (l : List β), (l.map fun x => [x]).flatten = l
  | [] => rfl
  | x :: l => by rw [List.map_cons, List.flatten_cons, flat_one l]; rfl

set_option maxRecDepth 100000 in
theorem Tryd.keyBlock {b : List Int} (h : IsB b) : keyOf Tryd.prog 82 (.agg (i8 b).toArray) = some (kB b) := by
  have hs : (i8 b).toArray.size = 256 := by rw [List.size_toArray, i8_length, h.1]
  have hl : (i8 b).length = 256 := by rw [i8_length, h.1]
  unfold keyOf
  rw [Tryd.undB]
  have hf : (Value.agg (i8 b).toArray).formed Tryd.prog 82 = true := by
    show (match Tryd.prog.underlying 82 with | some (.struct _) | some (.array _ _) => (i8 b).toArray.size == Tryd.prog.cellsOf 82 | _ => false) = true
    rw [Tryd.undB, Tryd.cellsB, hs]
    rfl
  simp only [Tryd.keyTypeC, hf, Bool.and_self, if_true]
  have hu : ∀ d, ∀ x ∈ b, Tryd.prog.keyLits (d + 1) 5 [Value.int .u8 x] = some [Lit.int .u8 x] := fun d x hx => by
    unfold Program.keyLits
    rw [Tryd.undU]
    simp only [wf_u8 (h.2 x hx), and_self, if_true]
  have hk : ∀ d, Tryd.prog.keyLits (d + 2) 82 (i8 b) = some (b.map (Lit.int .u8)) := fun d => by
    unfold Program.keyLits
    rw [Tryd.undB]
    simp only [Tryd.cellsB, Tryd.cellsU, hl, if_true, Nat.mul_one]
    rw [mapM_some _ (fun i => [Lit.int .u8 (b[i]?.getD 0)]) _ (fun i hi => ?_)]
    · rw [Option.map_some]
      congr 1
      have e : (List.range 256).map (fun i => [Lit.int .u8 (b[i]?.getD 0)]) = (b.map (Lit.int .u8)).map (fun x => [x]) := by
        apply List.ext_getElem
        · simp [h.1]
        · intro i h1 h2
          have hib : i < b.length := by simpa using h2
          simp [hib]
      rw [e, flat_one]
    · have hib : i < b.length := by have := List.mem_range.1 hi; rw [h.1]; exact this
      have e : ((i8 b).drop i).take 1 = [Value.int .u8 b[i]] := by
        rw [List.drop_eq_getElem_cons (by rw [i8_length]; exact hib)]
        simp [i8]
      rw [e, List.getElem?_eq_getElem hib]
      exact hu d _ (List.getElem_mem hib)
  have e2 : ∃ d, Tryd.prog.types.size + 1 = d + 2 := ⟨Tryd.prog.types.size - 1, by have := of_decide_eq_true Tryd.typesPos; omega⟩
  obtain ⟨d, hd⟩ := e2
  rw [hd]
  show Option.map _ (Tryd.prog.keyLits (d + 2) 82 (i8 b).toArray.toList) = _
  rw [List.toList_toArray, hk]
  rfl
theorem i8_inj {a b : List Int} (h : i8 a = i8 b) : a = b := by
  unfold i8 at h
  exact (List.map_inj_right (fun x y e => by cases e; rfl)).1 h
theorem Tryd.kB_inj {a b : List Int} (ha : IsB a) (hb : IsB b) (h : kB a = kB b) : a = b := by
  have h1 := Tryd.keyBlock ha
  have h2 := Tryd.keyBlock hb
  rw [← h] at h2
  have := Tryd.keyLawB.inj h1 h2
  have e : (i8 a).toArray = (i8 b).toArray := by simpa using this
  exact i8_inj (by simpa using e)
theorem kB_key (b : List Int) : WideAt.IsKeyLit (kB b) := trivial

/-- The cells of blocks. -/
def cellsBl (bl : List (List Int)) : List Value := i8 bl.flatten
theorem cellsBl_snoc (bl : List (List Int)) (b : List Int) : cellsBl (bl ++ [b]) = cellsBl bl ++ i8 b := by simp [cellsBl, i8]
theorem cellsBl_length {bl : List (List Int)} (h : Even bl) : (cellsBl bl).length = bl.length * 256 := by
  unfold cellsBl; rw [i8_length, flat_length h]; omega
theorem i8_append (a b : List Int) : i8 (a ++ b) = i8 a ++ i8 b := by simp [i8]
theorem i8_drop (a : List Int) (n : Nat) : (i8 a).drop n = i8 (a.drop n) := by simp [i8]
theorem i8_take (a : List Int) (n : Nat) : (i8 a).take n = i8 (a.take n) := by simp [i8]
/-- The cells of the i-th block. -/
theorem cellsBl_at {bl : List (List Int)} (h : Even bl) {i : Nat} (hi : i < bl.length) {j : Nat} {u : Value} (hj : (i8 bl[i])[j]? = some u) : (cellsBl bl)[i * 256 + j]? = some u := by
  have hj' : j < 256 := by
    have := (List.getElem?_eq_some_iff.1 hj).1
    rw [i8_length, h _ (List.getElem_mem hi)] at this
    exact this
  have e := flat_block h i hi
  rw [← e] at hj
  unfold cellsBl
  rw [← i8_take, ← i8_drop, List.getElem?_take, if_pos hj', List.getElem?_drop, Nat.mul_comm] at hj
  exact hj

/-- The cells of the draft. -/
def drCells (like : List Nat) (v : Value) (gm : Nat) : List Value := like.map (fun k : Nat => Value.int .i64 (k : Int)) ++ [v, .map (some gm)]
/-- What the map of the draft says of blocks. -/
def Knows (D : DataW Unit) (bl : List (List Int)) : Prop :=
  (∀ b, IsB b → (Maps.has D (kB b) = true ↔ b ∈ bl)) ∧ ∀ b ∈ bl, D.atKey (kB b) (.lit (.int .i64 0)) = .lit (.int .i64 (bl.idxOf b : Nat))
/-- The draft at block gd, all its blocks from n on. -/
def DrAt (n : Nat) (w : World) (gd : Nat) (like : List Nat) (bl : List (List Int)) : Prop :=
  ∃ gm v D, n ≤ gd ∧ n ≤ gm ∧ like.length = 4352 ∧ bl.Nodup ∧ (∀ b ∈ bl, IsB b) ∧ w.heap[gd]? = some (.cells (drCells like v gm).toArray 93 (0, 0)) ∧
    w.ownsRow n 82 256 v bl.length (cellsBl bl) ∧ w.ownsMap Tryd.prog 82 (plainElem Tryd.prog 3) gm bl.length D ∧ Knows D bl

theorem isB_even {bl : List (List Int)} (h : ∀ b ∈ bl, IsB b) : Even bl := fun b hb => (h b hb).1
theorem idx_addF {bl : List (List Int)} {b : List Int} (hn : ¬ b ∈ bl) : (addF bl b).idxOf b = bl.length := by
  unfold addF; rw [if_neg hn, List.idxOf_append, if_neg hn]; simp
theorem addF_of_mem {bl : List (List Int)} {b : List Int} (hn : b ∈ bl) : addF bl b = bl := by unfold addF; rw [if_pos hn]
theorem addF_new {bl : List (List Int)} {b : List Int} (hn : ¬ b ∈ bl) : addF bl b = bl ++ [b] := by unfold addF; rw [if_neg hn]
theorem addF_len (bl : List (List Int)) (b : List Int) : (addF bl b).length ≤ bl.length + 1 := by
  unfold addF; split <;> simp

theorem knows_put {D : DataW Unit} {bl : List (List Int)} {b : List Int} (hD : Maps.IsMap D) (h : Knows D bl) (hb : IsB b) (hbl : ∀ x ∈ bl, IsB x) (hn : ¬ b ∈ bl) : Knows (D.put (kB b) (.lit (.int .i64 (bl.length : Nat)))) (bl ++ [b]) := by
  constructor
  · intro x hx
    by_cases e : x = b
    · subst e
      simp [Maps.has_put_same hD (kB_key _)]
    · have hne : kB x ≠ kB b := fun q => e (Tryd.kB_inj hx hb q)
      rw [Maps.has_put_other hne, h.1 x hx]
      simp [e]
  · intro x hx
    by_cases e : x = b
    · subst e
      rw [Maps.atKey_put_same hD (kB_key _), List.idxOf_append, if_neg hn]
      simp
    · have hx' : x ∈ bl := by
        rcases List.mem_append.1 hx with q | q
        · exact q
        · exact absurd (List.mem_singleton.1 q) e
      have hne : kB x ≠ kB b := fun q => e (Tryd.kB_inj (hbl x hx') hb q)
      rw [Maps.atKey_put_other hne, h.2 x hx', List.idxOf_append, if_pos hx']

theorem look_run {P : Program} {w : World} {t k e : TypeId} {q : IntKind} {b n : Nat} {D : DataW Unit} (h : w.ownsMap P k (plainElem P e) b n D) (K : Maps.Keyed P k) (ht : P.underlying t = some (.map k e)) (he : P.underlying e = some (.int q)) (hz : (zeroValue e).run P w = .ok (.int q 0) w)
    {key : Value} {kl : Lit} (hkey : keyOf P k key = some kl) {c : Int} (hat : D.atKey kl (.lit (.int q 0)) = .lit (.int q c)) :
    (Instr.lookup t (.map (some b)) key true).run P w = .ok (.tuple #[.int q c, .bool (Maps.has D kl)]) w := by
  have hw0 : (Lit.int q 0).wf = true := by cases q <;> decide
  obtain ⟨v, ps, hrun, hv⟩ := h.look_ok K ht hz (plainElem_int he hw0) hkey
  obtain ⟨c', rfl, hc, hwc⟩ := plainElem_int_inv he hv
  simp only [Prod.mk.injEq] at hc
  rw [hat] at hc
  have : c = c' := by simpa using hc.1
  rw [this]
  exact hrun
theorem Tryd.zeroInt (w : World) : (zeroValue 3).run Tryd.prog w = .ok (.int .i64 0) w := by
  refine (zero_of_info (n := 1) ?_).1 w
  have := Tryd.infoInt
  revert this
  cases Tryd.prog.info? 3 with
  | none => intro h; cases h
  | some i => intro h; simp only [Option.map_some, Option.some.injEq, Prod.mk.injEq] at h ⊢; exact ⟨h.1, h.2.1⟩
/-- A look-up in a region that draws its order. -/
theorem yields_lookup {P : Program} {ops : Array Oper} {S : World → Prop} {op : Oper} {a : Act} (hw : Region.wanted op (yielded ops a.tmps) = true) {t : TypeId} {m x : Operand} (ho : op.op = .lookup t m x true) {mv key res : Value}
    (hm : a.eval m = mv) (hx : a.eval x = key) (hS : ∀ w, S w → (Instr.lookup t mv key true).run P w = .ok res w) : YieldsIf P ops S op res a :=
  .inl ⟨hw, fun w hw' => by
    unfold execOp
    simp [ho, hm, hx, hS w hw', Result.andThen]⟩
end Go.Proofs.YtpknmpgbaccffaaDoor

namespace Go.Proofs.YtpknmpgbaccffaaDoor
open Go.RowKit
set_option linter.unusedVariables false

theorem set_fold (off : Nat) : ∀ (l : List Value) (k : Nat) (A : Array Value), ((l.zipIdx k).foldl (fun (cs : Array Value) (p : Value × Nat) => cs.setIfInBounds (off + p.2) p.1) A).size = A.size ∧
    ∀ i, ((l.zipIdx k).foldl (fun (cs : Array Value) (p : Value × Nat) => cs.setIfInBounds (off + p.2) p.1) A)[i]? = if off + k ≤ i ∧ i < off + k + l.length ∧ i < A.size then l[i - (off + k)]? else A[i]?
  | [], k, A => by
    refine ⟨rfl, fun i => ?_⟩
    rw [if_neg (by simp; omega)]
    rfl
  | x :: l, k, A => by
    obtain ⟨h1, h2⟩ := set_fold off l (k + 1) (A.setIfInBounds (off + k) x)
    rw [List.zipIdx_cons, List.foldl_cons]
    refine ⟨by rw [h1]; simp, fun i => ?_⟩
    rw [h2 i]
    simp only [Array.size_setIfInBounds, List.length_cons]
    by_cases q : i = off + k
    · subst q
      rw [if_neg (by omega)]
      by_cases q2 : off + k < A.size
      · rw [if_pos (by omega), Array.getElem?_setIfInBounds_self_of_lt q2]
        simp
      · rw [if_neg (by omega), Array.getElem?_eq_none (by simp; omega), Array.getElem?_eq_none (by omega)]
    · by_cases q2 : off + (k + 1) ≤ i ∧ i < off + (k + 1) + l.length ∧ i < A.size
      · rw [if_pos q2, if_pos (by omega)]
        have e : i - (off + k) = (i - (off + (k + 1))) + 1 := by omega
        rw [e, List.getElem?_cons_succ]
      · rw [if_neg q2, if_neg (by omega), Array.getElem?_setIfInBounds_ne (by omega)]

theorem fill_whole (cs A : Array Value) (h : A.size = cs.size) : cs.zipIdx.foldl (fun (c : Array Value) (p : Value × Nat) => c.setIfInBounds (0 + p.2) p.1) A = cs := by
  obtain ⟨l⟩ := cs
  have h0 := set_fold 0 l 0 A
  have e : (⟨l⟩ : Array Value).zipIdx.foldl (fun (c : Array Value) (p : Value × Nat) => c.setIfInBounds (0 + p.2) p.1) A = (l.zipIdx 0).foldl (fun (c : Array Value) (p : Value × Nat) => c.setIfInBounds (0 + p.2) p.1) A := by
    simp
  rw [e]
  apply Array.ext_getElem?
  intro i
  rw [h0.2 i]
  have hs : A.size = l.length := h
  by_cases q : i < A.size
  · rw [if_pos (by omega)]
    simp
  · rw [if_neg (by omega), Array.getElem?_eq_none (by omega), Array.getElem?_eq_none (by simp; omega)]

/-- A slice of one array. -/
theorem run_buildSlice_one {P : Program} (w : World) {t e : TypeId} {i : TypeInfo} (cs z : Array Value) (ht : P.underlying t = some (.slice e)) (hi : P.info? e = some i) (hs : i.size = cs.size) (hz : i.zero = some (.agg z)) (hzs : z.size = cs.size) (h0 : 0 < cs.size) (hb : cs.size ≤ 16777216) :
    (Instr.buildSlice t 1 #[(0, .agg cs)]).run P w = .ok (.slice (some ⟨w.heap.size, 0, none⟩) 1 1) (w.alloc (.cells cs e)) := by
  have h1 : ¬ (i.size > 16777216) := by omega
  have h2 : i.size ≠ 0 := by omega
  have hmap : ((Array.range i.size).map (fun x => z[x % z.size]!)).size = cs.size := by simp [hs]
  have hf := fill_whole cs ((Array.range i.size).map (fun x => z[x % z.size]!)) hmap
  have hfill : Instr.fill (fun k => some (k * i.size, i.size)) ((Array.range i.size).map (fun x => z[x % z.size]!)) [(0, Value.agg cs)] = some cs := by
    unfold Instr.fill
    simp only [Nat.zero_mul, Value.cells]
    rw [if_neg (by simp [hs])]
    unfold Instr.fill
    congr 1
  simp [Instr.buildSlice, run_underlying ht, sizeOf, typeInfo, zeroValue, hi, hz, h2, Value.cells, Result.andThen, hfill, newRow, Nat.one_mul]
  omega
theorem wp_mapUpdate_run {P : Program} {o : Oper} {a : Act} {w w' : World} {K : Act → World → Prop} {Q : Exit → Act → World → Prop} (t : TypeId) (m x v : Operand) (ho : o.op = .mapUpdate t m x v) (mv key val : Value)
    (hm : a.eval m = mv) (hx : a.eval x = key) (hv : a.eval v = val) (hrun : (Instr.mapUpdate t mv key val).run P w = .ok () w') (h : K (a.put o.dst undef) w') : o.wp P a w K Q := by
  unfold Oper.wp
  simp [execOp, ho, hm, hx, hv, hrun, Result.andThen]
  exact h
theorem wp_buildSlice_run {P : Program} {o : Oper} {a : Act} {w w' : World} {K : Act → World → Prop} {Q : Exit → Act → World → Prop} (t : TypeId) (x : Operand) (ho : o.op = .buildSlice t 1 #[(0, x)]) (xv res : Value)
    (hx : a.eval x = xv) (hrun : (Instr.buildSlice t 1 #[(0, xv)]).run P w = .ok res w') (h : K (a.put o.dst res) w') : o.wp P a w K Q := by
  unfold Oper.wp
  simp [execOp, ho, hx, hrun, Result.andThen]
  exact h
end Go.Proofs.YtpknmpgbaccffaaDoor

namespace Go.Proofs.YtpknmpgbaccffaaDoor
open Go.RowKit
set_option linter.unusedVariables false

theorem drCells_at {like : List Nat} {v : Value} {gm : Nat} (hl : like.length = 4352) : (drCells like v gm)[4352]? = some v ∧ (drCells like v gm)[4353]? = some (.map (some gm)) := by
  unfold drCells
  constructor
  · rw [List.getElem?_append_right (by simp; omega)]
    simp [hl]
  · rw [List.getElem?_append_right (by simp; omega)]
    simp [hl]
theorem drCells_like {like : List Nat} {v : Value} {gm i : Nat} (hl : i < like.length) : (drCells like v gm)[i]? = some (.int .i64 (like[i] : Nat)) := by
  unfold drCells
  rw [List.getElem?_append_left (by simpa using hl)]
  simp [hl]
theorem drCells_set {like : List Nat} {v v' : Value} {gm : Nat} (hl : like.length = 4352) : (drCells like v gm).set 4352 v' = drCells like v' gm := by
  unfold drCells
  rw [List.set_append_right _ _ (by simp; omega)]
  simp [hl]
theorem drCells_setLike {like : List Nat} {v : Value} {gm i k : Nat} (hl : i < like.length) : (drCells like v gm).set i (.int .i64 (k : Int)) = drCells (like.set i k) v gm := by
  unfold drCells
  rw [List.set_append_left _ _ (by simpa using hl), List.map_set]
theorem cell_row {w : World} {g j : Nat} {cs : List Value} {t : TypeId} {u : Value} (hg : w.heap[g]? = some (.cells cs.toArray t (0, 0))) (hu : cs[j]? = some u) : w.cell? ⟨g, j, none⟩ = some u := by
  rw [cell_of_row w g j _ t (0, 0) hg]; simpa using hu
theorem heap_lt {w : World} {g : Nat} {o : Obj} (h : w.heap[g]? = some o) : g < w.heap.size := (Array.getElem?_eq_some_iff.1 h).1
theorem heap_set_row {w : World} {g j : Nat} {cs cs' : List Value} {t : TypeId} {u : Value} (hg : w.heap[g]? = some (.cells cs.toArray t (0, 0))) (h : cs.set j u = cs') : (w.setCell ⟨g, j, none⟩ u).heap[g]? = some (.cells cs'.toArray t (0, 0)) := by
  rw [heap_setCell_same _ _ _ _ _ _ hg, ← h]; simp
theorem slice_of_row {w : World} {base e size n : Nat} {v : Value} {xs : List Value} (h : w.ownsRow base e size v n xs) : ∃ a cap, v = .slice a n cap := by
  rcases h.2 with ⟨rfl, h0⟩ | ⟨g, cap, cur, rfl, _⟩
  · exact ⟨none, 0, by rw [h0]⟩
  · exact ⟨_, cap, rfl⟩
/-- Two blocks of unlike types are two. -/
theorem own_ne {w : World} {base e size n : Nat} {v : Value} {xs : List Value} {gd : Nat} {C : Array Value} {t : TypeId} (h : w.ownsRow base e size v n xs) (hg : w.heap[gd]? = some (.cells C t (0, 0))) (ht : e ≠ t) : v.ownBlock ≠ some gd := by
  intro q
  rcases h.2 with ⟨rfl, h0⟩ | ⟨g, cap, cur, rfl, _, hgg, _⟩
  · cases q
  · have : g = gd := by simpa [Value.ownBlock] using q
    rw [this, hg] at hgg
    simp at hgg
    exact ht hgg.2.symm
theorem map_ne {w : World} {P : Program} {k : TypeId} {R : Value → Option (DataW Unit × List MemPlace)} {b n gd : Nat} {D : DataW Unit} {C : Array Value} {t : TypeId} (h : w.ownsMap P k R b n D) (hg : w.heap[gd]? = some (.cells C t (0, 0))) : b ≠ gd := by
  obtain ⟨es, clock, hb, _⟩ := h
  intro q
  rw [q, hg] at hb
  cases hb
theorem own_ne_map {w : World} {P : Program} {k : TypeId} {R : Value → Option (DataW Unit × List MemPlace)} {b n : Nat} {D : DataW Unit} {base e size m : Nat} {v : Value} {xs : List Value} (h : w.ownsMap P k R b n D) (ho : w.ownsRow base e size v m xs) : v.ownBlock ≠ some b := by
  intro q
  obtain ⟨es, clock, hb, _⟩ := h
  rcases ho.2 with ⟨rfl, h0⟩ | ⟨g, cap, cur, rfl, _, hgg, _⟩
  · cases q
  · have : g = b := by simpa [Value.ownBlock] using q
    rw [this, hb] at hgg
    cases hgg
theorem ownsMap_below {w w' : World} {P : Program} {k : TypeId} {R : Value → Option (DataW Unit × List MemPlace)} {b n : Nat} {D : DataW Unit} (h : w.ownsMap P k R b n D) (hb : Below w.heap.size w w') : w'.ownsMap P k R b n D :=
  h.kept (row := none) ⟨hb.os, hb.tape, hb.output, hb.size, fun k hk _ => hb.block k hk⟩ (by simp)
theorem ownsRow_below {w w' : World} {base e size n : Nat} {v : Value} {xs : List Value} (h : w.ownsRow base e size v n xs) (hb : Below w.heap.size w w') : w'.ownsRow base e size v n xs :=
  World.ownsRow.kept (row := none) h ⟨hb.os, hb.tape, hb.output, hb.size, fun k hk _ => hb.block k hk⟩ (by cases v.ownBlock <;> simp)
theorem heap_new' (w : World) (o : Obj) : (w.alloc o).heap[w.heap.size]? = some o := heap_alloc_new w o
theorem rangeAt_row {w : World} {g : Nat} {cs : List Value} {t : TypeId} (hg : w.heap[g]? = some (.cells cs.toArray t (0, 0))) : w.rangeAt g 0 cs := fun j v hj => by
  rw [Nat.zero_add]; exact cell_row hg hj

/-- Cells of other types than the draft's and the blocks' are as they were. -/
def Other (w w' : World) : Prop := ∀ (k : Nat) (C : Array Value) (t : TypeId) (fr : Nat × Nat), w.heap[k]? = some (Obj.cells C t fr) → t ≠ 93 → t ≠ 82 → w'.heap[k]? = w.heap[k]?
theorem Other.refl (w : World) : Other w w := fun _ _ _ _ _ _ _ => rfl
theorem Other.trans {a b c : World} (h : Other a b) (k : Other b c) : Other a c := fun i C t fr hi h1 h2 => by
  have e := h i C t fr hi h1 h2
  rw [← e]
  exact k i C t fr (by rw [e]; exact hi) h1 h2
theorem Other.below {w w' : World} (h : Below w.heap.size w w') : Other w w' := fun i C t fr hi _ _ => h.block i (heap_lt hi)
theorem Other.map {w w' : World} {P : Program} {k : TypeId} {R : Value → Option (DataW Unit × List MemPlace)} {b n : Nat} {D : DataW Unit} (h : w.ownsMap P k R b n D) (hg : w.grownBy w' (some b)) : Other w w' := fun i C t fr hi _ _ => by
  refine hg.block i (heap_lt hi) (fun e => ?_)
  have : i = b := by simpa using e
  obtain ⟨es, clock, hb, _⟩ := h
  rw [this, hb] at hi
  cases hi
theorem Other.row {w w' : World} {base size n : Nat} {v : Value} {xs : List Value} (h : w.ownsRow base 82 size v n xs) (hg : w.grownBy w' v.ownBlock) : Other w w' := fun i C t fr hi _ h2 => by
  refine hg.block i (heap_lt hi) (fun e => ?_)
  rcases h.2 with ⟨rfl, h0⟩ | ⟨g, cap, cur, rfl, _, hgg, _⟩
  · cases e
  · have : i = g := by simpa [Value.ownBlock] using e
    rw [this, hgg] at hi
    simp at hi
    exact h2 hi.2.1.symm
theorem Other.setCell {w : World} {gd o : Nat} {C0 : Array Value} {t0 : TypeId} {fr0 : Nat × Nat} {u : Value} (h : w.heap[gd]? = some (.cells C0 t0 fr0)) (ht : t0 = 93 ∨ t0 = 82) : Other w (w.setCell ⟨gd, o, none⟩ u) := fun i C t fr hi h1 h2 => by
  refine heap_setCell_other _ _ _ _ (fun e => ?_)
  have e' : i = gd := e
  rw [e', h] at hi
  simp at hi
  rcases ht with q | q <;> rw [q] at hi
  · exact h1 hi.2.1.symm
  · exact h2 hi.2.1.symm

set_option maxRecDepth 100000 in
set_option maxHeartbeats 4000000 in
theorem number_any (n gd : Nat) (like : List Nat) (bl : List (List Int)) (b : List Int) (w : World) (h : DrAt n w gd like bl) (hb : IsB b) (hlen : bl.length < 1000000000) (hnw : n ≤ w.heap.size) :
    Calls Tryd.prog 53 #[.pointer (some ⟨gd, 0, none⟩), .agg (i8 b).toArray] w fun e w' => e = .returned (.int .i64 ((addF bl b).idxOf b : Nat)) ∧ DrAt n w' gd like (addF bl b) ∧ Below n w w' ∧ Other w w' := by
  obtain ⟨gm, v, D, hgd, hgm, hlk, hnd, hblB, hg, hrow, hmap, hkn⟩ := h
  obtain ⟨a, cap, rfl⟩ := slice_of_row hrow
  obtain ⟨iB, hiB, hzB0, hzB1, hzB2⟩ := info_parts Tryd.infoBlock
  have hgdlt := heap_lt hg
  have HI : Hid ((Tryd.prog.info? 82).map (·.size) = some (i8 b).length) := by show _ = _; rw [i8_length, hb.1]; exact Tryd.sizeBlock
  obtain ⟨c, hc⟩ : ∃ c : Int, D.atKey (kB b) (.lit (.int .i64 0)) = .lit (.int .i64 c) := by
    by_cases q : b ∈ bl
    · exact ⟨_, hkn.2 b q⟩
    · have : Maps.has D (kB b) = false := by
        cases z : Maps.has D (kB b) with
        | false => rfl
        | true => exact absurd ((hkn.1 b hb).1 z) q
      exact ⟨0, Maps.atKey_of_not_has this _⟩
  obtain ⟨wb, hwb⟩ : ∃ wb, wb = w.alloc (.cells (i8 b).toArray 82) := ⟨_, rfl⟩
  have hBb : Below w.heap.size w wb := by rw [hwb]; exact (Below.refl _ _).alloc (Nat.le_refl _) _
  have hnb : wb.heap[w.heap.size]? = some (.cells (i8 b).toArray 82 (0, 0)) := by rw [hwb]; exact heap_new' w _
  have hsb : wb.heap.size = w.heap.size + 1 := by rw [hwb]; simp
  have hgb : wb.heap[gd]? = some (.cells (drCells like (.slice a bl.length cap) gm).toArray 93 (0, 0)) := (hBb.block gd hgdlt).trans hg
  have hmb : wb.ownsMap Tryd.prog 82 (plainElem Tryd.prog 3) gm bl.length D := ownsMap_below hmap hBb
  have hrb : wb.ownsRow n 82 256 (.slice a bl.length cap) bl.length (cellsBl bl) := ownsRow_below hrow hBb
  have HCM : Hid (∀ w', Below wb.heap.size wb w' → w'.cell? ⟨gd, 4353, none⟩ = some (.map (some gm))) := fun w' hw' => (hw'.cell (p := ⟨gd, 4353, none⟩) (by show gd < _; omega)).trans (cell_row hgb (drCells_at hlk).2)
  have HCV : Hid (∀ w', Below wb.heap.size wb w' → w'.cell? ⟨gd, 4352, none⟩ = some (.slice a bl.length cap)) := fun w' hw' => (hw'.cell (p := ⟨gd, 4352, none⟩) (by show gd < _; omega)).trans (cell_row hgb (drCells_at hlk).1)
  have HRB : Hid (∀ w', Below wb.heap.size wb w' → w'.rangeAt w.heap.size 0 (i8 b)) := fun w' hw' => rangeAt_row ((hw'.block w.heap.size (by omega)).trans hnb)
  have HLK : Hid (∀ w', Below wb.heap.size wb w' → (Instr.lookup 90 (.map (some gm)) (.agg (i8 b).toArray) true).run Tryd.prog w' = .ok (.tuple #[.int .i64 c, .bool (Maps.has D (kB b))]) w') := fun w' hw' =>
    look_run (ownsMap_below hmb hw') Tryd.keyLawB Tryd.undM Tryd.undI (Tryd.zeroInt _) (Tryd.keyBlock hb) hc
  have HD0 : Hid (Below wb.heap.size wb wb.drew) := (Below.refl _ _).drew
  have HH : Hid (Maps.has D (kB b) = true ↔ b ∈ bl) := hkn.1 b hb
  have HA : Hid (b ∈ bl → c = (bl.idxOf b : Nat)) := fun q => by
    have := hkn.2 b q
    rw [hc] at this
    simpa using this
  obtain ⟨HWB, HBB, HGB, HMB, HRW, HKN, HC⟩ : Hid (wb = w.alloc (.cells (i8 b).toArray 82)) ∧ Hid (Below w.heap.size w wb) ∧ Hid (wb.heap[gd]? = some (.cells (drCells like (.slice a bl.length cap) gm).toArray 93 (0, 0))) ∧ Hid (wb.ownsMap Tryd.prog 82 (plainElem Tryd.prog 3) gm bl.length D) ∧ Hid (wb.ownsRow n 82 256 (.slice a bl.length cap) bl.length (cellsBl bl)) ∧ Hid (Knows D bl) ∧ Hid (D.atKey (kB b) (.lit (.int .i64 0)) = .lit (.int .i64 c)) := ⟨hwb, hBb, hgb, hmb, hrb, hkn, hc⟩
  obtain ⟨res, hres⟩ : ∃ res : Nat, res = (addF bl b).idxOf b := ⟨_, rfl⟩
  obtain ⟨bl', hbl'⟩ : ∃ bl', bl' = addF bl b := ⟨_, rfl⟩
  rw [← hres, ← hbl']
  obtain ⟨HRES, HBL⟩ : Hid (res = (addF bl b).idxOf b) ∧ Hid (bl' = addF bl b) := ⟨hres, hbl'⟩
  obtain ⟨HLL, HBLB, HND⟩ : Hid (like.length = 4352) ∧ Hid (∀ b ∈ bl, IsB b) ∧ Hid bl.Nodup := ⟨hlk, hblB, hnd⟩
  clear hwb hBb hnb hgb hmb hrb hmap hrow hkn hc hg hres hbl' hlk hblB hnd
  go_enter Tryd.func53, Tryd.ntmps53
  go_wp2_with fail
  rw [← HWB.out]
  refine wp_region_bad (fun w' => Below wb.heap.size wb w') [] (by kernel_rfl) HD0.out (fun hS => ?_)
  have hCM := HCM.out
  have hRB := HRB.out
  have hLK := HLK.out
  refine wpAnyB_pure (i := 0) (v := .pointer (some ⟨gd, 0, none⟩)) rfl (by kernel_rfl) (fun _ _ _ h => h) (Or.inl ⟨by rfl, fun w _ => by go_simp⟩) hS ?_
  simp only [List.getElem_toArray, List.getElem_cons_zero, Act.put, List.setIfInBounds_toArray, List.set_cons_zero, List.set_cons_succ]
  refine wpAnyB_pure (i := 1) (v := .pointer (some ⟨gd, 0, none⟩)) rfl (by kernel_rfl) (fun _ _ _ h => h) (Or.inl ⟨by rfl, fun w _ => by go_simp⟩) hS ?_
  simp only [List.getElem_toArray, List.getElem_cons_succ, List.getElem_cons_zero, Act.put, List.setIfInBounds_toArray, List.set_cons_zero, List.set_cons_succ]
  refine wpAnyB_pure (i := 2) (v := .pointer (some ⟨gd, 4353, none⟩)) rfl (by kernel_rfl) (fun _ _ _ h => h) (Or.inl ⟨by rfl, fun w _ => by go_simp⟩) hS ?_
  simp only [List.getElem_toArray, List.getElem_cons_succ, List.getElem_cons_zero, Act.put, List.setIfInBounds_toArray, List.set_cons_zero, List.set_cons_succ]
  refine wpAnyB_take [] (i := 3) (v := .map (some gm)) rfl (by kernel_rfl) (fun _ _ _ h => h) (Or.inl ⟨by rfl, fun w hSw => by have := hCM w hSw; go_simp⟩) hS ?_
  simp only [List.getElem_toArray, List.getElem_cons_succ, List.getElem_cons_zero, Act.put, List.setIfInBounds_toArray, List.set_cons_zero, List.set_cons_succ]
  refine wpAnyB_take [] (i := 4) (v := .agg (i8 b).toArray) rfl (by kernel_rfl) (fun _ _ _ h => h) (yieldsIf_load_mid (by rfl) 82 _ rfl w.heap.size 0 rfl (i8 b) _ (fun w' hw' => hRB w' hw') Tryd.undB rfl HI.out) hS ?_
  simp only [List.getElem_toArray, List.getElem_cons_succ, List.getElem_cons_zero, Act.put, List.setIfInBounds_toArray, List.set_cons_zero, List.set_cons_succ]
  refine wpAnyB_take [] (i := 5) (v := .tuple #[.int .i64 c, .bool (Maps.has D (kB b))]) rfl (by kernel_rfl) (fun _ _ _ h => h) (yields_lookup (by rfl) rfl rfl rfl (fun w' hw' => hLK w' hw')) hS ?_
  simp only [List.getElem_toArray, List.getElem_cons_succ, List.getElem_cons_zero, Act.put, List.setIfInBounds_toArray, List.set_cons_zero, List.set_cons_succ]
  refine wpAnyB_pure (i := 6) (v := .tuple #[.int .i64 c, .bool (Maps.has D (kB b))]) rfl (by kernel_rfl) (fun _ _ _ h => h) (Or.inl ⟨by rfl, fun w _ => by go_simp⟩) hS ?_
  simp only [List.getElem_toArray, List.getElem_cons_succ, List.getElem_cons_zero, Act.put, List.setIfInBounds_toArray, List.set_cons_zero, List.set_cons_succ]
  refine wpAnyB_pure (i := 7) (v := .int .i64 c) rfl (by kernel_rfl) (fun _ _ _ h => h) (Or.inl ⟨by rfl, fun w _ => by go_simp⟩) hS ?_
  simp only [List.getElem_toArray, List.getElem_cons_succ, List.getElem_cons_zero, Act.put, List.setIfInBounds_toArray, List.set_cons_zero, List.set_cons_succ]
  refine wpAnyB_pure (i := 8) (v := .bool (Maps.has D (kB b))) rfl (by kernel_rfl) (fun _ _ _ h => h) (Or.inl ⟨by rfl, fun w _ => by go_simp⟩) hS ?_
  simp only [List.getElem_toArray, List.getElem_cons_succ, List.getElem_cons_zero, Act.put, List.setIfInBounds_toArray, List.set_cons_zero, List.set_cons_succ]
  refine wpAnyB_pure (i := 9) (v := .int .i64 c) rfl (by kernel_rfl) (fun _ _ _ h => h) (Or.inl ⟨by rfl, fun w _ => by go_simp⟩) hS ?_
  simp only [List.getElem_toArray, List.getElem_cons_succ, List.getElem_cons_zero, Act.put, List.setIfInBounds_toArray, List.set_cons_zero, List.set_cons_succ]
  refine wpAnyB_pure (i := 10) (v := .bool (Maps.has D (kB b))) rfl (by kernel_rfl) (fun _ _ _ h => h) (Or.inl ⟨by rfl, fun w _ => by go_simp⟩) hS ?_
  simp only [List.getElem_toArray, List.getElem_cons_succ, List.getElem_cons_zero, Act.put, List.setIfInBounds_toArray, List.set_cons_zero, List.set_cons_succ]
  refine wpAnyB_done (by kernel_rfl) ?_ _
  refine NoPanic.normal ?_
  by_cases q : b ∈ bl
  · have hh : Maps.has D (kB b) = true := HH.out.2 q
    have hcq : c = (res : Int) := by rw [HA.out q, HRES.out, addF_of_mem q]
    subst hcq
    have HE : Hid (bl' = bl) := by show _ = _; rw [HBL.out, addF_of_mem q]
    clear hLK HLK HA HC
    rw [hh]
    go_wp2
    go_ret
    refine ⟨rfl, ?_, ?_, ?_⟩
    · rw [HE.out]
      exact ⟨gm, _, D, hgd, hgm, HLL.out, HND.out, HBLB.out, HGB.out, HRW.out, HMB.out, HKN.out⟩
    · exact (HBB.out.mono hnw).drew
    · exact Other.below HBB.out.drew
  · have hh : Maps.has D (kB b) = false := by
      cases z : Maps.has D (kB b) with
      | false => rfl
      | true => exact absurd (HH.out.1 z) q
    have HR : Hid (res = bl.length) := by show _ = _; rw [HRES.out, idx_addF q]
    have HE : Hid (bl' = bl ++ [b]) := by show _ = _; rw [HBL.out, addF_new q]
    have HQ : Hid (¬ b ∈ bl) := q
    clear hLK HLK HA HC q HH
    rw [hh]
    have hCV := HCV.out wb.drew hS
    go_wp2_with fail
    clear hCV
    refine wp_region_bad (fun w' => Below wb.heap.size wb w') [6] (by kernel_rfl) (HD0.out.drew) (fun hS => ?_)
    refine wpAnyB_pure (i := 0) (v := .pointer (some ⟨gd, 0, none⟩)) rfl (by kernel_rfl) (fun _ _ _ h => h) (Or.inl ⟨by rfl, fun w _ => by go_simp⟩) hS ?_
    simp only [List.getElem_toArray, List.getElem_cons_zero, Act.put, List.setIfInBounds_toArray, List.set_cons_zero, List.set_cons_succ]
    refine wpAnyB_pure (i := 1) (v := .pointer (some ⟨gd, 0, none⟩)) rfl (by kernel_rfl) (fun _ _ _ h => h) (Or.inl ⟨by rfl, fun w _ => by go_simp⟩) hS ?_
    simp only [List.getElem_toArray, List.getElem_cons_succ, List.getElem_cons_zero, Act.put, List.setIfInBounds_toArray, List.set_cons_zero, List.set_cons_succ]
    refine wpAnyB_pure (i := 2) (v := .pointer (some ⟨gd, 4353, none⟩)) rfl (by kernel_rfl) (fun _ _ _ h => h) (Or.inl ⟨by rfl, fun w _ => by go_simp⟩) hS ?_
    simp only [List.getElem_toArray, List.getElem_cons_succ, List.getElem_cons_zero, Act.put, List.setIfInBounds_toArray, List.set_cons_zero, List.set_cons_succ]
    refine wpAnyB_pure (i := 5) (v := .int .i64 (bl.length : Int)) rfl (by kernel_rfl) (fun _ _ _ h => h) (Or.inl ⟨by rfl, fun w _ => by go_simp⟩) hS ?_
    simp only [List.getElem_toArray, List.getElem_cons_succ, List.getElem_cons_zero, Act.put, List.setIfInBounds_toArray, List.set_cons_zero, List.set_cons_succ]
    refine wpAnyB_take [3, 6] (i := 3) (v := .map (some gm)) rfl (by kernel_rfl) (fun _ _ _ h => h) (Or.inl ⟨by rfl, fun w hSw => by have := hCM w hSw; go_simp⟩) hS ?_
    simp only [List.getElem_toArray, List.getElem_cons_succ, List.getElem_cons_zero, Act.put, List.setIfInBounds_toArray, List.set_cons_zero, List.set_cons_succ]
    refine wpAnyB_take [4, 6] (i := 4) (v := .agg (i8 b).toArray) rfl (by kernel_rfl) (fun _ _ _ h => h) (yieldsIf_load_mid (by rfl) 82 _ rfl w.heap.size 0 rfl (i8 b) _ (fun w' hw' => hRB w' hw') Tryd.undB rfl HI.out) hS ?_
    simp only [List.getElem_toArray, List.getElem_cons_succ, List.getElem_cons_zero, Act.put, List.setIfInBounds_toArray, List.set_cons_zero, List.set_cons_succ]
    refine wpAnyB_last (i := 6) rfl (by kernel_rfl) (fun K hK => ?_)
    rw [if_pos (by rfl)]
    obtain ⟨w1, hrun, hm1, hg1⟩ := (ownsMap_below HMB.out hS).update Tryd.keyLawB Tryd.undM (by unfold maxLen; omega) (Tryd.keyBlock hb) (plainElem_int Tryd.undI (WalkArith.wf_i64 (by omega)) : plainElem Tryd.prog 3 (.int .i64 (bl.length : Int)) = some (.lit (.int .i64 (bl.length : Int)), []))
    refine wp_mapUpdate_run 90 _ _ _ rfl _ _ _ rfl rfl rfl hrun ?_
    simp only [Act.put]
    refine hK.out _ _ ?_
    refine wpAnyB_done (by kernel_rfl) ?_ _
    refine NoPanic.normal ?_
    have hs1 := hg1.size
    have hn1 : w1.heap[w.heap.size]? = some (.cells (i8 b).toArray 82 (0, 0)) := by
      have e1 : wb.heap[w.heap.size]? = some (.cells (i8 b).toArray 82 (0, 0)) := by rw [HWB.out]; exact heap_new' w _
      have e2 := map_ne (gd := w.heap.size) HMB.out e1
      exact (hg1.block _ (by show _ < wb.heap.size; omega) (by simp; omega)).trans e1
    have hgd1 : w1.heap[gd]? = some (.cells (drCells like (.slice a bl.length cap) gm).toArray 93 (0, 0)) := by
      have e2 := map_ne HMB.out HGB.out
      exact (hg1.block _ (by show _ < wb.heap.size; omega) (by simp; omega)).trans HGB.out
    have hrw1 : w1.ownsRow n 82 256 (.slice a bl.length cap) bl.length (cellsBl bl) := by
      have e2 := own_ne_map HMB.out HRW.out
      exact (ownsRow_below HRW.out hS).kept hg1 (.inr e2)
    have hB1 : Below n w w1 := by
      refine ((HBB.out.mono hnw).drew.drew).grown hg1 (by show n ≤ wb.heap.size; omega) (fun k hk => ?_)
      have : gm = k := by simpa using hk
      omega
    have hsz1 : wb.heap.size ≤ w1.heap.size := hs1
    have HO1 : Hid (Other w w1) := (Other.below HBB.out.drew.drew).trans (Other.map (ownsMap_below HMB.out hS) hg1)
    have HCV1 : Hid (∀ w', Below w1.heap.size w1 w' → w'.cell? ⟨gd, 4352, none⟩ = some (.slice a bl.length cap)) := fun w' hw' => (hw'.cell (p := ⟨gd, 4352, none⟩) (by show gd < _; omega)).trans (cell_row hgd1 (drCells_at HLL.out).1)
    have HRB1 : Hid (∀ w', Below w1.heap.size w1 w' → w'.rangeAt w.heap.size 0 (i8 b)) := fun w' hw' => rangeAt_row ((hw'.block w.heap.size (by omega)).trans hn1)
    obtain ⟨HG1, HR1, HB1, HM1⟩ : Hid (w1.heap[gd]? = some (.cells (drCells like (.slice a bl.length cap) gm).toArray 93 (0, 0))) ∧ Hid (w1.ownsRow n 82 256 (.slice a bl.length cap) bl.length (cellsBl bl)) ∧ Hid (Below n w w1) ∧ Hid (w1.ownsMap Tryd.prog 82 (plainElem Tryd.prog 3) gm (bl.length + 1) (D.put (kB b) (.lit (.int .i64 (bl.length : Int))))) := ⟨hgd1, hrw1, hB1, hm1⟩
    have HIM : Hid (Maps.IsMap D) := HMB.out.isMap
    clear hrun hm1 hg1 hK hn1 hgd1 hrw1 hB1 hCM hRB hS hs1
    go_wp2_with fail
    refine wp_region_bad (fun w' => Below w1.heap.size w1 w') [7, 10] (by kernel_rfl) ((Below.refl _ _).drew) (fun hS => ?_)
    have hCV1 := HCV1.out
    have hRB1 := HRB1.out
    refine wpAnyB_pure (i := 0) (v := .pointer (some ⟨gd, 0, none⟩)) rfl (by kernel_rfl) (fun _ _ _ h => h) (Or.inl ⟨by rfl, fun w _ => by go_simp⟩) hS ?_
    simp only [List.getElem_toArray, List.getElem_cons_zero, Act.put, List.setIfInBounds_toArray, List.set_cons_zero, List.set_cons_succ]
    refine wpAnyB_pure (i := 1) (v := .pointer (some ⟨gd, 0, none⟩)) rfl (by kernel_rfl) (fun _ _ _ h => h) (Or.inl ⟨by rfl, fun w _ => by go_simp⟩) hS ?_
    simp only [List.getElem_toArray, List.getElem_cons_succ, List.getElem_cons_zero, Act.put, List.setIfInBounds_toArray, List.set_cons_zero, List.set_cons_succ]
    refine wpAnyB_pure (i := 2) (v := .pointer (some ⟨gd, 0, none⟩)) rfl (by kernel_rfl) (fun _ _ _ h => h) (Or.inl ⟨by rfl, fun w _ => by go_simp⟩) hS ?_
    simp only [List.getElem_toArray, List.getElem_cons_succ, List.getElem_cons_zero, Act.put, List.setIfInBounds_toArray, List.set_cons_zero, List.set_cons_succ]
    refine wpAnyB_pure (i := 3) (v := .pointer (some ⟨gd, 4352, none⟩)) rfl (by kernel_rfl) (fun _ _ _ h => h) (Or.inl ⟨by rfl, fun w _ => by go_simp⟩) hS ?_
    simp only [List.getElem_toArray, List.getElem_cons_succ, List.getElem_cons_zero, Act.put, List.setIfInBounds_toArray, List.set_cons_zero, List.set_cons_succ]
    refine wpAnyB_take [4, 7, 10] (i := 4) (v := .slice a bl.length cap) rfl (by kernel_rfl) (fun _ _ _ h => h) (Or.inl ⟨by rfl, fun w hSw => by have := hCV1 w hSw; go_simp⟩) hS ?_
    simp only [List.getElem_toArray, List.getElem_cons_succ, List.getElem_cons_zero, Act.put, List.setIfInBounds_toArray, List.set_cons_zero, List.set_cons_succ]
    refine wpAnyB_take [5, 6, 7, 10] (i := 5) (v := .agg (i8 b).toArray) rfl (by kernel_rfl) (fun _ _ _ h => h) (yieldsIf_load_mid (by rfl) 82 _ rfl w.heap.size 0 rfl (i8 b) _ (fun w' hw' => hRB1 w' hw') Tryd.undB rfl HI.out) hS ?_
    simp only [List.getElem_toArray, List.getElem_cons_succ, List.getElem_cons_zero, Act.put, List.setIfInBounds_toArray, List.set_cons_zero, List.set_cons_succ]
    refine wpAnyB_one (i := 6) rfl (by kernel_rfl) (fun K hK => ?_)
    rw [if_pos (by rfl)]
    refine wp_buildSlice_run 78 _ rfl (.agg (i8 b).toArray) _ rfl (run_buildSlice_one w1.drew (i8 b).toArray (i8 zeroB).toArray Tryd.undBs hiB (by rw [hzB1, List.size_toArray, i8_length, hb.1]) (by rw [hzB0, i8_zeroB]) (by simp [i8_length, zeroB_length, hb.1]) (by simp [i8_length, hb.1]) (by simp [i8_length, hb.1])) ?_
    simp only [Act.put, List.setIfInBounds_toArray]
    refine hK.out _ _ (hS.alloc (by show w1.heap.size ≤ w1.heap.size; omega) _) ?_
    clear hK K
    obtain ⟨w2, hw2⟩ : ∃ w2, w2 = w1.drew.alloc (.cells (i8 b).toArray 82) := ⟨_, rfl⟩
    have hS2 : Below w1.heap.size w1 w2 := by rw [hw2]; exact hS.alloc (by show w1.heap.size ≤ w1.heap.size; omega) _
    have hs2 : w2.heap.size = w1.heap.size + 1 := by rw [hw2]; simp
    have hnew : w2.heap[w1.heap.size]? = some (.cells (i8 b).toArray 82 (0, 0)) := by rw [hw2]; exact heap_new' w1.drew _
    rw [← hw2]
    clear hw2
    refine wpAnyB_last (i := 7) rfl (by kernel_rfl) (fun K hK => ?_)
    rw [if_pos (by rfl)]
    refine wp_append_own w2 _ _ 78 rfl n 82 iB _ 256 256 Tryd.undBs hiB hzB0 hzB1 hzB2 (by simp [Value.cells]) (by omega) (.slice a bl.length cap) bl.length (cellsBl bl) rfl (ownsRow_below HR1.out hS2) ⟨w1.heap.size, 0, none⟩ 1 1 (i8 b) rfl (by rw [i8_length, hb.1]) (fun j u hj => by rw [Addr.add_mid, Nat.zero_add]; exact cell_row hnew hj) (i8_one b) (by unfold maxLen; omega) (by omega) (by omega) ?_
    intro v3 w3 hr3 hg3 _
    simp only [Act.put]
    refine hK.out _ _ ?_
    clear hK K
    have hgd2 : w2.heap[gd]? = some (.cells (drCells like (.slice a bl.length cap) gm).toArray 93 (0, 0)) := (hS2.block gd (by omega)).trans HG1.out
    have hon := own_ne (ownsRow_below HR1.out hS2) hgd2 (by decide)
    have hgd3 : w3.heap[gd]? = some (.cells (drCells like (.slice a bl.length cap) gm).toArray 93 (0, 0)) := (hg3.block gd (by omega) (fun e => hon e.symm)).trans hgd2
    have hm3 : w3.ownsMap Tryd.prog 82 (plainElem Tryd.prog 3) gm (bl.length + 1) (D.put (kB b) (.lit (.int .i64 (bl.length : Int)))) := by
      have e2 := own_ne_map (ownsMap_below HM1.out hS2) (ownsRow_below HR1.out hS2)
      exact (ownsMap_below HM1.out hS2).kept hg3 (fun e => e2 e.symm)
    have hc3 : w3.cell? ⟨gd, 4352, none⟩ = some (.slice a bl.length cap) := cell_row hgd3 (drCells_at HLL.out).1
    have hf3 : w3.frozen? ⟨gd, 4352, none⟩ = false := frozen_of_row _ _ _ _ _ hgd3
    obtain ⟨a3, cap3, rfl⟩ := slice_of_row hr3
    refine wpAnyB_late (i := 8) (v := .pointer (some ⟨gd, 0, none⟩)) rfl (by kernel_rfl) (fun _ _ _ h => h) (Or.inl ⟨by rfl, fun w _ => by go_simp⟩) ?_
    simp only [List.getElem_toArray, List.getElem_cons_succ, List.getElem_cons_zero, Act.put, List.setIfInBounds_toArray, List.set_cons_zero, List.set_cons_succ]
    refine wpAnyB_late (i := 9) (v := .pointer (some ⟨gd, 4352, none⟩)) rfl (by kernel_rfl) (fun _ _ _ h => h) (Or.inl ⟨by rfl, fun w _ => by go_simp⟩) ?_
    simp only [List.getElem_toArray, List.getElem_cons_succ, List.getElem_cons_zero, Act.put, List.setIfInBounds_toArray, List.set_cons_zero, List.set_cons_succ]
    refine wpAnyB_last (i := 10) rfl (by kernel_rfl) (fun K hK => ?_)
    rw [if_pos (by rfl)]
    obtain ⟨HG3, HM3, HR3, HGB3⟩ : Hid (w3.heap[gd]? = some (.cells (drCells like (.slice a bl.length cap) gm).toArray 93 (0, 0))) ∧ Hid (w3.ownsMap Tryd.prog 82 (plainElem Tryd.prog 3) gm (bl.length + 1) (D.put (kB b) (.lit (.int .i64 (bl.length : Int))))) ∧ Hid (w3.ownsRow n 82 256 (.slice a3 (bl.length + 1) cap3) (bl.length + 1) (cellsBl bl ++ i8 b)) ∧ Hid (w2.grownBy w3 (Value.slice a bl.length cap).ownBlock) := ⟨hgd3, hm3, hr3, hg3⟩
    have HS2 : Hid (Below w1.heap.size w1 w2) := hS2
    clear hgd3 hm3 hr3 hg3 hgd2 hon hnew hS hS2 hCV1 hRB1
    go_wp2
    refine hK.out _ _ ?_
    refine wpAnyB_done (by kernel_rfl) ?_ _
    refine NoPanic.normal ?_
    clear hK K
    go_wp2
    go_ret
    refine ⟨?_, ?_, ?_, ?_⟩
    · show Ending.returned (.int .i64 (bl.length : Int)) = _
      rw [HR.out]
    · rw [HE.out]
      refine ⟨gm, .slice a3 (bl.length + 1) cap3, D.put (kB b) (.lit (.int .i64 (bl.length : Nat))), hgd, hgm, HLL.out, ?_, ?_, heap_set_row HG3.out (drCells_set HLL.out), ?_, ?_, knows_put HIM.out HKN.out hb HBLB.out HQ.out⟩
      · have := addF_nodup (b := b) HND.out
        rwa [addF_new HQ.out] at this
      · intro x hx
        rcases List.mem_append.1 hx with z | z
        · exact HBLB.out x z
        · rw [List.mem_singleton.1 z]; exact hb
      · have e1 : (bl ++ [b]).length = bl.length + 1 := by simp
        rw [e1, cellsBl_snoc]
        have e2 := own_ne HR3.out HG3.out (by decide)
        have hsc : w3.grownBy (w3.setCell ⟨gd, 4352, none⟩ (.slice a3 (bl.length + 1) cap3)) (some gd) := ⟨rfl, rfl, rfl, by simp [World.setCell], fun k hk hne => heap_setCell_other _ _ _ _ (fun e => hne (by rw [e]))⟩
        exact HR3.out.kept hsc (.inr e2)
      · have e1 : (bl ++ [b]).length = bl.length + 1 := by simp
        rw [e1]
        exact HM3.out.setCell (map_ne HM3.out HG3.out) _
    · have hs3 := HGB3.out.size
      have hr := (ownsRow_below HR1.out HS2.out).lt
      refine Below.setCell ?_ (show n ≤ gd from hgd) _
      exact (HB1.out.trans (HS2.out.mono (by omega))).grown HGB3.out (by omega) (fun k hk => (hr k hk).1)
    · exact ((HO1.out.trans (Other.below HS2.out)).trans (Other.row (ownsRow_below HR1.out HS2.out) HGB3.out)).trans (Other.setCell HG3.out (.inl rfl))
end Go.Proofs.YtpknmpgbaccffaaDoor

namespace Go.Proofs.YtpknmpgbaccffaaDoor
open Go.RowKit
set_option linter.unusedVariables false

theorem wpList_build_run {P : Program} {w : World} {ops : Array Oper} {rest : List Oper} {o : Oper} {a : Act} {Q : Exit → Act → World → Prop} (hg : o.guard = none) (t : TypeId) (parts : Array (Nat × Operand)) (ho : o.op = .build t parts) (cells : Array Value)
    (hb : P.built t (parts.map fun (i, x) => (i, a.eval x)).toList = some cells) (h : wpList P ops Q rest (a.put o.dst (.agg cells)) w) : wpList P ops Q (o :: rest) a w :=
  wpList_build hg t parts ho (by rw [hb]; rfl) (by rw [hb]; exact h)

def zeros : List Nat := List.replicate 4352 0
theorem zeros_length : zeros.length = 4352 := by unfold zeros; rw [List.length_replicate]
theorem drCells_zeros (v : Value) (g : Nat) : drCells zeros v g = List.replicate 4352 (Value.int .i64 0) ++ [v, .map (some g)] := by
  unfold drCells zeros; rw [List.map_replicate]; rfl
theorem Tryd.zeroDraft (w : World) : (zeroValue 93).run Tryd.prog w = .ok (.agg (List.replicate 4352 (Value.int .i64 0) ++ [Value.slice none 0 0, Value.map none]).toArray) w := by
  refine (zero_of_info (n := 4354) ?_).1 w
  have := Tryd.infoDraft
  revert this
  cases Tryd.prog.info? 93 with
  | none => intro h; cases h
  | some i => intro h; simp only [Option.map_some, Option.some.injEq, Prod.mk.injEq] at h ⊢; exact ⟨h.1, h.2.1⟩
theorem isB_zero : IsB zeroB := ⟨zeroB_length, fun x hx => by
  unfold zeroB at hx
  rw [List.eq_of_mem_replicate hx]
  omega⟩

set_option maxRecDepth 100000 in
set_option maxHeartbeats 2000000 in
theorem newDraft_any (w : World) :
    Calls Tryd.prog 37 #[] w fun e w' => ∃ gd, e = .returned (.pointer (some ⟨gd, 0, none⟩)) ∧ DrAt w.heap.size w' gd zeros [zeroB] ∧ Below w.heap.size w w' := by
  have hmm := @run_makeMap Tryd.prog
  have hzd := Tryd.zeroDraft
  have hzb := Tryd.zeroBlock
  obtain ⟨cs, hcs⟩ : ∃ cs, cs = (List.replicate 4352 (Value.int .i64 0) ++ [Value.slice none 0 0, Value.map none]).toArray := ⟨_, rfl⟩
  obtain ⟨zb, hzB⟩ : ∃ zb, zb = (i8 zeroB).toArray := ⟨_, rfl⟩
  rw [← hcs] at hzd
  rw [← hzB] at hzb
  have hsz : cs.size = 4354 := by rw [hcs, List.size_toArray, List.length_append, List.length_replicate]; rfl
  obtain ⟨HCS, HZB⟩ : Hid (cs = (List.replicate 4352 (Value.int .i64 0) ++ [Value.slice none 0 0, Value.map none]).toArray) ∧ Hid (zb = (i8 zeroB).toArray) := ⟨hcs, hzB⟩
  have HDR : Hid (cs.setIfInBounds 4353 (.map (some w.heap.size)) = (drCells zeros (.slice none 0 0) w.heap.size).toArray) := by
    show _ = _
    rw [hcs, drCells_zeros]
    simp only [List.setIfInBounds_toArray]
    rw [List.set_append_right _ _ (by rw [List.length_replicate]; omega), List.length_replicate]
    rfl
  clear hcs hzB
  go_enter Tryd.func37, Tryd.ntmps37
  go_wp2_with fail
  have hd : DrAt w.heap.size ((w.alloc (.map #[] 0)).alloc (.cells (cs.setIfInBounds 4353 (.map (some w.heap.size))) 93)) (w.heap.size + 1) zeros [] := by
    refine ⟨w.heap.size, .slice none 0 0, .map [], by omega, Nat.le_refl _, zeros_length, List.nodup_nil, (fun b hb => by cases hb), ?_, World.ownsRow_nil _ _ _ _, (World.ownsMap_made w _ _ _).alloc _, (fun b hb => ?_), (fun b hb => by cases hb)⟩
    · rw [← HDR.out]; exact heap_alloc2_new w _ _
    · simp [Maps.has]
  rw [HZB.out]
  refine (number_any _ _ _ _ zeroB _ hd isB_zero (by simp) (by simp; omega)).mono ?_
  rintro e w2 ⟨rfl, hd2, hB2, _⟩
  go_wp2
  go_ret
  refine ⟨w.heap.size + 1, rfl, hd2, ?_⟩
  exact (((Below.refl _ w).alloc (Nat.le_refl _) _).alloc (by simp) _).trans hB2
end Go.Proofs.YtpknmpgbaccffaaDoor
