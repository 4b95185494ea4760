/-
  trie.newDraft: the draft of the value 0. Plain mathematics of draft.put: block by block an entry's value is laid in.
-/
import Derived.Test.YtmknifnhcgdkaaaX21
namespace Go.Proofs.Ytmknifnhcgdkaaa.S3
open Go.RowKit
set_option linter.unusedVariables false

theorem wpList_build_run {P : Program} {w : World} {ops : Array Oper} {rest : List Oper} {o : Oper} {a : Act} {Q : Exit → Act → World → Prop} (hg : o.guard = none) (t : TypeId) (parts : Array (Nat × Operand)) (ho : o.op = .build t parts) (cells : Array Value)
    (hb : P.built t (parts.map fun (i, x) => (i, a.eval x)).toList = some cells) (h : wpList P ops Q rest (a.put o.dst (.agg cells)) w) : wpList P ops Q (o :: rest) a w :=
  wpList_build hg t parts ho (by rw [hb]; rfl) (by rw [hb]; exact h)

def zeros : List Nat := List.replicate 4352 0
theorem zeros_length : zeros.length = 4352 := by unfold zeros; rw [List.length_replicate]
theorem drCells_zeros (v : Value) (g : Nat) : drCells zeros v g = List.replicate 4352 (Value.int .i64 0) ++ [v, .map (some g)] := by
  unfold drCells zeros; rw [List.map_replicate]; rfl
theorem Try.zeroDraft (w : World) : (zeroValue 116).run Try.prog w = .ok (.agg (List.replicate 4352 (Value.int .i64 0) ++ [Value.slice none 0 0, Value.map none]).toArray) w := by
  refine (zero_of_info (n := 4354) ?_).1 w
  have := Try.infoDraft
  revert this
  cases Try.prog.info? 116 with
  | none => intro h; cases h
  | some i => intro h; simp only [Option.map_some, Option.some.injEq, Prod.mk.injEq] at h ⊢; exact ⟨h.1, h.2.1⟩
theorem isB_zero : IsB zeroB := ⟨zeroB_length, fun x hx => by
  unfold zeroB at hx
  rw [List.eq_of_mem_replicate hx]
  omega⟩

set_option maxRecDepth 100000 in
set_option maxHeartbeats 2000000 in
theorem newDraft_any (w : World) :
    Calls Try.prog 54 #[] w fun e w' => ∃ gd, e = .returned (.pointer (some ⟨gd, 0, none⟩)) ∧ DrAt w.heap.size w' gd zeros [zeroB] ∧ Below w.heap.size w w' := by
  have hmm := @run_makeMap Try.prog
  have hzd := Try.zeroDraft
  have hzb := Try.zeroBlock
  obtain ⟨cs, hcs⟩ : ∃ cs, cs = (List.replicate 4352 (Value.int .i64 0) ++ [Value.slice none 0 0, Value.map none]).toArray := ⟨_, rfl⟩
  obtain ⟨zb, hzB⟩ : ∃ zb, zb = (i8 zeroB).toArray := ⟨_, rfl⟩
  rw [← hcs] at hzd
  rw [← hzB] at hzb
  have hsz : cs.size = 4354 := by rw [hcs, List.size_toArray, List.length_append, List.length_replicate]; rfl
  obtain ⟨HCS, HZB⟩ : Hid (cs = (List.replicate 4352 (Value.int .i64 0) ++ [Value.slice none 0 0, Value.map none]).toArray) ∧ Hid (zb = (i8 zeroB).toArray) := ⟨hcs, hzB⟩
  have HDR : Hid (cs.setIfInBounds 4353 (.map (some w.heap.size)) = (drCells zeros (.slice none 0 0) w.heap.size).toArray) := by
    show _ = _
    rw [hcs, drCells_zeros]
    simp only [List.setIfInBounds_toArray]
    rw [List.set_append_right _ _ (by rw [List.length_replicate]; omega), List.length_replicate]
    rfl
  clear hcs hzB
  go_enter Try.func54, Try.ntmps54
  go_wp2_with fail
  have hd : DrAt w.heap.size ((w.alloc (.map #[] 0)).alloc (.cells (cs.setIfInBounds 4353 (.map (some w.heap.size))) 116)) (w.heap.size + 1) zeros [] := by
    refine ⟨w.heap.size, .slice none 0 0, .map [], by omega, Nat.le_refl _, zeros_length, List.nodup_nil, (fun b hb => by cases hb), ?_, World.ownsRow_nil _ _ _ _, (World.ownsMap_made w _ _ _).alloc _, (fun b hb => ?_), (fun b hb => by cases hb)⟩
    · rw [← HDR.out]; exact heap_alloc2_new w _ _
    · simp [Maps.has]
  rw [HZB.out]
  refine (number_any _ _ _ _ zeroB _ hd isB_zero (by simp) (by simp; omega)).mono ?_
  rintro e w2 ⟨rfl, hd2, hB2, _⟩
  go_wp2
  go_ret
  refine ⟨w.heap.size + 1, rfl, hd2, ?_⟩
  exact (((Below.refl _ w).alloc (Nat.le_refl _) _).alloc (by simp) _).trans hB2
end Go.Proofs.Ytmknifnhcgdkaaa.S3

namespace Go.Proofs.Ytmknifnhcgdkaaa.S3
open Go.RowKit
set_option linter.unusedVariables false

/-- The draft tells the blocks of f. -/
def Says (f : Int → Int) (like : List Nat) (bl : List (List Int)) : Prop := like.length = 4352 ∧ ∀ i, i < 4352 → ∃ k, like[i]? = some k ∧ bl[k]? = some (blkF f i)
/-- The values with an entry laid in up to a block. -/
def upTo (f : Int → Int) (p : Pp) (k : Nat) (r : Int) : Int := if hasP p r = true ∧ r < 256 * (k : Int) then p.v else f r
def withP (f : Int → Int) (p : Pp) (r : Int) : Int := if hasP p r = true then p.v else f r

theorem blkF_get (f : Int → Int) (k i : Nat) (h : i < 256) : (blkF f k)[i]? = some (f ((k * 256 + i : Nat) : Int)) := by
  unfold blkF
  rw [List.getElem?_map, List.getElem?_range h]
  rfl
theorem says_set {f g : Int → Int} {like : List Nat} {bl t : List (List Int)} {k m : Nat} (h : Says f like bl) (hk : k < 4352) (hm : (bl ++ t)[m]? = some (blkF g k)) (hne : ∀ i, i < 4352 → i ≠ k → blkF g i = blkF f i) : Says g (like.set k m) (bl ++ t) := by
  refine ⟨by rw [List.length_set]; exact h.1, fun i hi => ?_⟩
  by_cases q : k = i
  · subst q
    refine ⟨m, ?_, hm⟩
    rw [List.getElem?_set_self (by rw [h.1]; exact hk)]
  · obtain ⟨x, h1, h2⟩ := h.2 i hi
    refine ⟨x, by rw [List.getElem?_set_ne q]; exact h1, ?_⟩
    rw [List.getElem?_append_left (List.getElem?_eq_some_iff.1 h2).1, h2, hne i hi (fun e => q e.symm)]
theorem upTo_other (f : Int → Int) (p : Pp) (k i : Nat) (h : i ≠ k) : blkF (upTo f p (k + 1)) i = blkF (upTo f p k) i := by
  refine blkF_congr (fun r a b => ?_)
  unfold upTo
  have : (r < 256 * ((k + 1 : Nat) : Int)) ↔ (r < 256 * (k : Int)) := by omega
  simp only [this]
theorem upTo_start {f : Int → Int} {p : Pp} {k : Nat} (h : 256 * (k : Int) ≤ p.lo) (i : Nat) : blkF (upTo f p k) i = blkF f i := by
  refine blkF_congr (fun r a b => ?_)
  unfold upTo
  rw [if_neg]
  rintro ⟨q, z⟩
  have := hasP_iff.1 q
  omega
theorem upTo_end {f : Int → Int} {p : Pp} {k : Nat} (h : p.hi < 256 * (k : Int)) (i : Nat) : blkF (upTo f p k) i = blkF (withP f p) i := by
  refine blkF_congr (fun r a b => ?_)
  unfold upTo withP
  by_cases q : hasP p r = true
  · have := hasP_iff.1 q
    rw [if_pos ⟨q, by omega⟩, if_pos q]
  · rw [if_neg (fun z => q z.1), if_neg q]
theorem says_congr {f g : Int → Int} {like : List Nat} {bl : List (List Int)} (h : Says f like bl) (e : ∀ i, i < 4352 → blkF g i = blkF f i) : Says g like bl :=
  ⟨h.1, fun i hi => by rw [e i hi]; exact h.2 i hi⟩
/-- A block that the entry has whole. -/
theorem upTo_whole {f : Int → Int} {p : Pp} {k : Nat} (h1 : p.lo ≤ 256 * (k : Int)) (h2 : 256 * (k : Int) + 255 ≤ p.hi) : blkF (upTo f p (k + 1)) k = fillTo zeroB 0 256 p.v := by
  apply List.ext_getElem
  · rw [blkF_length, fillTo_length, zeroB_length]
  · intro i a b
    have hi : i < 256 := by rw [blkF_length] at a; exact a
    simp only [blkF, fillTo, List.getElem_map, List.getElem_range]
    rw [if_pos (by omega)]
    unfold upTo
    rw [if_pos ⟨hasP_iff.2 ⟨by omega, by omega⟩, by omega⟩]
/-- A block that the entry has in part. -/
theorem upTo_part {f : Int → Int} {p : Pp} {k lo hi : Nat} (h0 : (lo : Int) = max (p.lo - 256 * k) 0) (h1 : (hi : Int) = min (p.hi - 256 * k) 255) : fillTo (blkF (upTo f p k) k) lo ((hi : Int) + 1) p.v = blkF (upTo f p (k + 1)) k := by
  apply List.ext_getElem
  · rw [fillTo_length, blkF_length, blkF_length]
  · intro i a b
    have hi' : i < 256 := by rw [blkF_length] at b; exact b
    simp only [fillTo, List.getElem_map, List.getElem_range]
    rw [blkF_get _ _ _ hi']
    simp only [blkF, List.getElem_map, List.getElem_range, Option.getD_some]
    unfold upTo
    by_cases q : (lo : Int) ≤ (i : Int) ∧ (i : Int) < (hi : Int) + 1
    · rw [if_pos q, if_pos ⟨hasP_iff.2 ⟨by omega, by omega⟩, by omega⟩]
    · rw [if_neg q, if_neg (fun z => by omega), if_neg (fun z => by have := hasP_iff.1 z.1; omega)]
theorem isB_fill {b : List Int} {lo k v : Int} (h : IsB b) (hv : 0 ≤ v ∧ v ≤ 255) : IsB (fillTo b lo k v) := by
  refine ⟨by rw [fillTo_length]; exact h.1, fun x hx => ?_⟩
  obtain ⟨i, hi, rfl⟩ := List.mem_map.1 hx
  have hi' := List.mem_range.1 hi
  split
  · exact hv
  · rw [List.getElem?_eq_getElem hi']
    exact h.2 _ (List.getElem_mem hi')
theorem idx_get {bl : List (List Int)} {b : List Int} (h : b ∈ bl) : bl[bl.idxOf b]? = some b := by
  rw [List.getElem?_eq_getElem (List.idxOf_lt_length_of_mem h)]
  congr 1
  exact List.getElem_idxOf _
theorem addF_get (bl : List (List Int)) (b : List Int) : (addF bl b)[(addF bl b).idxOf b]? = some b := idx_get (addF_mem.2 (.inr rfl))
theorem DrAt.below {n : Nat} {w w' : World} {gd : Nat} {like : List Nat} {bl : List (List Int)} (h : DrAt n w gd like bl) (hb : Below w.heap.size w w') : DrAt n w' gd like bl := by
  obtain ⟨gm, v, D, h1, h2, h3, h4, h5, h6, h7, h8, h9⟩ := h
  exact ⟨gm, v, D, h1, h2, h3, h4, h5, (hb.block gd (heap_lt h6)).trans h6, ownsRow_below h7 hb, ownsMap_below h8 hb, h9⟩
/-- A store into 'like'. -/
theorem DrAt.setLike {n : Nat} {w : World} {gd : Nat} {like : List Nat} {bl : List (List Int)} (h : DrAt n w gd like bl) {i : Nat} (hi : i < 4352) (k : Nat) : DrAt n (w.setCell ⟨gd, i, none⟩ (.int .i64 (k : Int))) gd (like.set i k) bl := by
  obtain ⟨gm, v, D, h1, h2, h3, h4, h5, h6, h7, h8, h9⟩ := h
  refine ⟨gm, v, D, h1, h2, by rw [List.length_set]; exact h3, h4, h5, heap_set_row h6 (drCells_setLike (by omega)), ?_, h8.setCell (map_ne h8 h6) _, h9⟩
  have e2 := own_ne h7 h6 (by decide)
  have hsc : w.grownBy (w.setCell ⟨gd, i, none⟩ (.int .i64 (k : Int))) (some gd) := ⟨rfl, rfl, rfl, by simp [World.setCell], fun k hk hne => heap_setCell_other _ _ _ _ (fun e => hne (by rw [e]))⟩
  exact h7.kept hsc (.inr e2)
/-- What the draft's cells hold. -/
theorem DrAt.cells {n : Nat} {w : World} {gd : Nat} {like : List Nat} {bl : List (List Int)} (h : DrAt n w gd like bl) : n ≤ gd ∧ gd < w.heap.size ∧ ∃ a cap, w.cell? ⟨gd, 4352, none⟩ = some (.slice a bl.length cap) ∧ (∀ (i k : Nat), like[i]? = some k → w.cell? ⟨gd, i, none⟩ = some (.int .i64 (k : Int))) ∧ (∀ i, i < 4352 → w.frozen? ⟨gd, i, none⟩ = false) ∧
    ∀ (k : Nat) (b : List Int), bl[k]? = some b → ∃ g, a = some ⟨g, 0, none⟩ ∧ g < w.heap.size ∧ w.rangeAt g (k * 256) (i8 b) := by
  obtain ⟨gm, v, D, h1, h2, h3, h4, h5, h6, h7, h8, h9⟩ := h
  obtain ⟨a, cap, rfl⟩ := slice_of_row h7
  refine ⟨h1, heap_lt h6, a, cap, cell_row h6 (drCells_at h3).1, fun i k hi => ?_, fun i hi => frozen_of_row _ _ _ _ _ h6, fun k b hb => ?_⟩
  · obtain ⟨hlt, e⟩ := List.getElem?_eq_some_iff.1 hi
    have := drCells_like (v := .slice a bl.length cap) (gm := gm) hlt
    rw [e] at this
    exact cell_row h6 this
  · obtain ⟨hlt, e⟩ := List.getElem?_eq_some_iff.1 hb
    rcases h7.2 with ⟨q, h0⟩ | ⟨g, cap', cur, q, _, hgg, _⟩
    · omega
    · have ha : a = some ⟨g, 0, none⟩ := by simpa using (by simpa using q : _ ∧ _).1
      refine ⟨g, ha, heap_lt hgg, fun j u hj => ?_⟩
      have hj' : (cellsBl bl)[k * 256 + j]? = some u := cellsBl_at (isB_even h5) hlt (by rw [e]; exact hj)
      have := h7.cells (g := g) (by rw [ha]; rfl) (k * 256 + j) u hj'
      rw [Addr.add_mid, Nat.zero_add] at this
      exact this
end Go.Proofs.Ytmknifnhcgdkaaa.S3
