/-
  Plain mathematics of draft.put: block by block an entry's value is laid in. The builtins max and min, at ints, in one word. trie.draft.put: an entry is laid into the draft. Plain mathematics of draft.finish: the first blocks, block by block; tries in memory. trie.draft.finish: the trie of the draft's values, if there are no more than 256 first blocks. trie.Build: the trie of any entries.
-/
import Derived.Test.YtpknmpgbaccffaaDoorM2
namespace Go.Proofs.YtpknmpgbaccffaaDoor
open Go.RowKit
set_option linter.unusedVariables false

/-- The draft tells the blocks of f. -/
def Says (f : Int → Int) (like : List Nat) (bl : List (List Int)) : Prop := like.length = 4352 ∧ ∀ i, i < 4352 → ∃ k, like[i]? = some k ∧ bl[k]? = some (blkF f i)
/-- The values with an entry laid in up to a block. -/
def upTo (f : Int → Int) (p : Pp) (k : Nat) (r : Int) : Int := if hasP p r = true ∧ r < 256 * (k : Int) then p.v else f r
def withP (f : Int → Int) (p : Pp) (r : Int) : Int := if hasP p r = true then p.v else f r

theorem blkF_get (f : Int → Int) (k i : Nat) (h : i < 256) : (blkF f k)[i]? = some (f ((k * 256 + i : Nat) : Int)) := by
  unfold blkF
  rw [List.getElem?_map, List.getElem?_range h]
  rfl
theorem says_set {f g : Int → Int} {like : List Nat} {bl t : List (List Int)} {k m : Nat} (h : Says f like bl) (hk : k < 4352) (hm : (bl ++ t)[m]? = some (blkF g k)) (hne : ∀ i, i < 4352 → i ≠ k → blkF g i = blkF f i) : Says g (like.set k m) (bl ++ t) := by
  refine ⟨by rw [List.length_set]; exact h.1, fun i hi => ?_⟩
  by_cases q : k = i
  · subst q
    refine ⟨m, ?_, hm⟩
    rw [List.getElem?_set_self (by rw [h.1]; exact hk)]
  · obtain ⟨x, h1, h2⟩ := h.2 i hi
    refine ⟨x, by rw [List.getElem?_set_ne q]; exact h1, ?_⟩
    rw [List.getElem?_append_left (List.getElem?_eq_some_iff.1 h2).1, h2, hne i hi (fun e => q e.symm)]
theorem upTo_other (f : Int → Int) (p : Pp) (k i : Nat) (h : i ≠ k) : blkF (upTo f p (k + 1)) i = blkF (upTo f p k) i := by
  refine blkF_congr (fun r a b => ?_)
  unfold upTo
  have : (r < 256 * ((k + 1 : Nat) : Int)) ↔ (r < 256 * (k : Int)) := by omega
  simp only [this]
theorem upTo_start {f : Int → Int} {p : Pp} {k : Nat} (h : 256 * (k : Int) ≤ p.lo) (i : Nat) : blkF (upTo f p k) i = blkF f i := by
  refine blkF_congr (fun r a b => ?_)
  unfold upTo
  rw [if_neg]
  rintro ⟨q, z⟩
  have := hasP_iff.1 q
  omega
theorem upTo_end {f : Int → Int} {p : Pp} {k : Nat} (h : p.hi < 256 * (k : Int)) (i : Nat) : blkF (upTo f p k) i = blkF (withP f p) i := by
  refine blkF_congr (fun r a b => ?_)
  unfold upTo withP
  by_cases q : hasP p r = true
  · have := hasP_iff.1 q
    rw [if_pos ⟨q, by omega⟩, if_pos q]
  · rw [if_neg (fun z => q z.1), if_neg q]
theorem says_congr {f g : Int → Int} {like : List Nat} {bl : List (List Int)} (h : Says f like bl) (e : ∀ i, i < 4352 → blkF g i = blkF f i) : Says g like bl :=
  ⟨h.1, fun i hi => by rw [e i hi]; exact h.2 i hi⟩
/-- A block that the entry has whole. -/
theorem upTo_whole {f : Int → Int} {p : Pp} {k : Nat} (h1 : p.lo ≤ 256 * (k : Int)) (h2 : 256 * (k : Int) + 255 ≤ p.hi) : blkF (upTo f p (k + 1)) k = fillTo zeroB 0 256 p.v := by
  apply List.ext_getElem
  · rw [blkF_length, fillTo_length, zeroB_length]
  · intro i a b
    have hi : i < 256 := by rw [blkF_length] at a; exact a
    simp only [blkF, fillTo, List.getElem_map, List.getElem_range]
    rw [if_pos (by omega)]
    unfold upTo
    rw [if_pos ⟨hasP_iff.2 ⟨by omega, by omega⟩, by omega⟩]
/-- A block that the entry has in part. -/
theorem upTo_part {f : Int → Int} {p : Pp} {k lo hi : Nat} (h0 : (lo : Int) = max (p.lo - 256 * k) 0) (h1 : (hi : Int) = min (p.hi - 256 * k) 255) : fillTo (blkF (upTo f p k) k) lo ((hi : Int) + 1) p.v = blkF (upTo f p (k + 1)) k := by
  apply List.ext_getElem
  · rw [fillTo_length, blkF_length, blkF_length]
  · intro i a b
    have hi' : i < 256 := by rw [blkF_length] at b; exact b
    simp only [fillTo, List.getElem_map, List.getElem_range]
    rw [blkF_get _ _ _ hi']
    simp only [blkF, List.getElem_map, List.getElem_range, Option.getD_some]
    unfold upTo
    by_cases q : (lo : Int) ≤ (i : Int) ∧ (i : Int) < (hi : Int) + 1
    · rw [if_pos q, if_pos ⟨hasP_iff.2 ⟨by omega, by omega⟩, by omega⟩]
    · rw [if_neg q, if_neg (fun z => by omega), if_neg (fun z => by have := hasP_iff.1 z.1; omega)]
theorem isB_fill {b : List Int} {lo k v : Int} (h : IsB b) (hv : 0 ≤ v ∧ v ≤ 255) : IsB (fillTo b lo k v) := by
  refine ⟨by rw [fillTo_length]; exact h.1, fun x hx => ?_⟩
  obtain ⟨i, hi, rfl⟩ := List.mem_map.1 hx
  have hi' := List.mem_range.1 hi
  split
  · exact hv
  · rw [List.getElem?_eq_getElem hi']
    exact h.2 _ (List.getElem_mem hi')
theorem idx_get {bl : List (List Int)} {b : List Int} (h : b ∈ bl) : bl[bl.idxOf b]? = some b := by
  rw [List.getElem?_eq_getElem (List.idxOf_lt_length_of_mem h)]
  congr 1
  exact List.getElem_idxOf _
theorem addF_get (bl : List (List Int)) (b : List Int) : (addF bl b)[(addF bl b).idxOf b]? = some b := idx_get (addF_mem.2 (.inr rfl))
theorem DrAt.below {n : Nat} {w w' : World} {gd : Nat} {like : List Nat} {bl : List (List Int)} (h : DrAt n w gd like bl) (hb : Below w.heap.size w w') : DrAt n w' gd like bl := by
  obtain ⟨gm, v, D, h1, h2, h3, h4, h5, h6, h7, h8, h9⟩ := h
  exact ⟨gm, v, D, h1, h2, h3, h4, h5, (hb.block gd (heap_lt h6)).trans h6, ownsRow_below h7 hb, ownsMap_below h8 hb, h9⟩
/-- A store into 'like'. -/
theorem DrAt.setLike {n : Nat} {w : World} {gd : Nat} {like : List Nat} {bl : List (List Int)} (h : DrAt n w gd like bl) {i : Nat} (hi : i < 4352) (k : Nat) : DrAt n (w.setCell ⟨gd, i, none⟩ (.int .i64 (k : Int))) gd (like.set i k) bl := by
  obtain ⟨gm, v, D, h1, h2, h3, h4, h5, h6, h7, h8, h9⟩ := h
  refine ⟨gm, v, D, h1, h2, by rw [List.length_set]; exact h3, h4, h5, heap_set_row h6 (drCells_setLike (by omega)), ?_, h8.setCell (map_ne h8 h6) _, h9⟩
  have e2 := own_ne h7 h6 (by decide)
  have hsc : w.grownBy (w.setCell ⟨gd, i, none⟩ (.int .i64 (k : Int))) (some gd) := ⟨rfl, rfl, rfl, by simp [World.setCell], fun k hk hne => heap_setCell_other _ _ _ _ (fun e => hne (by rw [e]))⟩
  exact h7.kept hsc (.inr e2)
/-- What the draft's cells hold. -/
theorem DrAt.cells {n : Nat} {w : World} {gd : Nat} {like : List Nat} {bl : List (List Int)} (h : DrAt n w gd like bl) : n ≤ gd ∧ gd < w.heap.size ∧ ∃ a cap, w.cell? ⟨gd, 4352, none⟩ = some (.slice a bl.length cap) ∧ (∀ (i k : Nat), like[i]? = some k → w.cell? ⟨gd, i, none⟩ = some (.int .i64 (k : Int))) ∧ (∀ i, i < 4352 → w.frozen? ⟨gd, i, none⟩ = false) ∧
    ∀ (k : Nat) (b : List Int), bl[k]? = some b → ∃ g, a = some ⟨g, 0, none⟩ ∧ g < w.heap.size ∧ w.rangeAt g (k * 256) (i8 b) := by
  obtain ⟨gm, v, D, h1, h2, h3, h4, h5, h6, h7, h8, h9⟩ := h
  obtain ⟨a, cap, rfl⟩ := slice_of_row h7
  refine ⟨h1, heap_lt h6, a, cap, cell_row h6 (drCells_at h3).1, fun i k hi => ?_, fun i hi => frozen_of_row _ _ _ _ _ h6, fun k b hb => ?_⟩
  · obtain ⟨hlt, e⟩ := List.getElem?_eq_some_iff.1 hi
    have := drCells_like (v := .slice a bl.length cap) (gm := gm) hlt
    rw [e] at this
    exact cell_row h6 this
  · obtain ⟨hlt, e⟩ := List.getElem?_eq_some_iff.1 hb
    rcases h7.2 with ⟨q, h0⟩ | ⟨g, cap', cur, q, _, hgg, _⟩
    · omega
    · have ha : a = some ⟨g, 0, none⟩ := by simpa using (by simpa using q : _ ∧ _).1
      refine ⟨g, ha, heap_lt hgg, fun j u hj => ?_⟩
      have hj' : (cellsBl bl)[k * 256 + j]? = some u := cellsBl_at (isB_even h5) hlt (by rw [e]; exact hj)
      have := h7.cells (g := g) (by rw [ha]; rfl) (k * 256 + j) u hj'
      rw [Addr.add_mid, Nat.zero_add] at this
      exact this
end Go.Proofs.YtpknmpgbaccffaaDoor

namespace Go.Proofs.YtpknmpgbaccffaaDoor
open Go.RowKit
set_option linter.unusedVariables false
theorem wpList_max {P : Program} {w : World} {ops : Array Oper} {rest : List Oper} {o : Oper} {a : Act} {Q : Exit → Act → World → Prop} (hgd : o.guard = none) (x y : Operand) (t : TypeId)
    (ho : o.op = .call { callee := .builtin .max, args := #[x, y], argTypes := #[t, t] }) (m n r : Int) (hx : a.eval x = .int .i64 m) (hy : a.eval y = .int .i64 n) (hr : r = max m n)
    (h : wpList P ops Q rest (a.put o.dst (.int .i64 r)) w) : wpList P ops Q (o :: rest) a w := by
  refine wpList_plain hgd fun _ hK => ?_
  have h2 := hK _ _ h
  have e : (if m < n then n else m) = r := by rw [hr]; split <;> omega
  have hrun : ∀ ty, (Builtin.max_ #[t, t] ty #[.int .i64 m, .int .i64 n]).run P w = .ok (.int .i64 r) w := fun ty => by
    rw [← e]
    simp [Builtin.max_, Builtin.max2]
  unfold Oper.wp execOp
  simp only [ho, resolve, invoke, builtin, Sem.run_bind, Sem.run_pure, Result.andThen_ok, List.map_toArray, List.map_cons, List.map_nil, hx, hy, hrun]
  exact h2
theorem wpList_min {P : Program} {w : World} {ops : Array Oper} {rest : List Oper} {o : Oper} {a : Act} {Q : Exit → Act → World → Prop} (hgd : o.guard = none) (x y : Operand) (t : TypeId)
    (ho : o.op = .call { callee := .builtin .min, args := #[x, y], argTypes := #[t, t] }) (m n r : Int) (hx : a.eval x = .int .i64 m) (hy : a.eval y = .int .i64 n) (hr : r = min m n)
    (h : wpList P ops Q rest (a.put o.dst (.int .i64 r)) w) : wpList P ops Q (o :: rest) a w := by
  refine wpList_plain hgd fun _ hK => ?_
  have h2 := hK _ _ h
  have e : (if n < m then n else m) = r := by rw [hr]; split <;> omega
  have hrun : ∀ ty, (Builtin.min_ #[t, t] ty #[.int .i64 m, .int .i64 n]).run P w = .ok (.int .i64 r) w := fun ty => by
    rw [← e]
    simp [Builtin.min_, Builtin.min2]
  unfold Oper.wp execOp
  simp only [ho, resolve, invoke, builtin, Sem.run_bind, Sem.run_pure, Result.andThen_ok, List.map_toArray, List.map_cons, List.map_nil, hx, hy, hrun]
  exact h2
/-- An element of an array that is a value. -/
theorem run_index_at {P : Program} {t e : TypeId} {n i : Nat} {cs : Array Value} {u : Value} {q : IntKind} (ht : P.underlying t = some (.array n e)) (he : P.underlying e = some (.int q)) (hs : (P.info? e).map (·.size) = some 1) (hi : i < n) (hu : cs[i]? = some u) (h1 : u.oneCell' = true) (w : World) :
    (Instr.index t (.agg cs) (.int .i64 (i : Int))).run P w = .ok u w := by
  have hc : 0 ≤ (i : Int) ∧ (i : Int) < (n : Int) := by omega
  have hlt : i < cs.size := (Array.getElem?_eq_some_iff.1 hu).1
  cases hq : P.info? e with
  | none => simp [hq] at hs
  | some j =>
    have hj : j.size = 1 := by simpa [hq] using hs
    simp [Instr.index, asIntOf, run_underlying ht, sizeOf, typeInfo, hq, hj, hi, part, isAgg, run_underlying he, hu, Result.andThen]
end Go.Proofs.YtpknmpgbaccffaaDoor

namespace Go.Proofs.YtpknmpgbaccffaaDoor
open Go.RowKit
set_option linter.unusedVariables false

set_option maxRecDepth 100000 in
set_option maxHeartbeats 16000000 in
theorem put_any (n gd : Nat) (like : List Nat) (bl : List (List Int)) (f : Int → Int) (p : Pp) (w : World) (h : DrAt n w gd like bl) (hs : Says f like bl) (h0 : 0 ≤ p.lo) (h1 : p.lo ≤ p.hi) (h2 : p.hi ≤ 1114111) (hv : 0 ≤ p.v ∧ p.v ≤ 255)
    (hlen : bl.length < 500000000) (hnw : n ≤ w.heap.size) :
    Calls Tryd.prog 38 #[.pointer (some ⟨gd, 0, none⟩), .agg #[.int .i64 p.lo, .int .i64 p.hi, .int .u8 p.v]] w fun e w' => e = .returned (.tuple #[]) ∧ ∃ like' bl', DrAt n w' gd like' bl' ∧ Says (withP f p) like' bl' ∧ bl'.length ≤ bl.length + 5000 ∧ Below n w w' := by
  have hzb := Tryd.zeroBlock
  obtain ⟨zb, hzB⟩ : ∃ zb, zb = (i8 zeroB).toArray := ⟨_, rfl⟩
  rw [← hzB] at hzb
  have HZB : Hid (zb = (i8 zeroB).toArray) := hzB
  obtain ⟨wb, hwb⟩ : ∃ wb, wb = w.alloc (.cells #[.int .i64 p.lo, .int .i64 p.hi, .int .u8 p.v] 51) := ⟨_, rfl⟩
  have HWB : Hid (wb = w.alloc (.cells #[.int .i64 p.lo, .int .i64 p.hi, .int .u8 p.v] 51)) := hwb
  have hBb : Below w.heap.size w wb := by rw [hwb]; exact (Below.refl _ _).alloc (Nat.le_refl _) _
  have hpb : wb.heap[w.heap.size]? = some (.cells #[.int .i64 p.lo, .int .i64 p.hi, .int .u8 p.v] 51 (0, 0)) := by rw [hwb]; exact heap_new' w _
  have hsb : wb.heap.size = w.heap.size + 1 := by rw [hwb]; simp
  clear hzB hwb
  go_enter Tryd.func38, Tryd.ntmps38
  go_wp2_with fail
  rw [HZB.out, ← HWB.out]
  refine (filled_any zeroB 0 255 p.v wb zeroB_length (by omega) (by omega)).mono ?_
  rintro e w1 ⟨rfl, hB1⟩
  have e256 : ((255 : Nat) : Int) + 1 = 256 := by omega
  rw [e256]
  have hd1 : DrAt n w1 gd like bl := (h.below hBb).below hB1
  have hs1 := hB1.size
  have hp1 : w1.heap[w.heap.size]? = some (.cells #[.int .i64 p.lo, .int .i64 p.hi, .int .u8 p.v] 51 (0, 0)) := (hB1.block _ (by omega)).trans hpb
  go_wp2_with fail
  refine (number_any n gd like bl (fillTo zeroB 0 256 p.v) w1 hd1 (isB_fill isB_zero hv) (by omega) (by omega)).mono ?_
  rintro e w2 ⟨rfl, hd2, hB2, hO2⟩
  have hs2 := hB2.size
  have hp2 : w2.heap[w.heap.size]? = some (.cells #[.int .i64 p.lo, .int .i64 p.hi, .int .u8 p.v] 51 (0, 0)) := (hO2 _ _ _ _ hp1 (by decide) (by decide)).trans hp1
  have hBn2 : Below n w w2 := ((hBb.mono hnw).trans (hB1.mono (by omega))).trans hB2
  obtain ⟨wh, hwh⟩ : ∃ wh : Nat, wh = (addF bl (fillTo zeroB 0 256 p.v)).idxOf (fillTo zeroB 0 256 p.v) := ⟨_, rfl⟩
  obtain ⟨bl2, hbl2⟩ : ∃ bl2, bl2 = addF bl (fillTo zeroB 0 256 p.v) := ⟨_, rfl⟩
  have hwg : bl2[wh]? = some (fillTo zeroB 0 256 p.v) := by rw [hbl2, hwh]; exact addF_get _ _
  obtain ⟨t2, ht2⟩ : ∃ t, bl2 = bl ++ t := by rw [hbl2]; exact addF_ahead _ _
  have hl2 : bl2.length ≤ bl.length + 1 := by rw [hbl2]; exact addF_len _ _
  rw [← hwh]
  rw [← hbl2] at hd2
  have hs2' : Says f like bl2 := ⟨hs.1, fun i hi => by
    obtain ⟨x, q1, q2⟩ := hs.2 i hi
    exact ⟨x, q1, by rw [ht2, List.getElem?_append_left (List.getElem?_eq_some_iff.1 q2).1, q2]⟩⟩
  clear hwh hbl2 ht2 hd1 hs hpb hp1 hBb hB1 hO2 h hB2
  have hx0 : w2.cell? ⟨w.heap.size, 0, none⟩ = some (.int .i64 p.lo) := cell_of_row _ _ 0 _ _ _ hp2
  have hq1 : 0 ≤ p.lo / 256 ∧ p.lo / 256 ≤ 4351 := by omega
  obtain ⟨k0, hk0⟩ : ∃ k0 : Nat, (k0 : Int) = p.lo / 256 := ⟨(p.lo / 256).toNat, by omega⟩
  obtain ⟨k9, hk9⟩ : ∃ k9 : Nat, (k9 : Int) = p.hi / 256 := ⟨(p.hi / 256).toNat, by omega⟩
  have hd0 : p.lo.tdiv 256 = (k0 : Int) := by rw [hk0]; exact Int.tdiv_eq_ediv_of_nonneg h0
  have hd9 : p.hi.tdiv 256 = (k9 : Int) := by rw [hk9]; exact Int.tdiv_eq_ediv_of_nonneg (by omega)
  obtain ⟨HK0, HK9⟩ : Hid ((k0 : Int) = p.lo / 256) ∧ Hid ((k9 : Int) = p.hi / 256) := ⟨hk0, hk9⟩
  have hk09 : k0 ≤ k9 ∧ k9 ≤ 4351 := by omega
  obtain ⟨HP2, HD2, HS2, HBN, HWG⟩ : Hid (w2.heap[w.heap.size]? = some (.cells #[.int .i64 p.lo, .int .i64 p.hi, .int .u8 p.v] 51 (0, 0))) ∧ Hid (DrAt n w2 gd like bl2) ∧ Hid (Says f like bl2) ∧ Hid (Below n w w2) ∧ Hid (bl2[wh]? = some (fillTo zeroB 0 256 p.v)) := ⟨hp2, hd2, hs2', hBn2, hwg⟩
  clear hk0 hk9 hp2 hd2 hs2' hBn2 hwg
  go_wp2
  go_loopw [5] (fun x wr => ∃ k : Nat, k0 ≤ k ∧ k ≤ k9 + 1 ∧ x = .int .i64 k ∧ ∃ like bl, DrAt n wr gd like bl ∧ Says (upTo f p k) like bl ∧ bl.length + k0 ≤ bl2.length + k ∧ bl[wh]? = some (fillTo zeroB 0 256 p.v) ∧ Below n w wr ∧ wr.heap[w.heap.size]? = some (.cells #[.int .i64 p.lo, .int .i64 p.hi, .int .u8 p.v] 51 (0, 0)) ∧ w.heap.size < wr.heap.size) (fun x _ => k9 + 1 - (intOf x).toNat)
  case atStart =>
    refine ⟨k0, Nat.le_refl _, by omega, rfl, like, bl2, HD2.out, says_congr HS2.out (fun i hi => upTo_start (by have := HK0.out; omega) i), Nat.le_refl _, HWG.out, HBN.out, HP2.out, by omega⟩
  case round =>
    obtain ⟨k, hka, hkb, rfl, like, bl, hd, hsy, hbn, hwg, hB, hp, hws⟩ := hrel
    clear HD2 HS2 HBN HWG HP2 hx0
    have hx0 : wr.cell? ⟨w.heap.size, 0, none⟩ = some (.int .i64 p.lo) := cell_of_row _ _ 0 _ _ _ hp
    have hx1 : wr.cell? ⟨w.heap.size, 1, none⟩ = some (.int .i64 p.hi) := cell_of_row _ _ 1 _ _ _ hp
    have hx2 : wr.cell? ⟨w.heap.size, 2, none⟩ = some (.int .u8 p.v) := cell_of_row _ _ 2 _ _ _ hp
    obtain ⟨HD, HSY, HWG, HB, HP⟩ : Hid (DrAt n wr gd like bl) ∧ Hid (Says (upTo f p k) like bl) ∧ Hid (bl[wh]? = some (fillTo zeroB 0 256 p.v)) ∧ Hid (Below n w wr) ∧ Hid (wr.heap[w.heap.size]? = some (.cells #[.int .i64 p.lo, .int .i64 p.hi, .int .u8 p.v] 51 (0, 0))) := ⟨hd, hsy, hwg, hB, hp⟩
    obtain ⟨hng, hgdlt, a, cap, hcv, hck, hfr, hrg⟩ := hd.cells
    clear hd hsy hwg hB hp
    by_cases hlt : k ≤ k9
    · have hlt' : (k : Int) ≤ (k9 : Int) := by omega
      obtain ⟨lo, hlo⟩ : ∃ lo : Nat, (lo : Int) = max (p.lo - 256 * k) 0 := ⟨(max (p.lo - 256 * k) 0).toNat, by omega⟩
      obtain ⟨hi, hhi⟩ : ∃ hi : Nat, (hi : Int) = min (p.hi - 256 * k) 255 := ⟨(min (p.hi - 256 * k) 255).toNat, by have := HK9.out; omega⟩
      obtain ⟨HLO, HHI⟩ : Hid ((lo : Int) = max (p.lo - 256 * k) 0) ∧ Hid ((hi : Int) = min (p.hi - 256 * k) 255) := ⟨hlo, hhi⟩
      have HMX : Hid ((lo : Int) = max (p.lo - (k : Int) * 256) 0) := by show _ = _; rw [hlo]; omega
      have HMN : Hid ((hi : Int) = min (p.hi - (k : Int) * 256) 255) := by show _ = _; rw [hhi]; omega
      clear hlo hhi
      obtain ⟨m, HMK, hmb⟩ : ∃ m : Nat, Hid (like[k]? = some m) ∧ bl[m]? = some (blkF (upTo f p k) k) := HSY.out.2 k (by omega)
      obtain ⟨b, hbd⟩ : ∃ b, b = blkF (upTo f p k) k := ⟨_, rfl⟩
      rw [← hbd] at hmb
      obtain ⟨gb, rfl, hgb, hrgb⟩ := hrg m b hmb
      have hmlt : m < bl.length := (List.getElem?_eq_some_iff.1 hmb).1
      have hkk := hck k m HMK.out
      have hff := hfr k (by omega)
      have HCV : Hid (∀ w', Below wr.heap.size wr w' → w'.cell? ⟨gd, 4352, none⟩ = some (.slice (some ⟨gb, 0, none⟩) bl.length cap)) := fun w' hw' => (hw'.cell (p := ⟨gd, 4352, none⟩) hgdlt).trans hcv
      have HCK : Hid (∀ w', Below wr.heap.size wr w' → w'.cell? ⟨gd, k, none⟩ = some (.int .i64 (m : Int))) := fun w' hw' => (hw'.cell (p := ⟨gd, k, none⟩) hgdlt).trans hkk
      have HRG : Hid (∀ w', Below wr.heap.size wr w' → w'.rangeAt gb (m * 256) (i8 b)) := fun w' hw' j u hj => (hw'.cell (p := ⟨gb, m * 256 + j, none⟩) hgb).trans (hrgb j u hj)
      have HCP : Hid (∀ w', Below wr.heap.size wr w' → w'.cell? ⟨w.heap.size, 2, none⟩ = some (.int .u8 p.v)) := fun w' hw' => (hw'.cell (p := ⟨w.heap.size, 2, none⟩) hws).trans hx2
      have HBB : Hid (IsB b) := by
        obtain ⟨_, _, _, _, _, _, _, hbl, _⟩ := HD.out
        exact hbl b (List.mem_of_getElem? hmb)
      have HI : Hid ((Tryd.prog.info? 82).map (·.size) = some (i8 b).length) := by show _ = _; rw [i8_length, HBB.out.1]; exact Tryd.sizeBlock
      have HLH : Hid (hi < 256 ∧ lo ≤ hi + 1) := by have := HLO.out; have := HHI.out; have := HK0.out; have := HK9.out; show _ ∧ _; omega
      obtain ⟨b', hb'⟩ : ∃ b', b' = fillTo b lo ((hi : Int) + 1) p.v := ⟨_, rfl⟩
      have HBE : Hid (fillTo b lo ((hi : Int) + 1) p.v = b') := hb'.symm
      have HBB' : Hid (IsB b') := by show IsB b'; rw [hb']; exact isB_fill HBB.out hv
      have HBK : Hid (b' = blkF (upTo f p (k + 1)) k) := by show _ = _; rw [hb', hbd]; exact upTo_part HLO.out HHI.out
      have HNE : Hid (w.heap.size ≠ gd) := fun e => by
        obtain ⟨_, _, _, _, _, _, _, _, hg, _⟩ := HD.out
        have := HP.out
        rw [e, hg] at this
        simp at this
      have hk51 : (k : Int) < 4352 := by omega
      have hmi : (m : Int) < (bl.length : Int) := by omega
      clear hb' hbd hmb hrgb hrg hck hfr
      by_cases hw : lo = 0 ∧ hi = 255
      · obtain ⟨rfl, rfl⟩ := hw
        go_wp2_with (first | (refine wpList_max rfl _ _ _ rfl (p.lo - (k : Int) * 256) 0 ((0 : Nat) : Int) rfl rfl HMX.out ?_) | (refine wpList_min rfl _ _ _ rfl (p.hi - (k : Int) * 256) 255 ((255 : Nat) : Int) rfl rfl HMN.out ?_) | fail)
        go_roundw
        case rel =>
          have hk4 : k < 4352 := by omega
          refine ⟨k + 1, by omega, by omega, by go_num, like.set k wh, bl, HD.out.setLike hk4 wh, ?_, by omega, HWG.out, HB.out.setCell (show n ≤ gd from hng) _, ?_, by simp [World.setCell]; omega⟩
          · have := says_set (t := []) HSY.out hk4 (g := upTo f p (k + 1)) (m := wh) (by rw [List.append_nil, HWG.out, upTo_whole (by have := HLO.out; omega) (by have := HHI.out; omega)]) (fun i hi hne => upTo_other f p k i hne)
            rwa [List.append_nil] at this
          · rw [heap_setCell_other _ _ _ _ (show w.heap.size ≠ gd from HNE.out)]
            exact HP.out
        case measure => simp [intOf]; omega
      · by_cases q0 : lo = 0
        · have q1 : hi ≠ 255 := fun e => hw ⟨q0, e⟩
          have q2 : ¬ ((hi : Int) = 255) := by omega
          subst q0
          go_wp2_with (first | (refine wpList_max rfl _ _ _ rfl (p.lo - (k : Int) * 256) 0 ((0 : Nat) : Int) rfl rfl HMX.out ?_) | (refine wpList_min rfl _ _ _ rfl (p.hi - (k : Int) * 256) 255 (hi : Int) rfl rfl HMN.out ?_) | fail)
          refine wp_region_bad (fun w' => Below wr.heap.size wr w') [20, 24] (by kernel_rfl) ((Below.refl _ _).drew) (fun hS => ?_)
          have hCV := HCV.out
          have hCK := HCK.out
          have hRG := HRG.out
          have hCP := HCP.out
          refine wpAnyB_pure (i := 0) (v := .pointer (some ⟨gd, 0, none⟩)) rfl (by kernel_rfl) (fun _ _ _ h => h) (Or.inl ⟨by rfl, fun w _ => by go_simp⟩) hS ?_
          simp only [List.getElem_toArray, List.getElem_cons_zero, Act.put, List.setIfInBounds_toArray, List.set_cons_zero, List.set_cons_succ]
          refine wpAnyB_pure (i := 1) (v := .int .i64 (k : Int)) rfl (by kernel_rfl) (fun _ _ _ h => h) (Or.inl ⟨by rfl, fun w _ => by go_simp⟩) hS ?_
          simp only [List.getElem_toArray, List.getElem_cons_succ, List.getElem_cons_zero, Act.put, List.setIfInBounds_toArray, List.set_cons_zero, List.set_cons_succ]
          refine wpAnyB_pure (i := 2) (v := .pointer (some ⟨gd, 0, none⟩)) rfl (by kernel_rfl) (fun _ _ _ h => h) (Or.inl ⟨by rfl, fun w _ => by go_simp⟩) hS ?_
          simp only [List.getElem_toArray, List.getElem_cons_succ, List.getElem_cons_zero, Act.put, List.setIfInBounds_toArray, List.set_cons_zero, List.set_cons_succ]
          refine wpAnyB_pure (i := 3) (v := .pointer (some ⟨gd, 0, none⟩)) rfl (by kernel_rfl) (fun _ _ _ h => h) (Or.inl ⟨by rfl, fun w _ => by go_simp⟩) hS ?_
          simp only [List.getElem_toArray, List.getElem_cons_succ, List.getElem_cons_zero, Act.put, List.setIfInBounds_toArray, List.set_cons_zero, List.set_cons_succ]
          refine wpAnyB_pure (i := 4) (v := .pointer (some ⟨gd, 0, none⟩)) rfl (by kernel_rfl) (fun _ _ _ h => h) (Or.inl ⟨by rfl, fun w _ => by go_simp⟩) hS ?_
          simp only [List.getElem_toArray, List.getElem_cons_succ, List.getElem_cons_zero, Act.put, List.setIfInBounds_toArray, List.set_cons_zero, List.set_cons_succ]
          refine wpAnyB_pure (i := 5) (v := .pointer (some ⟨gd, 4352, none⟩)) rfl (by kernel_rfl) (fun _ _ _ h => h) (Or.inl ⟨by rfl, fun w _ => by go_simp⟩) hS ?_
          simp only [List.getElem_toArray, List.getElem_cons_succ, List.getElem_cons_zero, Act.put, List.setIfInBounds_toArray, List.set_cons_zero, List.set_cons_succ]
          refine wpAnyB_take [6, 13, 14, 19, 20, 24] (i := 6) (v := .slice (some ⟨gb, 0, none⟩) bl.length cap) rfl (by kernel_rfl) (fun _ _ _ h => h) (Or.inl ⟨by rfl, fun w hSw => by have := hCV w hSw; go_simp⟩) hS ?_
          simp only [List.getElem_toArray, List.getElem_cons_succ, List.getElem_cons_zero, Act.put, List.setIfInBounds_toArray, List.set_cons_zero, List.set_cons_succ]
          refine wpAnyB_pure (i := 7) (v := .pointer (some ⟨gd, 0, none⟩)) rfl (by kernel_rfl) (fun _ _ _ h => h) (Or.inl ⟨by rfl, fun w _ => by go_simp⟩) hS ?_
          simp only [List.getElem_toArray, List.getElem_cons_succ, List.getElem_cons_zero, Act.put, List.setIfInBounds_toArray, List.set_cons_zero, List.set_cons_succ]
          refine wpAnyB_pure (i := 8) (v := .int .i64 (k : Int)) rfl (by kernel_rfl) (fun _ _ _ h => h) (Or.inl ⟨by rfl, fun w _ => by go_simp⟩) hS ?_
          simp only [List.getElem_toArray, List.getElem_cons_succ, List.getElem_cons_zero, Act.put, List.setIfInBounds_toArray, List.set_cons_zero, List.set_cons_succ]
          refine wpAnyB_pure (i := 9) (v := .pointer (some ⟨gd, 0, none⟩)) rfl (by kernel_rfl) (fun _ _ _ h => h) (Or.inl ⟨by rfl, fun w _ => by go_simp⟩) hS ?_
          simp only [List.getElem_toArray, List.getElem_cons_succ, List.getElem_cons_zero, Act.put, List.setIfInBounds_toArray, List.set_cons_zero, List.set_cons_succ]
          refine wpAnyB_pure (i := 10) (v := .pointer (some ⟨gd, 0, none⟩)) rfl (by kernel_rfl) (fun _ _ _ h => h) (Or.inl ⟨by rfl, fun w _ => by go_simp⟩) hS ?_
          simp only [List.getElem_toArray, List.getElem_cons_succ, List.getElem_cons_zero, Act.put, List.setIfInBounds_toArray, List.set_cons_zero, List.set_cons_succ]
          refine wpAnyB_pure (i := 11) (v := .pointer (some ⟨gd, k, none⟩)) rfl (by kernel_rfl) (fun _ _ _ h => h) (Or.inl ⟨by rfl, fun w _ => by go_simp⟩) hS ?_
          simp only [List.getElem_toArray, List.getElem_cons_succ, List.getElem_cons_zero, Act.put, List.setIfInBounds_toArray, List.set_cons_zero, List.set_cons_succ]
          refine wpAnyB_take [12, 13, 14, 19, 20, 24] (i := 12) (v := .int .i64 (m : Int)) rfl (by kernel_rfl) (fun _ _ _ h => h) (Or.inl ⟨by rfl, fun w hSw => by have := hCK w hSw; go_simp⟩) hS ?_
          simp only [List.getElem_toArray, List.getElem_cons_succ, List.getElem_cons_zero, Act.put, List.setIfInBounds_toArray, List.set_cons_zero, List.set_cons_succ]
          refine wpAnyB_pure (i := 13) (v := .pointer (some ⟨gb, m * 256, none⟩)) rfl (by kernel_rfl) (fun _ _ _ h => h) (Or.inl ⟨by rfl, fun w _ => by go_simp⟩) hS ?_
          simp only [List.getElem_toArray, List.getElem_cons_succ, List.getElem_cons_zero, Act.put, List.setIfInBounds_toArray, List.set_cons_zero, List.set_cons_succ]
          refine wpAnyB_take [14, 19, 20, 24] (i := 14) (v := .agg (i8 b).toArray) rfl (by kernel_rfl) (fun _ _ _ h => h) (yieldsIf_load_mid (by rfl) 82 _ rfl gb (m * 256) rfl (i8 b) _ (fun w' hw' => hRG w' hw') Tryd.undB rfl HI.out) hS ?_
          simp only [List.getElem_toArray, List.getElem_cons_succ, List.getElem_cons_zero, Act.put, List.setIfInBounds_toArray, List.set_cons_zero, List.set_cons_succ]
          refine wpAnyB_pure (i := 15) (v := .int .i64 0) rfl (by kernel_rfl) (fun _ _ _ h => h) (Or.inl ⟨by rfl, fun w _ => by go_simp⟩) hS ?_
          simp only [List.getElem_toArray, List.getElem_cons_succ, List.getElem_cons_zero, Act.put, List.setIfInBounds_toArray, List.set_cons_zero, List.set_cons_succ]
          refine wpAnyB_pure (i := 16) (v := .int .i64 (hi : Int)) rfl (by kernel_rfl) (fun _ _ _ h => h) (Or.inl ⟨by rfl, fun w _ => by go_simp⟩) hS ?_
          simp only [List.getElem_toArray, List.getElem_cons_succ, List.getElem_cons_zero, Act.put, List.setIfInBounds_toArray, List.set_cons_zero, List.set_cons_succ]
          refine wpAnyB_pure (i := 17) (v := .pointer (some ⟨w.heap.size, 2, none⟩)) rfl (by kernel_rfl) (fun _ _ _ h => h) (Or.inl ⟨by rfl, fun w _ => by go_simp⟩) hS ?_
          simp only [List.getElem_toArray, List.getElem_cons_succ, List.getElem_cons_zero, Act.put, List.setIfInBounds_toArray, List.set_cons_zero, List.set_cons_succ]
          refine wpAnyB_take [18, 19, 20, 24] (i := 18) (v := .int .u8 p.v) rfl (by kernel_rfl) (fun _ _ _ h => h) (Or.inl ⟨by rfl, fun w hSw => by have := hCP w hSw; go_simp⟩) hS ?_
          simp only [List.getElem_toArray, List.getElem_cons_succ, List.getElem_cons_zero, Act.put, List.setIfInBounds_toArray, List.set_cons_zero, List.set_cons_succ]
          refine wpAnyB_pure (i := 21) (v := .pointer (some ⟨gd, 0, none⟩)) rfl (by kernel_rfl) (fun _ _ _ h => h) (Or.inl ⟨by rfl, fun w _ => by go_simp⟩) hS ?_
          simp only [List.getElem_toArray, List.getElem_cons_succ, List.getElem_cons_zero, Act.put, List.setIfInBounds_toArray, List.set_cons_zero, List.set_cons_succ]
          refine wpAnyB_pure (i := 22) (v := .pointer (some ⟨gd, 0, none⟩)) rfl (by kernel_rfl) (fun _ _ _ h => h) (Or.inl ⟨by rfl, fun w _ => by go_simp⟩) hS ?_
          simp only [List.getElem_toArray, List.getElem_cons_succ, List.getElem_cons_zero, Act.put, List.setIfInBounds_toArray, List.set_cons_zero, List.set_cons_succ]
          refine wpAnyB_one (i := 19) rfl (by kernel_rfl) (fun K hK => ?_)
          clear hCV hCK hRG hCP
          go_simp
          refine (filled_any b 0 hi p.v wr.drew HBB.out.1 HLH.out.1 HLH.out.2).mono ?_
          rintro e w3 ⟨rfl, hB3⟩
          have hB3' : Below wr.heap.size wr w3 := hS.trans hB3
          refine hK.out _ _ hB3' ?_
          clear hK K
          rw [HBE.out]
          refine wpAnyB_last (i := 20) rfl (by kernel_rfl) (fun K hK => ?_)
          go_simp
          refine (number_any n gd like bl b' w3 (HD.out.below hB3') HBB'.out (by omega) (by have := hB3'.size; omega)).mono ?_
          rintro e w4 ⟨rfl, hd4, hB4, hO4⟩
          refine hK.out _ _ ?_
          clear hK K
          have hs3 := hB3'.size
          have hs4 := hB4.size
          have hp4 : w4.heap[w.heap.size]? = some (.cells #[.int .i64 p.lo, .int .i64 p.hi, .int .u8 p.v] 51 (0, 0)) := by
            have e3 := (hB3'.block w.heap.size (by omega)).trans HP.out
            exact (hO4 _ _ _ _ e3 (by decide) (by decide)).trans e3
          obtain ⟨m', hm'⟩ : ∃ m' : Nat, m' = (addF bl b').idxOf b' := ⟨_, rfl⟩
          obtain ⟨bl4, hbl4⟩ : ∃ bl4, bl4 = addF bl b' := ⟨_, rfl⟩
          have hmg : bl4[m']? = some b' := by rw [hbl4, hm']; exact addF_get _ _
          obtain ⟨t4, ht4⟩ : ∃ t, bl4 = bl ++ t := by rw [hbl4]; exact addF_ahead _ _
          have hl4 : bl4.length ≤ bl.length + 1 := by rw [hbl4]; exact addF_len _ _
          rw [← hm']
          rw [← hbl4] at hd4
          obtain ⟨_, _, a4, cap4, _, hck4, hfr4, _⟩ := hd4.cells
          have hc4 : w4.cell? ⟨gd, k, none⟩ = some (.int .i64 (m : Int)) := hck4 k m HMK.out
          have hf4 : w4.frozen? ⟨gd, k, none⟩ = false := hfr4 k (by omega)
          have hBn4 : Below n w w4 := (HB.out.trans (hB3'.mono (by omega))).trans hB4
          obtain ⟨HD4, HP4, HB4, HT4, HMG⟩ : Hid (DrAt n w4 gd like bl4) ∧ Hid (w4.heap[w.heap.size]? = some (.cells #[.int .i64 p.lo, .int .i64 p.hi, .int .u8 p.v] 51 (0, 0))) ∧ Hid (Below n w w4) ∧ Hid (bl4 = bl ++ t4) ∧ Hid (bl4[m']? = some b') := ⟨hd4, hp4, hBn4, ht4, hmg⟩
          clear hm' hbl4 hmg ht4 hck4 hfr4 hd4 hp4 hBn4 hB3 hB3' hB4 hO4 hS
          refine wpAnyB_late (i := 23) (v := .pointer (some ⟨gd, k, none⟩)) rfl (by kernel_rfl) (fun _ _ _ h => h) (Or.inl ⟨by rfl, fun w _ => by go_simp⟩) ?_
          simp only [List.getElem_toArray, List.getElem_cons_succ, List.getElem_cons_zero, Act.put, List.setIfInBounds_toArray, List.set_cons_zero, List.set_cons_succ]
          refine wpAnyB_last (i := 24) rfl (by kernel_rfl) (fun K hK => ?_)
          rw [if_pos (by rfl)]
          go_wp2
          refine hK.out _ _ ?_
          clear hK K
          refine wpAnyB_done (by kernel_rfl) ?_ _
          refine NoPanic.normal ?_
          go_wp2
          go_roundw
          case rel =>
            have hk4 : k < 4352 := by omega
            refine ⟨k + 1, by omega, by omega, by go_num, like.set k m', bl4, HD4.out.setLike hk4 m', ?_, by omega, ?_, HB4.out.setCell (show n ≤ gd from hng) _, ?_, by simp [World.setCell]; omega⟩
            · rw [HT4.out]
              exact says_set HSY.out hk4 (by rw [← HT4.out, HMG.out, HBK.out]) (fun i hi hne => upTo_other f p k i hne)
            · rw [HT4.out, List.getElem?_append_left (List.getElem?_eq_some_iff.1 HWG.out).1]
              exact HWG.out
            · rw [heap_setCell_other _ _ _ _ (show w.heap.size ≠ gd from HNE.out)]
              exact HP4.out
          case measure => simp [intOf]; omega
        · have q3 : ¬ ((lo : Int) = 0) := by omega
          go_wp2_with (first | (refine wpList_max rfl _ _ _ rfl (p.lo - (k : Int) * 256) 0 (lo : Int) rfl rfl HMX.out ?_) | (refine wpList_min rfl _ _ _ rfl (p.hi - (k : Int) * 256) 255 (hi : Int) rfl rfl HMN.out ?_) | fail)
          refine wp_region_bad (fun w' => Below wr.heap.size wr w') [20, 24] (by kernel_rfl) ((Below.refl _ _).drew) (fun hS => ?_)
          have hCV := HCV.out
          have hCK := HCK.out
          have hRG := HRG.out
          have hCP := HCP.out
          refine wpAnyB_pure (i := 0) (v := .pointer (some ⟨gd, 0, none⟩)) rfl (by kernel_rfl) (fun _ _ _ h => h) (Or.inl ⟨by rfl, fun w _ => by go_simp⟩) hS ?_
          simp only [List.getElem_toArray, List.getElem_cons_zero, Act.put, List.setIfInBounds_toArray, List.set_cons_zero, List.set_cons_succ]
          refine wpAnyB_pure (i := 1) (v := .int .i64 (k : Int)) rfl (by kernel_rfl) (fun _ _ _ h => h) (Or.inl ⟨by rfl, fun w _ => by go_simp⟩) hS ?_
          simp only [List.getElem_toArray, List.getElem_cons_succ, List.getElem_cons_zero, Act.put, List.setIfInBounds_toArray, List.set_cons_zero, List.set_cons_succ]
          refine wpAnyB_pure (i := 2) (v := .pointer (some ⟨gd, 0, none⟩)) rfl (by kernel_rfl) (fun _ _ _ h => h) (Or.inl ⟨by rfl, fun w _ => by go_simp⟩) hS ?_
          simp only [List.getElem_toArray, List.getElem_cons_succ, List.getElem_cons_zero, Act.put, List.setIfInBounds_toArray, List.set_cons_zero, List.set_cons_succ]
          refine wpAnyB_pure (i := 3) (v := .pointer (some ⟨gd, 0, none⟩)) rfl (by kernel_rfl) (fun _ _ _ h => h) (Or.inl ⟨by rfl, fun w _ => by go_simp⟩) hS ?_
          simp only [List.getElem_toArray, List.getElem_cons_succ, List.getElem_cons_zero, Act.put, List.setIfInBounds_toArray, List.set_cons_zero, List.set_cons_succ]
          refine wpAnyB_pure (i := 4) (v := .pointer (some ⟨gd, 0, none⟩)) rfl (by kernel_rfl) (fun _ _ _ h => h) (Or.inl ⟨by rfl, fun w _ => by go_simp⟩) hS ?_
          simp only [List.getElem_toArray, List.getElem_cons_succ, List.getElem_cons_zero, Act.put, List.setIfInBounds_toArray, List.set_cons_zero, List.set_cons_succ]
          refine wpAnyB_pure (i := 5) (v := .pointer (some ⟨gd, 4352, none⟩)) rfl (by kernel_rfl) (fun _ _ _ h => h) (Or.inl ⟨by rfl, fun w _ => by go_simp⟩) hS ?_
          simp only [List.getElem_toArray, List.getElem_cons_succ, List.getElem_cons_zero, Act.put, List.setIfInBounds_toArray, List.set_cons_zero, List.set_cons_succ]
          refine wpAnyB_take [6, 13, 14, 19, 20, 24] (i := 6) (v := .slice (some ⟨gb, 0, none⟩) bl.length cap) rfl (by kernel_rfl) (fun _ _ _ h => h) (Or.inl ⟨by rfl, fun w hSw => by have := hCV w hSw; go_simp⟩) hS ?_
          simp only [List.getElem_toArray, List.getElem_cons_succ, List.getElem_cons_zero, Act.put, List.setIfInBounds_toArray, List.set_cons_zero, List.set_cons_succ]
          refine wpAnyB_pure (i := 7) (v := .pointer (some ⟨gd, 0, none⟩)) rfl (by kernel_rfl) (fun _ _ _ h => h) (Or.inl ⟨by rfl, fun w _ => by go_simp⟩) hS ?_
          simp only [List.getElem_toArray, List.getElem_cons_succ, List.getElem_cons_zero, Act.put, List.setIfInBounds_toArray, List.set_cons_zero, List.set_cons_succ]
          refine wpAnyB_pure (i := 8) (v := .int .i64 (k : Int)) rfl (by kernel_rfl) (fun _ _ _ h => h) (Or.inl ⟨by rfl, fun w _ => by go_simp⟩) hS ?_
          simp only [List.getElem_toArray, List.getElem_cons_succ, List.getElem_cons_zero, Act.put, List.setIfInBounds_toArray, List.set_cons_zero, List.set_cons_succ]
          refine wpAnyB_pure (i := 9) (v := .pointer (some ⟨gd, 0, none⟩)) rfl (by kernel_rfl) (fun _ _ _ h => h) (Or.inl ⟨by rfl, fun w _ => by go_simp⟩) hS ?_
          simp only [List.getElem_toArray, List.getElem_cons_succ, List.getElem_cons_zero, Act.put, List.setIfInBounds_toArray, List.set_cons_zero, List.set_cons_succ]
          refine wpAnyB_pure (i := 10) (v := .pointer (some ⟨gd, 0, none⟩)) rfl (by kernel_rfl) (fun _ _ _ h => h) (Or.inl ⟨by rfl, fun w _ => by go_simp⟩) hS ?_
          simp only [List.getElem_toArray, List.getElem_cons_succ, List.getElem_cons_zero, Act.put, List.setIfInBounds_toArray, List.set_cons_zero, List.set_cons_succ]
          refine wpAnyB_pure (i := 11) (v := .pointer (some ⟨gd, k, none⟩)) rfl (by kernel_rfl) (fun _ _ _ h => h) (Or.inl ⟨by rfl, fun w _ => by go_simp⟩) hS ?_
          simp only [List.getElem_toArray, List.getElem_cons_succ, List.getElem_cons_zero, Act.put, List.setIfInBounds_toArray, List.set_cons_zero, List.set_cons_succ]
          refine wpAnyB_take [12, 13, 14, 19, 20, 24] (i := 12) (v := .int .i64 (m : Int)) rfl (by kernel_rfl) (fun _ _ _ h => h) (Or.inl ⟨by rfl, fun w hSw => by have := hCK w hSw; go_simp⟩) hS ?_
          simp only [List.getElem_toArray, List.getElem_cons_succ, List.getElem_cons_zero, Act.put, List.setIfInBounds_toArray, List.set_cons_zero, List.set_cons_succ]
          refine wpAnyB_pure (i := 13) (v := .pointer (some ⟨gb, m * 256, none⟩)) rfl (by kernel_rfl) (fun _ _ _ h => h) (Or.inl ⟨by rfl, fun w _ => by go_simp⟩) hS ?_
          simp only [List.getElem_toArray, List.getElem_cons_succ, List.getElem_cons_zero, Act.put, List.setIfInBounds_toArray, List.set_cons_zero, List.set_cons_succ]
          refine wpAnyB_take [14, 19, 20, 24] (i := 14) (v := .agg (i8 b).toArray) rfl (by kernel_rfl) (fun _ _ _ h => h) (yieldsIf_load_mid (by rfl) 82 _ rfl gb (m * 256) rfl (i8 b) _ (fun w' hw' => hRG w' hw') Tryd.undB rfl HI.out) hS ?_
          simp only [List.getElem_toArray, List.getElem_cons_succ, List.getElem_cons_zero, Act.put, List.setIfInBounds_toArray, List.set_cons_zero, List.set_cons_succ]
          refine wpAnyB_pure (i := 15) (v := .int .i64 (lo : Int)) rfl (by kernel_rfl) (fun _ _ _ h => h) (Or.inl ⟨by rfl, fun w _ => by go_simp⟩) hS ?_
          simp only [List.getElem_toArray, List.getElem_cons_succ, List.getElem_cons_zero, Act.put, List.setIfInBounds_toArray, List.set_cons_zero, List.set_cons_succ]
          refine wpAnyB_pure (i := 16) (v := .int .i64 (hi : Int)) rfl (by kernel_rfl) (fun _ _ _ h => h) (Or.inl ⟨by rfl, fun w _ => by go_simp⟩) hS ?_
          simp only [List.getElem_toArray, List.getElem_cons_succ, List.getElem_cons_zero, Act.put, List.setIfInBounds_toArray, List.set_cons_zero, List.set_cons_succ]
          refine wpAnyB_pure (i := 17) (v := .pointer (some ⟨w.heap.size, 2, none⟩)) rfl (by kernel_rfl) (fun _ _ _ h => h) (Or.inl ⟨by rfl, fun w _ => by go_simp⟩) hS ?_
          simp only [List.getElem_toArray, List.getElem_cons_succ, List.getElem_cons_zero, Act.put, List.setIfInBounds_toArray, List.set_cons_zero, List.set_cons_succ]
          refine wpAnyB_take [18, 19, 20, 24] (i := 18) (v := .int .u8 p.v) rfl (by kernel_rfl) (fun _ _ _ h => h) (Or.inl ⟨by rfl, fun w hSw => by have := hCP w hSw; go_simp⟩) hS ?_
          simp only [List.getElem_toArray, List.getElem_cons_succ, List.getElem_cons_zero, Act.put, List.setIfInBounds_toArray, List.set_cons_zero, List.set_cons_succ]
          refine wpAnyB_pure (i := 21) (v := .pointer (some ⟨gd, 0, none⟩)) rfl (by kernel_rfl) (fun _ _ _ h => h) (Or.inl ⟨by rfl, fun w _ => by go_simp⟩) hS ?_
          simp only [List.getElem_toArray, List.getElem_cons_succ, List.getElem_cons_zero, Act.put, List.setIfInBounds_toArray, List.set_cons_zero, List.set_cons_succ]
          refine wpAnyB_pure (i := 22) (v := .pointer (some ⟨gd, 0, none⟩)) rfl (by kernel_rfl) (fun _ _ _ h => h) (Or.inl ⟨by rfl, fun w _ => by go_simp⟩) hS ?_
          simp only [List.getElem_toArray, List.getElem_cons_succ, List.getElem_cons_zero, Act.put, List.setIfInBounds_toArray, List.set_cons_zero, List.set_cons_succ]
          refine wpAnyB_one (i := 19) rfl (by kernel_rfl) (fun K hK => ?_)
          clear hCV hCK hRG hCP
          go_simp
          refine (filled_any b lo hi p.v wr.drew HBB.out.1 HLH.out.1 HLH.out.2).mono ?_
          rintro e w3 ⟨rfl, hB3⟩
          have hB3' : Below wr.heap.size wr w3 := hS.trans hB3
          refine hK.out _ _ hB3' ?_
          clear hK K
          rw [HBE.out]
          refine wpAnyB_last (i := 20) rfl (by kernel_rfl) (fun K hK => ?_)
          go_simp
          refine (number_any n gd like bl b' w3 (HD.out.below hB3') HBB'.out (by omega) (by have := hB3'.size; omega)).mono ?_
          rintro e w4 ⟨rfl, hd4, hB4, hO4⟩
          refine hK.out _ _ ?_
          clear hK K
          have hs3 := hB3'.size
          have hs4 := hB4.size
          have hp4 : w4.heap[w.heap.size]? = some (.cells #[.int .i64 p.lo, .int .i64 p.hi, .int .u8 p.v] 51 (0, 0)) := by
            have e3 := (hB3'.block w.heap.size (by omega)).trans HP.out
            exact (hO4 _ _ _ _ e3 (by decide) (by decide)).trans e3
          obtain ⟨m', hm'⟩ : ∃ m' : Nat, m' = (addF bl b').idxOf b' := ⟨_, rfl⟩
          obtain ⟨bl4, hbl4⟩ : ∃ bl4, bl4 = addF bl b' := ⟨_, rfl⟩
          have hmg : bl4[m']? = some b' := by rw [hbl4, hm']; exact addF_get _ _
          obtain ⟨t4, ht4⟩ : ∃ t, bl4 = bl ++ t := by rw [hbl4]; exact addF_ahead _ _
          have hl4 : bl4.length ≤ bl.length + 1 := by rw [hbl4]; exact addF_len _ _
          rw [← hm']
          rw [← hbl4] at hd4
          obtain ⟨_, _, a4, cap4, _, hck4, hfr4, _⟩ := hd4.cells
          have hc4 : w4.cell? ⟨gd, k, none⟩ = some (.int .i64 (m : Int)) := hck4 k m HMK.out
          have hf4 : w4.frozen? ⟨gd, k, none⟩ = false := hfr4 k (by omega)
          have hBn4 : Below n w w4 := (HB.out.trans (hB3'.mono (by omega))).trans hB4
          obtain ⟨HD4, HP4, HB4, HT4, HMG⟩ : Hid (DrAt n w4 gd like bl4) ∧ Hid (w4.heap[w.heap.size]? = some (.cells #[.int .i64 p.lo, .int .i64 p.hi, .int .u8 p.v] 51 (0, 0))) ∧ Hid (Below n w w4) ∧ Hid (bl4 = bl ++ t4) ∧ Hid (bl4[m']? = some b') := ⟨hd4, hp4, hBn4, ht4, hmg⟩
          clear hm' hbl4 hmg ht4 hck4 hfr4 hd4 hp4 hBn4 hB3 hB3' hB4 hO4 hS
          refine wpAnyB_late (i := 23) (v := .pointer (some ⟨gd, k, none⟩)) rfl (by kernel_rfl) (fun _ _ _ h => h) (Or.inl ⟨by rfl, fun w _ => by go_simp⟩) ?_
          simp only [List.getElem_toArray, List.getElem_cons_succ, List.getElem_cons_zero, Act.put, List.setIfInBounds_toArray, List.set_cons_zero, List.set_cons_succ]
          refine wpAnyB_last (i := 24) rfl (by kernel_rfl) (fun K hK => ?_)
          rw [if_pos (by rfl)]
          go_wp2
          refine hK.out _ _ ?_
          clear hK K
          refine wpAnyB_done (by kernel_rfl) ?_ _
          refine NoPanic.normal ?_
          go_wp2
          go_roundw
          case rel =>
            have hk4 : k < 4352 := by omega
            refine ⟨k + 1, by omega, by omega, by go_num, like.set k m', bl4, HD4.out.setLike hk4 m', ?_, by omega, ?_, HB4.out.setCell (show n ≤ gd from hng) _, ?_, by simp [World.setCell]; omega⟩
            · rw [HT4.out]
              exact says_set HSY.out hk4 (by rw [← HT4.out, HMG.out, HBK.out]) (fun i hi hne => upTo_other f p k i hne)
            · rw [HT4.out, List.getElem?_append_left (List.getElem?_eq_some_iff.1 HWG.out).1]
              exact HWG.out
            · rw [heap_setCell_other _ _ _ _ (show w.heap.size ≠ gd from HNE.out)]
              exact HP4.out
          case measure => simp [intOf]; omega
    · have hlt' : ¬ ((k : Int) ≤ (k9 : Int)) := by omega
      obtain rfl : k = k9 + 1 := by omega
      go_wp2
      refine bodyPost_end (results_none rfl _ _ _) rfl ?_
      exact ⟨rfl, like, bl, HD.out, says_congr HSY.out (fun i hi => (upTo_end (by have := HK9.out; omega) i).symm), by omega, HB.out⟩
end Go.Proofs.YtpknmpgbaccffaaDoor

namespace Go.Proofs.YtpknmpgbaccffaaDoor
open Go.RowKit
set_option linter.unusedVariables false

/-- The cells of a trie. -/
def trCells (like : List Int) (v : Value) : List Value := i8 like ++ [v]
theorem trCells_at {like : List Int} {v : Value} (hl : like.length = 4352) : (trCells like v)[4352]? = some v := by
  unfold trCells
  rw [List.getElem?_append_right (by rw [i8_length]; omega), i8_length, hl]
  rfl
theorem trCells_like {like : List Int} {v : Value} {i : Nat} (hl : i < like.length) : (trCells like v)[i]? = some (.int .u8 like[i]) := by
  unfold trCells
  rw [List.getElem?_append_left (by rw [i8_length]; exact hl), i8_get hl]
theorem trCells_set {like : List Int} {v v' : Value} (hl : like.length = 4352) : (trCells like v).set 4352 v' = trCells like v' := by
  unfold trCells
  rw [List.set_append_right _ _ (by rw [i8_length]; omega), i8_length, hl]
  rfl
theorem trCells_setLike {like : List Int} {v : Value} {i : Nat} {k : Int} (hl : i < like.length) : (trCells like v).set i (.int .u8 k) = trCells (like.set i k) v := by
  unfold trCells
  rw [List.set_append_left _ _ (by rw [i8_length]; exact hl), i8_set]

/-- A trie in memory, all its blocks below n. -/
def TrieAt (n : Nat) (w : World) (pv : Value) (like : List Int) (F : List (List Int)) : Prop :=
  ∃ g gb cap, pv = .pointer (some ⟨g, 0, none⟩) ∧ g < n ∧ gb < n ∧ w.heap[g]? = some (.cells (trCells like (.slice (some ⟨gb, 0, none⟩) F.length cap)).toArray 80 (0, 0)) ∧ w.rangeAt gb 0 (cellsBl F) ∧ F.length ≤ cap
structure Fine (like : List Int) (F : List (List Int)) : Prop where
  len : like.length = 4352
  lt : ∀ x ∈ like, 0 ≤ x ∧ x < F.length
  isB : ∀ b ∈ F, IsB b
  pos : 1 ≤ F.length
  le : F.length ≤ 256
theorem TrieAt.below {n : Nat} {w w' : World} {pv : Value} {like : List Int} {F : List (List Int)} (h : TrieAt n w pv like F) (hb : Below n w w') : TrieAt n w' pv like F := by
  obtain ⟨g, gb, cap, h1, h2, h3, h4, h5, h6⟩ := h
  exact ⟨g, gb, cap, h1, h2, h3, (hb.block g h2).trans h4, fun j u hj => (hb.cell (p := ⟨gb, 0 + j, none⟩) h3).trans (h5 j u hj), h6⟩
theorem TrieAt.mono {n m : Nat} {w : World} {pv : Value} {like : List Int} {F : List (List Int)} (h : TrieAt n w pv like F) (hm : n ≤ m) : TrieAt m w pv like F := by
  obtain ⟨g, gb, cap, h1, h2, h3, h4, h5, h6⟩ := h
  exact ⟨g, gb, cap, h1, by omega, by omega, h4, h5, h6⟩

theorem nodup_inj {l : List (List Int)} (h : l.Nodup) {i j : Nat} (hi : i < l.length) (hj : j < l.length) (e : l[i] = l[j]) : i = j := by
  have hp := List.pairwise_iff_getElem.1 h
  rcases Nat.lt_trichotomy i j with q | q | q
  · exact absurd e (hp i j hi hj q)
  · exact q
  · exact absurd e.symm (hp j i hj hi q)
/-- Where the draft's blocks stand among the first ones. -/
def Placed (D : DataW Unit) (bl F : List (List Int)) : Prop :=
  ∀ (m : Nat) (b : List Int), bl[m]? = some b → (Maps.has D (.int .i64 (m : Int)) = true ↔ b ∈ F) ∧ (b ∈ F → D.atKey (.int .i64 (m : Int)) (.lit (.int .i64 0)) = .lit (.int .i64 (F.idxOf b : Nat)))
theorem placed_put {D : DataW Unit} {bl F : List (List Int)} {m : Nat} {b : List Int} (hD : Maps.IsMap D) (h : Placed D bl F) (hn : bl.Nodup) (hm : bl[m]? = some b) (hb : ¬ b ∈ F) : Placed (D.put (.int .i64 (m : Int)) (.lit (.int .i64 (F.length : Nat)))) bl (F ++ [b]) := by
  intro x c hx
  by_cases e : x = m
  · subst e
    obtain rfl : b = c := by rw [hm] at hx; simpa using hx
    refine ⟨by simp [Maps.has_put_same hD (show WideAt.IsKeyLit (.int .i64 (x : Int)) from trivial)], fun _ => ?_⟩
    rw [Maps.atKey_put_same hD (show WideAt.IsKeyLit (.int .i64 (x : Int)) from trivial), List.idxOf_append, if_neg hb]
    simp
  · have hne : (Lit.int .i64 (x : Int)) ≠ .int .i64 (m : Int) := fun q => by
      have : (x : Int) = (m : Int) := by simpa using q
      exact e (by omega)
    have hcb : c ≠ b := fun q => by
      rw [q] at hx
      obtain ⟨hx1, hx2⟩ := List.getElem?_eq_some_iff.1 hx
      obtain ⟨hm1, hm2⟩ := List.getElem?_eq_some_iff.1 hm
      exact e (nodup_inj hn hx1 hm1 (hx2.trans hm2.symm))
    have hmem : c ∈ F ++ [b] ↔ c ∈ F := by simp [hcb]
    rw [hmem, Maps.has_put_other hne, Maps.atKey_put_other hne]
    refine ⟨(h x c hx).1, fun hc => ?_⟩
    rw [(h x c hx).2 hc, List.idxOf_append, if_pos hc]

/-- Which first blocks the blocks up to i are like; 0 for the others. -/
def likeTo (bs : List (List Int)) (i : Nat) : List Int := ((likeOf bs).take i).map (fun k : Nat => (k : Int)) ++ List.replicate (bs.length - i) 0
theorem likeTo_length {bs : List (List Int)} {i : Nat} (h : i ≤ bs.length) : (likeTo bs i).length = bs.length := by
  unfold likeTo
  rw [List.length_append, List.length_map, List.length_take, like_length, List.length_replicate]
  omega
theorem likeTo_end (bs : List (List Int)) : likeTo bs bs.length = (likeOf bs).map (fun k : Nat => (k : Int)) := by
  unfold likeTo
  rw [List.take_of_length_le (by rw [like_length]; omega), Nat.sub_self, List.replicate_zero, List.append_nil]
theorem likeTo_step {bs : List (List Int)} {i : Nat} (h : i < bs.length) : (likeTo bs i).set i (((likeOf bs)[i]'(by rw [like_length]; exact h) : Nat) : Int) = likeTo bs (i + 1) := by
  have hl : i < (likeOf bs).length := by rw [like_length]; exact h
  unfold likeTo
  have e1 : ((likeOf bs).take i).length = i := by rw [List.length_take]; omega
  have e2 : bs.length - i = (bs.length - (i + 1)) + 1 := by omega
  rw [List.set_append_right _ _ (by rw [List.length_map, e1]; omega), List.length_map, e1, Nat.sub_self, e2, List.replicate_succ, List.set_cons_zero, List.take_succ_eq_append_getElem hl, List.map_append, List.append_assoc]
  rfl
theorem beq_same : (List.instBEq : BEq (List Int)) = instBEqOfDecidableEq := by
  have h : ∀ a b : List Int, @BEq.beq _ List.instBEq a b = decide (a = b) := fun a b => by
    by_cases e : a = b <;> simp [e]
  exact congrArg BEq.mk (funext fun a => funext fun b => h a b)
theorem idx_same (b : List Int) (l : List (List Int)) : @List.idxOf _ List.instBEq b l = @List.idxOf _ instBEqOfDecidableEq b l := by rw [beq_same]
/-- The first blocks, one block further. -/
theorem firsts_step {bs : List (List Int)} {i : Nat} (h : i < bs.length) : firstsOf (bs.take (i + 1)) = addF (firstsOf (bs.take i)) bs[i] ∧ (likeOf bs)[i]'(by rw [like_length]; exact h) = (firstsOf (bs.take (i + 1))).idxOf bs[i] := by
  have e : bs.take (i + 1) = bs.take i ++ [bs[i]] := List.take_succ_eq_append_getElem h
  constructor
  · rw [e, firsts_snoc]
    unfold addF
    by_cases q : bs[i] ∈ bs.take i
    · rw [if_pos q, if_pos (firsts_mem.2 q)]
    · rw [if_neg q, if_neg (fun z => q (firsts_mem.1 z))]
  · have hm : bs[i] ∈ bs.take (i + 1) := by
      rw [e]
      exact List.mem_append.2 (.inr (List.mem_singleton.2 rfl))
    have h2 := idx_firsts (cs := bs.drop (i + 1)) hm
    rw [List.take_append_drop] at h2
    rw [idx_same]
    exact (like_unique (F := firstsOf bs) rfl i h).trans h2
theorem firsts_take_le (bs : List (List Int)) (i : Nat) : (firstsOf (bs.take i)).length ≤ (firstsOf bs).length := by
  have := firsts_mono (bs.take i) (bs.drop i)
  rwa [List.take_append_drop] at this
end Go.Proofs.YtpknmpgbaccffaaDoor

namespace Go.Proofs.YtpknmpgbaccffaaDoor
open Go.RowKit
set_option linter.unusedVariables false

def intsN (l : List Nat) : List Value := l.map (fun k : Nat => Value.int .i64 (k : Int))
theorem intsN_length (l : List Nat) : (intsN l).length = l.length := by simp [intsN]
theorem Tryd.zeroTrie (w : World) : (zeroValue 80).run Tryd.prog w = .ok (.agg (List.replicate 4352 (Value.int .u8 0) ++ [Value.slice none 0 0]).toArray) w := by
  refine (zero_of_info (n := 4353) ?_).1 w
  have := Tryd.infoTrie
  revert this
  cases Tryd.prog.info? 80 with
  | none => intro h; cases h
  | some i => intro h; simp only [Option.map_some, Option.some.injEq, Prod.mk.injEq] at h ⊢; exact ⟨h.1, h.2.1⟩
theorem likeTo_zero (bs : List (List Int)) (h : bs.length = 4352) : (List.replicate 4352 (Value.int .u8 0) ++ [Value.slice none 0 0]) = trCells (likeTo bs 0) (.slice none 0 0) := by
  unfold trCells likeTo i8
  rw [List.take_zero, List.map_nil, List.nil_append, h, Nat.sub_zero, List.map_replicate]
theorem blocks_get (f : Int → Int) {i : Nat} (h : i < (blocksF f).length) : (blocksF f)[i] = blkF f i := by simp [blocksF]
theorem Tryd.undLI : Tryd.prog.underlying 91 = some (.array 4352 3) := by kernel_rfl

set_option maxRecDepth 100000 in
set_option maxHeartbeats 8000000 in
theorem finish_any (n gd : Nat) (likeD : List Nat) (bl : List (List Int)) (f : Int → Int) (w : World) (h : DrAt n w gd likeD bl) (hs : Says f likeD bl) (hlen : bl.length < 1000000000) :
    Calls Tryd.prog 39 #[.pointer (some ⟨gd, 0, none⟩)] w fun e w' => ((∃ pv, e = .returned (.tuple #[pv, .int .i64 0]) ∧ (firstsOf (blocksF f)).length ≤ 256 ∧ TrieAt w'.heap.size w' pv ((likeOf (blocksF f)).map (fun k : Nat => (k : Int))) (firstsOf (blocksF f))) ∨ (e = .returned (.tuple #[.pointer none, .int .i64 3]) ∧ 256 < (firstsOf (blocksF f)).length)) ∧ Below w.heap.size w w' := by
  obtain ⟨iB, hiB, hzB0, hzB1, hzB2⟩ := info_parts Tryd.infoBlock
  have hmm := @run_makeMap Tryd.prog
  have hzt := Tryd.zeroTrie
  obtain ⟨bs, hbs⟩ : ∃ bs, bs = blocksF f := ⟨_, rfl⟩
  have hbl : bs.length = 4352 := by rw [hbs, blocksF_length]
  have HGET : Hid (∀ i, (h : i < bs.length) → bs[i] = blkF f i) := by rw [hbs]; exact fun i h => blocks_get f h
  rw [← hbs]
  clear hbs
  obtain ⟨zt, hzT⟩ : ∃ zt, zt = (List.replicate 4352 (Value.int .u8 0) ++ [Value.slice none 0 0]).toArray := ⟨_, rfl⟩
  rw [← hzT] at hzt
  have HZT : Hid (zt = (trCells (likeTo bs 0) (.slice none 0 0)).toArray) := by show _ = _; rw [hzT, likeTo_zero bs hbl]
  clear hzT
  have hDr := h
  obtain ⟨hng, hgdlt, ad, capd, hcd, hck, hfr, hrg⟩ := h.cells
  have HND : Hid (bl.Nodup ∧ ∀ b ∈ bl, IsB b) := by obtain ⟨_, _, _, _, _, _, q1, q2, _⟩ := hDr; exact ⟨q1, q2⟩
  have hld := hs.1
  have hR0 : w.rangeAt gd 0 (intsN likeD) := fun j u hj => by
    obtain ⟨hlt, e⟩ := List.getElem?_eq_some_iff.1 hj
    have hlt' : j < likeD.length := by rw [intsN_length] at hlt; exact hlt
    have h2 := hck j likeD[j] (List.getElem?_eq_getElem hlt')
    rw [Nat.zero_add, h2, ← e]
    simp [intsN]
  have HI4 : Hid ((Tryd.prog.info? 91).map (·.size) = some (intsN likeD).length) := by show _ = _; rw [intsN_length, hld]; exact Tryd.sizeLikeI
  obtain ⟨g, hg⟩ : ∃ g, g = w.heap.size := ⟨_, rfl⟩
  obtain ⟨w0, hw0⟩ : ∃ w0, w0 = (w.alloc (.cells zt 80)).alloc (.map #[] 0) := ⟨_, rfl⟩
  have hB0 : Below w.heap.size w w0 := by rw [hw0]; exact ((Below.refl _ _).alloc (Nat.le_refl _) _).alloc (by simp) _
  have hg0 : w0.heap[g]? = some (.cells (trCells (likeTo bs 0) (.slice none 0 0)).toArray 80 (0, 0)) := by rw [hw0, hg, HZT.out]; exact heap_alloc2_old w _ _
  have hm0 : w0.ownsMap Tryd.prog 3 (plainElem (H := Unit) Tryd.prog 3) (g + 1) 0 (.map []) := by
    have := World.ownsMap_made (H := Unit) (w.alloc (.cells zt 80)) Tryd.prog 3 (plainElem Tryd.prog 3)
    rw [hw0, hg]
    simpa using this
  have hs0 : w0.heap.size = g + 2 := by rw [hw0, hg]; simp
  have hR1 : w0.rangeAt gd 0 (intsN likeD) := fun j u hj => (hB0.cell (p := ⟨gd, 0 + j, none⟩) hgdlt).trans (hR0 j u hj)
  have hLI : ∀ i, i < 4352 → ∃ m b, (intsN likeD).toArray[i]? = some (.int .i64 ((m : Nat) : Int)) ∧ bl[m]? = some b ∧ b = blkF f i := fun i hi => by
    obtain ⟨m, q1, q2⟩ := hs.2 i hi
    refine ⟨m, _, ?_, q2, rfl⟩
    rw [List.getElem?_toArray]
    unfold intsN
    rw [List.getElem?_map, q1]
    rfl
  obtain ⟨LI, hLId⟩ : ∃ LI, LI = (intsN likeD).toArray := ⟨_, rfl⟩
  rw [← hLId] at hLI
  have HLId : Hid (LI = (intsN likeD).toArray) := hLId
  obtain ⟨HW0, HB0, HG0, HM0, HLI, HCD, HRG, HR1, HGE⟩ : Hid (w0 = (w.alloc (.cells zt 80)).alloc (.map #[] 0)) ∧ Hid (Below w.heap.size w w0) ∧ Hid (w0.heap[g]? = some (.cells (trCells (likeTo bs 0) (.slice none 0 0)).toArray 80 (0, 0))) ∧ Hid (w0.ownsMap Tryd.prog 3 (plainElem (H := Unit) Tryd.prog 3) (g + 1) 0 (.map [])) ∧ Hid (∀ i, i < 4352 → ∃ m b, LI[i]? = some (.int .i64 ((m : Nat) : Int)) ∧ bl[m]? = some b ∧ b = blkF f i) ∧ Hid (w.cell? ⟨gd, 4352, none⟩ = some (.slice ad bl.length capd)) ∧ Hid (∀ (k : Nat) (b : List Int), bl[k]? = some b → ∃ g, ad = some ⟨g, 0, none⟩ ∧ g < w.heap.size ∧ w.rangeAt g (k * 256) (i8 b)) ∧ Hid (w0.rangeAt gd 0 (intsN likeD)) ∧ Hid (g = w.heap.size) := ⟨hw0, hB0, hg0, hm0, hLI, hcd, hrg, hR1, hg⟩
  have hgw : w.heap.size = g := hg.symm
  have hLsz : LI.size = 4352 := by rw [hLId, List.size_toArray, intsN_length, hld]
  clear hw0 hB0 hg0 hm0 hLI hcd hrg hR1 hR0 hg hck hfr hDr h hs hLId
  go_enter Tryd.func39, Tryd.ntmps39
  go_wp2_with (first | (refine wpList_load_mid rfl 91 _ rfl gd 0 rfl (intsN likeD) _ (by first | exact HR1.out | (rw [← HW0.out]; exact HR1.out) | (rw [HW0.out] at HR1; exact HR1.out)) Tryd.undLI rfl HI4.out ?_) | fail)
  rw [← HLId.out, ← HW0.out]
  go_loopw [17] (fun x wr => ∃ i : Nat, i ≤ 4352 ∧ x = .int .i64 i ∧ ∃ v D, wr.heap[g]? = some (.cells (trCells (likeTo bs i) v).toArray 80 (0, 0)) ∧ wr.ownsRow g 82 256 v (firstsOf (bs.take i)).length (cellsBl (firstsOf (bs.take i))) ∧ wr.ownsMap Tryd.prog 3 (plainElem (H := Unit) Tryd.prog 3) (g + 1) (firstsOf (bs.take i)).length D ∧ Placed D bl (firstsOf (bs.take i)) ∧ (firstsOf (bs.take i)).length ≤ 256 ∧ Below w.heap.size w wr ∧ g + 2 ≤ wr.heap.size) (fun x _ => 4352 - (intOf x).toNat)
  case atStart =>
    refine ⟨0, by omega, rfl, .slice none 0 0, .map [], HG0.out, World.ownsRow_nil _ _ _ _, HM0.out, fun m b hm => ⟨by simp [Maps.has, firstsOf, firstsF], fun q => by simp [firstsOf, firstsF] at q⟩, by simp [firstsOf, firstsF], HB0.out, by omega⟩
  case round =>
    obtain ⟨i, hi, rfl, v, D, htr, hrow, hmp, hpl, hF, hB, hws⟩ := hrel
    clear HM0 HG0 HB0
    obtain ⟨F, hFd⟩ : ∃ F, F = firstsOf (bs.take i) := ⟨_, rfl⟩
    rw [← hFd] at hrow hmp hpl hF
    obtain ⟨a, cap, rfl⟩ := slice_of_row hrow
    obtain ⟨HTR, HROW, HMP, HPL, HB, HFD⟩ : Hid (wr.heap[g]? = some (.cells (trCells (likeTo bs i) (.slice a F.length cap)).toArray 80 (0, 0))) ∧ Hid (wr.ownsRow g 82 256 (.slice a F.length cap) F.length (cellsBl F)) ∧ Hid (wr.ownsMap Tryd.prog 3 (plainElem (H := Unit) Tryd.prog 3) (g + 1) F.length D) ∧ Hid (Placed D bl F) ∧ Hid (Below w.heap.size w wr) ∧ Hid (F = firstsOf (bs.take i)) := ⟨htr, hrow, hmp, hpl, hB, hFd⟩
    clear htr hrow hmp hpl hB hFd
    by_cases hlt : i < 4352
    · have hlt' : (i : Int) < 4352 := by omega
      obtain ⟨m, b, hL, hmb, hbe⟩ := HLI.out i hlt
      obtain ⟨gb, had, hgb, hrgb⟩ := HRG.out m b hmb
      have hmlt : m < bl.length := (List.getElem?_eq_some_iff.1 hmb).1
      have hbB : IsB b := HND.out.2 b (List.mem_of_getElem? hmb)
      have HBG : Hid (bs[i] = b) := by show _ = _; rw [HGET.out i (by omega), hbe]
      obtain ⟨hst1, hst2⟩ := firsts_step (bs := bs) (i := i) (by omega)
      have HST1 : Hid (firstsOf (bs.take (i + 1)) = addF F b) := by show _ = _; rw [hst1, HBG.out, HFD.out]
      have HST2 : Hid (((likeOf bs)[i]'(by rw [like_length]; omega) : Nat) = (addF F b).idxOf b) := by
        show _ = _
        rw [hst2, HBG.out, HST1.out]
      have HLS : Hid ((likeTo bs i).set i (((addF F b).idxOf b : Nat) : Int) = likeTo bs (i + 1)) := by
        show _ = _
        rw [← HST2.out]
        exact likeTo_step (by omega)
      have hll : (likeTo bs i).length = 4352 := by rw [likeTo_length (by omega), hbl]
      obtain ⟨x8, hcl⟩ : ∃ x8, wr.cell? ⟨g, i, none⟩ = some x8 := ⟨_, cell_row HTR.out (trCells_like (by omega))⟩
      have hfl : wr.frozen? ⟨g, i, none⟩ = false := frozen_of_row _ _ _ _ _ HTR.out
      have HP := HPL.out m b hmb
      have hIX : ∀ w', (Instr.index 91 (.agg LI) (.int .i64 (i : Int))).run Tryd.prog w' = .ok (.int .i64 (m : Int)) w' := fun w' => run_index_at Tryd.undLI Tryd.undI Tryd.sizeInt hlt hL rfl w'
      clear hL
      obtain ⟨HMB, HRGB, HLL, HAD⟩ : Hid (bl[m]? = some b) ∧ Hid (w.rangeAt gb (m * 256) (i8 b)) ∧ Hid ((likeTo bs i).length = 4352) ∧ Hid (ad = some ⟨gb, 0, none⟩) := ⟨hmb, hrgb, hll, had⟩
      by_cases q : b ∈ F
      · have hh : Maps.has D (.int .i64 (m : Int)) = true := HP.1.2 q
        have hat0 := HP.2 q
        have HQ : Hid (addF F b = F) := addF_of_mem q
        have hix : F.idxOf b < 256 := Nat.lt_of_lt_of_le (List.idxOf_lt_length_of_mem q) hF
        obtain ⟨ix, hixd⟩ : ∃ ix : Nat, ix = F.idxOf b := ⟨_, rfl⟩
        have HIX : Hid (ix = F.idxOf b) := hixd
        rw [← hixd] at hat0 hix
        have HAT : Hid (D.atKey (.int .i64 (m : Int)) (.lit (.int .i64 0)) = .lit (.int .i64 (ix : Nat))) := hat0
        clear hst1 hst2 hmb hbe hrgb hll HP hat0 had q hixd
        have hix2 : (ix : Int) < 256 := by omega
        go_wp2_with (first | (refine wpList_lookup_own_ok_int _ rfl _ _ 96 rfl 3 3 .i64 Tryd.keyLawI Tryd.undMI Tryd.undI (Tryd.zeroInt _) (g + 1) F.length D rfl HMP.out _ (.int .i64 (m : Int)) rfl (Maps.keyOf_int_mk Tryd.undI (WalkArith.wf_i64 (by omega))) ?_; intro c hat hwc; obtain rfl : (ix : Int) = c := (by rw [HAT.out] at hat; simpa using hat); clear hat hwc) | fail)
        go_roundw
        case rel =>
          refine ⟨i + 1, by omega, by go_num, .slice a F.length cap, D, ?_, ?_, ?_, ?_, ?_, HB.out.setCell (show w.heap.size ≤ g by omega) _, by simp [World.setCell]; omega⟩
          · refine heap_set_row HTR.out ?_
            rw [trCells_setLike (by have := HLL.out; omega), ← HLS.out, HQ.out, HIX.out]
          · rw [HST1.out, HQ.out]
            have e2 := own_ne HROW.out HTR.out (by decide)
            have hsc : wr.grownBy (wr.setCell ⟨g, i, none⟩ (.int .u8 (ix : Int))) (some g) := ⟨rfl, rfl, rfl, by simp [World.setCell], fun k hk hne => heap_setCell_other _ _ _ _ (fun e => hne (by rw [e]))⟩
            exact HROW.out.kept hsc (.inr e2)
          · rw [HST1.out, HQ.out]
            exact HMP.out.setCell (by show g + 1 ≠ g; omega) _
          · rw [HST1.out, HQ.out]; exact HPL.out
          · rw [HST1.out, HQ.out]; exact hF
        case measure => simp [intOf]; omega
      · have hh : Maps.has D (.int .i64 (m : Int)) = false := by
          cases z : Maps.has D (.int .i64 (m : Int)) with
          | false => rfl
          | true => exact absurd (HP.1.1 z) q
        have HQ : Hid (¬ b ∈ F) := q
        have hcf : wr.cell? ⟨g, 4352, none⟩ = some (.slice a F.length cap) := cell_row HTR.out (trCells_at HLL.out)
        have HI : Hid ((Tryd.prog.info? 82).map (·.size) = some (i8 b).length) := by show _ = _; rw [i8_length, hbB.1]; exact Tryd.sizeBlock
        clear hst1 hst2 hmb hbe hrgb hll HP had q
        by_cases q256 : F.length = 256
        · have q3 : ((F.length : Int)) = 256 := by omega
          go_wp2_with (first | (refine wpList_lookup_own_ok_int _ rfl _ _ 96 rfl 3 3 .i64 Tryd.keyLawI Tryd.undMI Tryd.undI (Tryd.zeroInt _) (g + 1) F.length D rfl HMP.out _ (.int .i64 (m : Int)) rfl (Maps.keyOf_int_mk Tryd.undI (WalkArith.wf_i64 (by omega))) ?_; intro c hat hwc) | fail)
          go_ret2
          refine ⟨.inr ⟨rfl, ?_⟩, HB.out⟩
          have h1 := firsts_take_le bs (i + 1)
          rw [HST1.out, addF_new HQ.out, List.length_append] at h1
          simp only [List.length_cons, List.length_nil] at h1
          omega
        · have q3 : ¬ ((F.length : Int) = 256) := by omega
          have hf2 : (F.length : Int) < 256 := by omega
          clear hcl hfl
          go_wp2_with (first | (refine wpList_lookup_own_ok_int _ rfl _ _ 96 rfl 3 3 .i64 Tryd.keyLawI Tryd.undMI Tryd.undI (Tryd.zeroInt _) (g + 1) F.length D rfl HMP.out _ (.int .i64 (m : Int)) rfl (Maps.keyOf_int_mk Tryd.undI (WalkArith.wf_i64 (by omega))) ?_; intro c hat hwc) | (refine wpList_mapUpdate_own _ rfl _ _ _ 96 rfl 3 3 Tryd.keyLawI Tryd.undMI _ (g + 1) F.length D rfl HMP.out (by unfold maxLen; omega) _ _ (.int .i64 (m : Int)) rfl rfl (Maps.keyOf_int_mk Tryd.undI (WalkArith.wf_i64 (by omega))) (.lit (.int .i64 (F.length : Int))) [] (plainElem_int Tryd.undI (WalkArith.wf_i64 (by omega))) ?_; intro w1 hm1 hg1) | fail)
          simp only [Act.put]
          have hs1 := hg1.size
          have htr1 : w1.heap[g]? = some (.cells (trCells (likeTo bs i) (.slice a F.length cap)).toArray 80 (0, 0)) := (hg1.block g (by omega) (by simp)).trans HTR.out
          have hrow1 : w1.ownsRow g 82 256 (.slice a F.length cap) F.length (cellsBl F) := HROW.out.kept hg1 (.inr (own_ne_map HMP.out HROW.out))
          have hB1 : Below w.heap.size w w1 := HB.out.grown hg1 (by omega) (fun k hk => by
            have : g + 1 = k := by simpa using hk
            omega)
          have HCF : Hid (∀ w', Below w1.heap.size w1 w' → w'.cell? ⟨g, 4352, none⟩ = some (.slice a F.length cap)) := fun w' hw' => (hw'.cell (p := ⟨g, 4352, none⟩) (by show g < _; omega)).trans (cell_row htr1 (trCells_at HLL.out))
          have HCD1 : Hid (∀ w', Below w1.heap.size w1 w' → w'.cell? ⟨gd, 4352, none⟩ = some (.slice (some ⟨gb, 0, none⟩) bl.length capd)) := fun w' hw' => (hw'.cell (p := ⟨gd, 4352, none⟩) (by show gd < _; omega)).trans ((hB1.cell (p := ⟨gd, 4352, none⟩) hgdlt).trans (by rw [← HAD.out]; exact HCD.out))
          have HRG1 : Hid (∀ w', Below w1.heap.size w1 w' → w'.rangeAt gb (m * 256) (i8 b)) := fun w' hw' j u hj => (hw'.cell (p := ⟨gb, m * 256 + j, none⟩) (by show gb < _; omega)).trans ((hB1.cell (p := ⟨gb, m * 256 + j, none⟩) hgb).trans (HRGB.out j u hj))
          obtain ⟨HTR1, HROW1, HB1, HM1⟩ : Hid (w1.heap[g]? = some (.cells (trCells (likeTo bs i) (.slice a F.length cap)).toArray 80 (0, 0))) ∧ Hid (w1.ownsRow g 82 256 (.slice a F.length cap) F.length (cellsBl F)) ∧ Hid (Below w.heap.size w w1) ∧ Hid (w1.ownsMap Tryd.prog 3 (plainElem (H := Unit) Tryd.prog 3) (g + 1) (F.length + 1) (D.put (.int .i64 (m : Int)) (.lit (.int .i64 (F.length : Int))))) := ⟨htr1, hrow1, hB1, hm1⟩
          have HIM : Hid (Maps.IsMap D) := HMP.out.isMap
          have hmi : (m : Int) < (bl.length : Int) := by omega
          clear hm1 hg1 htr1 hrow1 hB1 hat hwc hcf hIX
          refine wp_region_bad (fun w' => Below w1.heap.size w1 w') [13, 16] (by kernel_rfl) ((Below.refl _ _).drew) (fun hS => ?_)
          have hCF := HCF.out
          have hCD := HCD1.out
          have hRG := HRG1.out
          refine wpAnyB_pure (i := 0) (v := .pointer (some ⟨g, 0, none⟩)) rfl (by kernel_rfl) (fun _ _ _ h => h) (Or.inl ⟨by rfl, fun w _ => by go_simp⟩) hS ?_
          simp only [List.getElem_toArray, List.getElem_cons_zero, Act.put, List.setIfInBounds_toArray, List.set_cons_zero, List.set_cons_succ]
          refine wpAnyB_pure (i := 1) (v := .pointer (some ⟨g, 0, none⟩)) rfl (by kernel_rfl) (fun _ _ _ h => h) (Or.inl ⟨by rfl, fun w _ => by go_simp⟩) hS ?_
          simp only [List.getElem_toArray, List.getElem_cons_succ, List.getElem_cons_zero, Act.put, List.setIfInBounds_toArray, List.set_cons_zero, List.set_cons_succ]
          refine wpAnyB_pure (i := 2) (v := .pointer (some ⟨g, 0, none⟩)) rfl (by kernel_rfl) (fun _ _ _ h => h) (Or.inl ⟨by rfl, fun w _ => by go_simp⟩) hS ?_
          simp only [List.getElem_toArray, List.getElem_cons_succ, List.getElem_cons_zero, Act.put, List.setIfInBounds_toArray, List.set_cons_zero, List.set_cons_succ]
          refine wpAnyB_pure (i := 3) (v := .pointer (some ⟨g, 4352, none⟩)) rfl (by kernel_rfl) (fun _ _ _ h => h) (Or.inl ⟨by rfl, fun w _ => by go_simp⟩) hS ?_
          simp only [List.getElem_toArray, List.getElem_cons_succ, List.getElem_cons_zero, Act.put, List.setIfInBounds_toArray, List.set_cons_zero, List.set_cons_succ]
          refine wpAnyB_take [4, 13, 16] (i := 4) (v := .slice a F.length cap) rfl (by kernel_rfl) (fun _ _ _ h => h) (Or.inl ⟨by rfl, fun w hSw => by have := hCF w hSw; go_simp⟩) hS ?_
          simp only [List.getElem_toArray, List.getElem_cons_succ, List.getElem_cons_zero, Act.put, List.setIfInBounds_toArray, List.set_cons_zero, List.set_cons_succ]
          refine wpAnyB_pure (i := 5) (v := .pointer (some ⟨gd, 0, none⟩)) rfl (by kernel_rfl) (fun _ _ _ h => h) (Or.inl ⟨by rfl, fun w _ => by go_simp⟩) hS ?_
          simp only [List.getElem_toArray, List.getElem_cons_succ, List.getElem_cons_zero, Act.put, List.setIfInBounds_toArray, List.set_cons_zero, List.set_cons_succ]
          refine wpAnyB_pure (i := 6) (v := .pointer (some ⟨gd, 0, none⟩)) rfl (by kernel_rfl) (fun _ _ _ h => h) (Or.inl ⟨by rfl, fun w _ => by go_simp⟩) hS ?_
          simp only [List.getElem_toArray, List.getElem_cons_succ, List.getElem_cons_zero, Act.put, List.setIfInBounds_toArray, List.set_cons_zero, List.set_cons_succ]
          refine wpAnyB_pure (i := 7) (v := .pointer (some ⟨gd, 4352, none⟩)) rfl (by kernel_rfl) (fun _ _ _ h => h) (Or.inl ⟨by rfl, fun w _ => by go_simp⟩) hS ?_
          simp only [List.getElem_toArray, List.getElem_cons_succ, List.getElem_cons_zero, Act.put, List.setIfInBounds_toArray, List.set_cons_zero, List.set_cons_succ]
          refine wpAnyB_take [8, 10, 11, 12, 13, 16] (i := 8) (v := .slice (some ⟨gb, 0, none⟩) bl.length capd) rfl (by kernel_rfl) (fun _ _ _ h => h) (Or.inl ⟨by rfl, fun w hSw => by have := hCD w hSw; go_simp⟩) hS ?_
          simp only [List.getElem_toArray, List.getElem_cons_succ, List.getElem_cons_zero, Act.put, List.setIfInBounds_toArray, List.set_cons_zero, List.set_cons_succ]
          refine wpAnyB_pure (i := 9) (v := .int .i64 (m : Int)) rfl (by kernel_rfl) (fun _ _ _ h => h) (Or.inl ⟨by rfl, fun w _ => by go_simp⟩) hS ?_
          simp only [List.getElem_toArray, List.getElem_cons_succ, List.getElem_cons_zero, Act.put, List.setIfInBounds_toArray, List.set_cons_zero, List.set_cons_succ]
          refine wpAnyB_pure (i := 10) (v := .pointer (some ⟨gb, m * 256, none⟩)) rfl (by kernel_rfl) (fun _ _ _ h => h) (Or.inl ⟨by rfl, fun w _ => by go_simp⟩) hS ?_
          simp only [List.getElem_toArray, List.getElem_cons_succ, List.getElem_cons_zero, Act.put, List.setIfInBounds_toArray, List.set_cons_zero, List.set_cons_succ]
          refine wpAnyB_take [11, 12, 13, 16] (i := 11) (v := .agg (i8 b).toArray) rfl (by kernel_rfl) (fun _ _ _ h => h) (yieldsIf_load_mid (by rfl) 82 _ rfl gb (m * 256) rfl (i8 b) _ (fun w' hw' => hRG w' hw') Tryd.undB rfl HI.out) hS ?_
          simp only [List.getElem_toArray, List.getElem_cons_succ, List.getElem_cons_zero, Act.put, List.setIfInBounds_toArray, List.set_cons_zero, List.set_cons_succ]
          refine wpAnyB_one (i := 12) rfl (by kernel_rfl) (fun K hK => ?_)
          rw [if_pos (by rfl)]
          refine wp_buildSlice_run 78 _ rfl (.agg (i8 b).toArray) _ rfl (run_buildSlice_one w1.drew (i8 b).toArray (i8 zeroB).toArray Tryd.undBs hiB (by rw [hzB1, List.size_toArray, i8_length, hbB.1]) (by rw [hzB0, i8_zeroB]) (by simp [i8_length, zeroB_length, hbB.1]) (by simp [i8_length, hbB.1]) (by simp [i8_length, hbB.1])) ?_
          simp only [Act.put, List.setIfInBounds_toArray]
          refine hK.out _ _ (hS.alloc (by show w1.heap.size ≤ w1.heap.size; omega) _) ?_
          clear hK K
          obtain ⟨w2, hw2⟩ : ∃ w2, w2 = w1.drew.alloc (.cells (i8 b).toArray 82) := ⟨_, rfl⟩
          have hS2 : Below w1.heap.size w1 w2 := by rw [hw2]; exact hS.alloc (by show w1.heap.size ≤ w1.heap.size; omega) _
          have hs2 : w2.heap.size = w1.heap.size + 1 := by rw [hw2]; simp
          have hnew : w2.heap[w1.heap.size]? = some (.cells (i8 b).toArray 82 (0, 0)) := by rw [hw2]; exact heap_new' w1.drew _
          rw [← hw2]
          clear hw2
          refine wpAnyB_last (i := 13) rfl (by kernel_rfl) (fun K hK => ?_)
          rw [if_pos (by rfl)]
          refine wp_append_own w2 _ _ 78 rfl g 82 iB _ 256 256 Tryd.undBs hiB hzB0 hzB1 hzB2 (by simp [Value.cells]) (by omega) (.slice a F.length cap) F.length (cellsBl F) rfl (ownsRow_below HROW1.out hS2) ⟨w1.heap.size, 0, none⟩ 1 1 (i8 b) rfl (by rw [i8_length, hbB.1]) (fun j u hj => by rw [Addr.add_mid, Nat.zero_add]; exact cell_row hnew hj) (i8_one b) (by unfold maxLen; omega) (by omega) (by omega) ?_
          intro v3 w3 hr3 hg3 _
          simp only [Act.put]
          refine hK.out _ _ ?_
          clear hK K
          have htr2 : w2.heap[g]? = some (.cells (trCells (likeTo bs i) (.slice a F.length cap)).toArray 80 (0, 0)) := (hS2.block g (by omega)).trans HTR1.out
          have hon := own_ne (ownsRow_below HROW1.out hS2) htr2 (by decide)
          have htr3 : w3.heap[g]? = some (.cells (trCells (likeTo bs i) (.slice a F.length cap)).toArray 80 (0, 0)) := (hg3.block g (by omega) (fun e => hon e.symm)).trans htr2
          have hm3 : w3.ownsMap Tryd.prog 3 (plainElem (H := Unit) Tryd.prog 3) (g + 1) (F.length + 1) (D.put (.int .i64 (m : Int)) (.lit (.int .i64 (F.length : Int)))) := by
            have e2 := own_ne_map (ownsMap_below HM1.out hS2) (ownsRow_below HROW1.out hS2)
            exact (ownsMap_below HM1.out hS2).kept hg3 (fun e => e2 e.symm)
          have hc3 : w3.cell? ⟨g, 4352, none⟩ = some (.slice a F.length cap) := cell_row htr3 (trCells_at HLL.out)
          have hf3 : w3.frozen? ⟨g, 4352, none⟩ = false := frozen_of_row _ _ _ _ _ htr3
          have hs3 := hg3.size
          have hB3 : Below w.heap.size w w3 := by
            have hr := (ownsRow_below HROW1.out hS2).lt
            exact (HB1.out.trans (hS2.mono (by omega))).grown hg3 (by omega) (fun k hk => by have := (hr k hk).1; omega)
          obtain ⟨a3, cap3, rfl⟩ := slice_of_row hr3
          refine wpAnyB_late (i := 14) (v := .pointer (some ⟨g, 0, none⟩)) rfl (by kernel_rfl) (fun _ _ _ h => h) (Or.inl ⟨by rfl, fun w _ => by go_simp⟩) ?_
          simp only [List.getElem_toArray, List.getElem_cons_succ, List.getElem_cons_zero, Act.put, List.setIfInBounds_toArray, List.set_cons_zero, List.set_cons_succ]
          refine wpAnyB_late (i := 15) (v := .pointer (some ⟨g, 4352, none⟩)) rfl (by kernel_rfl) (fun _ _ _ h => h) (Or.inl ⟨by rfl, fun w _ => by go_simp⟩) ?_
          simp only [List.getElem_toArray, List.getElem_cons_succ, List.getElem_cons_zero, Act.put, List.setIfInBounds_toArray, List.set_cons_zero, List.set_cons_succ]
          refine wpAnyB_last (i := 16) rfl (by kernel_rfl) (fun K hK => ?_)
          rw [if_pos (by rfl)]
          obtain ⟨HTR3, HM3, HR3, HB3⟩ : Hid (w3.heap[g]? = some (.cells (trCells (likeTo bs i) (.slice a F.length cap)).toArray 80 (0, 0))) ∧ Hid (w3.ownsMap Tryd.prog 3 (plainElem (H := Unit) Tryd.prog 3) (g + 1) (F.length + 1) (D.put (.int .i64 (m : Int)) (.lit (.int .i64 (F.length : Int))))) ∧ Hid (w3.ownsRow g 82 256 (.slice a3 (F.length + 1) cap3) (F.length + 1) (cellsBl F ++ i8 b)) ∧ Hid (Below w.heap.size w w3) := ⟨htr3, hm3, hr3, hB3⟩
          clear htr3 hm3 hr3 hg3 htr2 hon hnew hS hS2 hCF hCD hRG hB3
          go_wp2
          refine hK.out _ _ ?_
          refine wpAnyB_done (by kernel_rfl) ?_ _
          refine NoPanic.normal ?_
          clear hK K hc3 hf3
          obtain ⟨w4, hw4⟩ : ∃ w4, w4 = w3.setCell ⟨g, 4352, none⟩ (.slice a3 (F.length + 1) cap3) := ⟨_, rfl⟩
          have htr4 : w4.heap[g]? = some (.cells (trCells (likeTo bs i) (.slice a3 (F.length + 1) cap3)).toArray 80 (0, 0)) := by rw [hw4]; exact heap_set_row HTR3.out (trCells_set HLL.out)
          have hB4 : Below w.heap.size w w4 := by rw [hw4]; exact HB3.out.setCell (show w.heap.size ≤ g by omega) _
          have hr4 : w4.ownsRow g 82 256 (.slice a3 (F.length + 1) cap3) (F.length + 1) (cellsBl F ++ i8 b) := by
            have e2 := own_ne HR3.out HTR3.out (by decide)
            have hsc : w3.grownBy (w3.setCell ⟨g, 4352, none⟩ (.slice a3 (F.length + 1) cap3)) (some g) := ⟨rfl, rfl, rfl, by simp [World.setCell], fun k hk hne => heap_setCell_other _ _ _ _ (fun e => hne (by rw [e]))⟩
            rw [hw4]
            exact HR3.out.kept hsc (.inr e2)
          have hm4 : w4.ownsMap Tryd.prog 3 (plainElem (H := Unit) Tryd.prog 3) (g + 1) (F.length + 1) (D.put (.int .i64 (m : Int)) (.lit (.int .i64 (F.length : Int)))) := by
            rw [hw4]
            exact HM3.out.setCell (by show g + 1 ≠ g; omega) _
          have hs4 : w4.heap.size = w3.heap.size := by rw [hw4]; simp [World.setCell]
          rw [← hw4]
          clear hw4
          obtain ⟨x8, hcl⟩ : ∃ x8, w4.cell? ⟨g, i, none⟩ = some x8 := ⟨_, cell_row htr4 (trCells_like (by have := HLL.out; omega))⟩
          have hfl : w4.frozen? ⟨g, i, none⟩ = false := frozen_of_row _ _ _ _ _ htr4
          obtain ⟨HTR4, HM4, HR4, HB4⟩ : Hid (w4.heap[g]? = some (.cells (trCells (likeTo bs i) (.slice a3 (F.length + 1) cap3)).toArray 80 (0, 0))) ∧ Hid (w4.ownsMap Tryd.prog 3 (plainElem (H := Unit) Tryd.prog 3) (g + 1) (F.length + 1) (D.put (.int .i64 (m : Int)) (.lit (.int .i64 (F.length : Int))))) ∧ Hid (w4.ownsRow g 82 256 (.slice a3 (F.length + 1) cap3) (F.length + 1) (cellsBl F ++ i8 b)) ∧ Hid (Below w.heap.size w w4) := ⟨htr4, hm4, hr4, hB4⟩
          clear htr4 hm4 hr4 hB4
          go_wp2
          go_roundw
          case rel =>
            have e1 : addF F b = F ++ [b] := addF_new HQ.out
            have e0 : (F ++ [b]).length = F.length + 1 := by simp
            refine ⟨i + 1, by omega, by go_num, .slice a3 (F.length + 1) cap3, D.put (.int .i64 (m : Int)) (.lit (.int .i64 (F.length : Int))), ?_, ?_, ?_, ?_, ?_, HB4.out.setCell (show w.heap.size ≤ g by omega) _, by simp [World.setCell]; omega⟩
            · refine heap_set_row HTR4.out ?_
              rw [trCells_setLike (by have := HLL.out; omega), ← HLS.out, idx_addF HQ.out]
            · rw [HST1.out, e1, e0, cellsBl_snoc]
              have e2 := own_ne HR4.out HTR4.out (by decide)
              have hsc : w4.grownBy (w4.setCell ⟨g, i, none⟩ (.int .u8 (F.length : Int))) (some g) := ⟨rfl, rfl, rfl, by simp [World.setCell], fun k hk hne => heap_setCell_other _ _ _ _ (fun e => hne (by rw [e]))⟩
              exact HR4.out.kept hsc (.inr e2)
            · rw [HST1.out, e1, e0]
              exact HM4.out.setCell (by show g + 1 ≠ g; omega) _
            · rw [HST1.out, e1]; exact placed_put HIM.out HPL.out HND.out.1 HMB.out HQ.out
            · rw [HST1.out, e1, e0]; omega
          case measure => simp [intOf]; omega
    · obtain rfl : i = 4352 := by omega
      go_wp2
      go_ret2
      have e1 : bs.take 4352 = bs := List.take_of_length_le (by omega)
      have e2 : likeTo bs 4352 = (likeOf bs).map (fun k : Nat => (k : Int)) := by rw [← hbl]; exact likeTo_end bs
      have hFe : F = firstsOf bs := by rw [HFD.out, e1]
      refine ⟨.inl ⟨_, rfl, by rw [← hFe]; exact hF, ?_⟩, HB.out⟩
      have hne : 1 ≤ (firstsOf bs).length := firsts_pos (fun e => by rw [e] at hbl; simp at hbl)
      have htr := HTR.out
      have hrw := HROW.out
      rw [e2] at htr
      rw [← hFe]
      rcases hrw.2 with ⟨e, h0⟩ | ⟨gr, cap', cur, e, _, hgg, hc, _⟩
      · rw [← hFe] at hne; omega
      · obtain ⟨rfl, rfl⟩ : a = some ⟨gr, 0, none⟩ ∧ cap = cap' := by simpa using e
        refine ⟨g, gr, cap, rfl, by omega, heap_lt hgg, htr, fun j u hj => ?_, hc⟩
        have := hrw.cells (g := gr) rfl j u hj
        rw [Addr.add_mid] at this
        exact this
end Go.Proofs.YtpknmpgbaccffaaDoor

namespace Go.Proofs.YtpknmpgbaccffaaDoor
open Go.RowKit
set_option linter.unusedVariables false

/-- The slice value v holds the entries l, in a block below n. -/
def PropsAt (n : Nat) (w : World) (v : Value) (l : List Pp) : Prop :=
  ∃ a cap, v = .slice a l.length cap ∧ l.length ≤ cap ∧ ∀ i, (h : i < l.length) → ∃ g off, a = some ⟨g, off, none⟩ ∧ g < n ∧ w.cell? ⟨g, off + i * 3, none⟩ = some (.int .i64 l[i].lo) ∧ w.cell? ⟨g, off + i * 3 + 1, none⟩ = some (.int .i64 l[i].hi) ∧ w.cell? ⟨g, off + i * 3 + 2, none⟩ = some (.int .u8 l[i].v)
abbrev PropsIn (w : World) (v : Value) (l : List Pp) : Prop := PropsAt w.heap.size w v l
theorem PropsAt.below {n : Nat} {w w' : World} {v : Value} {l : List Pp} (h : PropsAt n w v l) (hb : Below n w w') : PropsAt n w' v l := by
  obtain ⟨a, cap, rfl, hc, hi⟩ := h
  refine ⟨a, cap, rfl, hc, fun i hlt => ?_⟩
  obtain ⟨g, off, rfl, hg, h0, h1, h2⟩ := hi i hlt
  exact ⟨g, off, rfl, hg, (hb.cell (p := ⟨g, _, none⟩) hg).trans h0, (hb.cell (p := ⟨g, _, none⟩) hg).trans h1, (hb.cell (p := ⟨g, _, none⟩) hg).trans h2⟩
theorem PropsAt.mono {n m : Nat} {w : World} {v : Value} {l : List Pp} (h : PropsAt n w v l) (hm : n ≤ m) : PropsAt m w v l := by
  obtain ⟨a, cap, rfl, hc, hi⟩ := h
  refine ⟨a, cap, rfl, hc, fun i hlt => ?_⟩
  obtain ⟨g, off, rfl, hg, h0⟩ := hi i hlt
  exact ⟨g, off, rfl, by omega, h0⟩
/-- Values are bytes. -/
def Bytes (l : List Pp) : Prop := ∀ p ∈ l, 0 ≤ p.v ∧ p.v ≤ 255
def good1 (p : Pp) : Bool := decide (0 ≤ p.lo ∧ p.hi ≤ 1114111 ∧ p.lo ≤ p.hi)
theorem good1_iff {p : Pp} : good1 p = true ↔ 0 ≤ p.lo ∧ p.hi ≤ 1114111 ∧ p.lo ≤ p.hi := by simp [good1]
def firstB (l : List Pp) : List (List Int) := firstsOf (blocksF (valP l))
def likeB (l : List Pp) : List Int := (likeOf (blocksF (valP l))).map (fun k : Nat => (k : Int))
/-- What Build answers. -/
def errB (l : List Pp) : Int := if 4096 < l.length then 3 else if l.all good1 = false then 1 else if 256 < (firstB l).length then 3 else 0

theorem val_bytes {l : List Pp} (h : Bytes l) (r : Int) : 0 ≤ valP l r ∧ valP l r ≤ 255 := by
  rcases val_cases l r with e | ⟨p, hp, _, e⟩
  · rw [e]; omega
  · rw [e]; exact h p hp
theorem firstB_isB {l : List Pp} (h : Bytes l) : ∀ b ∈ firstB l, IsB b := fun b hb => by
  have hm := firsts_mem.1 hb
  obtain ⟨k, _, rfl⟩ := List.mem_map.1 hm
  refine ⟨blkF_length _ _, fun x hx => ?_⟩
  obtain ⟨i, _, rfl⟩ := List.mem_map.1 hx
  exact val_bytes h _
theorem blocksF_ne (f : Int → Int) : blocksF f ≠ [] := fun e => by
  have := blocksF_length f
  rw [e] at this
  simp at this
theorem like_bounds (bs : List (List Int)) : ∀ x ∈ (likeOf bs).map (fun k : Nat => (k : Int)), 0 ≤ x ∧ x < ((firstsOf bs).length : Int) := fun x hx => by
  obtain ⟨k, hk, rfl⟩ := List.mem_map.1 hx
  obtain ⟨i, hi, rfl⟩ := List.getElem_of_mem hk
  have h3 := like_lt (bs := bs) (k := i) (by rw [like_length] at hi; exact hi)
  exact ⟨Int.natCast_nonneg _, Int.ofNat_lt.2 h3⟩
theorem fineB {l : List Pp} (h : Bytes l) (h2 : (firstB l).length ≤ 256) : Fine (likeB l) (firstB l) where
  len := by unfold likeB; rw [List.length_map, like_length, blocksF_length]
  lt := like_bounds _
  isB := firstB_isB h
  pos := firsts_pos (blocksF_ne _)
  le := h2
theorem withP_val (l : List Pp) (p : Pp) : withP (valP l) p = valP (l ++ [p]) := by
  funext r
  rw [val_snoc]
  rfl
set_option maxRecDepth 10000 in
theorem says_zero : Says (valP []) zeros [zeroB] := by
  refine ⟨zeros_length, fun i hi => ⟨0, ?_, ?_⟩⟩
  · unfold zeros
    rw [List.getElem?_replicate, if_pos hi]
  · have : blkF (valP []) i = zeroB := by
      unfold blkF zeroB
      rw [List.eq_replicate_iff]
      refine ⟨by rw [List.length_map, List.length_range], fun y hy => ?_⟩
      obtain ⟨j, _, rfl⟩ := List.mem_map.1 hy
      rfl
    rw [this]
    rfl

set_option maxRecDepth 100000 in
set_option maxHeartbeats 4000000 in
theorem build_any (l : List Pp) (v : Value) (w : World) (hv : PropsIn w v l) (hby : Bytes l) :
    Calls Tryd.prog 25 #[v] w fun e w' => ∃ pv, e = .returned (.tuple #[pv, .int .i64 (errB l)]) ∧ (errB l ≠ 0 → pv = .pointer none) ∧ (errB l = 0 → TrieAt w'.heap.size w' pv (likeB l) (firstB l)) ∧ Below w.heap.size w w' := by
  have HV : Hid (PropsIn w v l) := hv
  obtain ⟨a, cap, rfl, hc, hcell⟩ := hv
  have HC : Hid (∀ i, (h : i < l.length) → ∃ g off, a = some ⟨g, off, none⟩ ∧ g < w.heap.size ∧ w.cell? ⟨g, off + i * 3, none⟩ = some (.int .i64 l[i].lo) ∧ w.cell? ⟨g, off + i * 3 + 1, none⟩ = some (.int .i64 l[i].hi) ∧ w.cell? ⟨g, off + i * 3 + 2, none⟩ = some (.int .u8 l[i].v)) := hcell
  clear hcell
  obtain ⟨er, her⟩ : ∃ er, er = errB l := ⟨_, rfl⟩
  rw [← her]
  have HER : Hid (er = errB l) := her
  clear her
  by_cases h4 : 4096 < l.length
  · have h4' : (4096 : Int) < (l.length : Int) := by omega
    have e3 : er = 3 := by rw [HER.out]; unfold errB; rw [if_pos h4]
    subst e3
    go_enter Tryd.func25, Tryd.ntmps25
    go_wp2
    go_ret2
    exact ⟨_, rfl, fun _ => rfl, fun h => by omega, Below.refl _ _⟩
  · have h4' : ¬ ((4096 : Int) < (l.length : Int)) := by omega
    go_enter Tryd.func25, Tryd.ntmps25
    go_wp2
    go_loopw [14] (fun x wr => ∃ k : Nat, k ≤ l.length ∧ x = .int .i64 k ∧ (∀ i, (h : i < l.length) → i < k → good1 l[i] = true) ∧ Below w.heap.size w wr) (fun x _ => l.length - (intOf x).toNat)
    case atStart => exact ⟨0, Nat.zero_le _, rfl, fun i h q => by omega, Below.refl _ _⟩
    case round =>
      obtain ⟨k, hk, rfl, hgd, hB⟩ := hrel
      have HGD : Hid (∀ i, (h : i < l.length) → i < k → good1 l[i] = true) := hgd
      have hbs := hB.size
      clear hgd
      by_cases hlt : k < l.length
      · obtain ⟨g, off, rfl, hg, c0, c1, c2⟩ := HC.out k hlt
        obtain ⟨p, hp⟩ : ∃ p, p = l[k] := ⟨_, rfl⟩
        rw [← hp] at c0 c1 c2
        have HP : Hid (p = l[k]) := hp
        have q0 : wr.cell? ⟨g, off + k * 3, none⟩ = some (.int .i64 p.lo) := (hB.cell (p := ⟨g, _, none⟩) hg).trans c0
        have q1 : wr.cell? ⟨g, off + k * 3 + 1, none⟩ = some (.int .i64 p.hi) := (hB.cell (p := ⟨g, _, none⟩) hg).trans c1
        have q2 : wr.cell? ⟨g, off + k * 3 + 2, none⟩ = some (.int .u8 p.v) := (hB.cell (p := ⟨g, _, none⟩) hg).trans c2
        have HB : Hid (Below w.heap.size w wr) := hB
        have hlt' : (k : Int) < (l.length : Int) := by omega
        clear c0 c1 c2 hp hB
        by_cases hgood : good1 p = true
        · obtain ⟨g1, g2, g3⟩ := good1_iff.1 hgood
          have n1 : ¬ (p.lo < 0) := by omega
          have n2 : ¬ (1114111 < p.hi) := by omega
          have n3 : ¬ (p.hi < p.lo) := by omega
          have HGO : Hid (good1 p = true) := hgood
          clear hgood
          go_wp2
          go_roundw
          case rel =>
            refine ⟨k + 1, by omega, by go_num, fun i h q => ?_, ?_⟩
            · by_cases e : i = k
              · subst e; rw [← HP.out]; exact HGO.out
              · exact HGD.out i h (by omega)
            · exact HB.out.alloc (by omega) _
          case measure => simp [intOf]; omega
        · have e1 : er = 1 := by
            have hall : l.all good1 = false := by
              rw [← Bool.not_eq_true]
              intro h
              exact hgood (by rw [HP.out]; exact List.all_eq_true.1 h _ (List.getElem_mem hlt))
            rw [HER.out]; unfold errB; rw [if_neg h4, if_pos hall]
          subst e1
          have hor : p.lo < 0 ∨ ¬ (p.lo < 0) ∧ 1114111 < p.hi ∨ ¬ (p.lo < 0) ∧ ¬ (1114111 < p.hi) ∧ p.hi < p.lo := by
            rw [good1_iff] at hgood
            omega
          clear hgood
          rcases hor with n1 | ⟨n1, n2⟩ | ⟨n1, n2, n3⟩
          · go_wp2
            go_ret2
            first | exact ⟨_, rfl, fun _ => rfl, fun h => by omega, HB.out.alloc (by omega) _⟩ | exact ⟨_, rfl, rfl, HB.out.alloc (by omega) _⟩
          · go_wp2
            go_ret2
            first | exact ⟨_, rfl, fun _ => rfl, fun h => by omega, HB.out.alloc (by omega) _⟩ | exact ⟨_, rfl, rfl, HB.out.alloc (by omega) _⟩
          · go_wp2
            go_ret2
            first | exact ⟨_, rfl, fun _ => rfl, fun h => by omega, HB.out.alloc (by omega) _⟩ | exact ⟨_, rfl, rfl, HB.out.alloc (by omega) _⟩
      · have hlt' : ¬ ((k : Int) < (l.length : Int)) := by omega
        have HALL : Hid (∀ p ∈ l, 0 ≤ p.lo ∧ p.hi ≤ 1114111 ∧ p.lo ≤ p.hi) := fun p hp => by
          obtain ⟨i, hi, rfl⟩ := List.getElem_of_mem hp
          exact good1_iff.1 (HGD.out i hi (by omega))
        have HB : Hid (Below w.heap.size w wr) := hB
        clear hB
        obtain ⟨w0, rfl⟩ : ∃ w0, w0 = wr := ⟨_, rfl⟩
        go_wp2_with fail
        refine (newDraft_any w0).mono ?_
        rintro e w1 ⟨gd, rfl, hd1, hB1⟩
        have hs1 := hB1.size
        obtain ⟨HD1, HB1⟩ : Hid (DrAt w0.heap.size w1 gd zeros [zeroB]) ∧ Hid (Below w.heap.size w w1) := ⟨hd1, HB.out.trans (hB1.mono hbs)⟩
        clear hd1 hB1 HB
        go_wp2
        go_loopw [37] (fun x wr => ∃ k : Nat, k ≤ l.length ∧ x = .int .i64 k ∧ ∃ like bl, DrAt w0.heap.size wr gd like bl ∧ Says (valP (l.take k)) like bl ∧ bl.length ≤ 1 + 5000 * k ∧ Below w.heap.size w wr ∧ w0.heap.size ≤ wr.heap.size) (fun x _ => l.length - (intOf x).toNat)
        case atStart => exact ⟨0, Nat.zero_le _, rfl, zeros, [zeroB], HD1.out, says_zero, by simp, HB1.out, by omega⟩
        case round =>
          obtain ⟨j, hj, rfl, like, bl, hd, hsy, hbl, hB, hsz⟩ := hrel
          obtain ⟨HD, HSY, HB⟩ : Hid (DrAt w0.heap.size wr gd like bl) ∧ Hid (Says (valP (l.take j)) like bl) ∧ Hid (Below w.heap.size w wr) := ⟨hd, hsy, hB⟩
          clear hd hsy HD1 HB1
          by_cases hjl : j < l.length
          · obtain ⟨g, off, rfl, hg, c0, c1, c2⟩ := HC.out j hjl
            obtain ⟨p, hp⟩ : ∃ p, p = l[j] := ⟨_, rfl⟩
            rw [← hp] at c0 c1 c2
            have HP : Hid (p = l[j]) := hp
            have q0 : wr.cell? ⟨g, off + j * 3, none⟩ = some (.int .i64 p.lo) := (hB.cell (p := ⟨g, _, none⟩) hg).trans c0
            have q1 : wr.cell? ⟨g, off + j * 3 + 1, none⟩ = some (.int .i64 p.hi) := (hB.cell (p := ⟨g, _, none⟩) hg).trans c1
            have q2 : wr.cell? ⟨g, off + j * 3 + 2, none⟩ = some (.int .u8 p.v) := (hB.cell (p := ⟨g, _, none⟩) hg).trans c2
            have hjl' : (j : Int) < (l.length : Int) := by omega
            have hpm : p ∈ l := by rw [hp]; exact List.getElem_mem hjl
            obtain ⟨g1, g2, g3⟩ := HALL.out p hpm
            have hpv := hby p hpm
            clear c0 c1 c2 hp hB
            go_wp2_with fail
            have hBa : Below wr.heap.size wr (wr.alloc (.cells #[.int .i64 p.lo, .int .i64 p.hi, .int .u8 p.v] 51)) := (Below.refl _ _).alloc (Nat.le_refl _) _
            refine (put_any w0.heap.size gd like bl (valP (l.take j)) p _ (HD.out.below hBa) HSY.out g1 g3 g2 hpv (by omega) (by simp; omega)).mono ?_
            rintro e w3 ⟨rfl, like3, bl3, hd3, hs3, hl3, hB3⟩
            have hsz3 := hB3.size
            obtain ⟨HD3, HS3, HB3⟩ : Hid (DrAt w0.heap.size w3 gd like3 bl3) ∧ Hid (Says (valP (l.take (j + 1))) like3 bl3) ∧ Hid (Below w.heap.size w w3) := by
              refine ⟨hd3, ?_, ?_⟩
              · show Says _ _ _
                rw [List.take_succ_eq_append_getElem hjl, ← HP.out, ← withP_val]
                exact hs3
              · exact (HB.out.alloc (by omega) _).trans (hB3.mono hbs)
            clear hd3 hs3 hB3 hBa
            go_wp2
            go_roundw
            case rel => exact ⟨j + 1, by omega, by go_num, like3, bl3, HD3.out, HS3.out, by omega, HB3.out, by simp at hsz3; omega⟩
            case measure => simp [intOf]; omega
          · have hjl' : ¬ ((j : Int) < (l.length : Int)) := by omega
            have ej : l.take j = l := List.take_of_length_le (by omega)
            go_wp2_with fail
            refine (finish_any w0.heap.size gd like bl (valP l) wr HD.out (by have := HSY.out; rwa [ej] at this) (by omega)).mono ?_
            have hall : ¬ (l.all good1 = false) := by
              rw [Bool.not_eq_false]
              exact List.all_eq_true.2 (fun p hp => good1_iff.2 (HALL.out p hp))
            rintro e w3 ⟨⟨pv, rfl, h256, htr⟩ | ⟨rfl, h256⟩, hB3⟩
            · have e0 : er = 0 := by
                rw [HER.out]; unfold errB firstB; rw [if_neg h4, if_neg hall, if_neg (by omega)]
              subst e0
              clear hall
              go_wp2
              go_ret2
              first | exact ⟨pv, rfl, fun h => absurd rfl h, fun _ => htr, HB.out.trans (hB3.mono (by omega))⟩ | exact ⟨pv, rfl, htr, HB.out.trans (hB3.mono (by omega))⟩
            · have e0 : er = 3 := by
                rw [HER.out]; unfold errB firstB; rw [if_neg h4, if_neg hall, if_pos h256]
              subst e0
              clear hall
              go_wp2
              go_ret2
              exact ⟨_, rfl, fun _ => rfl, fun h => by omega, HB.out.trans (hB3.mono (by omega))⟩
end Go.Proofs.YtpknmpgbaccffaaDoor
