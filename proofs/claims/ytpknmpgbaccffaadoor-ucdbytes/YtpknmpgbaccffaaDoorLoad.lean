/-
  trie.Load: the trie that bytes are.
-/
import Derived.Test.YtpknmpgbaccffaaDoorCounted
import Derived.Test.YtpknmpgbaccffaaDoorConv
namespace Go.Proofs.YtpknmpgbaccffaaDoor
open Go.RowKit
set_option linter.unusedVariables false

def okLb (l : List Int) : Bool := decide (l ≠ []) && decide (l.length = 4353 + 256 * cntL l) && decide (cntFrom 0 (likeL l) = some (cntL l : Int)) && decide ((firstsOf (firstL l)).length = cntL l)
theorem okLb_iff {l : List Int} : okLb l = true ↔ okL l := by
  unfold okLb okL lenL
  simp [and_assoc]
def errL (l : List Int) : Int := if okLb l = true then 0 else 2

theorem wpList_make_full {P : Program} (w : World) {ops : Array Oper} {rest : List Oper} {o : Oper} {a : Act} {Q : Exit → Act → World → Prop} (hgd : o.guard = none) (x y : Operand) (t : TypeId) (hop : o.op = Op.makeSlice t x y)
    (e : TypeId) (i : TypeInfo) (z : Value) (h1 : P.underlying t = some (.slice e)) (h2 : P.info? e = some i) (h3 : i.zero = some z) (n : Nat) (hx : a.eval x = .int .i64 (n : Int)) (hy : a.eval y = .int .i64 (n : Int)) (b2 : i.bytes * n ≤ 281474976710656) (b3 : n ≤ maxLen)
    (h : wpList P ops Q rest (a.put o.dst (.slice (some ⟨w.heap.size, 0, none⟩) n n)) (w.alloc (.cells (madeCells z.cells (n * i.size)) e))) : wpList P ops Q (o :: rest) a w := by
  refine wpList_plain hgd fun K hK' => ?_
  have hrun := run_make (P := P) w t e i z h1 h2 h3 .i64 .i64 (n : Int) (n : Int) (by omega) (by omega) (by
    have : ((i.bytes * n : Nat) : Int) ≤ 281474976710656 := by omega
    simpa using this) (by unfold maxLen at b3; omega)
  simp only [Int.toNat_natCast] at hrun
  have h2 := hK' _ _ h
  unfold Oper.wp
  simp [execOp, hop, hx, hy, hrun, Result.andThen]
  exact h2
theorem wp_copy_run {P : Program} {o : Oper} {a : Act} {w w' : World} {K : Act → World → Prop} {Q : Exit → Act → World → Prop} (x y : Operand) (dT sT : TypeId) (ho : o.op = .call { callee := .builtin .copy, args := #[x, y], argTypes := #[dT, sT] }) (xv yv res : Value)
    (hx : a.eval x = xv) (hy : a.eval y = yv) (hrun : ∀ ty, (Builtin.copy_ #[dT, sT] ty #[xv, yv]).run P w = .ok res w') (h : K (a.put o.dst res) w') : o.wp P a w K Q := by
  have hr := hrun o.type
  unfold Oper.wp
  simp [execOp, ho, resolve, invoke, builtin, hx, hy, hr, Result.andThen]
  exact h
def zeros8 : List Int := List.replicate 4352 0
theorem zeros8_length : zeros8.length = 4352 := by unfold zeros8; rw [List.length_replicate]
theorem trCells_zeros (v : Value) : trCells zeros8 v = List.replicate 4352 (Value.int .u8 0) ++ [v] := by unfold trCells zeros8 i8; rw [List.map_replicate]

set_option maxRecDepth 100000 in
set_option maxHeartbeats 8000000 in
theorem load_any (l : List Int) (v : Value) (w : World) (hv : BytesAt w.heap.size w v l) (hby : ByL l) :
    Calls Tryd.prog 32 #[v] w fun e w' => ∃ pv, e = .returned (.tuple #[pv, .int .i64 (errL l)]) ∧ (errL l ≠ 0 → pv = .pointer none) ∧ (errL l = 0 → TrieAt w'.heap.size w' pv (likeL l) (firstL l)) ∧ Below w.heap.size w w' := by
  obtain ⟨iB, hiB, hzB0, hzB1, hzB2⟩ := info_parts Tryd.infoBlock
  have hzt := Tryd.zeroTrie
  obtain ⟨zt, hzT⟩ : ∃ zt, zt = (List.replicate 4352 (Value.int .u8 0) ++ [Value.slice none 0 0]).toArray := ⟨_, rfl⟩
  rw [← hzT] at hzt
  have HZV : Hid (∀ u, zt.setIfInBounds 4352 u = (trCells zeros8 u).toArray) := fun u => by
    rw [hzT, trCells_zeros]
    simp only [List.setIfInBounds_toArray]
    rw [List.set_append_right _ _ (by rw [List.length_replicate]; omega), List.length_replicate]
    rfl
  have hzts : zt.size = 4353 := by rw [hzT, List.size_toArray, List.length_append, List.length_replicate]; rfl
  clear hzT
  obtain ⟨a, cap, rfl, hc, hcell⟩ := hv
  obtain ⟨er, her⟩ : ∃ er, er = errL l := ⟨_, rfl⟩
  rw [← her]
  have HER : Hid (er = errL l) := her
  clear her
  by_cases h0 : l.length = 0
  · have e2 : er = 2 := by
      have : l = [] := List.length_eq_zero_iff.1 h0
      rw [HER.out]; unfold errL; rw [if_neg (by rw [okLb_iff]; exact fun q => q.1.1 this)]
    subst e2
    have h0' : (l.length : Int) = 0 := by omega
    go_enter Tryd.func32, Tryd.ntmps32
    go_wp2
    go_ret2
    first | exact ⟨_, rfl, fun _ => rfl, fun h => by omega, Below.refl _ _⟩ | exact ⟨_, rfl, rfl, Below.refl _ _⟩
  have hpos : 0 < l.length := by omega
  have h0' : ¬ ((l.length : Int) = 0) := by omega
  obtain ⟨gs, off, rfl, hgs, hc0⟩ := hcell 0 hpos
  have HC : Hid (∀ i, (h : i < l.length) → w.cell? ⟨gs, off + i, none⟩ = some (.int .u8 l[i])) := fun i h => by
    obtain ⟨g', off', e, _, hc'⟩ := hcell i h
    obtain ⟨rfl, rfl⟩ : gs = g' ∧ off = off' := by simpa using e
    exact hc'
  rw [Nat.add_zero] at hc0
  obtain ⟨x0, hx0⟩ : ∃ x0, x0 = l[0] := ⟨_, rfl⟩
  rw [← hx0] at hc0
  have hxb := hby l[0] (List.getElem_mem hpos)
  rw [← hx0] at hxb
  obtain ⟨cnt, hcnt⟩ : ∃ cnt : Nat, (cnt : Int) = x0 + 1 := ⟨(x0 + 1).toNat, by omega⟩
  have HCN : Hid (cntL l = cnt) := by
    show _ = _
    unfold cntL
    rw [List.getElem?_eq_getElem hpos, Option.getD_some, ← hx0]
    omega
  obtain rfl : x0 = (cnt : Int) - 1 := by omega
  have hcp : 1 ≤ cnt := by omega
  have hc256 : cnt ≤ 256 := by omega
  clear hcell hx0 hxb hcnt
  by_cases hlen : l.length = 4353 + 256 * cnt
  · have hl' : (l.length : Int) = 4353 + (cnt : Int) * 256 := by omega
    have HLEN : Hid (lenL l) := ⟨fun e => by rw [e] at hpos; simp at hpos, by rw [HCN.out]; exact hlen⟩
    obtain ⟨MC, hMC⟩ : ∃ MC, MC = madeCells (Value.agg (List.replicate 256 (Value.int .u8 0)).toArray).cells (cnt * iB.size) := ⟨_, rfl⟩
    have HMC : Hid (MC = madeCells (Value.agg (List.replicate 256 (Value.int .u8 0)).toArray).cells (cnt * iB.size)) := hMC
    have HMS : Hid (MC.size = cnt * 256) := by show _ = _; rw [hMC, size_madeCells, hzB1]
    obtain ⟨gF, hgF⟩ : ∃ gF, gF = w.heap.size := ⟨_, rfl⟩
    obtain ⟨gT, hgT⟩ : ∃ gT, gT = w.heap.size + 1 := ⟨_, rfl⟩
    obtain ⟨w1, hw1⟩ : ∃ w1, w1 = (w.alloc (.cells MC 82)).alloc (.cells (zt.setIfInBounds 4352 (.slice (some ⟨w.heap.size, 0, none⟩) cnt cnt)) 80) := ⟨_, rfl⟩
    have hB1 : Below w.heap.size w w1 := by rw [hw1]; exact ((Below.refl _ _).alloc (Nat.le_refl _) _).alloc (by simp) _
    have ht1 : w1.heap[gT]? = some (.cells (trCells zeros8 (.slice (some ⟨gF, 0, none⟩) cnt cnt)).toArray 80 (0, 0)) := by rw [hw1, hgT, hgF, HZV.out]; exact heap_alloc2_new w _ _
    have hf1 : w1.heap[gF]? = some (.cells MC 82 (0, 0)) := by rw [hw1, hgF]; exact heap_alloc2_old w _ _
    have hs1 : w1.heap.size = w.heap.size + 2 := by rw [hw1]; simp
    obtain ⟨HW1, HB1, HT1, HF1, HGF, HGT⟩ : Hid (w1 = (w.alloc (.cells MC 82)).alloc (.cells (zt.setIfInBounds 4352 (.slice (some ⟨w.heap.size, 0, none⟩) cnt cnt)) 80)) ∧ Hid (Below w.heap.size w w1) ∧ Hid (w1.heap[gT]? = some (.cells (trCells zeros8 (.slice (some ⟨gF, 0, none⟩) cnt cnt)).toArray 80 (0, 0))) ∧ Hid (w1.heap[gF]? = some (.cells MC 82 (0, 0))) ∧ Hid (w.heap.size = gF) ∧ Hid (w.heap.size + 1 = gT) := ⟨hw1, hB1, ht1, hf1, hgF.symm, hgT.symm⟩
    have hcap1 : ¬ cap = 1 := by omega
    have hl1 : (1 : Int) ≤ (l.length : Int) := by omega
    have hl2 : ¬ (4353 + (cnt : Int) * 256 < 1) := by omega
    have HLE : Hid (l.length = 4353 + 256 * cnt) := hlen
    have hlc : 4353 ≤ l.length := by omega
    clear hMC hw1 hB1 ht1 hf1 hgF hgT hlen
    go_enter Tryd.func32, Tryd.ntmps32
    go_wp2_with (first | (at_make; refine wpList_make_full _ rfl _ _ 78 rfl 82 iB _ Tryd.undBs hiB hzB0 cnt (by first | rfl | (simp [Act.eval]; done)) (by first | rfl | (simp [Act.eval]; done)) (by rw [hzB2]; omega) (by unfold maxLen; omega) ?_; rw [← HMC.out]) | fail)
    rw [← HW1.out, HGT.out, HGF.out]
    have HRS : Hid (∀ w', Below w.heap.size w w' → ∀ j u, (i8 l)[j]? = some u → w'.cell? ⟨gs, off + j, none⟩ = some u) := fun w' hw' j u hj => by
      have hjl : j < l.length := by have := (List.getElem?_eq_some_iff.1 hj).1; rwa [i8_length] at this
      rw [i8_get hjl] at hj
      rw [← hj]
      exact (hw'.cell (p := ⟨gs, off + j, none⟩) hgs).trans (HC.out j hjl)
    refine wp_region_bad (fun w' => Below w1.heap.size w1 w') [6] (by kernel_rfl) ((Below.refl _ _).drew) (fun hS => ?_)
    refine wpAnyB_pure (i := 0) (v := .pointer (some ⟨gT, 0, none⟩)) rfl (by kernel_rfl) (fun _ _ _ h => h) (Or.inl ⟨by rfl, fun w _ => by go_simp⟩) hS ?_
    simp only [List.getElem_toArray, List.getElem_cons_zero, Act.put, List.setIfInBounds_toArray, List.set_cons_zero, List.set_cons_succ]
    refine wpAnyB_pure (i := 1) (v := .pointer (some ⟨gT, 0, none⟩)) rfl (by kernel_rfl) (fun _ _ _ h => h) (Or.inl ⟨by rfl, fun w _ => by go_simp⟩) hS ?_
    simp only [List.getElem_toArray, List.getElem_cons_succ, List.getElem_cons_zero, Act.put, List.setIfInBounds_toArray, List.set_cons_zero, List.set_cons_succ]
    refine wpAnyB_pure (i := 2) (v := .pointer (some ⟨gT, 0, none⟩)) rfl (by kernel_rfl) (fun _ _ _ h => h) (Or.inl ⟨by rfl, fun w _ => by go_simp⟩) hS ?_
    simp only [List.getElem_toArray, List.getElem_cons_succ, List.getElem_cons_zero, Act.put, List.setIfInBounds_toArray, List.set_cons_zero, List.set_cons_succ]
    refine wpAnyB_pure (i := 3) (v := .slice (some ⟨gT, 0, none⟩) 4352 4352) rfl (by kernel_rfl) (fun _ _ _ h => h) (Or.inl ⟨by rfl, fun w _ => by go_simp⟩) hS ?_
    simp only [List.getElem_toArray, List.getElem_cons_succ, List.getElem_cons_zero, Act.put, List.setIfInBounds_toArray, List.set_cons_zero, List.set_cons_succ]
    refine wpAnyB_pure (i := 4) (v := .slice (some ⟨gs, off, none⟩) l.length cap) rfl (by kernel_rfl) (fun _ _ _ h => h) (Or.inl ⟨by rfl, fun w _ => by go_simp⟩) hS ?_
    simp only [List.getElem_toArray, List.getElem_cons_succ, List.getElem_cons_zero, Act.put, List.setIfInBounds_toArray, List.set_cons_zero, List.set_cons_succ]
    refine wpAnyB_pure (i := 5) (v := .slice (some ⟨gs, off + 1, none⟩) (l.length - 1) (cap - 1)) rfl (by kernel_rfl) (fun _ _ _ h => h) (Or.inl ⟨by rfl, fun w _ => by go_simp⟩) hS ?_
    simp only [List.getElem_toArray, List.getElem_cons_succ, List.getElem_cons_zero, Act.put, List.setIfInBounds_toArray, List.set_cons_zero, List.set_cons_succ]
    refine wpAnyB_last (i := 6) rfl (by kernel_rfl) (fun K hK => ?_)
    rw [if_pos (by rfl)]
    have hBd : Below w.heap.size w w1.drew := HB1.out.drew
    have hTd : w1.drew.heap[gT]? = some (.cells (trCells zeros8 (.slice (some ⟨gF, 0, none⟩) cnt cnt)).toArray 80 (0, 0)) := HT1.out
    have hli : (i8 (likeL l)).length = Nat.min (l.length - 1) 4352 := by
      rw [i8_length, likeL_length HLEN.out]
      show 4352 = min (l.length - 1) 4352
      omega
    have hrun : ∀ ty, (Builtin.copy_ #[30, 30] ty #[.slice (some ⟨gT, 0, none⟩) 4352 4352, .slice (some ⟨gs, off + 1, none⟩) (l.length - 1) (cap - 1)]).run Tryd.prog w1.drew = .ok (goInt (i8 (likeL l)).length) (w1.drew.setRow gT ((trCells zeros8 (.slice (some ⟨gF, 0, none⟩) cnt cnt)).toArray.toList.take 0 ++ i8 (likeL l) ++ (trCells zeros8 (.slice (some ⟨gF, 0, none⟩) cnt cnt)).toArray.toList.drop (0 + (i8 (likeL l)).length)).toArray) := fun ty => by
      refine run_copy_row Tryd.prog w1.drew 30 30 ty 5 gT 0 4352 4352 ⟨gs, off + 1, none⟩ (l.length - 1) (cap - 1) _ 80 (i8 (likeL l)) Tryd.undBy Tryd.sizeByte hTd hli (fun j u hj => ?_) ?_ (i8_one _)
      · rw [Addr.add_mid, Nat.add_assoc]
        refine HRS.out _ hBd (1 + j) u ?_
        unfold likeL at hj
        rw [← i8_take, ← i8_drop, List.getElem?_take] at hj
        split at hj
        · rwa [List.getElem?_drop] at hj
        · cases hj
      · rw [i8_length, likeL_length HLEN.out, List.size_toArray]
        unfold trCells
        rw [List.length_append, i8_length, zeros8_length]
        simp
    refine wp_copy_run _ _ 30 30 rfl _ _ _ rfl rfl hrun ?_
    have hrow : ((trCells zeros8 (.slice (some ⟨gF, 0, none⟩) cnt cnt)).toArray.toList.take 0 ++ i8 (likeL l) ++ (trCells zeros8 (.slice (some ⟨gF, 0, none⟩) cnt cnt)).toArray.toList.drop (0 + (i8 (likeL l)).length)) = trCells (likeL l) (.slice (some ⟨gF, 0, none⟩) cnt cnt) := by
      rw [List.toList_toArray, List.take_zero, List.nil_append, Nat.zero_add, i8_length, likeL_length HLEN.out]
      unfold trCells
      rw [List.drop_append, i8_length, zeros8_length, List.drop_of_length_le (by rw [i8_length, zeros8_length]; omega)]
      rfl
    rw [hrow]
    obtain ⟨w2, hw2⟩ : ∃ w2, w2 = w1.drew.setRow gT (trCells (likeL l) (.slice (some ⟨gF, 0, none⟩) cnt cnt)).toArray := ⟨_, rfl⟩
    rw [← hw2]
    have hT2 : w2.heap[gT]? = some (.cells (trCells (likeL l) (.slice (some ⟨gF, 0, none⟩) cnt cnt)).toArray 80 (0, 0)) := by rw [hw2]; exact setRow_heap _ _ _ _ _ _ hTd
    have hgne : gF ≠ gT := by have := HGF.out; have := HGT.out; omega
    have hF2 : w2.heap[gF]? = some (.cells MC 82 (0, 0)) := by rw [hw2, setRow_other _ _ _ _ hgne]; exact HF1.out
    have hB2 : Below w.heap.size w w2 := by rw [hw2]; exact hBd.trans ⟨rfl, rfl, rfl, by simp, fun i hi => setRow_other _ _ _ _ (by have := HGT.out; omega)⟩
    have hs2 : w2.heap.size = w.heap.size + 2 := by rw [hw2]; show (w1.drew.setRow _ _).heap.size = _; rw [setRow_size]; exact hs1
    obtain ⟨HT2, HF2, HB2⟩ : Hid (w2.heap[gT]? = some (.cells (trCells (likeL l) (.slice (some ⟨gF, 0, none⟩) cnt cnt)).toArray 80 (0, 0))) ∧ Hid (w2.heap[gF]? = some (.cells MC 82 (0, 0))) ∧ Hid (Below w.heap.size w w2) := ⟨hT2, hF2, hB2⟩
    have HLL : Hid ((likeL l).length = 4352) := likeL_length HLEN.out
    have hcf2 : w2.cell? ⟨gT, 4352, none⟩ = some (.slice (some ⟨gF, 0, none⟩) cnt cnt) := cell_row hT2 (trCells_at HLL.out)
    clear hw2 hT2 hF2 hB2 hrow hrun hli hTd hBd hS
    simp only [Act.put, List.setIfInBounds_toArray]
    refine hK.out _ _ ?_
    clear hK K
    refine wpAnyB_done (by kernel_rfl) ?_ _
    refine NoPanic.normal ?_
    go_wp2
    clear hcf2
    go_loopw [37] (fun x wr => ∃ i : Nat, i ≤ cnt ∧ x = .int .i64 i ∧ wr.heap[gT]? = some (.cells (trCells (likeL l) (.slice (some ⟨gF, 0, none⟩) cnt cnt)).toArray 80 (0, 0)) ∧ (∃ cur, wr.heap[gF]? = some (.cells cur 82 (0, 0)) ∧ cur.size = cnt * 256 ∧ cur.toList.take (i * 256) = i8 (((List.range i).map (blkL l)).flatten)) ∧ Below w.heap.size w wr ∧ w.heap.size + 2 ≤ wr.heap.size) (fun x _ => cnt - (intOf x).toNat)
    case atStart => exact ⟨0, Nat.zero_le _, rfl, HT2.out, ⟨MC, HF2.out, HMS.out, by simp [i8]⟩, HB2.out, by omega⟩
    case round =>
      obtain ⟨i, hi, rfl, hT, ⟨cur, hF, hcs, htk⟩, hB, hbs⟩ := hrel
      obtain ⟨HT, HF, HCS, HTK, HB⟩ : Hid (wr.heap[gT]? = some (.cells (trCells (likeL l) (.slice (some ⟨gF, 0, none⟩) cnt cnt)).toArray 80 (0, 0))) ∧ Hid (wr.heap[gF]? = some (.cells cur 82 (0, 0))) ∧ Hid (cur.size = cnt * 256) ∧ Hid (cur.toList.take (i * 256) = i8 (((List.range i).map (blkL l)).flatten)) ∧ Hid (Below w.heap.size w wr) := ⟨hT, hF, hcs, htk, hB⟩
      have hTlt : gT < wr.heap.size := heap_lt hT
      have HCF : Hid (∀ w', Below wr.heap.size wr w' → w'.cell? ⟨gT, 4352, none⟩ = some (.slice (some ⟨gF, 0, none⟩) cnt cnt)) := fun w' hw' => (hw'.cell (p := ⟨gT, 4352, none⟩) hTlt).trans (cell_row hT (trCells_at HLL.out))
      clear hT hF hcs htk hB HT2 HF2 HB2
      by_cases hlt : i < cnt
      · have hlt' : (i : Int) < (cnt : Int) := by omega
        have hcapi : ¬ cap = 4353 + i * 256 := by have := HLE.out; omega
        have hl3 : ¬ (4353 + (cnt : Int) * 256 < 4353 + (i : Int) * 256) := by omega
        have hl4 : ((4353 + (i : Int) * 256).toNat) = 4353 + i * 256 := by omega
        have hl5 : ¬ (4353 + (i : Int) * 256 < 0) := by omega
        have hw1' : IntKind.i64.wrap ((i : Int) * 256) = (i : Int) * 256 := IntWalk.i64_in _ (by omega)
        have hw2' : IntKind.i64.wrap (4353 + (i : Int) * 256) = 4353 + (i : Int) * 256 := IntWalk.i64_in _ (by omega)
        go_wp2_with fail
        refine wp_region_bad (fun w' => Below wr.heap.size wr w') [12] (by kernel_rfl) ((Below.refl _ _).drew) (fun hS => ?_)
        have hCF := HCF.out
        refine wpAnyB_pure (i := 0) (v := .pointer (some ⟨gT, 0, none⟩)) rfl (by kernel_rfl) (fun _ _ _ h => h) (Or.inl ⟨by rfl, fun w _ => by go_simp⟩) hS ?_
        simp only [List.getElem_toArray, List.getElem_cons_zero, Act.put, List.setIfInBounds_toArray, List.set_cons_zero, List.set_cons_succ]
        refine wpAnyB_pure (i := 1) (v := .pointer (some ⟨gT, 0, none⟩)) rfl (by kernel_rfl) (fun _ _ _ h => h) (Or.inl ⟨by rfl, fun w _ => by go_simp⟩) hS ?_
        simp only [List.getElem_toArray, List.getElem_cons_succ, List.getElem_cons_zero, Act.put, List.setIfInBounds_toArray, List.set_cons_zero, List.set_cons_succ]
        refine wpAnyB_pure (i := 2) (v := .pointer (some ⟨gT, 4352, none⟩)) rfl (by kernel_rfl) (fun _ _ _ h => h) (Or.inl ⟨by rfl, fun w _ => by go_simp⟩) hS ?_
        simp only [List.getElem_toArray, List.getElem_cons_succ, List.getElem_cons_zero, Act.put, List.setIfInBounds_toArray, List.set_cons_zero, List.set_cons_succ]
        refine wpAnyB_take [3, 5, 6, 12] (i := 3) (v := .slice (some ⟨gF, 0, none⟩) cnt cnt) rfl (by kernel_rfl) (fun _ _ _ h => h) (Or.inl ⟨by rfl, fun w hSw => by have := hCF w hSw; go_simp⟩) hS ?_
        simp only [List.getElem_toArray, List.getElem_cons_succ, List.getElem_cons_zero, Act.put, List.setIfInBounds_toArray, List.set_cons_zero, List.set_cons_succ]
        refine wpAnyB_pure (i := 4) (v := .int .i64 (i : Int)) rfl (by kernel_rfl) (fun _ _ _ h => h) (Or.inl ⟨by rfl, fun w _ => by go_simp⟩) hS ?_
        simp only [List.getElem_toArray, List.getElem_cons_succ, List.getElem_cons_zero, Act.put, List.setIfInBounds_toArray, List.set_cons_zero, List.set_cons_succ]
        refine wpAnyB_pure (i := 5) (v := .pointer (some ⟨gF, i * 256, none⟩)) rfl (by kernel_rfl) (fun _ _ _ h => h) (Or.inl ⟨by rfl, fun w _ => by go_simp⟩) hS ?_
        simp only [List.getElem_toArray, List.getElem_cons_succ, List.getElem_cons_zero, Act.put, List.setIfInBounds_toArray, List.set_cons_zero, List.set_cons_succ]
        refine wpAnyB_pure (i := 6) (v := .slice (some ⟨gF, i * 256, none⟩) 256 256) rfl (by kernel_rfl) (fun _ _ _ h => h) (Or.inl ⟨by rfl, fun w _ => by go_simp⟩) hS ?_
        simp only [List.getElem_toArray, List.getElem_cons_succ, List.getElem_cons_zero, Act.put, List.setIfInBounds_toArray, List.set_cons_zero, List.set_cons_succ]
        refine wpAnyB_pure (i := 7) (v := .slice (some ⟨gs, off, none⟩) l.length cap) rfl (by kernel_rfl) (fun _ _ _ h => h) (Or.inl ⟨by rfl, fun w _ => by go_simp⟩) hS ?_
        simp only [List.getElem_toArray, List.getElem_cons_succ, List.getElem_cons_zero, Act.put, List.setIfInBounds_toArray, List.set_cons_zero, List.set_cons_succ]
        refine wpAnyB_pure (i := 8) (v := .int .i64 (i : Int)) rfl (by kernel_rfl) (fun _ _ _ h => h) (Or.inl ⟨by rfl, fun w _ => by go_simp⟩) hS ?_
        simp only [List.getElem_toArray, List.getElem_cons_succ, List.getElem_cons_zero, Act.put, List.setIfInBounds_toArray, List.set_cons_zero, List.set_cons_succ]
        refine wpAnyB_pure (i := 9) (v := .int .i64 ((i : Int) * 256)) rfl (by kernel_rfl) (fun _ _ _ h => h) (Or.inl ⟨by rfl, fun w _ => by go_simp⟩) hS ?_
        simp only [List.getElem_toArray, List.getElem_cons_succ, List.getElem_cons_zero, Act.put, List.setIfInBounds_toArray, List.set_cons_zero, List.set_cons_succ]
        refine wpAnyB_pure (i := 10) (v := .int .i64 (4353 + (i : Int) * 256)) rfl (by kernel_rfl) (fun _ _ _ h => h) (Or.inl ⟨by rfl, fun w _ => by go_simp⟩) hS ?_
        simp only [List.getElem_toArray, List.getElem_cons_succ, List.getElem_cons_zero, Act.put, List.setIfInBounds_toArray, List.set_cons_zero, List.set_cons_succ]
        refine wpAnyB_pure (i := 11) (v := .slice (some ⟨gs, off + (4353 + i * 256), none⟩) (l.length - (4353 + i * 256)) (cap - (4353 + i * 256))) rfl (by kernel_rfl) (fun _ _ _ h => h) (Or.inl ⟨by rfl, fun w _ => by go_simp⟩) hS ?_
        simp only [List.getElem_toArray, List.getElem_cons_succ, List.getElem_cons_zero, Act.put, List.setIfInBounds_toArray, List.set_cons_zero, List.set_cons_succ]
        refine wpAnyB_last (i := 12) rfl (by kernel_rfl) (fun K hK => ?_)
        clear hCF
        rw [if_pos (by rfl)]
        have hBd : Below w.heap.size w wr.drew := HB.out.drew
        have hFd : wr.drew.heap[gF]? = some (.cells cur 82 (0, 0)) := HF.out
        have hi1 : 256 * (i + 1) ≤ 256 * cnt := Nat.mul_le_mul_left 256 hlt
        have hbl : (blkL l i).length = 256 := blkL_length HLEN.out (by rw [HCN.out]; exact hlt)
        have hli : (i8 (blkL l i)).length = Nat.min (l.length - (4353 + i * 256)) 256 := by
          rw [i8_length, hbl]
          show 256 = min (l.length - (4353 + i * 256)) 256
          have := HLE.out
          omega
        have hrun : ∀ ty, (Builtin.copy_ #[30, 30] ty #[.slice (some ⟨gF, i * 256, none⟩) 256 256, .slice (some ⟨gs, off + (4353 + i * 256), none⟩) (l.length - (4353 + i * 256)) (cap - (4353 + i * 256))]).run Tryd.prog wr.drew = .ok (goInt (i8 (blkL l i)).length) (wr.drew.setRow gF (cur.toList.take (i * 256) ++ i8 (blkL l i) ++ cur.toList.drop (i * 256 + (i8 (blkL l i)).length)).toArray) := fun ty => by
          refine run_copy_row Tryd.prog wr.drew 30 30 ty 5 gF (i * 256) 256 256 ⟨gs, off + (4353 + i * 256), none⟩ _ _ cur 82 (i8 (blkL l i)) Tryd.undBy Tryd.sizeByte hFd hli (fun j u hj => ?_) ?_ (i8_one _)
          · rw [Addr.add_mid, Nat.add_assoc]
            refine HRS.out _ hBd (4353 + i * 256 + j) u ?_
            unfold blkL at hj
            rw [← i8_take, ← i8_drop, List.getElem?_take] at hj
            split at hj
            · rw [List.getElem?_drop, Nat.mul_comm] at hj
              exact hj
            · cases hj
          · rw [i8_length, hbl, HCS.out]; omega
        refine wp_copy_run _ _ 30 30 rfl _ _ _ rfl rfl hrun ?_
        obtain ⟨cur', hcur'⟩ : ∃ cur', cur' = (cur.toList.take (i * 256) ++ i8 (blkL l i) ++ cur.toList.drop (i * 256 + (i8 (blkL l i)).length)).toArray := ⟨_, rfl⟩
        obtain ⟨w3, hw3⟩ : ∃ w3, w3 = wr.drew.setRow gF cur' := ⟨_, rfl⟩
        rw [← hcur', ← hw3]
        have htl : (cur.toList.take (i * 256)).length = i * 256 := by
          have := HCS.out
          rw [List.length_take, Array.length_toList]
          omega
        have HC3 : Hid (cur'.size = cnt * 256) := by
          show _ = _
          have := HCS.out
          rw [hcur', List.size_toArray, List.length_append, List.length_append, htl, List.length_drop, i8_length, hbl, Array.length_toList]
          omega
        have HK3 : Hid (cur'.toList.take ((i + 1) * 256) = i8 (((List.range (i + 1)).map (blkL l)).flatten)) := by
          show _ = _
          rw [hcur', List.toList_toArray, List.take_append_of_le_length (by rw [List.length_append, htl, i8_length, hbl]; omega), List.take_of_length_le (by rw [List.length_append, htl, i8_length, hbl]; omega), HTK.out, List.range_succ, List.map_append, List.flatten_append, i8_append]
          simp
        have hgne : gT ≠ gF := by have := HGF.out; have := HGT.out; omega
        have HT3 : Hid (w3.heap[gT]? = some (.cells (trCells (likeL l) (.slice (some ⟨gF, 0, none⟩) cnt cnt)).toArray 80 (0, 0))) := by show _ = _; rw [hw3, setRow_other _ _ _ _ hgne]; exact HT.out
        have HF3 : Hid (w3.heap[gF]? = some (.cells cur' 82 (0, 0))) := by show _ = _; rw [hw3]; exact setRow_heap _ _ _ _ _ _ hFd
        have HB3 : Hid (Below w.heap.size w w3) := by show Below _ _ _; rw [hw3]; exact hBd.trans ⟨rfl, rfl, rfl, by simp, fun k hk => setRow_other _ _ _ _ (by have := HGF.out; omega)⟩
        have HS3 : Hid (w3.heap.size = wr.heap.size) := by show _ = _; rw [hw3, setRow_size]; rfl
        clear hw3 hcur' htl hrun hli hFd hBd hS
        simp only [Act.put, List.setIfInBounds_toArray]
        refine hK.out _ _ ?_
        clear hK K
        refine wpAnyB_done (by kernel_rfl) ?_ _
        refine NoPanic.normal ?_
        go_wp2
        go_roundw
        case rel => exact ⟨i + 1, by omega, by go_num, HT3.out, ⟨cur', HF3.out, HC3.out, HK3.out⟩, HB3.out, by have := HS3.out; omega⟩
        case measure => simp [intOf]; omega
      · obtain rfl : i = cnt := by omega
        have hlt' : ¬ ((i : Int) < (i : Int)) := by omega
        have hfl : (firstL l).length = i := by rw [firstL_length, HCN.out]
        have HTR : Hid (TrieAt wr.heap.size wr (.pointer (some ⟨gT, 0, none⟩)) (likeL l) (firstL l)) := by
          refine ⟨gT, gF, i, rfl, hTlt, heap_lt HF.out, by rw [hfl]; exact HT.out, fun j u hj => ?_, by omega⟩
          rw [Nat.zero_add, cell_of_row _ _ j _ _ _ HF.out]
          unfold cellsBl firstL at hj
          rw [HCN.out, ← HTK.out, List.getElem?_take] at hj
          split at hj
          · simpa using hj
          · cases hj
        have HBL : Hid (ByL (likeL l)) := (hby.drop 1).take 4352
        have HFB : Hid (∀ b ∈ firstL l, IsB b) := firstL_isB HLEN.out hby
        clear hfl
        go_wp2_with fail
        refine (counted_any _ _ _ wr HTR.out HLL.out HBL.out).mono ?_
        rintro e w3 ⟨rfl, hB3⟩
        have HTR3 : Hid (TrieAt w3.heap.size w3 (.pointer (some ⟨gT, 0, none⟩)) (likeL l) (firstL l)) := (HTR.out.below hB3).mono hB3.size
        have HB3 : Hid (Below w.heap.size w w3) := HB.out.trans (hB3.mono HB.out.size)
        clear hB3
        by_cases q1 : cntFrom 0 (likeL l) = some ((firstL l).length : Int)
        · have d1 : decide (cntFrom 0 (likeL l) = some ((firstL l).length : Int)) = true := by simpa using q1
          rw [d1]
          clear d1
          go_wp2_with fail
          refine (unlike_any _ _ _ w3 HTR3.out HLL.out HFB.out (by rw [firstL_length, HCN.out]; exact hc256)).mono ?_
          rintro e w4 ⟨rfl, hB4⟩
          have HTR4 : Hid (TrieAt w4.heap.size w4 (.pointer (some ⟨gT, 0, none⟩)) (likeL l) (firstL l)) := (HTR3.out.below hB4).mono hB4.size
          have HB4 : Hid (Below w.heap.size w w4) := HB3.out.trans (hB4.mono HB3.out.size)
          clear hB4
          by_cases q2 : (firstsOf (firstL l)).length = (firstL l).length
          · have d2 : decide ((firstsOf (firstL l)).length = (firstL l).length) = true := by simpa using q2
            rw [d2]
            have e0 : er = 0 := by
              rw [HER.out]; unfold errL
              rw [if_pos (okLb_iff.2 ⟨HLEN.out, by rw [q1, firstL_length], by rw [q2, firstL_length]⟩)]
            subst e0
            clear d2 q1 q2
            go_wp2
            go_ret2
            first | exact ⟨_, rfl, fun h => absurd rfl h, fun _ => HTR4.out, HB4.out⟩ | exact ⟨_, rfl, HTR4.out, HB4.out⟩
          · have d2 : decide ((firstsOf (firstL l)).length = (firstL l).length) = false := by simpa using q2
            rw [d2]
            have e2 : er = 2 := by
              rw [HER.out]; unfold errL
              rw [if_neg (by rw [okLb_iff]; exact fun z => q2 (by rw [z.2.2, firstL_length]))]
            subst e2
            clear d2 q1 q2
            go_wp2
            go_ret2
            first | exact ⟨_, rfl, fun _ => rfl, fun h => by omega, HB4.out⟩ | exact ⟨_, rfl, rfl, HB4.out⟩
        · have d1 : decide (cntFrom 0 (likeL l) = some ((firstL l).length : Int)) = false := by simpa using q1
          rw [d1]
          have e2 : er = 2 := by
            rw [HER.out]; unfold errL
            rw [if_neg (by rw [okLb_iff]; exact fun z => q1 (by rw [z.2.1, firstL_length]))]
          subst e2
          clear d1 q1
          go_wp2
          go_ret2
          first | exact ⟨_, rfl, fun _ => rfl, fun h => by omega, HB3.out⟩ | exact ⟨_, rfl, rfl, HB3.out⟩
  · have e2 : er = 2 := by
      rw [HER.out]; unfold errL; rw [if_neg (by rw [okLb_iff]; exact fun q => hlen (by rw [← HCN.out]; exact q.1.2))]
    subst e2
    have hl' : ¬ ((l.length : Int) = 4353 + (cnt : Int) * 256) := by omega
    go_enter Tryd.func32, Tryd.ntmps32
    go_wp2
    go_ret2
    first | exact ⟨_, rfl, fun _ => rfl, fun h => by omega, Below.refl _ _⟩ | exact ⟨_, rfl, rfl, Below.refl _ _⟩
end Go.Proofs.YtpknmpgbaccffaaDoor
