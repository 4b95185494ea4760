/-
  trie.draft.number: where a block stands in the draft.
-/
import Derived.Test.YtmknifnhcgdkaaaX20
namespace Go.Proofs.Ytmknifnhcgdkaaa.S3
open Go.RowKit
set_option linter.unusedVariables false

theorem drCells_at {like : List Nat} {v : Value} {gm : Nat} (hl : like.length = 4352) : (drCells like v gm)[4352]? = some v ∧ (drCells like v gm)[4353]? = some (.map (some gm)) := by
  unfold drCells
  constructor
  · rw [List.getElem?_append_right (by simp; omega)]
    simp [hl]
  · rw [List.getElem?_append_right (by simp; omega)]
    simp [hl]
theorem drCells_like {like : List Nat} {v : Value} {gm i : Nat} (hl : i < like.length) : (drCells like v gm)[i]? = some (.int .i64 (like[i] : Nat)) := by
  unfold drCells
  rw [List.getElem?_append_left (by simpa using hl)]
  simp [hl]
theorem drCells_set {like : List Nat} {v v' : Value} {gm : Nat} (hl : like.length = 4352) : (drCells like v gm).set 4352 v' = drCells like v' gm := by
  unfold drCells
  rw [List.set_append_right _ _ (by simp; omega)]
  simp [hl]
theorem drCells_setLike {like : List Nat} {v : Value} {gm i k : Nat} (hl : i < like.length) : (drCells like v gm).set i (.int .i64 (k : Int)) = drCells (like.set i k) v gm := by
  unfold drCells
  rw [List.set_append_left _ _ (by simpa using hl), List.map_set]
theorem cell_row {w : World} {g j : Nat} {cs : List Value} {t : TypeId} {u : Value} (hg : w.heap[g]? = some (.cells cs.toArray t (0, 0))) (hu : cs[j]? = some u) : w.cell? ⟨g, j, none⟩ = some u := by
  rw [cell_of_row w g j _ t (0, 0) hg]; simpa using hu
theorem heap_lt {w : World} {g : Nat} {o : Obj} (h : w.heap[g]? = some o) : g < w.heap.size := (Array.getElem?_eq_some_iff.1 h).1
theorem heap_set_row {w : World} {g j : Nat} {cs cs' : List Value} {t : TypeId} {u : Value} (hg : w.heap[g]? = some (.cells cs.toArray t (0, 0))) (h : cs.set j u = cs') : (w.setCell ⟨g, j, none⟩ u).heap[g]? = some (.cells cs'.toArray t (0, 0)) := by
  rw [heap_setCell_same _ _ _ _ _ _ hg, ← h]; simp
theorem slice_of_row {w : World} {base e size n : Nat} {v : Value} {xs : List Value} (h : w.ownsRow base e size v n xs) : ∃ a cap, v = .slice a n cap := by
  rcases h.2 with ⟨rfl, h0⟩ | ⟨g, cap, cur, rfl, _⟩
  · exact ⟨none, 0, by rw [h0]⟩
  · exact ⟨_, cap, rfl⟩
/-- Two blocks of unlike types are two. -/
theorem own_ne {w : World} {base e size n : Nat} {v : Value} {xs : List Value} {gd : Nat} {C : Array Value} {t : TypeId} (h : w.ownsRow base e size v n xs) (hg : w.heap[gd]? = some (.cells C t (0, 0))) (ht : e ≠ t) : v.ownBlock ≠ some gd := by
  intro q
  rcases h.2 with ⟨rfl, h0⟩ | ⟨g, cap, cur, rfl, _, hgg, _⟩
  · cases q
  · have : g = gd := by simpa [Value.ownBlock] using q
    rw [this, hg] at hgg
    simp at hgg
    exact ht hgg.2.symm
theorem map_ne {w : World} {P : Program} {k : TypeId} {R : Value → Option (DataW Unit × List MemPlace)} {b n gd : Nat} {D : DataW Unit} {C : Array Value} {t : TypeId} (h : w.ownsMap P k R b n D) (hg : w.heap[gd]? = some (.cells C t (0, 0))) : b ≠ gd := by
  obtain ⟨es, clock, hb, _⟩ := h
  intro q
  rw [q, hg] at hb
  cases hb
theorem own_ne_map {w : World} {P : Program} {k : TypeId} {R : Value → Option (DataW Unit × List MemPlace)} {b n : Nat} {D : DataW Unit} {base e size m : Nat} {v : Value} {xs : List Value} (h : w.ownsMap P k R b n D) (ho : w.ownsRow base e size v m xs) : v.ownBlock ≠ some b := by
  intro q
  obtain ⟨es, clock, hb, _⟩ := h
  rcases ho.2 with ⟨rfl, h0⟩ | ⟨g, cap, cur, rfl, _, hgg, _⟩
  · cases q
  · have : g = b := by simpa [Value.ownBlock] using q
    rw [this, hb] at hgg
    cases hgg
theorem ownsMap_below {w w' : World} {P : Program} {k : TypeId} {R : Value → Option (DataW Unit × List MemPlace)} {b n : Nat} {D : DataW Unit} (h : w.ownsMap P k R b n D) (hb : Below w.heap.size w w') : w'.ownsMap P k R b n D :=
  h.kept (row := none) ⟨hb.os, hb.tape, hb.output, hb.size, fun k hk _ => hb.block k hk⟩ (by simp)
theorem ownsRow_below {w w' : World} {base e size n : Nat} {v : Value} {xs : List Value} (h : w.ownsRow base e size v n xs) (hb : Below w.heap.size w w') : w'.ownsRow base e size v n xs :=
  World.ownsRow.kept (row := none) h ⟨hb.os, hb.tape, hb.output, hb.size, fun k hk _ => hb.block k hk⟩ (by cases v.ownBlock <;> simp)
theorem heap_new' (w : World) (o : Obj) : (w.alloc o).heap[w.heap.size]? = some o := heap_alloc_new w o
theorem rangeAt_row {w : World} {g : Nat} {cs : List Value} {t : TypeId} (hg : w.heap[g]? = some (.cells cs.toArray t (0, 0))) : w.rangeAt g 0 cs := fun j v hj => by
  rw [Nat.zero_add]; exact cell_row hg hj

/-- Cells of other types than the draft's and the blocks' are as they were. -/
def Other (w w' : World) : Prop := ∀ (k : Nat) (C : Array Value) (t : TypeId) (fr : Nat × Nat), w.heap[k]? = some (Obj.cells C t fr) → t ≠ 116 → t ≠ 93 → w'.heap[k]? = w.heap[k]?
theorem Other.refl (w : World) : Other w w := fun _ _ _ _ _ _ _ => rfl
theorem Other.trans {a b c : World} (h : Other a b) (k : Other b c) : Other a c := fun i C t fr hi h1 h2 => by
  have e := h i C t fr hi h1 h2
  rw [← e]
  exact k i C t fr (by rw [e]; exact hi) h1 h2
theorem Other.below {w w' : World} (h : Below w.heap.size w w') : Other w w' := fun i C t fr hi _ _ => h.block i (heap_lt hi)
theorem Other.map {w w' : World} {P : Program} {k : TypeId} {R : Value → Option (DataW Unit × List MemPlace)} {b n : Nat} {D : DataW Unit} (h : w.ownsMap P k R b n D) (hg : w.grownBy w' (some b)) : Other w w' := fun i C t fr hi _ _ => by
  refine hg.block i (heap_lt hi) (fun e => ?_)
  have : i = b := by simpa using e
  obtain ⟨es, clock, hb, _⟩ := h
  rw [this, hb] at hi
  cases hi
theorem Other.row {w w' : World} {base size n : Nat} {v : Value} {xs : List Value} (h : w.ownsRow base 93 size v n xs) (hg : w.grownBy w' v.ownBlock) : Other w w' := fun i C t fr hi _ h2 => by
  refine hg.block i (heap_lt hi) (fun e => ?_)
  rcases h.2 with ⟨rfl, h0⟩ | ⟨g, cap, cur, rfl, _, hgg, _⟩
  · cases e
  · have : i = g := by simpa [Value.ownBlock] using e
    rw [this, hgg] at hi
    simp at hi
    exact h2 hi.2.1.symm
theorem Other.setCell {w : World} {gd o : Nat} {C0 : Array Value} {t0 : TypeId} {fr0 : Nat × Nat} {u : Value} (h : w.heap[gd]? = some (.cells C0 t0 fr0)) (ht : t0 = 116 ∨ t0 = 93) : Other w (w.setCell ⟨gd, o, none⟩ u) := fun i C t fr hi h1 h2 => by
  refine heap_setCell_other _ _ _ _ (fun e => ?_)
  have e' : i = gd := e
  rw [e', h] at hi
  simp at hi
  rcases ht with q | q <;> rw [q] at hi
  · exact h1 hi.2.1.symm
  · exact h2 hi.2.1.symm

set_option maxRecDepth 100000 in
set_option maxHeartbeats 4000000 in
theorem number_any (n gd : Nat) (like : List Nat) (bl : List (List Int)) (b : List Int) (w : World) (h : DrAt n w gd like bl) (hb : IsB b) (hlen : bl.length < 1000000000) (hnw : n ≤ w.heap.size) :
    Calls Try.prog 63 #[.pointer (some ⟨gd, 0, none⟩), .agg (i8 b).toArray] w fun e w' => e = .returned (.int .i64 ((addF bl b).idxOf b : Nat)) ∧ DrAt n w' gd like (addF bl b) ∧ Below n w w' ∧ Other w w' := by
  obtain ⟨gm, v, D, hgd, hgm, hlk, hnd, hblB, hg, hrow, hmap, hkn⟩ := h
  obtain ⟨a, cap, rfl⟩ := slice_of_row hrow
  obtain ⟨iB, hiB, hzB0, hzB1, hzB2⟩ := info_parts Try.infoBlock
  have hgdlt := heap_lt hg
  have HI : Hid ((Try.prog.info? 93).map (·.size) = some (i8 b).length) := by show _ = _; rw [i8_length, hb.1]; exact Try.sizeBlock
  obtain ⟨c, hc⟩ : ∃ c : Int, D.atKey (kB b) (.lit (.int .i64 0)) = .lit (.int .i64 c) := by
    by_cases q : b ∈ bl
    · exact ⟨_, hkn.2 b q⟩
    · have : Maps.has D (kB b) = false := by
        cases z : Maps.has D (kB b) with
        | false => rfl
        | true => exact absurd ((hkn.1 b hb).1 z) q
      exact ⟨0, Maps.atKey_of_not_has this _⟩
  obtain ⟨wb, hwb⟩ : ∃ wb, wb = w.alloc (.cells (i8 b).toArray 93) := ⟨_, rfl⟩
  have hBb : Below w.heap.size w wb := by rw [hwb]; exact (Below.refl _ _).alloc (Nat.le_refl _) _
  have hnb : wb.heap[w.heap.size]? = some (.cells (i8 b).toArray 93 (0, 0)) := by rw [hwb]; exact heap_new' w _
  have hsb : wb.heap.size = w.heap.size + 1 := by rw [hwb]; simp
  have hgb : wb.heap[gd]? = some (.cells (drCells like (.slice a bl.length cap) gm).toArray 116 (0, 0)) := (hBb.block gd hgdlt).trans hg
  have hmb : wb.ownsMap Try.prog 93 (plainElem Try.prog 3) gm bl.length D := ownsMap_below hmap hBb
  have hrb : wb.ownsRow n 93 256 (.slice a bl.length cap) bl.length (cellsBl bl) := ownsRow_below hrow hBb
  have HCM : Hid (∀ w', Below wb.heap.size wb w' → w'.cell? ⟨gd, 4353, none⟩ = some (.map (some gm))) := fun w' hw' => (hw'.cell (p := ⟨gd, 4353, none⟩) (by show gd < _; omega)).trans (cell_row hgb (drCells_at hlk).2)
  have HCV : Hid (∀ w', Below wb.heap.size wb w' → w'.cell? ⟨gd, 4352, none⟩ = some (.slice a bl.length cap)) := fun w' hw' => (hw'.cell (p := ⟨gd, 4352, none⟩) (by show gd < _; omega)).trans (cell_row hgb (drCells_at hlk).1)
  have HRB : Hid (∀ w', Below wb.heap.size wb w' → w'.rangeAt w.heap.size 0 (i8 b)) := fun w' hw' => rangeAt_row ((hw'.block w.heap.size (by omega)).trans hnb)
  have HLK : Hid (∀ w', Below wb.heap.size wb w' → (Instr.lookup 113 (.map (some gm)) (.agg (i8 b).toArray) true).run Try.prog w' = .ok (.tuple #[.int .i64 c, .bool (Maps.has D (kB b))]) w') := fun w' hw' =>
    look_run (ownsMap_below hmb hw') Try.keyLawB Try.undM Try.undI (Try.zeroInt _) (Try.keyBlock hb) hc
  have HD0 : Hid (Below wb.heap.size wb wb.drew) := (Below.refl _ _).drew
  have HH : Hid (Maps.has D (kB b) = true ↔ b ∈ bl) := hkn.1 b hb
  have HA : Hid (b ∈ bl → c = (bl.idxOf b : Nat)) := fun q => by
    have := hkn.2 b q
    rw [hc] at this
    simpa using this
  obtain ⟨HWB, HBB, HGB, HMB, HRW, HKN, HC⟩ : Hid (wb = w.alloc (.cells (i8 b).toArray 93)) ∧ Hid (Below w.heap.size w wb) ∧ Hid (wb.heap[gd]? = some (.cells (drCells like (.slice a bl.length cap) gm).toArray 116 (0, 0))) ∧ Hid (wb.ownsMap Try.prog 93 (plainElem Try.prog 3) gm bl.length D) ∧ Hid (wb.ownsRow n 93 256 (.slice a bl.length cap) bl.length (cellsBl bl)) ∧ Hid (Knows D bl) ∧ Hid (D.atKey (kB b) (.lit (.int .i64 0)) = .lit (.int .i64 c)) := ⟨hwb, hBb, hgb, hmb, hrb, hkn, hc⟩
  obtain ⟨res, hres⟩ : ∃ res : Nat, res = (addF bl b).idxOf b := ⟨_, rfl⟩
  obtain ⟨bl', hbl'⟩ : ∃ bl', bl' = addF bl b := ⟨_, rfl⟩
  rw [← hres, ← hbl']
  obtain ⟨HRES, HBL⟩ : Hid (res = (addF bl b).idxOf b) ∧ Hid (bl' = addF bl b) := ⟨hres, hbl'⟩
  obtain ⟨HLL, HBLB, HND⟩ : Hid (like.length = 4352) ∧ Hid (∀ b ∈ bl, IsB b) ∧ Hid bl.Nodup := ⟨hlk, hblB, hnd⟩
  clear hwb hBb hnb hgb hmb hrb hmap hrow hkn hc hg hres hbl' hlk hblB hnd
  go_enter Try.func63, Try.ntmps63
  go_wp2_with fail
  rw [← HWB.out]
  refine wp_region_bad (fun w' => Below wb.heap.size wb w') [] (by kernel_rfl) HD0.out (fun hS => ?_)
  have hCM := HCM.out
  have hRB := HRB.out
  have hLK := HLK.out
  refine wpAnyB_pure (i := 0) (v := .pointer (some ⟨gd, 0, none⟩)) rfl (by kernel_rfl) (fun _ _ _ h => h) (Or.inl ⟨by rfl, fun w _ => by go_simp⟩) hS ?_
  simp only [List.getElem_toArray, List.getElem_cons_zero, Act.put, List.setIfInBounds_toArray, List.set_cons_zero, List.set_cons_succ]
  refine wpAnyB_pure (i := 1) (v := .pointer (some ⟨gd, 0, none⟩)) rfl (by kernel_rfl) (fun _ _ _ h => h) (Or.inl ⟨by rfl, fun w _ => by go_simp⟩) hS ?_
  simp only [List.getElem_toArray, List.getElem_cons_succ, List.getElem_cons_zero, Act.put, List.setIfInBounds_toArray, List.set_cons_zero, List.set_cons_succ]
  refine wpAnyB_pure (i := 2) (v := .pointer (some ⟨gd, 4353, none⟩)) rfl (by kernel_rfl) (fun _ _ _ h => h) (Or.inl ⟨by rfl, fun w _ => by go_simp⟩) hS ?_
  simp only [List.getElem_toArray, List.getElem_cons_succ, List.getElem_cons_zero, Act.put, List.setIfInBounds_toArray, List.set_cons_zero, List.set_cons_succ]
  refine wpAnyB_take [] (i := 3) (v := .map (some gm)) rfl (by kernel_rfl) (fun _ _ _ h => h) (Or.inl ⟨by rfl, fun w hSw => by have := hCM w hSw; go_simp⟩) hS ?_
  simp only [List.getElem_toArray, List.getElem_cons_succ, List.getElem_cons_zero, Act.put, List.setIfInBounds_toArray, List.set_cons_zero, List.set_cons_succ]
  refine wpAnyB_take [] (i := 4) (v := .agg (i8 b).toArray) rfl (by kernel_rfl) (fun _ _ _ h => h) (yieldsIf_load_mid (by rfl) 93 _ rfl w.heap.size 0 rfl (i8 b) _ (fun w' hw' => hRB w' hw') Try.undB rfl HI.out) hS ?_
  simp only [List.getElem_toArray, List.getElem_cons_succ, List.getElem_cons_zero, Act.put, List.setIfInBounds_toArray, List.set_cons_zero, List.set_cons_succ]
  refine wpAnyB_take [] (i := 5) (v := .tuple #[.int .i64 c, .bool (Maps.has D (kB b))]) rfl (by kernel_rfl) (fun _ _ _ h => h) (yields_lookup (by rfl) rfl rfl rfl (fun w' hw' => hLK w' hw')) hS ?_
  simp only [List.getElem_toArray, List.getElem_cons_succ, List.getElem_cons_zero, Act.put, List.setIfInBounds_toArray, List.set_cons_zero, List.set_cons_succ]
  refine wpAnyB_pure (i := 6) (v := .tuple #[.int .i64 c, .bool (Maps.has D (kB b))]) rfl (by kernel_rfl) (fun _ _ _ h => h) (Or.inl ⟨by rfl, fun w _ => by go_simp⟩) hS ?_
  simp only [List.getElem_toArray, List.getElem_cons_succ, List.getElem_cons_zero, Act.put, List.setIfInBounds_toArray, List.set_cons_zero, List.set_cons_succ]
  refine wpAnyB_pure (i := 7) (v := .int .i64 c) rfl (by kernel_rfl) (fun _ _ _ h => h) (Or.inl ⟨by rfl, fun w _ => by go_simp⟩) hS ?_
  simp only [List.getElem_toArray, List.getElem_cons_succ, List.getElem_cons_zero, Act.put, List.setIfInBounds_toArray, List.set_cons_zero, List.set_cons_succ]
  refine wpAnyB_pure (i := 8) (v := .bool (Maps.has D (kB b))) rfl (by kernel_rfl) (fun _ _ _ h => h) (Or.inl ⟨by rfl, fun w _ => by go_simp⟩) hS ?_
  simp only [List.getElem_toArray, List.getElem_cons_succ, List.getElem_cons_zero, Act.put, List.setIfInBounds_toArray, List.set_cons_zero, List.set_cons_succ]
  refine wpAnyB_pure (i := 9) (v := .int .i64 c) rfl (by kernel_rfl) (fun _ _ _ h => h) (Or.inl ⟨by rfl, fun w _ => by go_simp⟩) hS ?_
  simp only [List.getElem_toArray, List.getElem_cons_succ, List.getElem_cons_zero, Act.put, List.setIfInBounds_toArray, List.set_cons_zero, List.set_cons_succ]
  refine wpAnyB_pure (i := 10) (v := .bool (Maps.has D (kB b))) rfl (by kernel_rfl) (fun _ _ _ h => h) (Or.inl ⟨by rfl, fun w _ => by go_simp⟩) hS ?_
  simp only [List.getElem_toArray, List.getElem_cons_succ, List.getElem_cons_zero, Act.put, List.setIfInBounds_toArray, List.set_cons_zero, List.set_cons_succ]
  refine wpAnyB_done (by kernel_rfl) ?_ _
  refine NoPanic.normal ?_
  by_cases q : b ∈ bl
  · have hh : Maps.has D (kB b) = true := HH.out.2 q
    have hcq : c = (res : Int) := by rw [HA.out q, HRES.out, addF_of_mem q]
    subst hcq
    have HE : Hid (bl' = bl) := by show _ = _; rw [HBL.out, addF_of_mem q]
    clear hLK HLK HA HC
    rw [hh]
    go_wp2
    go_ret
    refine ⟨rfl, ?_, ?_, ?_⟩
    · rw [HE.out]
      exact ⟨gm, _, D, hgd, hgm, HLL.out, HND.out, HBLB.out, HGB.out, HRW.out, HMB.out, HKN.out⟩
    · exact (HBB.out.mono hnw).drew
    · exact Other.below HBB.out.drew
  · have hh : Maps.has D (kB b) = false := by
      cases z : Maps.has D (kB b) with
      | false => rfl
      | true => exact absurd (HH.out.1 z) q
    have HR : Hid (res = bl.length) := by show _ = _; rw [HRES.out, idx_addF q]
    have HE : Hid (bl' = bl ++ [b]) := by show _ = _; rw [HBL.out, addF_new q]
    have HQ : Hid (¬ b ∈ bl) := q
    clear hLK HLK HA HC q HH
    rw [hh]
    have hCV := HCV.out wb.drew hS
    go_wp2_with fail
    clear hCV
    refine wp_region_bad (fun w' => Below wb.heap.size wb w') [6] (by kernel_rfl) (HD0.out.drew) (fun hS => ?_)
    refine wpAnyB_pure (i := 0) (v := .pointer (some ⟨gd, 0, none⟩)) rfl (by kernel_rfl) (fun _ _ _ h => h) (Or.inl ⟨by rfl, fun w _ => by go_simp⟩) hS ?_
    simp only [List.getElem_toArray, List.getElem_cons_zero, Act.put, List.setIfInBounds_toArray, List.set_cons_zero, List.set_cons_succ]
    refine wpAnyB_pure (i := 1) (v := .pointer (some ⟨gd, 0, none⟩)) rfl (by kernel_rfl) (fun _ _ _ h => h) (Or.inl ⟨by rfl, fun w _ => by go_simp⟩) hS ?_
    simp only [List.getElem_toArray, List.getElem_cons_succ, List.getElem_cons_zero, Act.put, List.setIfInBounds_toArray, List.set_cons_zero, List.set_cons_succ]
    refine wpAnyB_pure (i := 2) (v := .pointer (some ⟨gd, 4353, none⟩)) rfl (by kernel_rfl) (fun _ _ _ h => h) (Or.inl ⟨by rfl, fun w _ => by go_simp⟩) hS ?_
    simp only [List.getElem_toArray, List.getElem_cons_succ, List.getElem_cons_zero, Act.put, List.setIfInBounds_toArray, List.set_cons_zero, List.set_cons_succ]
    refine wpAnyB_pure (i := 5) (v := .int .i64 (bl.length : Int)) rfl (by kernel_rfl) (fun _ _ _ h => h) (Or.inl ⟨by rfl, fun w _ => by go_simp⟩) hS ?_
    simp only [List.getElem_toArray, List.getElem_cons_succ, List.getElem_cons_zero, Act.put, List.setIfInBounds_toArray, List.set_cons_zero, List.set_cons_succ]
    refine wpAnyB_take [3, 6] (i := 3) (v := .map (some gm)) rfl (by kernel_rfl) (fun _ _ _ h => h) (Or.inl ⟨by rfl, fun w hSw => by have := hCM w hSw; go_simp⟩) hS ?_
    simp only [List.getElem_toArray, List.getElem_cons_succ, List.getElem_cons_zero, Act.put, List.setIfInBounds_toArray, List.set_cons_zero, List.set_cons_succ]
    refine wpAnyB_take [4, 6] (i := 4) (v := .agg (i8 b).toArray) rfl (by kernel_rfl) (fun _ _ _ h => h) (yieldsIf_load_mid (by rfl) 93 _ rfl w.heap.size 0 rfl (i8 b) _ (fun w' hw' => hRB w' hw') Try.undB rfl HI.out) hS ?_
    simp only [List.getElem_toArray, List.getElem_cons_succ, List.getElem_cons_zero, Act.put, List.setIfInBounds_toArray, List.set_cons_zero, List.set_cons_succ]
    refine wpAnyB_last (i := 6) rfl (by kernel_rfl) (fun K hK => ?_)
    rw [if_pos (by rfl)]
    obtain ⟨w1, hrun, hm1, hg1⟩ := (ownsMap_below HMB.out hS).update Try.keyLawB Try.undM (by unfold maxLen; omega) (Try.keyBlock hb) (plainElem_int Try.undI (WalkArith.wf_i64 (by omega)) : plainElem Try.prog 3 (.int .i64 (bl.length : Int)) = some (.lit (.int .i64 (bl.length : Int)), []))
    refine wp_mapUpdate_run 113 _ _ _ rfl _ _ _ rfl rfl rfl hrun ?_
    simp only [Act.put]
    refine hK.out _ _ ?_
    refine wpAnyB_done (by kernel_rfl) ?_ _
    refine NoPanic.normal ?_
    have hs1 := hg1.size
    have hn1 : w1.heap[w.heap.size]? = some (.cells (i8 b).toArray 93 (0, 0)) := by
      have e1 : wb.heap[w.heap.size]? = some (.cells (i8 b).toArray 93 (0, 0)) := by rw [HWB.out]; exact heap_new' w _
      have e2 := map_ne (gd := w.heap.size) HMB.out e1
      exact (hg1.block _ (by show _ < wb.heap.size; omega) (by simp; omega)).trans e1
    have hgd1 : w1.heap[gd]? = some (.cells (drCells like (.slice a bl.length cap) gm).toArray 116 (0, 0)) := by
      have e2 := map_ne HMB.out HGB.out
      exact (hg1.block _ (by show _ < wb.heap.size; omega) (by simp; omega)).trans HGB.out
    have hrw1 : w1.ownsRow n 93 256 (.slice a bl.length cap) bl.length (cellsBl bl) := by
      have e2 := own_ne_map HMB.out HRW.out
      exact (ownsRow_below HRW.out hS).kept hg1 (.inr e2)
    have hB1 : Below n w w1 := by
      refine ((HBB.out.mono hnw).drew.drew).grown hg1 (by show n ≤ wb.heap.size; omega) (fun k hk => ?_)
      have : gm = k := by simpa using hk
      omega
    have hsz1 : wb.heap.size ≤ w1.heap.size := hs1
    have HO1 : Hid (Other w w1) := (Other.below HBB.out.drew.drew).trans (Other.map (ownsMap_below HMB.out hS) hg1)
    have HCV1 : Hid (∀ w', Below w1.heap.size w1 w' → w'.cell? ⟨gd, 4352, none⟩ = some (.slice a bl.length cap)) := fun w' hw' => (hw'.cell (p := ⟨gd, 4352, none⟩) (by show gd < _; omega)).trans (cell_row hgd1 (drCells_at HLL.out).1)
    have HRB1 : Hid (∀ w', Below w1.heap.size w1 w' → w'.rangeAt w.heap.size 0 (i8 b)) := fun w' hw' => rangeAt_row ((hw'.block w.heap.size (by omega)).trans hn1)
    obtain ⟨HG1, HR1, HB1, HM1⟩ : Hid (w1.heap[gd]? = some (.cells (drCells like (.slice a bl.length cap) gm).toArray 116 (0, 0))) ∧ Hid (w1.ownsRow n 93 256 (.slice a bl.length cap) bl.length (cellsBl bl)) ∧ Hid (Below n w w1) ∧ Hid (w1.ownsMap Try.prog 93 (plainElem Try.prog 3) gm (bl.length + 1) (D.put (kB b) (.lit (.int .i64 (bl.length : Int))))) := ⟨hgd1, hrw1, hB1, hm1⟩
    have HIM : Hid (Maps.IsMap D) := HMB.out.isMap
    clear hrun hm1 hg1 hK hn1 hgd1 hrw1 hB1 hCM hRB hS hs1
    go_wp2_with fail
    refine wp_region_bad (fun w' => Below w1.heap.size w1 w') [7, 10] (by kernel_rfl) ((Below.refl _ _).drew) (fun hS => ?_)
    have hCV1 := HCV1.out
    have hRB1 := HRB1.out
    refine wpAnyB_pure (i := 0) (v := .pointer (some ⟨gd, 0, none⟩)) rfl (by kernel_rfl) (fun _ _ _ h => h) (Or.inl ⟨by rfl, fun w _ => by go_simp⟩) hS ?_
    simp only [List.getElem_toArray, List.getElem_cons_zero, Act.put, List.setIfInBounds_toArray, List.set_cons_zero, List.set_cons_succ]
    refine wpAnyB_pure (i := 1) (v := .pointer (some ⟨gd, 0, none⟩)) rfl (by kernel_rfl) (fun _ _ _ h => h) (Or.inl ⟨by rfl, fun w _ => by go_simp⟩) hS ?_
    simp only [List.getElem_toArray, List.getElem_cons_succ, List.getElem_cons_zero, Act.put, List.setIfInBounds_toArray, List.set_cons_zero, List.set_cons_succ]
    refine wpAnyB_pure (i := 2) (v := .pointer (some ⟨gd, 0, none⟩)) rfl (by kernel_rfl) (fun _ _ _ h => h) (Or.inl ⟨by rfl, fun w _ => by go_simp⟩) hS ?_
    simp only [List.getElem_toArray, List.getElem_cons_succ, List.getElem_cons_zero, Act.put, List.setIfInBounds_toArray, List.set_cons_zero, List.set_cons_succ]
    refine wpAnyB_pure (i := 3) (v := .pointer (some ⟨gd, 4352, none⟩)) rfl (by kernel_rfl) (fun _ _ _ h => h) (Or.inl ⟨by rfl, fun w _ => by go_simp⟩) hS ?_
    simp only [List.getElem_toArray, List.getElem_cons_succ, List.getElem_cons_zero, Act.put, List.setIfInBounds_toArray, List.set_cons_zero, List.set_cons_succ]
    refine wpAnyB_take [4, 7, 10] (i := 4) (v := .slice a bl.length cap) rfl (by kernel_rfl) (fun _ _ _ h => h) (Or.inl ⟨by rfl, fun w hSw => by have := hCV1 w hSw; go_simp⟩) hS ?_
    simp only [List.getElem_toArray, List.getElem_cons_succ, List.getElem_cons_zero, Act.put, List.setIfInBounds_toArray, List.set_cons_zero, List.set_cons_succ]
    refine wpAnyB_take [5, 6, 7, 10] (i := 5) (v := .agg (i8 b).toArray) rfl (by kernel_rfl) (fun _ _ _ h => h) (yieldsIf_load_mid (by rfl) 93 _ rfl w.heap.size 0 rfl (i8 b) _ (fun w' hw' => hRB1 w' hw') Try.undB rfl HI.out) hS ?_
    simp only [List.getElem_toArray, List.getElem_cons_succ, List.getElem_cons_zero, Act.put, List.setIfInBounds_toArray, List.set_cons_zero, List.set_cons_succ]
    refine wpAnyB_one (i := 6) rfl (by kernel_rfl) (fun K hK => ?_)
    rw [if_pos (by rfl)]
    refine wp_buildSlice_run 95 _ rfl (.agg (i8 b).toArray) _ rfl (run_buildSlice_one w1.drew (i8 b).toArray (i8 zeroB).toArray Try.undBs hiB (by rw [hzB1, List.size_toArray, i8_length, hb.1]) (by rw [hzB0, i8_zeroB]) (by simp [i8_length, zeroB_length, hb.1]) (by simp [i8_length, hb.1]) (by simp [i8_length, hb.1])) ?_
    simp only [Act.put, List.setIfInBounds_toArray]
    refine hK.out _ _ (hS.alloc (by show w1.heap.size ≤ w1.heap.size; omega) _) ?_
    clear hK K
    obtain ⟨w2, hw2⟩ : ∃ w2, w2 = w1.drew.alloc (.cells (i8 b).toArray 93) := ⟨_, rfl⟩
    have hS2 : Below w1.heap.size w1 w2 := by rw [hw2]; exact hS.alloc (by show w1.heap.size ≤ w1.heap.size; omega) _
    have hs2 : w2.heap.size = w1.heap.size + 1 := by rw [hw2]; simp
    have hnew : w2.heap[w1.heap.size]? = some (.cells (i8 b).toArray 93 (0, 0)) := by rw [hw2]; exact heap_new' w1.drew _
    rw [← hw2]
    clear hw2
    refine wpAnyB_last (i := 7) rfl (by kernel_rfl) (fun K hK => ?_)
    rw [if_pos (by rfl)]
    refine wp_append_own w2 _ _ 95 rfl n 93 iB _ 256 256 Try.undBs hiB hzB0 hzB1 hzB2 (by simp [Value.cells]) (by omega) (.slice a bl.length cap) bl.length (cellsBl bl) rfl (ownsRow_below HR1.out hS2) ⟨w1.heap.size, 0, none⟩ 1 1 (i8 b) rfl (by rw [i8_length, hb.1]) (fun j u hj => by rw [Addr.add_mid, Nat.zero_add]; exact cell_row hnew hj) (i8_one b) (by unfold maxLen; omega) (by omega) (by omega) ?_
    intro v3 w3 hr3 hg3 _
    simp only [Act.put]
    refine hK.out _ _ ?_
    clear hK K
    have hgd2 : w2.heap[gd]? = some (.cells (drCells like (.slice a bl.length cap) gm).toArray 116 (0, 0)) := (hS2.block gd (by omega)).trans HG1.out
    have hon := own_ne (ownsRow_below HR1.out hS2) hgd2 (by decide)
    have hgd3 : w3.heap[gd]? = some (.cells (drCells like (.slice a bl.length cap) gm).toArray 116 (0, 0)) := (hg3.block gd (by omega) (fun e => hon e.symm)).trans hgd2
    have hm3 : w3.ownsMap Try.prog 93 (plainElem Try.prog 3) gm (bl.length + 1) (D.put (kB b) (.lit (.int .i64 (bl.length : Int)))) := by
      have e2 := own_ne_map (ownsMap_below HM1.out hS2) (ownsRow_below HR1.out hS2)
      exact (ownsMap_below HM1.out hS2).kept hg3 (fun e => e2 e.symm)
    have hc3 : w3.cell? ⟨gd, 4352, none⟩ = some (.slice a bl.length cap) := cell_row hgd3 (drCells_at HLL.out).1
    have hf3 : w3.frozen? ⟨gd, 4352, none⟩ = false := frozen_of_row _ _ _ _ _ hgd3
    obtain ⟨a3, cap3, rfl⟩ := slice_of_row hr3
    refine wpAnyB_late (i := 8) (v := .pointer (some ⟨gd, 0, none⟩)) rfl (by kernel_rfl) (fun _ _ _ h => h) (Or.inl ⟨by rfl, fun w _ => by go_simp⟩) ?_
    simp only [List.getElem_toArray, List.getElem_cons_succ, List.getElem_cons_zero, Act.put, List.setIfInBounds_toArray, List.set_cons_zero, List.set_cons_succ]
    refine wpAnyB_late (i := 9) (v := .pointer (some ⟨gd, 4352, none⟩)) rfl (by kernel_rfl) (fun _ _ _ h => h) (Or.inl ⟨by rfl, fun w _ => by go_simp⟩) ?_
    simp only [List.getElem_toArray, List.getElem_cons_succ, List.getElem_cons_zero, Act.put, List.setIfInBounds_toArray, List.set_cons_zero, List.set_cons_succ]
    refine wpAnyB_last (i := 10) rfl (by kernel_rfl) (fun K hK => ?_)
    rw [if_pos (by rfl)]
    obtain ⟨HG3, HM3, HR3, HGB3⟩ : Hid (w3.heap[gd]? = some (.cells (drCells like (.slice a bl.length cap) gm).toArray 116 (0, 0))) ∧ Hid (w3.ownsMap Try.prog 93 (plainElem Try.prog 3) gm (bl.length + 1) (D.put (kB b) (.lit (.int .i64 (bl.length : Int))))) ∧ Hid (w3.ownsRow n 93 256 (.slice a3 (bl.length + 1) cap3) (bl.length + 1) (cellsBl bl ++ i8 b)) ∧ Hid (w2.grownBy w3 (Value.slice a bl.length cap).ownBlock) := ⟨hgd3, hm3, hr3, hg3⟩
    have HS2 : Hid (Below w1.heap.size w1 w2) := hS2
    clear hgd3 hm3 hr3 hg3 hgd2 hon hnew hS hS2 hCV1 hRB1
    go_wp2
    refine hK.out _ _ ?_
    refine wpAnyB_done (by kernel_rfl) ?_ _
    refine NoPanic.normal ?_
    clear hK K
    go_wp2
    go_ret
    refine ⟨?_, ?_, ?_, ?_⟩
    · show Ending.returned (.int .i64 (bl.length : Int)) = _
      rw [HR.out]
    · rw [HE.out]
      refine ⟨gm, .slice a3 (bl.length + 1) cap3, D.put (kB b) (.lit (.int .i64 (bl.length : Nat))), hgd, hgm, HLL.out, ?_, ?_, heap_set_row HG3.out (drCells_set HLL.out), ?_, ?_, knows_put HIM.out HKN.out hb HBLB.out HQ.out⟩
      · have := addF_nodup (b := b) HND.out
        rwa [addF_new HQ.out] at this
      · intro x hx
        rcases List.mem_append.1 hx with z | z
        · exact HBLB.out x z
        · rw [List.mem_singleton.1 z]; exact hb
      · have e1 : (bl ++ [b]).length = bl.length + 1 := by simp
        rw [e1, cellsBl_snoc]
        have e2 := own_ne HR3.out HG3.out (by decide)
        have hsc : w3.grownBy (w3.setCell ⟨gd, 4352, none⟩ (.slice a3 (bl.length + 1) cap3)) (some gd) := ⟨rfl, rfl, rfl, by simp [World.setCell], fun k hk hne => heap_setCell_other _ _ _ _ (fun e => hne (by rw [e]))⟩
        exact HR3.out.kept hsc (.inr e2)
      · have e1 : (bl ++ [b]).length = bl.length + 1 := by simp
        rw [e1]
        exact HM3.out.setCell (map_ne HM3.out HG3.out) _
    · have hs3 := HGB3.out.size
      have hr := (ownsRow_below HR1.out HS2.out).lt
      refine Below.setCell ?_ (show n ≤ gd from hgd) _
      exact (HB1.out.trans (HS2.out.mono (by omega))).grown HGB3.out (by omega) (fun k hk => (hr k hk).1)
    · exact ((HO1.out.trans (Other.below HS2.out)).trans (Other.row (ownsRow_below HR1.out HS2.out) HGB3.out)).trans (Other.setCell HG3.out (.inl rfl))
end Go.Proofs.Ytmknifnhcgdkaaa.S3
