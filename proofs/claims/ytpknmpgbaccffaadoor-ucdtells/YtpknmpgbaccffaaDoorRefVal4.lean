/-
  scansionref04.props, Value.
-/
import Derived.Test.YtpknmpgbaccffaaDoorRefTab
namespace Go.Proofs.YtpknmpgbaccffaaDoor
open Go.RowKit
set_option linter.unusedVariables false

set_option maxRecDepth 100000 in
set_option maxHeartbeats 8000000 in
theorem rprops_any (i : Nat) (hi : i < 4) (w : World) :
    Calls Tryd.prog 27 #[.int .i64 (i : Int)] w fun e w' => ∃ v, e = .returned v ∧ PropsIn w' v (tabR i) ∧ Below w.heap.size w w' := by
  obtain ⟨iP, hiP, hzP0, hzP1, hzP2⟩ := info_parts Tryd.infoProp
  obtain ⟨R, hR⟩ : ∃ R, R = tabR i := ⟨_, rfl⟩
  have HC : Hid (Calls Tryd.prog 45 #[.int .i64 (i : Int)] w fun e w' => ∃ v, e = .returned v ∧ TripIn w' v R ∧ Below w.heap.size w w') := by rw [hR]; exact rrows_any i hi w
  have HLN : Hid (R.length ≤ 129) := by show _ ≤ _; rw [hR]; exact (tab_len i hi).2
  have HVB : Hid (∀ p ∈ R, 0 ≤ p.v ∧ p.v ≤ 255) := by intro p hp; rw [hR] at hp; exact (tab_goodR i hi p hp).2.2.2
  rw [← hR]
  clear hR
  go_enter Tryd.func27, Tryd.ntmps27
  go_wp2_with fail
  refine HC.out.mono ?_
  rintro e w1 ⟨v1, rfl, h1, hB1⟩
  obtain ⟨a, cap, rfl, hcl⟩ := h1
  have HCL : Hid (∀ i, (h : i < R.length) → ∃ g off, a = some ⟨g, off, none⟩ ∧ g < w1.heap.size ∧ w1.cell? ⟨g, off + i * 3, none⟩ = some (.int .i64 R[i].lo) ∧ w1.cell? ⟨g, off + i * 3 + 1, none⟩ = some (.int .i64 R[i].hi) ∧ w1.cell? ⟨g, off + i * 3 + 2, none⟩ = some (.int .i64 R[i].v)) := hcl
  have HB1 : Hid (Below w.heap.size w w1) := hB1
  clear hcl hB1
  go_wp2_with fail
  go_loopw [4, 5] (fun y x wr => ∃ k : Nat, k ≤ R.length ∧ x = .int .i64 k ∧ wr.ownsRow w1.heap.size 51 3 y (R.take k).length (cellsPs (R.take k)) ∧ Below w1.heap.size w1 wr) (fun _ x _ => R.length - (intOf x).toNat)
  case atStart => exact ⟨0, Nat.zero_le _, rfl, World.ownsRow_nil _ _ _ _, Below.refl _ _⟩
  case round =>
    obtain ⟨k, hk, rfl, ho, hB⟩ := hrel
    have hsi := hB.size
    by_cases hlt : k < R.length
    · have hlt' : (k : Int) < (R.length : Int) := by omega
      obtain ⟨g, off, rfl, hg, c0, c1, c2⟩ := HCL.out k hlt
      obtain ⟨p, hp⟩ : ∃ p, p = R[k] := ⟨_, rfl⟩
      have HPV : Hid (0 ≤ p.v ∧ p.v ≤ 255) := by rw [hp]; exact HVB.out _ (List.getElem_mem hlt)
      have HST : Hid (R.take (k + 1) = R.take k ++ [p]) := by show _ = _; rw [List.take_succ_eq_append_getElem hlt, hp]
      rw [← hp] at c0 c1 c2
      have d0 : wr.cell? ⟨g, off + k * 3, none⟩ = some (.int .i64 p.lo) := (hB.cell (p := ⟨g, _, none⟩) hg).trans c0
      have d1 : wr.cell? ⟨g, off + k * 3 + 1, none⟩ = some (.int .i64 p.hi) := (hB.cell (p := ⟨g, _, none⟩) hg).trans c1
      have d2 : wr.cell? ⟨g, off + k * 3 + 2, none⟩ = some (.int .i64 p.v) := (hB.cell (p := ⟨g, _, none⟩) hg).trans c2
      have hwv : IntKind.u8.wrap p.v = p.v := by
        have : IntKind.u8.wrap p.v = p.v % 256 := by simp [IntKind.wrap, IntKind.signed, IntKind.bits]
        have := HPV.out
        omega
      have HN : Hid ((R.take k).length ≤ 129) := by show _ ≤ _; rw [List.length_take]; have := HLN.out; omega
      obtain ⟨Q, hQ⟩ : ∃ Q, Q = R.take k := ⟨_, rfl⟩
      rw [← hQ] at HST HN ho
      obtain ⟨HO, HB⟩ : Hid (wr.ownsRow w1.heap.size 51 3 u4 Q.length (cellsPs Q)) ∧ Hid (Below w1.heap.size w1 wr) := ⟨ho, hB⟩
      have HWJ : Hid (wrap64 ((k : Int) + 1) = ((k + 1 : Nat) : Int)) := wrap_next (by have := HLN.out; omega)
      clear hp c0 c1 c2 ho hB hQ
      have hL0 : ∀ w', Below wr.heap.size wr w' → w'.cell? ⟨g, off + k * 3, none⟩ = some (.int .i64 p.lo) := fun w' hw' => (hw'.cell (p := ⟨g, _, none⟩) (by show g < _; omega)).trans d0
      have hL1 : ∀ w', Below wr.heap.size wr w' → w'.cell? ⟨g, off + k * 3 + 1, none⟩ = some (.int .i64 p.hi) := fun w' hw' => (hw'.cell (p := ⟨g, _, none⟩) (by show g < _; omega)).trans d1
      have hL2 : ∀ w', Below wr.heap.size wr w' → w'.cell? ⟨g, off + k * 3 + 2, none⟩ = some (.int .i64 p.v) := fun w' hw' => (hw'.cell (p := ⟨g, _, none⟩) (by show g < _; omega)).trans d2
      obtain ⟨HL0, HL1, HL2⟩ : Hid (∀ w', Below wr.heap.size wr w' → w'.cell? ⟨g, off + k * 3, none⟩ = some (.int .i64 p.lo)) ∧ Hid (∀ w', Below wr.heap.size wr w' → w'.cell? ⟨g, off + k * 3 + 1, none⟩ = some (.int .i64 p.hi)) ∧ Hid (∀ w', Below wr.heap.size wr w' → w'.cell? ⟨g, off + k * 3 + 2, none⟩ = some (.int .i64 p.v)) := ⟨hL0, hL1, hL2⟩
      clear d0 d1 d2 hL0 hL1 hL2
      go_wp2_with fail
      refine wp_region_bad (fun w' => Below wr.heap.size wr w') [19] (by kernel_rfl) ((Below.refl _ _).drew) (fun hS => ?_)
      refine wpAnyB_pure (i := 0) (v := u4) rfl (by kernel_rfl) (fun _ _ _ h => h) (Or.inl ⟨by rfl, fun w _ => by go_simp⟩) hS ?_
      simp only [List.getElem_toArray, List.getElem_cons_zero, Act.put, List.setIfInBounds_toArray, List.set_cons_zero, List.set_cons_succ]
      refine wpAnyB_pure (i := 1) (v := .slice (some ⟨g, off, none⟩) R.length cap) rfl (by kernel_rfl) (fun _ _ _ h => h) (Or.inl ⟨by rfl, fun w _ => by go_simp⟩) hS ?_
      simp only [List.getElem_toArray, List.getElem_cons_succ, List.getElem_cons_zero, Act.put, List.setIfInBounds_toArray, List.set_cons_zero, List.set_cons_succ]
      refine wpAnyB_pure (i := 2) (v := .int .i64 (k : Int)) rfl (by kernel_rfl) (fun _ _ _ h => h) (Or.inl ⟨by rfl, fun w _ => by go_simp⟩) hS ?_
      simp only [List.getElem_toArray, List.getElem_cons_succ, List.getElem_cons_zero, Act.put, List.setIfInBounds_toArray, List.set_cons_zero, List.set_cons_succ]
      refine wpAnyB_pure (i := 3) (v := .pointer (some ⟨g, off + k * 3, none⟩)) rfl (by kernel_rfl) (fun _ _ _ h => h) (Or.inl ⟨by rfl, fun w _ => by go_simp⟩) hS ?_
      simp only [List.getElem_toArray, List.getElem_cons_succ, List.getElem_cons_zero, Act.put, List.setIfInBounds_toArray, List.set_cons_zero, List.set_cons_succ]
      refine wpAnyB_pure (i := 4) (v := .pointer (some ⟨g, off + k * 3, none⟩)) rfl (by kernel_rfl) (fun _ _ _ h => h) (Or.inl ⟨by rfl, fun w _ => by go_simp⟩) hS ?_
      simp only [List.getElem_toArray, List.getElem_cons_succ, List.getElem_cons_zero, Act.put, List.setIfInBounds_toArray, List.set_cons_zero, List.set_cons_succ]
      refine wpAnyB_take [5, 17, 18, 19] (i := 5) (v := .int .i64 p.lo) rfl (by kernel_rfl) (fun _ _ _ h => h) (Or.inl ⟨by rfl, fun w hSw => by have := HL0.out w hSw; go_simp⟩) hS ?_
      simp only [List.getElem_toArray, List.getElem_cons_succ, List.getElem_cons_zero, Act.put, List.setIfInBounds_toArray, List.set_cons_zero, List.set_cons_succ]
      refine wpAnyB_pure (i := 6) (v := .slice (some ⟨g, off, none⟩) R.length cap) rfl (by kernel_rfl) (fun _ _ _ h => h) (Or.inl ⟨by rfl, fun w _ => by go_simp⟩) hS ?_
      simp only [List.getElem_toArray, List.getElem_cons_succ, List.getElem_cons_zero, Act.put, List.setIfInBounds_toArray, List.set_cons_zero, List.set_cons_succ]
      refine wpAnyB_pure (i := 7) (v := .int .i64 (k : Int)) rfl (by kernel_rfl) (fun _ _ _ h => h) (Or.inl ⟨by rfl, fun w _ => by go_simp⟩) hS ?_
      simp only [List.getElem_toArray, List.getElem_cons_succ, List.getElem_cons_zero, Act.put, List.setIfInBounds_toArray, List.set_cons_zero, List.set_cons_succ]
      refine wpAnyB_pure (i := 8) (v := .pointer (some ⟨g, off + k * 3, none⟩)) rfl (by kernel_rfl) (fun _ _ _ h => h) (Or.inl ⟨by rfl, fun w _ => by go_simp⟩) hS ?_
      simp only [List.getElem_toArray, List.getElem_cons_succ, List.getElem_cons_zero, Act.put, List.setIfInBounds_toArray, List.set_cons_zero, List.set_cons_succ]
      refine wpAnyB_pure (i := 9) (v := .pointer (some ⟨g, off + k * 3 + 1, none⟩)) rfl (by kernel_rfl) (fun _ _ _ h => h) (Or.inl ⟨by rfl, fun w _ => by go_simp⟩) hS ?_
      simp only [List.getElem_toArray, List.getElem_cons_succ, List.getElem_cons_zero, Act.put, List.setIfInBounds_toArray, List.set_cons_zero, List.set_cons_succ]
      refine wpAnyB_take [10, 17, 18, 19] (i := 10) (v := .int .i64 p.hi) rfl (by kernel_rfl) (fun _ _ _ h => h) (Or.inl ⟨by rfl, fun w hSw => by have := HL1.out w hSw; go_simp⟩) hS ?_
      simp only [List.getElem_toArray, List.getElem_cons_succ, List.getElem_cons_zero, Act.put, List.setIfInBounds_toArray, List.set_cons_zero, List.set_cons_succ]
      refine wpAnyB_pure (i := 11) (v := .slice (some ⟨g, off, none⟩) R.length cap) rfl (by kernel_rfl) (fun _ _ _ h => h) (Or.inl ⟨by rfl, fun w _ => by go_simp⟩) hS ?_
      simp only [List.getElem_toArray, List.getElem_cons_succ, List.getElem_cons_zero, Act.put, List.setIfInBounds_toArray, List.set_cons_zero, List.set_cons_succ]
      refine wpAnyB_pure (i := 12) (v := .int .i64 (k : Int)) rfl (by kernel_rfl) (fun _ _ _ h => h) (Or.inl ⟨by rfl, fun w _ => by go_simp⟩) hS ?_
      simp only [List.getElem_toArray, List.getElem_cons_succ, List.getElem_cons_zero, Act.put, List.setIfInBounds_toArray, List.set_cons_zero, List.set_cons_succ]
      refine wpAnyB_pure (i := 13) (v := .pointer (some ⟨g, off + k * 3, none⟩)) rfl (by kernel_rfl) (fun _ _ _ h => h) (Or.inl ⟨by rfl, fun w _ => by go_simp⟩) hS ?_
      simp only [List.getElem_toArray, List.getElem_cons_succ, List.getElem_cons_zero, Act.put, List.setIfInBounds_toArray, List.set_cons_zero, List.set_cons_succ]
      refine wpAnyB_pure (i := 14) (v := .pointer (some ⟨g, off + k * 3 + 2, none⟩)) rfl (by kernel_rfl) (fun _ _ _ h => h) (Or.inl ⟨by rfl, fun w _ => by go_simp⟩) hS ?_
      simp only [List.getElem_toArray, List.getElem_cons_succ, List.getElem_cons_zero, Act.put, List.setIfInBounds_toArray, List.set_cons_zero, List.set_cons_succ]
      refine wpAnyB_take [15, 16, 17, 18, 19] (i := 15) (v := .int .i64 p.v) rfl (by kernel_rfl) (fun _ _ _ h => h) (Or.inl ⟨by rfl, fun w hSw => by have := HL2.out w hSw; go_simp⟩) hS ?_
      simp only [List.getElem_toArray, List.getElem_cons_succ, List.getElem_cons_zero, Act.put, List.setIfInBounds_toArray, List.set_cons_zero, List.set_cons_succ]
      refine wpAnyB_pure (i := 16) (v := .int .u8 p.v) rfl (by kernel_rfl) (fun _ _ _ h => h) (Or.inl ⟨by rfl, fun w _ => by go_simp⟩) hS ?_
      simp only [List.getElem_toArray, List.getElem_cons_succ, List.getElem_cons_zero, Act.put, List.setIfInBounds_toArray, List.set_cons_zero, List.set_cons_succ]
      refine wpAnyB_pure (i := 17) (v := .agg #[.int .i64 p.lo, .int .i64 p.hi, .int .u8 p.v]) rfl (by kernel_rfl) (fun _ _ _ h => h) (Or.inl ⟨by rfl, fun w _ => by go_simp⟩) hS ?_
      simp only [List.getElem_toArray, List.getElem_cons_succ, List.getElem_cons_zero, Act.put, List.setIfInBounds_toArray, List.set_cons_zero, List.set_cons_succ]
      refine wpAnyB_one (i := 18) rfl (by kernel_rfl) (fun K hK => ?_)
      rw [if_pos (by rfl)]
      have HBA : Hid (Below wr.heap.size wr (wr.drew.alloc (.cells #[.int .i64 p.lo, .int .i64 p.hi, .int .u8 p.v] 51))) := hS.alloc (Nat.le_refl wr.heap.size) _
      have HOA' : Hid ((wr.drew.alloc (.cells #[.int .i64 p.lo, .int .i64 p.hi, .int .u8 p.v] 51)).ownsRow w1.heap.size 51 3 u4 Q.length (cellsPs Q)) := (ownsRow_below HO.out hS).alloc _
      have HNA' : Hid ((wr.drew.alloc (.cells #[.int .i64 p.lo, .int .i64 p.hi, .int .u8 p.v] 51)).heap[wr.heap.size]? = some (.cells #[.int .i64 p.lo, .int .i64 p.hi, .int .u8 p.v] 51 (0, 0))) := heap_new' wr.drew _
      go_wp2_with fail
      refine hK.out _ _ HBA.out ?_
      clear hK K
      refine wpAnyB_last (i := 19) rfl (by kernel_rfl) (fun K hK => ?_)
      rw [if_pos (by rfl)]
      refine wp_append_own _ _ _ 48 rfl w1.heap.size 51 iP (.agg #[.int .i64 0, .int .i64 0, .int .u8 0]) 3 24 Tryd.undPs hiP hzP0 hzP1 hzP2 rfl (by decide) u4 Q.length (cellsPs Q) rfl HOA'.out ⟨wr.heap.size, 0, none⟩ 1 1 (cellsP p) rfl rfl (World.news_of_block HNA'.out) (by simp [cellsP, Value.oneCell']) (by unfold maxLen; have := HN.out; omega) (by have := HN.out; omega) (by show w1.heap.size ≤ (wr.drew.alloc _).heap.size; simp; omega) ?_
      intro v2 w2 ho2 hg2 _
      have HO2 : Hid (w2.ownsRow w1.heap.size 51 3 v2 (Q ++ [p]).length (cellsPs (Q ++ [p]))) := by rw [cellsPs_snoc, List.length_append]; exact ho2
      have HG2 : Hid (Below w1.heap.size w1 w2) := (HB.out.trans (HBA.out.mono hsi)).grown hg2 (by show w1.heap.size ≤ (wr.drew.alloc _).heap.size; simp; omega) (fun j e => (HOA'.out.lt j e).1)
      simp only [Act.put]
      refine hK.out _ _ ?_
      clear hK K ho2 hg2 hS
      refine wpAnyB_late (i := 20) (v := v2) rfl (by kernel_rfl) (fun _ _ _ h => h) (Or.inl ⟨by rfl, fun w _ => by go_simp⟩) ?_
      simp only [List.getElem_toArray, List.getElem_cons_succ, List.getElem_cons_zero, Act.put, List.setIfInBounds_toArray, List.set_cons_zero, List.set_cons_succ]
      refine wpAnyB_done (by kernel_rfl) ?_ _
      refine NoPanic.normal ?_
      go_wp2
      go_roundw
      case rel => exact ⟨k + 1, Nat.succ_le_of_lt hlt, congrArg (Value.int .i64) HWJ.out, by rw [HST.out]; exact HO2.out, HG2.out⟩
      case measure => exact meas_wrap HWJ.out hlt
    · have hlt' : decide ((k : Int) < (R.length : Int)) = false := by simp; omega
      have hke : R.take k = R := List.take_of_length_le (by omega)
      rw [hke] at ho
      obtain ⟨HO, HB⟩ : Hid (PropsIn wr u4 R) ∧ Hid (Below w1.heap.size w1 wr) := ⟨props_of_row ho, hB⟩
      have hlt2 : decide (k < R.length) = false := by simp; omega
      clear ho hB hke hlt
      go_wp2
      go_ret
      exact ⟨_, rfl, HO.out, HB1.out.trans (HB.out.mono HB1.out.size)⟩

set_option maxRecDepth 100000 in
set_option maxHeartbeats 8000000 in
theorem rvalue_any (i : Nat) (hi : i < 4) (r : Int) (w : World) :
    Calls Tryd.prog 11 #[.int .i64 (i : Int), .int .i64 r] w fun e w' => e = .returned (.int .i64 (valP (tabR i) r)) ∧ Below w.heap.size w w' := by
  obtain ⟨R, hR⟩ : ∃ R, R = tabR i := ⟨_, rfl⟩
  have HC : Hid (Calls Tryd.prog 27 #[.int .i64 (i : Int)] w fun e w' => ∃ v, e = .returned v ∧ PropsIn w' v R ∧ Below w.heap.size w w') := by rw [hR]; exact rprops_any i hi w
  have HLN : Hid (R.length ≤ 129) := by show _ ≤ _; rw [hR]; exact (tab_len i hi).2
  have HVB : Hid (∀ p ∈ R, 0 ≤ p.v ∧ p.v ≤ 255) := by intro p hp; rw [hR] at hp; exact (tab_goodR i hi p hp).2.2.2
  have HONE : Hid (∀ p ∈ R, hasP p r = true → valP R r = p.v) := by intro p hp hr; rw [hR] at hp ⊢; exact row_val hi hp hr
  rw [← hR]
  obtain ⟨u, hu⟩ : ∃ u, u = valP R r := ⟨_, rfl⟩
  have HU : Hid (u = valP R r) := hu
  rw [← hu]
  clear hR hu
  go_enter Tryd.func11, Tryd.ntmps11
  go_wp2_with fail
  refine HC.out.mono ?_
  rintro e w1 ⟨v1, rfl, h1, hB1⟩
  obtain ⟨a, cap, rfl, _, hcl⟩ := h1
  have HCL : Hid (∀ i, (h : i < R.length) → ∃ g off, a = some ⟨g, off, none⟩ ∧ g < w1.heap.size ∧ w1.cell? ⟨g, off + i * 3, none⟩ = some (.int .i64 R[i].lo) ∧ w1.cell? ⟨g, off + i * 3 + 1, none⟩ = some (.int .i64 R[i].hi) ∧ w1.cell? ⟨g, off + i * 3 + 2, none⟩ = some (.int .u8 R[i].v)) := hcl
  have HB1 : Hid (Below w.heap.size w w1) := hB1
  clear hcl hB1
  go_wp2_with fail
  go_loopw [6] (fun x wr => ∃ k : Nat, k ≤ R.length ∧ x = .int .i64 k ∧ (∀ j, (h : j < R.length) → j < k → hasP R[j] r = false) ∧ Below w1.heap.size w1 wr) (fun x _ => R.length - (intOf x).toNat)
  case atStart => exact ⟨0, Nat.zero_le _, rfl, fun j _ h => by omega, Below.refl _ _⟩
  case round =>
    obtain ⟨k, hk, rfl, hno, hB⟩ := hrel
    have hsi := hB.size
    by_cases hlt : k < R.length
    · have hlt' : (k : Int) < (R.length : Int) := by omega
      obtain ⟨g, off, rfl, hg, c0, c1, c2⟩ := HCL.out k hlt
      obtain ⟨p, hp⟩ : ∃ p, p = R[k] := ⟨_, rfl⟩
      have HPV : Hid (0 ≤ p.v ∧ p.v ≤ 255) := by rw [hp]; exact HVB.out _ (List.getElem_mem hlt)
      have HYES : Hid (hasP p r = true → u = p.v) := fun h => by rw [HU.out]; rw [hp] at h ⊢; exact HONE.out _ (List.getElem_mem hlt) h
      have HNO : Hid (hasP p r = false → ∀ j, (h : j < R.length) → j < k + 1 → hasP R[j] r = false) := fun h j hj hjk => by
        by_cases e : j < k
        · exact hno j hj e
        · have : j = k := by omega
          subst this
          rw [← hp]; exact h
      rw [← hp] at c0 c1 c2
      have d0 : wr.cell? ⟨g, off + k * 3, none⟩ = some (.int .i64 p.lo) := (hB.cell (p := ⟨g, _, none⟩) hg).trans c0
      have d1 : wr.cell? ⟨g, off + k * 3 + 1, none⟩ = some (.int .i64 p.hi) := (hB.cell (p := ⟨g, _, none⟩) hg).trans c1
      have d2 : wr.cell? ⟨g, off + k * 3 + 2, none⟩ = some (.int .u8 p.v) := (hB.cell (p := ⟨g, _, none⟩) hg).trans c2
      have hwv : IntKind.i64.wrap p.v = p.v := IntWalk.i64_in _ (by have := HPV.out; omega)
      have HB : Hid (Below w1.heap.size w1 wr) := hB
      have HWJ : Hid (wrap64 ((k : Int) + 1) = ((k + 1 : Nat) : Int)) := wrap_next (by have := HLN.out; omega)
      clear hp c0 c1 c2 hB hno
      by_cases n1 : p.lo ≤ r
      · by_cases n2 : r ≤ p.hi
        · have e1 : u = p.v := HYES.out (hasP_iff.2 ⟨n1, n2⟩)
          subst e1
          go_wp2_with fail
          go_ret
          exact ⟨rfl, HB1.out.trans (HB.out.mono HB1.out.size)⟩
        · have e1 : hasP p r = false := by
            cases z : hasP p r with
            | false => rfl
            | true => exact absurd (hasP_iff.1 z).2 n2
          have HE : Hid (hasP p r = false) := e1
          clear e1
          go_wp2_with fail
          go_roundw
          case rel => exact ⟨k + 1, Nat.succ_le_of_lt hlt, congrArg (Value.int .i64) HWJ.out, HNO.out HE.out, HB.out⟩
          case measure => exact meas_wrap HWJ.out hlt
      · have e1 : hasP p r = false := by
          cases z : hasP p r with
          | false => rfl
          | true => exact absurd (hasP_iff.1 z).1 n1
        have HE : Hid (hasP p r = false) := e1
        clear e1
        go_wp2_with fail
        go_roundw
        case rel => exact ⟨k + 1, Nat.succ_le_of_lt hlt, congrArg (Value.int .i64) HWJ.out, HNO.out HE.out, HB.out⟩
        case measure => exact meas_wrap HWJ.out hlt
    · have hlt' : decide ((k : Int) < (R.length : Int)) = false := by simp; omega
      have hlt2 : decide (k < R.length) = false := by simp; omega
      have e0 : u = 0 := by
        rw [HU.out]
        refine val_none (fun p hp => ?_)
        obtain ⟨j, hj, rfl⟩ := List.getElem_of_mem hp
        exact hno j hj (by omega)
      have HB : Hid (Below w1.heap.size w1 wr) := hB
      subst e0
      clear hno hB hlt HU
      go_wp2
      go_ret
      exact ⟨rfl, HB1.out.trans (HB.out.mono HB1.out.size)⟩
end Go.Proofs.YtpknmpgbaccffaaDoor
