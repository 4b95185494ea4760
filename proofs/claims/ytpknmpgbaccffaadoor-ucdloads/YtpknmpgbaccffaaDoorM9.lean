/-
  scansionref04: the document's tables, their entries, and the value of a number by them. scansionref04.props, Value. scansionref04.New: the document's data. scansionref04.Save: the bytes of the document's data. The shipped data's bytes: loaded they are the shipped data again.
-/
import Derived.Test.YtpknmpgbaccffaaDoorM7
import Derived.Test.YtpknmpgbaccffaaDoorM6
import Derived.Test.YtpknmpgbaccffaaDoorM8
namespace Go.Proofs.YtpknmpgbaccffaaDoor
open Go.RowKit
set_option linter.unusedVariables false

def cells3 (p : Pp) : List Value := [.int .i64 p.lo, .int .i64 p.hi, .int .i64 p.v]
def cells3s (l : List Pp) : List Value := l.flatMap cells3
theorem cells3s_at : ∀ (l : List Pp) (i j : Nat) (h : i < l.length), j < 3 → (cells3s l)[i * 3 + j]? = (cells3 l[i])[j]?
  | u :: us, 0, j, h, hj => by
    have e : cells3s (u :: us) = cells3 u ++ cells3s us := rfl
    rw [e, Nat.zero_mul, Nat.zero_add, List.getElem?_append_left (by simpa [cells3] using hj)]
    rfl
  | u :: us, i + 1, j, h, hj => by
    have e : cells3s (u :: us) = cells3 u ++ cells3s us := rfl
    rw [e, List.getElem?_append_right (by simp [cells3]; omega)]
    have e2 : (i + 1) * 3 + j - (cells3 u).length = i * 3 + j := by simp [cells3]; omega
    rw [e2, cells3s_at us i j (by simpa using h) hj]
    rfl
/-- The slice value v holds the rows l. -/
def TripIn (w : World) (v : Value) (l : List Pp) : Prop :=
  ∃ a cap, v = .slice a l.length cap ∧ ∀ i, (h : i < l.length) → ∃ g off, a = some ⟨g, off, none⟩ ∧ g < w.heap.size ∧ w.cell? ⟨g, off + i * 3, none⟩ = some (.int .i64 l[i].lo) ∧ w.cell? ⟨g, off + i * 3 + 1, none⟩ = some (.int .i64 l[i].hi) ∧ w.cell? ⟨g, off + i * 3 + 2, none⟩ = some (.int .i64 l[i].v)
def tripV (w : World) (l : List Pp) : Value := .slice (some ⟨w.heap.size, 0, none⟩) l.length l.length
def tripW (w : World) (l : List Pp) : World := w.alloc (.cells (cells3s l).toArray 76)
theorem trip_in (w : World) (l : List Pp) : TripIn (tripW w l) (tripV w l) l := by
  have hsz : (tripW w l).heap.size = w.heap.size + 1 := by simp [tripW]
  refine ⟨_, _, rfl, fun i hi => ⟨w.heap.size, 0, rfl, by omega, ?_, ?_, ?_⟩⟩
  · rw [Nat.zero_add]; exact cell_row (heap_new' w _) ((cells3s_at l i 0 hi (by omega)).trans rfl)
  · rw [Nat.zero_add]; exact cell_row (heap_new' w _) ((cells3s_at l i 1 hi (by omega)).trans rfl)
  · rw [Nat.zero_add]; exact cell_row (heap_new' w _) ((cells3s_at l i 2 hi (by omega)).trans rfl)
theorem tripW_below (w : World) (l : List Pp) : Below w.heap.size w (tripW w l) := (Below.refl _ _).alloc (Nat.le_refl _) _
set_option maxRecDepth 1000000 in
theorem rcluster_any (w : World) : Calls Tryd.prog 57 #[] w fun e w' => e = .returned (tripV w clR) ∧ w' = tripW w clR :=
  calls_table (noTab_ok _) Tryd.func57 rfl rfl (by kernel_rfl)
set_option maxRecDepth 1000000 in
theorem rword_any (w : World) : Calls Tryd.prog 58 #[] w fun e w' => e = .returned (tripV w wdR) ∧ w' = tripW w wdR :=
  calls_table (noTab_ok _) Tryd.func58 rfl rfl (by kernel_rfl)
set_option maxRecDepth 1000000 in
theorem rscript_any (w : World) : Calls Tryd.prog 59 #[] w fun e w' => e = .returned (tripV w scR) ∧ w' = tripW w scR :=
  calls_table (noTab_ok _) Tryd.func59 rfl rfl (by kernel_rfl)
set_option maxRecDepth 1000000 in
theorem rpicto_any (w : World) : Calls Tryd.prog 60 #[] w fun e w' => e = .returned (tripV w piR) ∧ w' = tripW w piR :=
  calls_table (noTab_ok _) Tryd.func60 rfl rfl (by kernel_rfl)

set_option maxRecDepth 100000 in
set_option maxHeartbeats 8000000 in
theorem rrows_any (i : Nat) (hi : i < 4) (w : World) :
    Calls Tryd.prog 45 #[.int .i64 (i : Int)] w fun e w' => ∃ v, e = .returned v ∧ TripIn w' v (tabR i) ∧ Below w.heap.size w w' := by
  have : i = 0 ∨ i = 1 ∨ i = 2 ∨ i = 3 := by omega
  rcases this with rfl | rfl | rfl | rfl
  · obtain ⟨R, hR⟩ : ∃ R, R = tabR 0 := ⟨_, rfl⟩
    have HC : Hid (Calls Tryd.prog 57 #[] w fun e w' => ∃ v, e = .returned v ∧ TripIn w' v R ∧ Below w.heap.size w w') := by
      rw [hR]; exact (rcluster_any w).mono (by rintro e w' ⟨rfl, rfl⟩; exact ⟨_, rfl, trip_in w _, tripW_below w _⟩)
    rw [← hR]
    clear hR
    go_enter Tryd.func45, Tryd.ntmps45
    go_wp2_with fail
    refine HC.out.mono ?_
    rintro e w1 ⟨v1, rfl, h1, hB1⟩
    obtain ⟨H1, HB1⟩ : Hid (TripIn w1 v1 R) ∧ Hid (Below w.heap.size w w1) := ⟨h1, hB1⟩
    clear h1 hB1
    go_wp2
    go_ret
    exact ⟨_, rfl, H1.out, HB1.out⟩
  · obtain ⟨R, hR⟩ : ∃ R, R = tabR 1 := ⟨_, rfl⟩
    have HC : Hid (Calls Tryd.prog 58 #[] w fun e w' => ∃ v, e = .returned v ∧ TripIn w' v R ∧ Below w.heap.size w w') := by
      rw [hR]; exact (rword_any w).mono (by rintro e w' ⟨rfl, rfl⟩; exact ⟨_, rfl, trip_in w _, tripW_below w _⟩)
    rw [← hR]
    clear hR
    go_enter Tryd.func45, Tryd.ntmps45
    go_wp2_with fail
    refine HC.out.mono ?_
    rintro e w1 ⟨v1, rfl, h1, hB1⟩
    obtain ⟨H1, HB1⟩ : Hid (TripIn w1 v1 R) ∧ Hid (Below w.heap.size w w1) := ⟨h1, hB1⟩
    clear h1 hB1
    go_wp2
    go_ret
    exact ⟨_, rfl, H1.out, HB1.out⟩
  · obtain ⟨R, hR⟩ : ∃ R, R = tabR 2 := ⟨_, rfl⟩
    have HC : Hid (Calls Tryd.prog 59 #[] w fun e w' => ∃ v, e = .returned v ∧ TripIn w' v R ∧ Below w.heap.size w w') := by
      rw [hR]; exact (rscript_any w).mono (by rintro e w' ⟨rfl, rfl⟩; exact ⟨_, rfl, trip_in w _, tripW_below w _⟩)
    rw [← hR]
    clear hR
    go_enter Tryd.func45, Tryd.ntmps45
    go_wp2_with fail
    refine HC.out.mono ?_
    rintro e w1 ⟨v1, rfl, h1, hB1⟩
    obtain ⟨H1, HB1⟩ : Hid (TripIn w1 v1 R) ∧ Hid (Below w.heap.size w w1) := ⟨h1, hB1⟩
    clear h1 hB1
    go_wp2
    go_ret
    exact ⟨_, rfl, H1.out, HB1.out⟩
  · obtain ⟨R, hR⟩ : ∃ R, R = tabR 3 := ⟨_, rfl⟩
    have HC : Hid (Calls Tryd.prog 60 #[] w fun e w' => ∃ v, e = .returned v ∧ TripIn w' v R ∧ Below w.heap.size w w') := by
      rw [hR]; exact (rpicto_any w).mono (by rintro e w' ⟨rfl, rfl⟩; exact ⟨_, rfl, trip_in w _, tripW_below w _⟩)
    rw [← hR]
    clear hR
    go_enter Tryd.func45, Tryd.ntmps45
    go_wp2_with fail
    refine HC.out.mono ?_
    rintro e w1 ⟨v1, rfl, h1, hB1⟩
    obtain ⟨H1, HB1⟩ : Hid (TripIn w1 v1 R) ∧ Hid (Below w.heap.size w w1) := ⟨h1, hB1⟩
    clear h1 hB1
    go_wp2
    go_ret
    exact ⟨_, rfl, H1.out, HB1.out⟩

end Go.Proofs.YtpknmpgbaccffaaDoor

namespace Go.Proofs.YtpknmpgbaccffaaDoor
open Go.RowKit
set_option linter.unusedVariables false

set_option maxRecDepth 100000 in
set_option maxHeartbeats 8000000 in
theorem rprops_any (i : Nat) (hi : i < 4) (w : World) :
    Calls Tryd.prog 27 #[.int .i64 (i : Int)] w fun e w' => ∃ v, e = .returned v ∧ PropsIn w' v (tabR i) ∧ Below w.heap.size w w' := by
  obtain ⟨iP, hiP, hzP0, hzP1, hzP2⟩ := info_parts Tryd.infoProp
  obtain ⟨R, hR⟩ : ∃ R, R = tabR i := ⟨_, rfl⟩
  have HC : Hid (Calls Tryd.prog 45 #[.int .i64 (i : Int)] w fun e w' => ∃ v, e = .returned v ∧ TripIn w' v R ∧ Below w.heap.size w w') := by rw [hR]; exact rrows_any i hi w
  have HLN : Hid (R.length ≤ 129) := by show _ ≤ _; rw [hR]; exact (tab_len i hi).2
  have HVB : Hid (∀ p ∈ R, 0 ≤ p.v ∧ p.v ≤ 255) := by intro p hp; rw [hR] at hp; exact (tab_goodR i hi p hp).2.2.2
  rw [← hR]
  clear hR
  go_enter Tryd.func27, Tryd.ntmps27
  go_wp2_with fail
  refine HC.out.mono ?_
  rintro e w1 ⟨v1, rfl, h1, hB1⟩
  obtain ⟨a, cap, rfl, hcl⟩ := h1
  have HCL : Hid (∀ i, (h : i < R.length) → ∃ g off, a = some ⟨g, off, none⟩ ∧ g < w1.heap.size ∧ w1.cell? ⟨g, off + i * 3, none⟩ = some (.int .i64 R[i].lo) ∧ w1.cell? ⟨g, off + i * 3 + 1, none⟩ = some (.int .i64 R[i].hi) ∧ w1.cell? ⟨g, off + i * 3 + 2, none⟩ = some (.int .i64 R[i].v)) := hcl
  have HB1 : Hid (Below w.heap.size w w1) := hB1
  clear hcl hB1
  go_wp2_with fail
  go_loopw [4, 5] (fun y x wr => ∃ k : Nat, k ≤ R.length ∧ x = .int .i64 k ∧ wr.ownsRow w1.heap.size 51 3 y (R.take k).length (cellsPs (R.take k)) ∧ Below w1.heap.size w1 wr) (fun _ x _ => R.length - (intOf x).toNat)
  case atStart => exact ⟨0, Nat.zero_le _, rfl, World.ownsRow_nil _ _ _ _, Below.refl _ _⟩
  case round =>
    obtain ⟨k, hk, rfl, ho, hB⟩ := hrel
    have hsi := hB.size
    by_cases hlt : k < R.length
    · have hlt' : (k : Int) < (R.length : Int) := by omega
      obtain ⟨g, off, rfl, hg, c0, c1, c2⟩ := HCL.out k hlt
      obtain ⟨p, hp⟩ : ∃ p, p = R[k] := ⟨_, rfl⟩
      have HPV : Hid (0 ≤ p.v ∧ p.v ≤ 255) := by rw [hp]; exact HVB.out _ (List.getElem_mem hlt)
      have HST : Hid (R.take (k + 1) = R.take k ++ [p]) := by show _ = _; rw [List.take_succ_eq_append_getElem hlt, hp]
      rw [← hp] at c0 c1 c2
      have d0 : wr.cell? ⟨g, off + k * 3, none⟩ = some (.int .i64 p.lo) := (hB.cell (p := ⟨g, _, none⟩) hg).trans c0
      have d1 : wr.cell? ⟨g, off + k * 3 + 1, none⟩ = some (.int .i64 p.hi) := (hB.cell (p := ⟨g, _, none⟩) hg).trans c1
      have d2 : wr.cell? ⟨g, off + k * 3 + 2, none⟩ = some (.int .i64 p.v) := (hB.cell (p := ⟨g, _, none⟩) hg).trans c2
      have hwv : IntKind.u8.wrap p.v = p.v := by
        have : IntKind.u8.wrap p.v = p.v % 256 := by simp [IntKind.wrap, IntKind.signed, IntKind.bits]
        have := HPV.out
        omega
      have HN : Hid ((R.take k).length ≤ 129) := by show _ ≤ _; rw [List.length_take]; have := HLN.out; omega
      obtain ⟨Q, hQ⟩ : ∃ Q, Q = R.take k := ⟨_, rfl⟩
      rw [← hQ] at HST HN ho
      obtain ⟨HO, HB⟩ : Hid (wr.ownsRow w1.heap.size 51 3 u4 Q.length (cellsPs Q)) ∧ Hid (Below w1.heap.size w1 wr) := ⟨ho, hB⟩
      have HWJ : Hid (wrap64 ((k : Int) + 1) = ((k + 1 : Nat) : Int)) := wrap_next (by have := HLN.out; omega)
      clear hp c0 c1 c2 ho hB hQ
      have hL0 : ∀ w', Below wr.heap.size wr w' → w'.cell? ⟨g, off + k * 3, none⟩ = some (.int .i64 p.lo) := fun w' hw' => (hw'.cell (p := ⟨g, _, none⟩) (by show g < _; omega)).trans d0
      have hL1 : ∀ w', Below wr.heap.size wr w' → w'.cell? ⟨g, off + k * 3 + 1, none⟩ = some (.int .i64 p.hi) := fun w' hw' => (hw'.cell (p := ⟨g, _, none⟩) (by show g < _; omega)).trans d1
      have hL2 : ∀ w', Below wr.heap.size wr w' → w'.cell? ⟨g, off + k * 3 + 2, none⟩ = some (.int .i64 p.v) := fun w' hw' => (hw'.cell (p := ⟨g, _, none⟩) (by show g < _; omega)).trans d2
      obtain ⟨HL0, HL1, HL2⟩ : Hid (∀ w', Below wr.heap.size wr w' → w'.cell? ⟨g, off + k * 3, none⟩ = some (.int .i64 p.lo)) ∧ Hid (∀ w', Below wr.heap.size wr w' → w'.cell? ⟨g, off + k * 3 + 1, none⟩ = some (.int .i64 p.hi)) ∧ Hid (∀ w', Below wr.heap.size wr w' → w'.cell? ⟨g, off + k * 3 + 2, none⟩ = some (.int .i64 p.v)) := ⟨hL0, hL1, hL2⟩
      clear d0 d1 d2 hL0 hL1 hL2
      go_wp2_with fail
      refine wp_region_bad (fun w' => Below wr.heap.size wr w') [19] (by kernel_rfl) ((Below.refl _ _).drew) (fun hS => ?_)
      refine wpAnyB_pure (i := 0) (v := u4) rfl (by kernel_rfl) (fun _ _ _ h => h) (Or.inl ⟨by rfl, fun w _ => by go_simp⟩) hS ?_
      simp only [List.getElem_toArray, List.getElem_cons_zero, Act.put, List.setIfInBounds_toArray, List.set_cons_zero, List.set_cons_succ]
      refine wpAnyB_pure (i := 1) (v := .slice (some ⟨g, off, none⟩) R.length cap) rfl (by kernel_rfl) (fun _ _ _ h => h) (Or.inl ⟨by rfl, fun w _ => by go_simp⟩) hS ?_
      simp only [List.getElem_toArray, List.getElem_cons_succ, List.getElem_cons_zero, Act.put, List.setIfInBounds_toArray, List.set_cons_zero, List.set_cons_succ]
      refine wpAnyB_pure (i := 2) (v := .int .i64 (k : Int)) rfl (by kernel_rfl) (fun _ _ _ h => h) (Or.inl ⟨by rfl, fun w _ => by go_simp⟩) hS ?_
      simp only [List.getElem_toArray, List.getElem_cons_succ, List.getElem_cons_zero, Act.put, List.setIfInBounds_toArray, List.set_cons_zero, List.set_cons_succ]
      refine wpAnyB_pure (i := 3) (v := .pointer (some ⟨g, off + k * 3, none⟩)) rfl (by kernel_rfl) (fun _ _ _ h => h) (Or.inl ⟨by rfl, fun w _ => by go_simp⟩) hS ?_
      simp only [List.getElem_toArray, List.getElem_cons_succ, List.getElem_cons_zero, Act.put, List.setIfInBounds_toArray, List.set_cons_zero, List.set_cons_succ]
      refine wpAnyB_pure (i := 4) (v := .pointer (some ⟨g, off + k * 3, none⟩)) rfl (by kernel_rfl) (fun _ _ _ h => h) (Or.inl ⟨by rfl, fun w _ => by go_simp⟩) hS ?_
      simp only [List.getElem_toArray, List.getElem_cons_succ, List.getElem_cons_zero, Act.put, List.setIfInBounds_toArray, List.set_cons_zero, List.set_cons_succ]
      refine wpAnyB_take [5, 17, 18, 19] (i := 5) (v := .int .i64 p.lo) rfl (by kernel_rfl) (fun _ _ _ h => h) (Or.inl ⟨by rfl, fun w hSw => by have := HL0.out w hSw; go_simp⟩) hS ?_
      simp only [List.getElem_toArray, List.getElem_cons_succ, List.getElem_cons_zero, Act.put, List.setIfInBounds_toArray, List.set_cons_zero, List.set_cons_succ]
      refine wpAnyB_pure (i := 6) (v := .slice (some ⟨g, off, none⟩) R.length cap) rfl (by kernel_rfl) (fun _ _ _ h => h) (Or.inl ⟨by rfl, fun w _ => by go_simp⟩) hS ?_
      simp only [List.getElem_toArray, List.getElem_cons_succ, List.getElem_cons_zero, Act.put, List.setIfInBounds_toArray, List.set_cons_zero, List.set_cons_succ]
      refine wpAnyB_pure (i := 7) (v := .int .i64 (k : Int)) rfl (by kernel_rfl) (fun _ _ _ h => h) (Or.inl ⟨by rfl, fun w _ => by go_simp⟩) hS ?_
      simp only [List.getElem_toArray, List.getElem_cons_succ, List.getElem_cons_zero, Act.put, List.setIfInBounds_toArray, List.set_cons_zero, List.set_cons_succ]
      refine wpAnyB_pure (i := 8) (v := .pointer (some ⟨g, off + k * 3, none⟩)) rfl (by kernel_rfl) (fun _ _ _ h => h) (Or.inl ⟨by rfl, fun w _ => by go_simp⟩) hS ?_
      simp only [List.getElem_toArray, List.getElem_cons_succ, List.getElem_cons_zero, Act.put, List.setIfInBounds_toArray, List.set_cons_zero, List.set_cons_succ]
      refine wpAnyB_pure (i := 9) (v := .pointer (some ⟨g, off + k * 3 + 1, none⟩)) rfl (by kernel_rfl) (fun _ _ _ h => h) (Or.inl ⟨by rfl, fun w _ => by go_simp⟩) hS ?_
      simp only [List.getElem_toArray, List.getElem_cons_succ, List.getElem_cons_zero, Act.put, List.setIfInBounds_toArray, List.set_cons_zero, List.set_cons_succ]
      refine wpAnyB_take [10, 17, 18, 19] (i := 10) (v := .int .i64 p.hi) rfl (by kernel_rfl) (fun _ _ _ h => h) (Or.inl ⟨by rfl, fun w hSw => by have := HL1.out w hSw; go_simp⟩) hS ?_
      simp only [List.getElem_toArray, List.getElem_cons_succ, List.getElem_cons_zero, Act.put, List.setIfInBounds_toArray, List.set_cons_zero, List.set_cons_succ]
      refine wpAnyB_pure (i := 11) (v := .slice (some ⟨g, off, none⟩) R.length cap) rfl (by kernel_rfl) (fun _ _ _ h => h) (Or.inl ⟨by rfl, fun w _ => by go_simp⟩) hS ?_
      simp only [List.getElem_toArray, List.getElem_cons_succ, List.getElem_cons_zero, Act.put, List.setIfInBounds_toArray, List.set_cons_zero, List.set_cons_succ]
      refine wpAnyB_pure (i := 12) (v := .int .i64 (k : Int)) rfl (by kernel_rfl) (fun _ _ _ h => h) (Or.inl ⟨by rfl, fun w _ => by go_simp⟩) hS ?_
      simp only [List.getElem_toArray, List.getElem_cons_succ, List.getElem_cons_zero, Act.put, List.setIfInBounds_toArray, List.set_cons_zero, List.set_cons_succ]
      refine wpAnyB_pure (i := 13) (v := .pointer (some ⟨g, off + k * 3, none⟩)) rfl (by kernel_rfl) (fun _ _ _ h => h) (Or.inl ⟨by rfl, fun w _ => by go_simp⟩) hS ?_
      simp only [List.getElem_toArray, List.getElem_cons_succ, List.getElem_cons_zero, Act.put, List.setIfInBounds_toArray, List.set_cons_zero, List.set_cons_succ]
      refine wpAnyB_pure (i := 14) (v := .pointer (some ⟨g, off + k * 3 + 2, none⟩)) rfl (by kernel_rfl) (fun _ _ _ h => h) (Or.inl ⟨by rfl, fun w _ => by go_simp⟩) hS ?_
      simp only [List.getElem_toArray, List.getElem_cons_succ, List.getElem_cons_zero, Act.put, List.setIfInBounds_toArray, List.set_cons_zero, List.set_cons_succ]
      refine wpAnyB_take [15, 16, 17, 18, 19] (i := 15) (v := .int .i64 p.v) rfl (by kernel_rfl) (fun _ _ _ h => h) (Or.inl ⟨by rfl, fun w hSw => by have := HL2.out w hSw; go_simp⟩) hS ?_
      simp only [List.getElem_toArray, List.getElem_cons_succ, List.getElem_cons_zero, Act.put, List.setIfInBounds_toArray, List.set_cons_zero, List.set_cons_succ]
      refine wpAnyB_pure (i := 16) (v := .int .u8 p.v) rfl (by kernel_rfl) (fun _ _ _ h => h) (Or.inl ⟨by rfl, fun w _ => by go_simp⟩) hS ?_
      simp only [List.getElem_toArray, List.getElem_cons_succ, List.getElem_cons_zero, Act.put, List.setIfInBounds_toArray, List.set_cons_zero, List.set_cons_succ]
      refine wpAnyB_pure (i := 17) (v := .agg #[.int .i64 p.lo, .int .i64 p.hi, .int .u8 p.v]) rfl (by kernel_rfl) (fun _ _ _ h => h) (Or.inl ⟨by rfl, fun w _ => by go_simp⟩) hS ?_
      simp only [List.getElem_toArray, List.getElem_cons_succ, List.getElem_cons_zero, Act.put, List.setIfInBounds_toArray, List.set_cons_zero, List.set_cons_succ]
      refine wpAnyB_one (i := 18) rfl (by kernel_rfl) (fun K hK => ?_)
      rw [if_pos (by rfl)]
      have HBA : Hid (Below wr.heap.size wr (wr.drew.alloc (.cells #[.int .i64 p.lo, .int .i64 p.hi, .int .u8 p.v] 51))) := hS.alloc (Nat.le_refl wr.heap.size) _
      have HOA' : Hid ((wr.drew.alloc (.cells #[.int .i64 p.lo, .int .i64 p.hi, .int .u8 p.v] 51)).ownsRow w1.heap.size 51 3 u4 Q.length (cellsPs Q)) := (ownsRow_below HO.out hS).alloc _
      have HNA' : Hid ((wr.drew.alloc (.cells #[.int .i64 p.lo, .int .i64 p.hi, .int .u8 p.v] 51)).heap[wr.heap.size]? = some (.cells #[.int .i64 p.lo, .int .i64 p.hi, .int .u8 p.v] 51 (0, 0))) := heap_new' wr.drew _
      go_wp2_with fail
      refine hK.out _ _ HBA.out ?_
      clear hK K
      refine wpAnyB_last (i := 19) rfl (by kernel_rfl) (fun K hK => ?_)
      rw [if_pos (by rfl)]
      refine wp_append_own _ _ _ 48 rfl w1.heap.size 51 iP (.agg #[.int .i64 0, .int .i64 0, .int .u8 0]) 3 24 Tryd.undPs hiP hzP0 hzP1 hzP2 rfl (by decide) u4 Q.length (cellsPs Q) rfl HOA'.out ⟨wr.heap.size, 0, none⟩ 1 1 (cellsP p) rfl rfl (World.news_of_block HNA'.out) (by simp [cellsP, Value.oneCell']) (by unfold maxLen; have := HN.out; omega) (by have := HN.out; omega) (by show w1.heap.size ≤ (wr.drew.alloc _).heap.size; simp; omega) ?_
      intro v2 w2 ho2 hg2 _
      have HO2 : Hid (w2.ownsRow w1.heap.size 51 3 v2 (Q ++ [p]).length (cellsPs (Q ++ [p]))) := by rw [cellsPs_snoc, List.length_append]; exact ho2
      have HG2 : Hid (Below w1.heap.size w1 w2) := (HB.out.trans (HBA.out.mono hsi)).grown hg2 (by show w1.heap.size ≤ (wr.drew.alloc _).heap.size; simp; omega) (fun j e => (HOA'.out.lt j e).1)
      simp only [Act.put]
      refine hK.out _ _ ?_
      clear hK K ho2 hg2 hS
      refine wpAnyB_late (i := 20) (v := v2) rfl (by kernel_rfl) (fun _ _ _ h => h) (Or.inl ⟨by rfl, fun w _ => by go_simp⟩) ?_
      simp only [List.getElem_toArray, List.getElem_cons_succ, List.getElem_cons_zero, Act.put, List.setIfInBounds_toArray, List.set_cons_zero, List.set_cons_succ]
      refine wpAnyB_done (by kernel_rfl) ?_ _
      refine NoPanic.normal ?_
      go_wp2
      go_roundw
      case rel => exact ⟨k + 1, Nat.succ_le_of_lt hlt, congrArg (Value.int .i64) HWJ.out, by rw [HST.out]; exact HO2.out, HG2.out⟩
      case measure => exact meas_wrap HWJ.out hlt
    · have hlt' : decide ((k : Int) < (R.length : Int)) = false := by simp; omega
      have hke : R.take k = R := List.take_of_length_le (by omega)
      rw [hke] at ho
      obtain ⟨HO, HB⟩ : Hid (PropsIn wr u4 R) ∧ Hid (Below w1.heap.size w1 wr) := ⟨props_of_row ho, hB⟩
      have hlt2 : decide (k < R.length) = false := by simp; omega
      clear ho hB hke hlt
      go_wp2
      go_ret
      exact ⟨_, rfl, HO.out, HB1.out.trans (HB.out.mono HB1.out.size)⟩

set_option maxRecDepth 100000 in
set_option maxHeartbeats 8000000 in
theorem rvalue_any (i : Nat) (hi : i < 4) (r : Int) (w : World) :
    Calls Tryd.prog 11 #[.int .i64 (i : Int), .int .i64 r] w fun e w' => e = .returned (.int .i64 (valP (tabR i) r)) ∧ Below w.heap.size w w' := by
  obtain ⟨R, hR⟩ : ∃ R, R = tabR i := ⟨_, rfl⟩
  have HC : Hid (Calls Tryd.prog 27 #[.int .i64 (i : Int)] w fun e w' => ∃ v, e = .returned v ∧ PropsIn w' v R ∧ Below w.heap.size w w') := by rw [hR]; exact rprops_any i hi w
  have HLN : Hid (R.length ≤ 129) := by show _ ≤ _; rw [hR]; exact (tab_len i hi).2
  have HVB : Hid (∀ p ∈ R, 0 ≤ p.v ∧ p.v ≤ 255) := by intro p hp; rw [hR] at hp; exact (tab_goodR i hi p hp).2.2.2
  have HONE : Hid (∀ p ∈ R, hasP p r = true → valP R r = p.v) := by intro p hp hr; rw [hR] at hp ⊢; exact row_val hi hp hr
  rw [← hR]
  obtain ⟨u, hu⟩ : ∃ u, u = valP R r := ⟨_, rfl⟩
  have HU : Hid (u = valP R r) := hu
  rw [← hu]
  clear hR hu
  go_enter Tryd.func11, Tryd.ntmps11
  go_wp2_with fail
  refine HC.out.mono ?_
  rintro e w1 ⟨v1, rfl, h1, hB1⟩
  obtain ⟨a, cap, rfl, _, hcl⟩ := h1
  have HCL : Hid (∀ i, (h : i < R.length) → ∃ g off, a = some ⟨g, off, none⟩ ∧ g < w1.heap.size ∧ w1.cell? ⟨g, off + i * 3, none⟩ = some (.int .i64 R[i].lo) ∧ w1.cell? ⟨g, off + i * 3 + 1, none⟩ = some (.int .i64 R[i].hi) ∧ w1.cell? ⟨g, off + i * 3 + 2, none⟩ = some (.int .u8 R[i].v)) := hcl
  have HB1 : Hid (Below w.heap.size w w1) := hB1
  clear hcl hB1
  go_wp2_with fail
  go_loopw [6] (fun x wr => ∃ k : Nat, k ≤ R.length ∧ x = .int .i64 k ∧ (∀ j, (h : j < R.length) → j < k → hasP R[j] r = false) ∧ Below w1.heap.size w1 wr) (fun x _ => R.length - (intOf x).toNat)
  case atStart => exact ⟨0, Nat.zero_le _, rfl, fun j _ h => by omega, Below.refl _ _⟩
  case round =>
    obtain ⟨k, hk, rfl, hno, hB⟩ := hrel
    have hsi := hB.size
    by_cases hlt : k < R.length
    · have hlt' : (k : Int) < (R.length : Int) := by omega
      obtain ⟨g, off, rfl, hg, c0, c1, c2⟩ := HCL.out k hlt
      obtain ⟨p, hp⟩ : ∃ p, p = R[k] := ⟨_, rfl⟩
      have HPV : Hid (0 ≤ p.v ∧ p.v ≤ 255) := by rw [hp]; exact HVB.out _ (List.getElem_mem hlt)
      have HYES : Hid (hasP p r = true → u = p.v) := fun h => by rw [HU.out]; rw [hp] at h ⊢; exact HONE.out _ (List.getElem_mem hlt) h
      have HNO : Hid (hasP p r = false → ∀ j, (h : j < R.length) → j < k + 1 → hasP R[j] r = false) := fun h j hj hjk => by
        by_cases e : j < k
        · exact hno j hj e
        · have : j = k := by omega
          subst this
          rw [← hp]; exact h
      rw [← hp] at c0 c1 c2
      have d0 : wr.cell? ⟨g, off + k * 3, none⟩ = some (.int .i64 p.lo) := (hB.cell (p := ⟨g, _, none⟩) hg).trans c0
      have d1 : wr.cell? ⟨g, off + k * 3 + 1, none⟩ = some (.int .i64 p.hi) := (hB.cell (p := ⟨g, _, none⟩) hg).trans c1
      have d2 : wr.cell? ⟨g, off + k * 3 + 2, none⟩ = some (.int .u8 p.v) := (hB.cell (p := ⟨g, _, none⟩) hg).trans c2
      have hwv : IntKind.i64.wrap p.v = p.v := IntWalk.i64_in _ (by have := HPV.out; omega)
      have HB : Hid (Below w1.heap.size w1 wr) := hB
      have HWJ : Hid (wrap64 ((k : Int) + 1) = ((k + 1 : Nat) : Int)) := wrap_next (by have := HLN.out; omega)
      clear hp c0 c1 c2 hB hno
      by_cases n1 : p.lo ≤ r
      · by_cases n2 : r ≤ p.hi
        · have e1 : u = p.v := HYES.out (hasP_iff.2 ⟨n1, n2⟩)
          subst e1
          go_wp2_with fail
          go_ret
          exact ⟨rfl, HB1.out.trans (HB.out.mono HB1.out.size)⟩
        · have e1 : hasP p r = false := by
            cases z : hasP p r with
            | false => rfl
            | true => exact absurd (hasP_iff.1 z).2 n2
          have HE : Hid (hasP p r = false) := e1
          clear e1
          go_wp2_with fail
          go_roundw
          case rel => exact ⟨k + 1, Nat.succ_le_of_lt hlt, congrArg (Value.int .i64) HWJ.out, HNO.out HE.out, HB.out⟩
          case measure => exact meas_wrap HWJ.out hlt
      · have e1 : hasP p r = false := by
          cases z : hasP p r with
          | false => rfl
          | true => exact absurd (hasP_iff.1 z).1 n1
        have HE : Hid (hasP p r = false) := e1
        clear e1
        go_wp2_with fail
        go_roundw
        case rel => exact ⟨k + 1, Nat.succ_le_of_lt hlt, congrArg (Value.int .i64) HWJ.out, HNO.out HE.out, HB.out⟩
        case measure => exact meas_wrap HWJ.out hlt
    · have hlt' : decide ((k : Int) < (R.length : Int)) = false := by simp; omega
      have hlt2 : decide (k < R.length) = false := by simp; omega
      have e0 : u = 0 := by
        rw [HU.out]
        refine val_none (fun p hp => ?_)
        obtain ⟨j, hj, rfl⟩ := List.getElem_of_mem hp
        exact hno j hj (by omega)
      have HB : Hid (Below w1.heap.size w1 wr) := hB
      subst e0
      clear hno hB hlt HU
      go_wp2
      go_ret
      exact ⟨rfl, HB1.out.trans (HB.out.mono HB1.out.size)⟩
end Go.Proofs.YtpknmpgbaccffaaDoor

namespace Go.Proofs.YtpknmpgbaccffaaDoor
open Go.RowKit
set_option linter.unusedVariables false

/-- The document's data in memory; its tries ahead of k. -/
def RDataTo (n : Nat) (w : World) (g k : Nat) (TF : Nat → List (List Int)) (TN : Nat → List Nat) : Prop :=
  ∃ p : Nat → Value, n ≤ g ∧ w.heap[g]? = some (.cells [p 0, p 1, p 2, p 3].toArray 59 (0, 0)) ∧ ∀ i, i < k → ∃ gi, p i = .pointer (some ⟨gi, 0, none⟩) ∧ RefAt n w gi (TF i) (TN i)
theorem RDataTo.below {n : Nat} {w w' : World} {g k : Nat} {TF : Nat → List (List Int)} {TN : Nat → List Nat} (h : RDataTo n w g k TF TN) (hb : Below w.heap.size w w') : RDataTo n w' g k TF TN := by
  obtain ⟨p, h0, h1, h2⟩ := h
  refine ⟨p, h0, (hb.block g (heap_lt h1)).trans h1, fun i hi => ?_⟩
  obtain ⟨gi, e, hr⟩ := h2 i hi
  exact ⟨gi, e, hr.below hb⟩
theorem RefAt.mono {n m : Nat} {w : World} {g : Nat} {F : List (List Int)} {L : List Nat} (h : RefAt n w g F L) (hm : m ≤ n) : RefAt m w g F L := by
  obtain ⟨vF, vL, h1, h2, h3, h4, h5⟩ := h
  refine ⟨vF, vL, by omega, h2, ⟨h3.1, ?_⟩, ⟨h4.1, ?_⟩, h5⟩
  · rcases h3.2 with q | ⟨g', c, cur, e, hb, r⟩
    · exact .inl q
    · exact .inr ⟨g', c, cur, e, by omega, r⟩
  · rcases h4.2 with q | ⟨g', c, cur, e, hb, r⟩
    · exact .inl q
    · exact .inr ⟨g', c, cur, e, by omega, r⟩
theorem RefAt.setData {n : Nat} {w : World} {gi : Nat} {F : List (List Int)} {L : List Nat} (h : RefAt n w gi F L) {g : Nat} {cs : List Value} (hg : w.heap[g]? = some (.cells cs.toArray 59 (0, 0))) (j : Nat) (x : Value) : RefAt n (w.setCell ⟨g, j, none⟩ x) gi F L := by
  obtain ⟨vF, vL, h1, h2, h3, h4, h5⟩ := h
  have e1 : gi ≠ g := fun e => by
    rw [e, hg] at h2
    simp at h2
  refine ⟨vF, vL, h1, ?_, h3.kept (set_grown w g j x) (.inr (own_ne h3 hg (by decide))), h4.kept (set_grown w g j x) (.inr (own_ne h4 hg (by decide))), h5⟩
  rw [heap_setCell_other _ _ _ _ (fun e => e1 e)]
  exact h2
theorem RDataTo.store {n : Nat} {w : World} {g k : Nat} {TF : Nat → List (List Int)} {TN : Nat → List Nat} (h : RDataTo n w g k TF TN) (hk : k < 4) {gt : Nat} (ht : RefAt n w gt (TF k) (TN k)) : RDataTo n (w.setCell ⟨g, k, none⟩ (.pointer (some ⟨gt, 0, none⟩))) g (k + 1) TF TN := by
  obtain ⟨p, h0, h1, h2⟩ := h
  refine ⟨fun i => if i = k then .pointer (some ⟨gt, 0, none⟩) else p i, h0, heap_set_row h1 ?_, fun i hi => ?_⟩
  · have : k = 0 ∨ k = 1 ∨ k = 2 ∨ k = 3 := by omega
    rcases this with rfl | rfl | rfl | rfl <;> rfl
  · by_cases e : i = k
    · subst e
      exact ⟨gt, by show (if i = i then _ else _) = _; rw [if_pos rfl], ht.setData h1 i _⟩
    · obtain ⟨gi, e2, hr⟩ := h2 i (by omega)
      exact ⟨gi, by show (if i = k then _ else _) = _; rw [if_neg e]; exact e2, hr.setData h1 k _⟩
theorem RDataTo.cell {n : Nat} {w : World} {g k : Nat} {TF : Nat → List (List Int)} {TN : Nat → List Nat} (h : RDataTo n w g k TF TN) {i : Nat} (hi : i < 4) : (∃ u, w.cell? ⟨g, i, none⟩ = some u) ∧ w.frozen? ⟨g, i, none⟩ = false := by
  obtain ⟨p, _, h1, _⟩ := h
  refine ⟨⟨p i, ?_⟩, frozen_of_row _ _ _ _ _ h1⟩
  have : i = 0 ∨ i = 1 ∨ i = 2 ∨ i = 3 := by omega
  rcases this with rfl | rfl | rfl | rfl <;> exact cell_row h1 rfl
theorem RDataTo.trie {n : Nat} {w : World} {g k : Nat} {TF : Nat → List (List Int)} {TN : Nat → List Nat} (h : RDataTo n w g k TF TN) {i : Nat} (hi : i < k) (hk : k ≤ 4) : ∃ gi, w.cell? ⟨g, i, none⟩ = some (.pointer (some ⟨gi, 0, none⟩)) ∧ g < w.heap.size ∧ RefAt n w gi (TF i) (TN i) := by
  obtain ⟨p, _, h1, h2⟩ := h
  obtain ⟨gi, e, hr⟩ := h2 i hi
  refine ⟨gi, ?_, heap_lt h1, hr⟩
  have : i = 0 ∨ i = 1 ∨ i = 2 ∨ i = 3 := by omega
  rcases this with rfl | rfl | rfl | rfl <;> exact (cell_row h1 rfl).trans (by rw [e])
def tabN (i : Nat) : List Nat := likeOf (blocksF (valP (tabR i)))

set_option maxRecDepth 100000 in
set_option maxHeartbeats 8000000 in
theorem rnew_any (w : World) :
    Calls Tryd.prog 18 #[] w fun e w' => ∃ g, e = .returned (.pointer (some ⟨g, 0, none⟩)) ∧ RDataTo w.heap.size w' g 4 (fun i => firstB (tabR i)) tabN ∧ Below w.heap.size w w' := by
  obtain ⟨TF, hTF⟩ : ∃ TF : Nat → List (List Int), TF = fun i => firstB (tabR i) := ⟨_, rfl⟩
  obtain ⟨TN, hTN⟩ : ∃ TN : Nat → List Nat, TN = tabN := ⟨_, rfl⟩
  have hF : ∀ i, TF i = firstB (tabR i) := fun i => by rw [hTF]
  have hN : ∀ i, TN i = likeOf (blocksF (valP (tabR i))) := fun i => by rw [hTN]; unfold tabN; rfl
  have HTB : Hid (∀ i, i < 4 → ∀ v w, PropsIn w v (tabR i) → Calls Tryd.prog 33 #[v] w fun e w' => ∃ gt, e = .returned (.tuple #[.pointer (some ⟨gt, 0, none⟩), .int .i64 0]) ∧ RefAt w.heap.size w' gt (TF i) (TN i) ∧ Below w.heap.size w w') := fun i hi v w hv => by
    refine (refBuild_any (tabR i) v w hv (tab_bytesR i hi)).mono ?_
    rintro e w' ⟨pv, rfl, _, h2, h3⟩
    obtain ⟨gt, rfl, hr⟩ := h2 (tab_errR i hi)
    rw [tab_errR i hi]
    exact ⟨gt, rfl, by rw [hF, hN]; exact hr, h3⟩
  rw [← hTF, ← hTN]
  clear hTF hTN hF hN
  go_enter Tryd.func18, Tryd.ntmps18
  go_wp2_with fail
  have HD0 : Hid (RDataTo w.heap.size (w.alloc (.cells #[.pointer none, .pointer none, .pointer none, .pointer none] 59)) w.heap.size 0 TF TN) := ⟨fun _ => .pointer none, Nat.le_refl _, heap_new' w _, fun i hi => by omega⟩
  have HB0 : Hid (Below w.heap.size w (w.alloc (.cells #[.pointer none, .pointer none, .pointer none, .pointer none] 59))) := (Below.refl _ _).alloc (Nat.le_refl _) _
  obtain ⟨w1, hw1⟩ : ∃ w1, w1 = w.alloc (.cells #[.pointer none, .pointer none, .pointer none, .pointer none] 59) := ⟨_, rfl⟩
  obtain ⟨g, hg⟩ : ∃ g, g = w.heap.size := ⟨_, rfl⟩
  have HGW : Hid (w.heap.size ≤ g) := by show _ ≤ _; omega
  have HD1 : Hid (RDataTo w.heap.size w1 g 0 TF TN) := by rw [hw1, hg]; exact HD0.out
  rw [← hw1] at HB0
  rw [← hw1, ← hg]
  clear hw1 hg HD0
  go_loopw [2] (fun x wr => ∃ k : Nat, k ≤ 4 ∧ x = .int .i64 k ∧ RDataTo w.heap.size wr g k TF TN ∧ Below w.heap.size w wr) (fun x _ => 4 - (intOf x).toNat)
  case atStart => exact ⟨0, Nat.zero_le _, rfl, HD1.out, HB0.out⟩
  case round =>
    obtain ⟨k, hk, rfl, hD, hB⟩ := hrel
    have hsi := hB.size
    obtain ⟨HD, HB⟩ : Hid (RDataTo w.heap.size wr g k TF TN) ∧ Hid (Below w.heap.size w wr) := ⟨hD, hB⟩
    clear hD hB HD1 HB0
    by_cases hlt : k < 4
    · have hlt' : (k : Int) < 4 := by omega
      go_wp2_with fail
      refine (rprops_any k hlt wr).mono ?_
      rintro e w2 ⟨v2, rfl, hp2, hB2⟩
      have hs2 := hB2.size
      obtain ⟨HP2, HB2⟩ : Hid (PropsIn w2 v2 (tabR k)) ∧ Hid (Below wr.heap.size wr w2) := ⟨hp2, hB2⟩
      clear hp2 hB2
      go_wp2_with fail
      refine (HTB.out k hlt v2 w2 HP2.out).mono ?_
      rintro e w3 ⟨gt, rfl, ht3, hB3⟩
      have HB3 : Hid (Below wr.heap.size wr w3) := HB2.out.trans (hB3.mono hs2)
      have HT3 : Hid (RefAt w.heap.size w3 gt (TF k) (TN k)) := ht3.mono (by omega)
      have HD3 : Hid (RDataTo w.heap.size w3 g k TF TN) := HD.out.below HB3.out
      obtain ⟨⟨u, hu⟩, hfz⟩ := HD3.out.cell hlt
      clear ht3 hB3
      go_wp2_with fail
      go_roundw
      case rel => exact ⟨k + 1, by omega, by go_num, HD3.out.store hlt HT3.out, (HB.out.trans (HB3.out.mono hsi)).setCell (show w.heap.size ≤ g from HGW.out) _⟩
      case measure => simp [intOf]; omega
    · obtain rfl : k = 4 := by omega
      go_wp2
      go_ret
      exact ⟨g, rfl, HD.out, HB.out⟩
end Go.Proofs.YtpknmpgbaccffaaDoor

namespace Go.Proofs.YtpknmpgbaccffaaDoor
open Go.RowKit
set_option linter.unusedVariables false

theorem rsTo_rawU (F : List (List Int)) (L : List Nat) (hL : L.length = 4352) : rsTo F L 4352 ++ F.flatten = rawSave (L.map (fun k : Nat => (k : Int))) F := by
  unfold rsTo rawSave
  rw [List.take_of_length_le (by omega)]
  rfl
def castN (TN : Nat → List Nat) (i : Nat) : List Int := (TN i).map (fun k : Nat => (k : Int))
/-- What the document's tries keep to. -/
structure RFine (F : List (List Int)) (L : List Nat) : Prop where
  pos : 1 ≤ F.length
  le : F.length ≤ 256
  len : L.length = 4352
  lt : ∀ x ∈ L, x < F.length
  isB : ∀ b ∈ F, IsB b
theorem RFine.fine {F : List (List Int)} {L : List Nat} (h : RFine F L) : Fine (L.map (fun k : Nat => (k : Int))) F where
  len := by rw [List.length_map, h.len]
  lt := fun x hx => by
    obtain ⟨k, hk, rfl⟩ := List.mem_map.1 hx
    have := h.lt k hk
    omega
  isB := h.isB
  pos := h.pos
  le := h.le

set_option maxRecDepth 100000 in
set_option maxHeartbeats 8000000 in
theorem rdsave_any (n : Nat) (TF : Nat → List (List Int)) (TN : Nat → List Nat) (g : Nat) (w : World) (hn : n ≤ w.heap.size) (hd : RDataTo n w g 4 TF TN) (hf : ∀ i, i < 4 → RFine (TF i) (TN i)) :
    Calls Tryd.prog 19 #[.pointer (some ⟨g, 0, none⟩)] w fun e w' => ∃ v, e = .returned v ∧ w'.ownsRow w.heap.size 5 1 v (dataTo (castN TN) TF 4).length (i8 (dataTo (castN TN) TF 4)) ∧ Below w.heap.size w w' := by
  obtain ⟨iU, hiU, hzU0, hzU1, hzU2⟩ := info_parts Tryd.infoByte
  have HD : Hid (RDataTo n w g 4 TF TN) := hd
  have HF : Hid (∀ i, i < 4 → RFine (TF i) (TN i)) := hf
  have HNW : Hid (n ≤ w.heap.size) := hn
  clear hd hf hn
  go_enter Tryd.func19, Tryd.ntmps19
  go_wp2_with fail
  go_loopw [3, 4] (fun y x wr => ∃ k : Nat, k ≤ 4 ∧ x = .int .i64 k ∧ wr.ownsRow w.heap.size 5 1 y (dataTo (castN TN) TF k).length (i8 (dataTo (castN TN) TF k)) ∧ Below w.heap.size w wr) (fun _ x _ => 4 - (intOf x).toNat)
  case atStart => exact ⟨0, Nat.zero_le _, rfl, World.ownsRow_nil _ _ _ _, Below.refl _ _⟩
  case round =>
    obtain ⟨k, hk, rfl, ho, hB⟩ := hrel
    have hsi := hB.size
    obtain ⟨HO, HB⟩ : Hid (wr.ownsRow w.heap.size 5 1 u3 (dataTo (castN TN) TF k).length (i8 (dataTo (castN TN) TF k))) ∧ Hid (Below w.heap.size w wr) := ⟨ho, hB⟩
    clear ho hB
    by_cases hlt : k < 4
    · have hlt' : (k : Int) < 4 := by omega
      obtain ⟨gt, hc, _, hT⟩ := (HD.out.below HB.out).trie hlt (Nat.le_refl _)
      have HFK : Hid (RFine (TF k) (TN k)) := HF.out k hlt
      have HLE : Hid ((dataTo (castN TN) TF k).length ≤ 70000 * k) := dataTo_le (fun i hi => (HF.out i hi).fine) k hk
      have HRL : Hid ((rawSave (castN TN k) (TF k)).length = 4353 + 256 * (TF k).length) := raw_lengthU HFK.out.fine
      have HST : Hid (dataTo (castN TN) TF (k + 1) = dataTo (castN TN) TF k ++ (le4 (4353 + 256 * (TF k).length) ++ rawSave (castN TN k) (TF k))) := rfl
      have HFL : Hid ((TF k).length ≤ 256) := HFK.out.le
      obtain ⟨m, hm⟩ : ∃ m, m = 4353 + 256 * (TF k).length := ⟨_, rfl⟩
      obtain ⟨raw, hraw⟩ : ∃ raw, raw = rawSave (castN TN k) (TF k) := ⟨_, rfl⟩
      obtain ⟨A, hA⟩ : ∃ A, A = dataTo (castN TN) TF k := ⟨_, rfl⟩
      have HSV : Hid (Calls Tryd.prog 34 #[.pointer (some ⟨gt, 0, none⟩)] wr fun e w' => ∃ v, e = .returned v ∧ w'.ownsRow wr.heap.size 5 1 v m (i8 raw) ∧ Below wr.heap.size wr w') := by
        refine (refSave_any n (TF k) (TN k) gt wr (by have := HNW.out; omega) hT HFK.out.pos HFK.out.le HFK.out.len HFK.out.lt).mono ?_
        rintro e w' ⟨v, rfl, ho, hb⟩
        refine ⟨v, rfl, ?_, hb⟩
        rw [hm, hraw]
        rw [rsTo_rawU _ _ HFK.out.len, Nat.mul_comm (TF k).length] at ho
        exact ho
      rw [← hm, ← hraw, ← hA] at HST
      rw [← hm, ← hraw] at HRL
      rw [← hA] at HLE HO
      have HN : Hid (m ≤ 69889 ∧ 4353 ≤ m) := by show _ ∧ _; have := HFL.out; omega
      clear hT hm hraw hA
      go_wp2_with fail
      refine HSV.out.mono ?_
      rintro e w2 ⟨v2, rfl, ho2, hB2⟩
      obtain ⟨a2, c2, rfl⟩ := slice_of_row ho2
      have hs2 := hB2.size
      obtain ⟨HO2, HB2⟩ : Hid (w2.ownsRow wr.heap.size 5 1 (.slice a2 m c2) m (i8 raw)) ∧ Hid (Below wr.heap.size wr w2) := ⟨ho2, hB2⟩
      have HA2 : Hid (w2.ownsRow w.heap.size 5 1 u3 A.length (i8 A)) := ownsRow_below HO.out hB2
      have t1 : (m : Int).tmod 256 = (m : Int) % 256 := Int.tmod_eq_emod_of_nonneg (by omega)
      have t2 : (m : Int).tdiv 256 = (m : Int) / 256 := Int.tdiv_eq_ediv_of_nonneg (by omega)
      have t3 : ((m : Int) / 256).tmod 256 = (m : Int) / 256 % 256 := Int.tmod_eq_emod_of_nonneg (by omega)
      have t4 : (m : Int).tdiv 65536 = (m : Int) / 65536 := Int.tdiv_eq_ediv_of_nonneg (by omega)
      have t5 : ((m : Int) / 65536).tmod 256 = (m : Int) / 65536 % 256 := Int.tmod_eq_emod_of_nonneg (by omega)
      have t6 : (m : Int).tdiv 16777216 = (m : Int) / 16777216 := Int.tdiv_eq_ediv_of_nonneg (by omega)
      have v1 : IntKind.i64.wrap ((m : Int) % 256) = (m : Int) % 256 := IntWalk.i64_in _ (by omega)
      have v2' : IntKind.i64.wrap ((m : Int) / 256) = (m : Int) / 256 := IntWalk.i64_in _ (by have := HN.out; omega)
      have v3 : IntKind.i64.wrap ((m : Int) / 256 % 256) = (m : Int) / 256 % 256 := IntWalk.i64_in _ (by omega)
      have v4 : IntKind.i64.wrap ((m : Int) / 65536) = (m : Int) / 65536 := IntWalk.i64_in _ (by have := HN.out; omega)
      have v5 : IntKind.i64.wrap ((m : Int) / 65536 % 256) = (m : Int) / 65536 % 256 := IntWalk.i64_in _ (by omega)
      have v6 : IntKind.i64.wrap ((m : Int) / 16777216) = (m : Int) / 16777216 := IntWalk.i64_in _ (by have := HN.out; omega)
      have y1 : IntKind.u8.wrap ((m : Int) % 256) = (m : Int) % 256 := by
        have : IntKind.u8.wrap ((m : Int) % 256) = (m : Int) % 256 % 256 := by simp [IntKind.wrap, IntKind.signed, IntKind.bits]
        omega
      have y3 : IntKind.u8.wrap ((m : Int) / 256 % 256) = (m : Int) / 256 % 256 := by
        have : IntKind.u8.wrap ((m : Int) / 256 % 256) = (m : Int) / 256 % 256 % 256 := by simp [IntKind.wrap, IntKind.signed, IntKind.bits]
        omega
      have y5 : IntKind.u8.wrap ((m : Int) / 65536 % 256) = (m : Int) / 65536 % 256 := by
        have : IntKind.u8.wrap ((m : Int) / 65536 % 256) = (m : Int) / 65536 % 256 % 256 := by simp [IntKind.wrap, IntKind.signed, IntKind.bits]
        omega
      have y6 : IntKind.u8.wrap ((m : Int) / 16777216) = (m : Int) / 16777216 % 256 := by simp [IntKind.wrap, IntKind.signed, IntKind.bits]
      have HOA : Hid ((w2.alloc (.cells #[.int .u8 ((m : Int) % 256), .int .u8 ((m : Int) / 256 % 256), .int .u8 ((m : Int) / 65536 % 256), .int .u8 ((m : Int) / 16777216 % 256)] 5)).ownsRow w.heap.size 5 1 u3 A.length (i8 A)) := HA2.out.alloc _
      have HNA : Hid ((w2.alloc (.cells #[.int .u8 ((m : Int) % 256), .int .u8 ((m : Int) / 256 % 256), .int .u8 ((m : Int) / 65536 % 256), .int .u8 ((m : Int) / 16777216 % 256)] 5)).heap[w2.heap.size]? = some (.cells #[.int .u8 ((m : Int) % 256), .int .u8 ((m : Int) / 256 % 256), .int .u8 ((m : Int) / 65536 % 256), .int .u8 ((m : Int) / 16777216 % 256)] 5 (0, 0))) := heap_new' w2 _
      have HPA : Hid ((w2.alloc (.cells #[.int .u8 ((m : Int) % 256), .int .u8 ((m : Int) / 256 % 256), .int .u8 ((m : Int) / 65536 % 256), .int .u8 ((m : Int) / 16777216 % 256)] 5)).ownsRow wr.heap.size 5 1 (.slice a2 m c2) m (i8 raw)) := HO2.out.alloc _
      have HBA : Hid (Below w.heap.size w (w2.alloc (.cells #[.int .u8 ((m : Int) % 256), .int .u8 ((m : Int) / 256 % 256), .int .u8 ((m : Int) / 65536 % 256), .int .u8 ((m : Int) / 16777216 % 256)] 5))) := (HB.out.trans (HB2.out.mono hsi)).alloc (by omega) _
      obtain ⟨gp, rfl⟩ : ∃ gp, a2 = some ⟨gp, 0, none⟩ := by
        rcases HO2.out.2 with ⟨_, h0⟩ | ⟨g', cap', cur, e, _⟩
        · have := HN.out
          omega
        · exact ⟨g', by simpa using (by simpa using e : _ ∧ _).1⟩
      have HRN : Hid (raw.length = m) := by show _ = _; have h2 := HO2.out.1; rw [i8_length] at h2; omega
      clear ho2 hB2
      go_wp2_with (first | (at_builtin; refine wpList_append_own _ rfl _ _ 30 rfl w.heap.size 5 iU (.int .u8 0) 1 1 Tryd.undBy hiU hzU0 hzU1 hzU2 rfl (by decide) _ _ _ rfl HOA.out ⟨w2.heap.size, 0, none⟩ 4 4 (i8 (le4 m)) rfl rfl (World.news_of_block HNA.out) (i8_one _) (by unfold maxLen; have := HLE.out; omega) (by have := HLE.out; omega) (by simp; omega) ?_; intro v3 w3 ho3 hg3 _; have HP3 : Hid (w3.ownsRow wr.heap.size 5 1 (.slice (some ⟨gp, 0, none⟩) m c2) m (i8 raw)) := HPA.out.kept hg3 (.inr (by intro e; have h1 := (HO.out.lt gp e.symm).2; have h2 := (HO2.out.lt gp rfl).1; omega)); have HO3 : Hid (w3.ownsRow w.heap.size 5 1 v3 (A.length + 4) (i8 (A ++ le4 m))) := (by rw [i8_append]; exact ho3); have HB3 : Hid (Below w.heap.size w w3) := HBA.out.grown hg3 (by simp; omega) (fun j e => (HOA.out.lt j e).1); have HSRC : Hid (∀ j u, (i8 raw)[j]? = some u → w3.cell? ((⟨gp, 0, none⟩ : Addr).add j) = some u) := HP3.out.cells (g := gp) rfl; have HSZ3 : Hid (w.heap.size ≤ w3.heap.size) := HB3.out.size; clear ho3 hg3) | (at_builtin; refine wpList_append_own _ rfl _ _ 30 rfl w.heap.size 5 iU (.int .u8 0) 1 1 Tryd.undBy hiU hzU0 hzU1 hzU2 rfl (by decide) _ _ _ rfl HO3.out ⟨gp, 0, none⟩ m c2 (i8 raw) rfl (by rw [i8_length, HRN.out, Nat.mul_one]) HSRC.out (i8_one raw) (by unfold maxLen; have := HN.out; have := HLE.out; omega) (by have := HN.out; have := HLE.out; omega) HSZ3.out ?_; intro v4 w4 ho4 hg4 _; have HO4 : Hid (w4.ownsRow w.heap.size 5 1 v4 (dataTo (castN TN) TF (k + 1)).length (i8 (dataTo (castN TN) TF (k + 1)))) := (by have e : (dataTo (castN TN) TF (k + 1)).length = A.length + 4 + m := (by rw [HST.out, List.length_append, List.length_append, le4_length, HRN.out]; omega); rw [e, HST.out, ← List.append_assoc, i8_append]; exact ho4); have HB4 : Hid (Below w.heap.size w w4) := HB3.out.grown hg4 HSZ3.out (fun j e => (HO3.out.lt j e).1); clear ho4 hg4) | fail)
      go_roundw
      case rel => exact ⟨k + 1, by omega, by go_num, HO4.out, HB4.out⟩
      case measure => simp [intOf]; omega
    · obtain rfl : k = 4 := by omega
      go_wp2
      go_ret
      exact ⟨_, rfl, HO.out, HB.out⟩
end Go.Proofs.YtpknmpgbaccffaaDoor

namespace Go.Proofs.YtpknmpgbaccffaaDoor
open Go.RowKit
set_option linter.unusedVariables false

def catP (p : Nat → List Int) : Nat → List Int
  | 0 => []
  | k + 1 => catP p k ++ (le4 (p k).length ++ p k)
theorem cut_le4 (n : Nat) (hn : n < 4294967296) (p r : List Int) (hp : p.length = n) : partL (le4 n ++ p ++ r) = p ∧ restL (le4 n ++ p ++ r) = r ∧ cutOk (le4 n ++ p ++ r) = true := by
  have hc : cnB (le4 n ++ p ++ r) = n := by
    have e : cnB (le4 n ++ p ++ r) = ((n : Int) % 256).toNat + 256 * ((n : Int) / 256 % 256).toNat + 65536 * ((n : Int) / 65536 % 256).toNat + 16777216 * ((n : Int) / 16777216 % 256).toNat := rfl
    rw [e]
    omega
  have hl : (le4 n ++ p ++ r).length = 4 + (n + r.length) := by rw [List.length_append, List.length_append, le4_length, hp]; omega
  refine ⟨?_, ?_, ?_⟩
  · unfold partL
    rw [hc, List.append_assoc, List.drop_left' (le4_length n), ← hp]
    exact List.take_left
  · unfold restL
    rw [hc]
    have e : (le4 n ++ p).length = 4 + n := by rw [List.length_append, le4_length, hp]
    exact List.drop_left' e
  · unfold cutOk
    rw [hc, hl]
    simp
theorem cat_rest (p : Nat → List Int) (hp : ∀ i, i < 4 → (p i).length < 4294967296) : (∀ i, i < 4 → partAt i (catP p 4) = p i ∧ cutOk (restAt i (catP p 4)) = true) ∧ restAt 4 (catP p 4) = [] := by
  have e0 : catP p 4 = le4 (p 0).length ++ p 0 ++ (le4 (p 1).length ++ p 1 ++ (le4 (p 2).length ++ p 2 ++ (le4 (p 3).length ++ p 3 ++ []))) := by
    simp [catP, List.append_assoc]
  have c0 := cut_le4 _ (hp 0 (by omega)) (p 0) (le4 (p 1).length ++ p 1 ++ (le4 (p 2).length ++ p 2 ++ (le4 (p 3).length ++ p 3 ++ []))) rfl
  have c1 := cut_le4 _ (hp 1 (by omega)) (p 1) (le4 (p 2).length ++ p 2 ++ (le4 (p 3).length ++ p 3 ++ [])) rfl
  have c2 := cut_le4 _ (hp 2 (by omega)) (p 2) (le4 (p 3).length ++ p 3 ++ []) rfl
  have c3 := cut_le4 _ (hp 3 (by omega)) (p 3) [] rfl
  have r0 : restAt 0 (catP p 4) = _ := e0
  have r1 : restAt 1 (catP p 4) = _ := (congrArg restL r0).trans c0.2.1
  have r2 : restAt 2 (catP p 4) = _ := (congrArg restL r1).trans c1.2.1
  have r3 : restAt 3 (catP p 4) = _ := (congrArg restL r2).trans c2.2.1
  have r4 : restAt 4 (catP p 4) = _ := (congrArg restL r3).trans c3.2.1
  refine ⟨four ?_ ?_ ?_ ?_, r4⟩
  · exact ⟨(congrArg partL r0).trans c0.1, (congrArg cutOk r0).trans c0.2.2⟩
  · exact ⟨(congrArg partL r1).trans c1.1, (congrArg cutOk r1).trans c1.2.2⟩
  · exact ⟨(congrArg partL r2).trans c2.1, (congrArg cutOk r2).trans c2.2.2⟩
  · exact ⟨(congrArg partL r3).trans c3.1, (congrArg cutOk r3).trans c3.2.2⟩
theorem data_cat {TL : Nat → List Int} {TF : Nat → List (List Int)} (hf : ∀ i, i < 4 → Fine (TL i) (TF i)) : ∀ k, k ≤ 4 → dataTo TL TF k = catP (fun i => rawSave (TL i) (TF i)) k
  | 0, _ => rfl
  | k + 1, h => by
    have ih := data_cat hf k (by omega)
    unfold dataTo catP
    rw [ih, raw_lengthU (hf k (by omega))]
theorem cat_byL {p : Nat → List Int} : ∀ k, (∀ i, i < k → ByL (p i)) → ByL (catP p k)
  | 0, _ => fun x hx => by cases hx
  | k + 1, h => fun x hx => by
    unfold catP at hx
    rcases List.mem_append.1 hx with q | q
    · exact cat_byL k (fun i hi => h i (by omega)) x q
    · rcases List.mem_append.1 q with z | z
      · unfold le4 at z
        simp at z
        omega
      · exact h k (by omega) x z
/-- The bytes of tries of entries: loaded, the tries again. -/
theorem saved_data (l : Nat → List Pp) (hby : ∀ i, i < 4 → Bytes (l i)) (he : ∀ i, i < 4 → errB (l i) = 0) (sv : List Int) (hsv : sv = dataTo (fun i => likeB (l i)) (fun i => firstB (l i)) 4) :
    okD sv = true ∧ ByL sv ∧ sv.length ≤ 280000 ∧ ∀ i, i < 4 → dL sv i = likeB (l i) ∧ dF sv i = firstB (l i) := by
  have hf : ∀ i, i < 4 → Fine (likeB (l i)) (firstB (l i)) := fun i hi => fineB (hby i hi) (errB_zero (he i hi)).2.2
  have hlen : sv.length ≤ 280000 := by
    have := dataTo_le hf 4 (Nat.le_refl _)
    rw [hsv]; omega
  rw [data_cat hf 4 (Nat.le_refl _)] at hsv
  have hraw : ∀ i, rawSave (likeB (l i)) (firstB (l i)) = saveL (blocksF (valP (l i))) := fun i => rawB (l i)
  obtain ⟨p, hp⟩ : ∃ p : Nat → List Int, p = fun i => rawSave (likeB (l i)) (firstB (l i)) := ⟨_, rfl⟩
  have hpi : ∀ i, p i = saveL (blocksF (valP (l i))) := fun i => by rw [hp]; exact hraw i
  rw [← hp] at hsv
  have hpl : ∀ i, i < 4 → (p i).length < 4294967296 := fun i hi => by
    have h1 := raw_lengthU (hf i hi)
    have h2 := (hf i hi).le
    have e : p i = rawSave (likeB (l i)) (firstB (l i)) := by rw [hp]
    rw [e, h1]; omega
  obtain ⟨h1, h2⟩ := cat_rest p hpl
  rw [← hsv] at h1 h2
  have hok : ∀ i, okL (saveL (blocksF (valP (l i)))) := fun i => okL_save (even_blocks _) (blocksF_length _)
  have hpt := fun i => saved_parts (even_blocks (valP (l i))) (blocksF_length (valP (l i)))
  have hB : ∀ i, i < 4 → ByL (p i) := fun i hi => by
    rw [hpi]
    have hF : firstB (l i) = firstsOf (blocksF (valP (l i))) := rfl
    exact saved_byL (by rw [← hF]; exact (hf i hi).pos) (by rw [← hF]; exact (hf i hi).le) (fun b hb => (hf i hi).isB b (by rw [hF]; exact firsts_mem.2 hb))
  refine ⟨okD_mk (fun k hk => ?_) (by rw [h2]; rfl), by rw [hsv]; exact cat_byL 4 hB, hlen, fun i hi => ?_⟩
  · unfold okAt
    rw [(h1 k hk).1, (h1 k hk).2, hpi, okLb_iff.2 (hok k)]
    rfl
  · unfold dL dF
    rw [(h1 i hi).1, hpi]
    exact ⟨(hpt i).2.1, (hpt i).2.2.1⟩
theorem DataAt.congr {w : World} {g : Nat} {TL TL' : Nat → List Int} {TF TF' : Nat → List (List Int)} (h : DataAt w g TL TF) (e : ∀ i, i < 4 → TL i = TL' i ∧ TF i = TF' i) : DataAt w g TL' TF' := by
  obtain ⟨p, h1, h2⟩ := h
  refine ⟨p, h1, fun i hi => ?_⟩
  rw [← (e i hi).1, ← (e i hi).2]
  exact h2 i hi
theorem dataTo_congr {TL TL' : Nat → List Int} {TF TF' : Nat → List (List Int)} : ∀ k, (∀ i, i < k → TL i = TL' i ∧ TF i = TF' i) → dataTo TL TF k = dataTo TL' TF' k
  | 0, _ => rfl
  | k + 1, h => by
    unfold dataTo
    rw [dataTo_congr k (fun i hi => h i (by omega)), (h k (by omega)).1, (h k (by omega)).2]
/-- The shipped data's bytes. -/
structure SavedBytes (sv : List Int) : Prop where
  ok : okD sv = true
  byL : ByL sv
  len : sv.length ≤ 280000
  parts : ∀ i, i < 4 → dL sv i = likeB (tabP i) ∧ dF sv i = firstB (tabP i)
  is : sv = dataTo (fun i => likeB (tabP i)) (fun i => firstB (tabP i)) 4
theorem saved_bytesU : ∃ sv, SavedBytes sv := by
  obtain ⟨sv, hsv⟩ : ∃ sv, sv = dataTo (fun i => likeB (tabP i)) (fun i => firstB (tabP i)) 4 := ⟨_, rfl⟩
  obtain ⟨h1, h2, h3, h4⟩ := saved_data tabP tab_bytes tab_err sv hsv
  exact ⟨sv, h1, h2, h3, h4, hsv⟩
theorem ship_save {sv : List Int} (hsv : SavedBytes sv) (w : World) (g : Nat) (h : Ship w g) : Calls Tryd.prog 16 #[.pointer (some ⟨g, 0, none⟩)] w fun e w' => ∃ v, e = .returned v ∧ BytesAt w'.heap.size w' v sv ∧ Below w.heap.size w w' := by
  have := dsave_any _ _ g w h.data (fun i hi => tab_fine i hi)
  rw [← hsv.is] at this
  refine this.mono ?_
  rintro e w' ⟨v, rfl, ho, hb⟩
  exact ⟨v, rfl, bytes_of_row ho, hb⟩
theorem ship_load {sv : List Int} (hsv : SavedBytes sv) (v : Value) (w : World) (hv : BytesAt w.heap.size w v sv) : Calls Tryd.prog 17 #[v] w fun e w' => ∃ g, e = .returned (.tuple #[.pointer (some ⟨g, 0, none⟩), .int .i64 0]) ∧ Ship w' g ∧ Below w.heap.size w w' := by
  refine (dload_any sv v w hv hsv.byL (by have := hsv.len; omega)).mono ?_
  rintro e w' ⟨pv, rfl, _, h2, h3⟩
  have e0 : errD sv = 0 := by unfold errD; rw [if_pos hsv.ok]
  obtain ⟨g, rfl, hd⟩ := h2 e0
  rw [e0]
  exact ⟨g, rfl, ⟨hd.congr hsv.parts⟩, h3⟩
theorem rtab_fine (i : Nat) (hi : i < 4) : RFine (firstB (tabR i)) (tabN i) where
  pos := by rw [← firstB_tab i hi]; exact (tab_fine i hi).pos
  le := by rw [← firstB_tab i hi]; exact (tab_fine i hi).le
  len := by unfold tabN; rw [like_length, blocksF_length]
  lt := fun x hx => by
    unfold tabN at hx
    obtain ⟨j, hj, rfl⟩ := List.getElem_of_mem hx
    rw [like_length] at hj
    exact like_lt hj
  isB := by rw [← firstB_tab i hi]; exact (tab_fine i hi).isB
theorem rtab_data {sv : List Int} (hsv : SavedBytes sv) : dataTo (castN tabN) (fun i => firstB (tabR i)) 4 = sv := by
  rw [hsv.is]
  refine dataTo_congr 4 (fun i hi => ⟨?_, (firstB_tab i hi).symm⟩)
  rw [likeB_tab i hi]
  rfl
theorem rship_save {sv : List Int} (hsv : SavedBytes sv) (n : Nat) (w : World) (g : Nat) (hn : n ≤ w.heap.size) (h : RDataTo n w g 4 (fun i => firstB (tabR i)) tabN) : Calls Tryd.prog 19 #[.pointer (some ⟨g, 0, none⟩)] w fun e w' => ∃ v, e = .returned v ∧ w'.ownsRow w.heap.size 5 1 v sv.length (i8 sv) ∧ Below w.heap.size w w' := by
  have := rdsave_any n _ _ g w hn h (fun i hi => rtab_fine i hi)
  rw [rtab_data hsv] at this
  exact this
end Go.Proofs.YtpknmpgbaccffaaDoor
