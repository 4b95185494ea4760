/-
  scansionref04: the document's tables, their entries, and the value of a number by them. scansionref04.props, Value. The document's data: its New, and what it tells of a number.
-/
import Derived.Test.YtpmlbdfdiebkcaaDoorFacts
import Derived.Test.YtpmlbdfdiebkcaaDoorXF
import Derived.Test.YtpmlbdfdiebkcaaDoorWdMath
namespace Go.Proofs.YtpmlbdfdiebkcaaDoor
open Go.RowKit
set_option linter.unusedVariables false

def cells3 (p : Pp) : List Value := [.int .i64 p.lo, .int .i64 p.hi, .int .i64 p.v]
def cells3s (l : List Pp) : List Value := l.flatMap cells3
theorem cells3s_at : ∀ (l : List Pp) (i j : Nat) (h : i < l.length), j < 3 → (cells3s l)[i * 3 + j]? = (cells3 l[i])[j]?
  | u :: us, 0, j, h, hj => by
    have e : cells3s (u :: us) = cells3 u ++ cells3s us := rfl
    rw [e, Nat.zero_mul, Nat.zero_add, List.getElem?_append_left (by simpa [cells3] using hj)]
    rfl
  | u :: us, i + 1, j, h, hj => by
    have e : cells3s (u :: us) = cells3 u ++ cells3s us := rfl
    rw [e, List.getElem?_append_right (by simp [cells3]; omega)]
    have e2 : (i + 1) * 3 + j - (cells3 u).length = i * 3 + j := by simp [cells3]; omega
    rw [e2, cells3s_at us i j (by simpa using h) hj]
    rfl
/-- The slice value v holds the rows l. -/
def TripIn (w : World) (v : Value) (l : List Pp) : Prop :=
  ∃ a cap, v = .slice a l.length cap ∧ ∀ i, (h : i < l.length) → ∃ g off, a = some ⟨g, off, none⟩ ∧ g < w.heap.size ∧ w.cell? ⟨g, off + i * 3, none⟩ = some (.int .i64 l[i].lo) ∧ w.cell? ⟨g, off + i * 3 + 1, none⟩ = some (.int .i64 l[i].hi) ∧ w.cell? ⟨g, off + i * 3 + 2, none⟩ = some (.int .i64 l[i].v)
def tripV (w : World) (l : List Pp) : Value := .slice (some ⟨w.heap.size, 0, none⟩) l.length l.length
def tripW (w : World) (l : List Pp) : World := w.alloc (.cells (cells3s l).toArray 91)
theorem trip_in (w : World) (l : List Pp) : TripIn (tripW w l) (tripV w l) l := by
  have hsz : (tripW w l).heap.size = w.heap.size + 1 := by simp [tripW]
  refine ⟨_, _, rfl, fun i hi => ⟨w.heap.size, 0, rfl, by omega, ?_, ?_, ?_⟩⟩
  · rw [Nat.zero_add]; exact cell_row (heap_new' w _) ((cells3s_at l i 0 hi (by omega)).trans rfl)
  · rw [Nat.zero_add]; exact cell_row (heap_new' w _) ((cells3s_at l i 1 hi (by omega)).trans rfl)
  · rw [Nat.zero_add]; exact cell_row (heap_new' w _) ((cells3s_at l i 2 hi (by omega)).trans rfl)
theorem tripW_below (w : World) (l : List Pp) : Below w.heap.size w (tripW w l) := (Below.refl _ _).alloc (Nat.le_refl _) _
set_option maxRecDepth 1000000 in
theorem rcluster_any (w : World) : Calls Tryd.prog 77 #[] w fun e w' => e = .returned (tripV w clR) ∧ w' = tripW w clR :=
  calls_table (noTab_ok _) Tryd.func77 rfl rfl (by kernel_rfl)
set_option maxRecDepth 1000000 in
theorem rword_any (w : World) : Calls Tryd.prog 78 #[] w fun e w' => e = .returned (tripV w wdR) ∧ w' = tripW w wdR :=
  calls_table (noTab_ok _) Tryd.func78 rfl rfl (by kernel_rfl)
set_option maxRecDepth 1000000 in
theorem rscript_any (w : World) : Calls Tryd.prog 79 #[] w fun e w' => e = .returned (tripV w scR) ∧ w' = tripW w scR :=
  calls_table (noTab_ok _) Tryd.func79 rfl rfl (by kernel_rfl)
set_option maxRecDepth 1000000 in
theorem rpicto_any (w : World) : Calls Tryd.prog 80 #[] w fun e w' => e = .returned (tripV w piR) ∧ w' = tripW w piR :=
  calls_table (noTab_ok _) Tryd.func80 rfl rfl (by kernel_rfl)

set_option maxRecDepth 100000 in
set_option maxHeartbeats 8000000 in
theorem rrows_any (i : Nat) (hi : i < 4) (w : World) :
    Calls Tryd.prog 57 #[.int .i64 (i : Int)] w fun e w' => ∃ v, e = .returned v ∧ TripIn w' v (tabR i) ∧ Below w.heap.size w w' := by
  have : i = 0 ∨ i = 1 ∨ i = 2 ∨ i = 3 := by omega
  rcases this with rfl | rfl | rfl | rfl
  · obtain ⟨R, hR⟩ : ∃ R, R = tabR 0 := ⟨_, rfl⟩
    have HC : Hid (Calls Tryd.prog 77 #[] w fun e w' => ∃ v, e = .returned v ∧ TripIn w' v R ∧ Below w.heap.size w w') := by
      rw [hR]; exact (rcluster_any w).mono (by rintro e w' ⟨rfl, rfl⟩; exact ⟨_, rfl, trip_in w _, tripW_below w _⟩)
    rw [← hR]
    clear hR
    go_enter Tryd.func57, Tryd.ntmps57
    go_wp2_with fail
    refine HC.out.mono ?_
    rintro e w1 ⟨v1, rfl, h1, hB1⟩
    obtain ⟨H1, HB1⟩ : Hid (TripIn w1 v1 R) ∧ Hid (Below w.heap.size w w1) := ⟨h1, hB1⟩
    clear h1 hB1
    go_wp2
    go_ret
    exact ⟨_, rfl, H1.out, HB1.out⟩
  · obtain ⟨R, hR⟩ : ∃ R, R = tabR 1 := ⟨_, rfl⟩
    have HC : Hid (Calls Tryd.prog 78 #[] w fun e w' => ∃ v, e = .returned v ∧ TripIn w' v R ∧ Below w.heap.size w w') := by
      rw [hR]; exact (rword_any w).mono (by rintro e w' ⟨rfl, rfl⟩; exact ⟨_, rfl, trip_in w _, tripW_below w _⟩)
    rw [← hR]
    clear hR
    go_enter Tryd.func57, Tryd.ntmps57
    go_wp2_with fail
    refine HC.out.mono ?_
    rintro e w1 ⟨v1, rfl, h1, hB1⟩
    obtain ⟨H1, HB1⟩ : Hid (TripIn w1 v1 R) ∧ Hid (Below w.heap.size w w1) := ⟨h1, hB1⟩
    clear h1 hB1
    go_wp2
    go_ret
    exact ⟨_, rfl, H1.out, HB1.out⟩
  · obtain ⟨R, hR⟩ : ∃ R, R = tabR 2 := ⟨_, rfl⟩
    have HC : Hid (Calls Tryd.prog 79 #[] w fun e w' => ∃ v, e = .returned v ∧ TripIn w' v R ∧ Below w.heap.size w w') := by
      rw [hR]; exact (rscript_any w).mono (by rintro e w' ⟨rfl, rfl⟩; exact ⟨_, rfl, trip_in w _, tripW_below w _⟩)
    rw [← hR]
    clear hR
    go_enter Tryd.func57, Tryd.ntmps57
    go_wp2_with fail
    refine HC.out.mono ?_
    rintro e w1 ⟨v1, rfl, h1, hB1⟩
    obtain ⟨H1, HB1⟩ : Hid (TripIn w1 v1 R) ∧ Hid (Below w.heap.size w w1) := ⟨h1, hB1⟩
    clear h1 hB1
    go_wp2
    go_ret
    exact ⟨_, rfl, H1.out, HB1.out⟩
  · obtain ⟨R, hR⟩ : ∃ R, R = tabR 3 := ⟨_, rfl⟩
    have HC : Hid (Calls Tryd.prog 80 #[] w fun e w' => ∃ v, e = .returned v ∧ TripIn w' v R ∧ Below w.heap.size w w') := by
      rw [hR]; exact (rpicto_any w).mono (by rintro e w' ⟨rfl, rfl⟩; exact ⟨_, rfl, trip_in w _, tripW_below w _⟩)
    rw [← hR]
    clear hR
    go_enter Tryd.func57, Tryd.ntmps57
    go_wp2_with fail
    refine HC.out.mono ?_
    rintro e w1 ⟨v1, rfl, h1, hB1⟩
    obtain ⟨H1, HB1⟩ : Hid (TripIn w1 v1 R) ∧ Hid (Below w.heap.size w w1) := ⟨h1, hB1⟩
    clear h1 hB1
    go_wp2
    go_ret
    exact ⟨_, rfl, H1.out, HB1.out⟩

end Go.Proofs.YtpmlbdfdiebkcaaDoor

namespace Go.Proofs.YtpmlbdfdiebkcaaDoor
open Go.RowKit
set_option linter.unusedVariables false

set_option maxRecDepth 100000 in
set_option maxHeartbeats 8000000 in
theorem rprops_any (i : Nat) (hi : i < 4) (w : World) :
    Calls Tryd.prog 27 #[.int .i64 (i : Int)] w fun e w' => ∃ v, e = .returned v ∧ PropsIn w' v (tabR i) ∧ Below w.heap.size w w' := by
  obtain ⟨iP, hiP, hzP0, hzP1, hzP2⟩ := info_parts Tryd.infoProp
  obtain ⟨R, hR⟩ : ∃ R, R = tabR i := ⟨_, rfl⟩
  have HC : Hid (Calls Tryd.prog 57 #[.int .i64 (i : Int)] w fun e w' => ∃ v, e = .returned v ∧ TripIn w' v R ∧ Below w.heap.size w w') := by rw [hR]; exact rrows_any i hi w
  have HLN : Hid (R.length ≤ 129) := by show _ ≤ _; rw [hR]; exact (tab_len i hi).2
  have HVB : Hid (∀ p ∈ R, 0 ≤ p.v ∧ p.v ≤ 255) := by intro p hp; rw [hR] at hp; exact (tab_goodR i hi p hp).2.2.2
  rw [← hR]
  clear hR
  go_enter Tryd.func27, Tryd.ntmps27
  go_wp2_with fail
  refine HC.out.mono ?_
  rintro e w1 ⟨v1, rfl, h1, hB1⟩
  obtain ⟨a, cap, rfl, hcl⟩ := h1
  have HCL : Hid (∀ i, (h : i < R.length) → ∃ g off, a = some ⟨g, off, none⟩ ∧ g < w1.heap.size ∧ w1.cell? ⟨g, off + i * 3, none⟩ = some (.int .i64 R[i].lo) ∧ w1.cell? ⟨g, off + i * 3 + 1, none⟩ = some (.int .i64 R[i].hi) ∧ w1.cell? ⟨g, off + i * 3 + 2, none⟩ = some (.int .i64 R[i].v)) := hcl
  have HB1 : Hid (Below w.heap.size w w1) := hB1
  clear hcl hB1
  go_wp2_with fail
  go_loopw [4, 5] (fun y x wr => ∃ k : Nat, k ≤ R.length ∧ x = .int .i64 k ∧ wr.ownsRow w1.heap.size 70 3 y (R.take k).length (cellsPs (R.take k)) ∧ Below w1.heap.size w1 wr) (fun _ x _ => R.length - (intOf x).toNat)
  case atStart => exact ⟨0, Nat.zero_le _, rfl, World.ownsRow_nil _ _ _ _, Below.refl _ _⟩
  case round =>
    obtain ⟨k, hk, rfl, ho, hB⟩ := hrel
    have hsi := hB.size
    by_cases hlt : k < R.length
    · have hlt' : (k : Int) < (R.length : Int) := by omega
      obtain ⟨g, off, rfl, hg, c0, c1, c2⟩ := HCL.out k hlt
      obtain ⟨p, hp⟩ : ∃ p, p = R[k] := ⟨_, rfl⟩
      have HPV : Hid (0 ≤ p.v ∧ p.v ≤ 255) := by rw [hp]; exact HVB.out _ (List.getElem_mem hlt)
      have HST : Hid (R.take (k + 1) = R.take k ++ [p]) := by show _ = _; rw [List.take_succ_eq_append_getElem hlt, hp]
      rw [← hp] at c0 c1 c2
      have d0 : wr.cell? ⟨g, off + k * 3, none⟩ = some (.int .i64 p.lo) := (hB.cell (p := ⟨g, _, none⟩) hg).trans c0
      have d1 : wr.cell? ⟨g, off + k * 3 + 1, none⟩ = some (.int .i64 p.hi) := (hB.cell (p := ⟨g, _, none⟩) hg).trans c1
      have d2 : wr.cell? ⟨g, off + k * 3 + 2, none⟩ = some (.int .i64 p.v) := (hB.cell (p := ⟨g, _, none⟩) hg).trans c2
      have hwv : IntKind.u8.wrap p.v = p.v := by
        have : IntKind.u8.wrap p.v = p.v % 256 := by simp [IntKind.wrap, IntKind.signed, IntKind.bits]
        have := HPV.out
        omega
      have HN : Hid ((R.take k).length ≤ 129) := by show _ ≤ _; rw [List.length_take]; have := HLN.out; omega
      obtain ⟨Q, hQ⟩ : ∃ Q, Q = R.take k := ⟨_, rfl⟩
      rw [← hQ] at HST HN ho
      obtain ⟨HO, HB⟩ : Hid (wr.ownsRow w1.heap.size 70 3 u4 Q.length (cellsPs Q)) ∧ Hid (Below w1.heap.size w1 wr) := ⟨ho, hB⟩
      have HWJ : Hid (wrap64 ((k : Int) + 1) = ((k + 1 : Nat) : Int)) := wrap_next (by have := HLN.out; omega)
      clear hp c0 c1 c2 ho hB hQ
      have hL0 : ∀ w', Below wr.heap.size wr w' → w'.cell? ⟨g, off + k * 3, none⟩ = some (.int .i64 p.lo) := fun w' hw' => (hw'.cell (p := ⟨g, _, none⟩) (by show g < _; omega)).trans d0
      have hL1 : ∀ w', Below wr.heap.size wr w' → w'.cell? ⟨g, off + k * 3 + 1, none⟩ = some (.int .i64 p.hi) := fun w' hw' => (hw'.cell (p := ⟨g, _, none⟩) (by show g < _; omega)).trans d1
      have hL2 : ∀ w', Below wr.heap.size wr w' → w'.cell? ⟨g, off + k * 3 + 2, none⟩ = some (.int .i64 p.v) := fun w' hw' => (hw'.cell (p := ⟨g, _, none⟩) (by show g < _; omega)).trans d2
      obtain ⟨HL0, HL1, HL2⟩ : Hid (∀ w', Below wr.heap.size wr w' → w'.cell? ⟨g, off + k * 3, none⟩ = some (.int .i64 p.lo)) ∧ Hid (∀ w', Below wr.heap.size wr w' → w'.cell? ⟨g, off + k * 3 + 1, none⟩ = some (.int .i64 p.hi)) ∧ Hid (∀ w', Below wr.heap.size wr w' → w'.cell? ⟨g, off + k * 3 + 2, none⟩ = some (.int .i64 p.v)) := ⟨hL0, hL1, hL2⟩
      clear d0 d1 d2 hL0 hL1 hL2
      go_wp2_with fail
      refine wp_region_bad (fun w' => Below wr.heap.size wr w') [19] (by kernel_rfl) ((Below.refl _ _).drew) (fun hS => ?_)
      refine wpAnyB_pure (i := 0) (v := u4) rfl (by kernel_rfl) (fun _ _ _ h => h) (Or.inl ⟨by rfl, fun w _ => by go_simp⟩) hS ?_
      simp only [List.getElem_toArray, List.getElem_cons_zero, Act.put, List.setIfInBounds_toArray, List.set_cons_zero, List.set_cons_succ]
      refine wpAnyB_pure (i := 1) (v := .slice (some ⟨g, off, none⟩) R.length cap) rfl (by kernel_rfl) (fun _ _ _ h => h) (Or.inl ⟨by rfl, fun w _ => by go_simp⟩) hS ?_
      simp only [List.getElem_toArray, List.getElem_cons_succ, List.getElem_cons_zero, Act.put, List.setIfInBounds_toArray, List.set_cons_zero, List.set_cons_succ]
      refine wpAnyB_pure (i := 2) (v := .int .i64 (k : Int)) rfl (by kernel_rfl) (fun _ _ _ h => h) (Or.inl ⟨by rfl, fun w _ => by go_simp⟩) hS ?_
      simp only [List.getElem_toArray, List.getElem_cons_succ, List.getElem_cons_zero, Act.put, List.setIfInBounds_toArray, List.set_cons_zero, List.set_cons_succ]
      refine wpAnyB_pure (i := 3) (v := .pointer (some ⟨g, off + k * 3, none⟩)) rfl (by kernel_rfl) (fun _ _ _ h => h) (Or.inl ⟨by rfl, fun w _ => by go_simp⟩) hS ?_
      simp only [List.getElem_toArray, List.getElem_cons_succ, List.getElem_cons_zero, Act.put, List.setIfInBounds_toArray, List.set_cons_zero, List.set_cons_succ]
      refine wpAnyB_pure (i := 4) (v := .pointer (some ⟨g, off + k * 3, none⟩)) rfl (by kernel_rfl) (fun _ _ _ h => h) (Or.inl ⟨by rfl, fun w _ => by go_simp⟩) hS ?_
      simp only [List.getElem_toArray, List.getElem_cons_succ, List.getElem_cons_zero, Act.put, List.setIfInBounds_toArray, List.set_cons_zero, List.set_cons_succ]
      refine wpAnyB_take [5, 17, 18, 19] (i := 5) (v := .int .i64 p.lo) rfl (by kernel_rfl) (fun _ _ _ h => h) (Or.inl ⟨by rfl, fun w hSw => by have := HL0.out w hSw; go_simp⟩) hS ?_
      simp only [List.getElem_toArray, List.getElem_cons_succ, List.getElem_cons_zero, Act.put, List.setIfInBounds_toArray, List.set_cons_zero, List.set_cons_succ]
      refine wpAnyB_pure (i := 6) (v := .slice (some ⟨g, off, none⟩) R.length cap) rfl (by kernel_rfl) (fun _ _ _ h => h) (Or.inl ⟨by rfl, fun w _ => by go_simp⟩) hS ?_
      simp only [List.getElem_toArray, List.getElem_cons_succ, List.getElem_cons_zero, Act.put, List.setIfInBounds_toArray, List.set_cons_zero, List.set_cons_succ]
      refine wpAnyB_pure (i := 7) (v := .int .i64 (k : Int)) rfl (by kernel_rfl) (fun _ _ _ h => h) (Or.inl ⟨by rfl, fun w _ => by go_simp⟩) hS ?_
      simp only [List.getElem_toArray, List.getElem_cons_succ, List.getElem_cons_zero, Act.put, List.setIfInBounds_toArray, List.set_cons_zero, List.set_cons_succ]
      refine wpAnyB_pure (i := 8) (v := .pointer (some ⟨g, off + k * 3, none⟩)) rfl (by kernel_rfl) (fun _ _ _ h => h) (Or.inl ⟨by rfl, fun w _ => by go_simp⟩) hS ?_
      simp only [List.getElem_toArray, List.getElem_cons_succ, List.getElem_cons_zero, Act.put, List.setIfInBounds_toArray, List.set_cons_zero, List.set_cons_succ]
      refine wpAnyB_pure (i := 9) (v := .pointer (some ⟨g, off + k * 3 + 1, none⟩)) rfl (by kernel_rfl) (fun _ _ _ h => h) (Or.inl ⟨by rfl, fun w _ => by go_simp⟩) hS ?_
      simp only [List.getElem_toArray, List.getElem_cons_succ, List.getElem_cons_zero, Act.put, List.setIfInBounds_toArray, List.set_cons_zero, List.set_cons_succ]
      refine wpAnyB_take [10, 17, 18, 19] (i := 10) (v := .int .i64 p.hi) rfl (by kernel_rfl) (fun _ _ _ h => h) (Or.inl ⟨by rfl, fun w hSw => by have := HL1.out w hSw; go_simp⟩) hS ?_
      simp only [List.getElem_toArray, List.getElem_cons_succ, List.getElem_cons_zero, Act.put, List.setIfInBounds_toArray, List.set_cons_zero, List.set_cons_succ]
      refine wpAnyB_pure (i := 11) (v := .slice (some ⟨g, off, none⟩) R.length cap) rfl (by kernel_rfl) (fun _ _ _ h => h) (Or.inl ⟨by rfl, fun w _ => by go_simp⟩) hS ?_
      simp only [List.getElem_toArray, List.getElem_cons_succ, List.getElem_cons_zero, Act.put, List.setIfInBounds_toArray, List.set_cons_zero, List.set_cons_succ]
      refine wpAnyB_pure (i := 12) (v := .int .i64 (k : Int)) rfl (by kernel_rfl) (fun _ _ _ h => h) (Or.inl ⟨by rfl, fun w _ => by go_simp⟩) hS ?_
      simp only [List.getElem_toArray, List.getElem_cons_succ, List.getElem_cons_zero, Act.put, List.setIfInBounds_toArray, List.set_cons_zero, List.set_cons_succ]
      refine wpAnyB_pure (i := 13) (v := .pointer (some ⟨g, off + k * 3, none⟩)) rfl (by kernel_rfl) (fun _ _ _ h => h) (Or.inl ⟨by rfl, fun w _ => by go_simp⟩) hS ?_
      simp only [List.getElem_toArray, List.getElem_cons_succ, List.getElem_cons_zero, Act.put, List.setIfInBounds_toArray, List.set_cons_zero, List.set_cons_succ]
      refine wpAnyB_pure (i := 14) (v := .pointer (some ⟨g, off + k * 3 + 2, none⟩)) rfl (by kernel_rfl) (fun _ _ _ h => h) (Or.inl ⟨by rfl, fun w _ => by go_simp⟩) hS ?_
      simp only [List.getElem_toArray, List.getElem_cons_succ, List.getElem_cons_zero, Act.put, List.setIfInBounds_toArray, List.set_cons_zero, List.set_cons_succ]
      refine wpAnyB_take [15, 16, 17, 18, 19] (i := 15) (v := .int .i64 p.v) rfl (by kernel_rfl) (fun _ _ _ h => h) (Or.inl ⟨by rfl, fun w hSw => by have := HL2.out w hSw; go_simp⟩) hS ?_
      simp only [List.getElem_toArray, List.getElem_cons_succ, List.getElem_cons_zero, Act.put, List.setIfInBounds_toArray, List.set_cons_zero, List.set_cons_succ]
      refine wpAnyB_pure (i := 16) (v := .int .u8 p.v) rfl (by kernel_rfl) (fun _ _ _ h => h) (Or.inl ⟨by rfl, fun w _ => by go_simp⟩) hS ?_
      simp only [List.getElem_toArray, List.getElem_cons_succ, List.getElem_cons_zero, Act.put, List.setIfInBounds_toArray, List.set_cons_zero, List.set_cons_succ]
      refine wpAnyB_pure (i := 17) (v := .agg #[.int .i64 p.lo, .int .i64 p.hi, .int .u8 p.v]) rfl (by kernel_rfl) (fun _ _ _ h => h) (Or.inl ⟨by rfl, fun w _ => by go_simp⟩) hS ?_
      simp only [List.getElem_toArray, List.getElem_cons_succ, List.getElem_cons_zero, Act.put, List.setIfInBounds_toArray, List.set_cons_zero, List.set_cons_succ]
      refine wpAnyB_one (i := 18) rfl (by kernel_rfl) (fun K hK => ?_)
      rw [if_pos (by rfl)]
      have HBA : Hid (Below wr.heap.size wr (wr.drew.alloc (.cells #[.int .i64 p.lo, .int .i64 p.hi, .int .u8 p.v] 70))) := hS.alloc (Nat.le_refl wr.heap.size) _
      have HOA' : Hid ((wr.drew.alloc (.cells #[.int .i64 p.lo, .int .i64 p.hi, .int .u8 p.v] 70)).ownsRow w1.heap.size 70 3 u4 Q.length (cellsPs Q)) := (ownsRow_below HO.out hS).alloc _
      have HNA' : Hid ((wr.drew.alloc (.cells #[.int .i64 p.lo, .int .i64 p.hi, .int .u8 p.v] 70)).heap[wr.heap.size]? = some (.cells #[.int .i64 p.lo, .int .i64 p.hi, .int .u8 p.v] 70 (0, 0))) := heap_new' wr.drew _
      go_wp2_with fail
      refine hK.out _ _ HBA.out ?_
      clear hK K
      refine wpAnyB_last (i := 19) rfl (by kernel_rfl) (fun K hK => ?_)
      rw [if_pos (by rfl)]
      refine wp_append_own _ _ _ 45 rfl w1.heap.size 70 iP (.agg #[.int .i64 0, .int .i64 0, .int .u8 0]) 3 24 Tryd.undPs hiP hzP0 hzP1 hzP2 rfl (by decide) u4 Q.length (cellsPs Q) rfl HOA'.out ⟨wr.heap.size, 0, none⟩ 1 1 (cellsP p) rfl rfl (World.news_of_block HNA'.out) (by simp [cellsP, Value.oneCell']) (by unfold maxLen; have := HN.out; omega) (by have := HN.out; omega) (by show w1.heap.size ≤ (wr.drew.alloc _).heap.size; simp; omega) ?_
      intro v2 w2 ho2 hg2 _
      have HO2 : Hid (w2.ownsRow w1.heap.size 70 3 v2 (Q ++ [p]).length (cellsPs (Q ++ [p]))) := by rw [cellsPs_snoc, List.length_append]; exact ho2
      have HG2 : Hid (Below w1.heap.size w1 w2) := (HB.out.trans (HBA.out.mono hsi)).grown hg2 (by show w1.heap.size ≤ (wr.drew.alloc _).heap.size; simp; omega) (fun j e => (HOA'.out.lt j e).1)
      simp only [Act.put]
      refine hK.out _ _ ?_
      clear hK K ho2 hg2 hS
      refine wpAnyB_late (i := 20) (v := v2) rfl (by kernel_rfl) (fun _ _ _ h => h) (Or.inl ⟨by rfl, fun w _ => by go_simp⟩) ?_
      simp only [List.getElem_toArray, List.getElem_cons_succ, List.getElem_cons_zero, Act.put, List.setIfInBounds_toArray, List.set_cons_zero, List.set_cons_succ]
      refine wpAnyB_done (by kernel_rfl) ?_ _
      refine NoPanic.normal ?_
      go_wp2
      go_roundw
      case rel => exact ⟨k + 1, Nat.succ_le_of_lt hlt, congrArg (Value.int .i64) HWJ.out, by rw [HST.out]; exact HO2.out, HG2.out⟩
      case measure => exact meas_wrap HWJ.out hlt
    · have hlt' : decide ((k : Int) < (R.length : Int)) = false := by simp; omega
      have hke : R.take k = R := List.take_of_length_le (by omega)
      rw [hke] at ho
      obtain ⟨HO, HB⟩ : Hid (PropsIn wr u4 R) ∧ Hid (Below w1.heap.size w1 wr) := ⟨props_of_row ho, hB⟩
      have hlt2 : decide (k < R.length) = false := by simp; omega
      clear ho hB hke hlt
      go_wp2
      go_ret
      exact ⟨_, rfl, HO.out, HB1.out.trans (HB.out.mono HB1.out.size)⟩

end Go.Proofs.YtpmlbdfdiebkcaaDoor

namespace Go.Proofs.YtpmlbdfdiebkcaaDoor
open Go.RowKit
set_option linter.unusedVariables false


/-- The document's data in memory; its tries ahead of k. -/
def RDataTo (n : Nat) (w : World) (g k : Nat) (TF : Nat → List (List Int)) (TN : Nat → List Nat) : Prop :=
  ∃ p : Nat → Value, n ≤ g ∧ w.heap[g]? = some (.cells [p 0, p 1, p 2, p 3].toArray 57 (0, 0)) ∧ ∀ i, i < k → ∃ gi, p i = .pointer (some ⟨gi, 0, none⟩) ∧ RefAt n w gi (TF i) (TN i)
theorem RDataTo.below {n : Nat} {w w' : World} {g k : Nat} {TF : Nat → List (List Int)} {TN : Nat → List Nat} (h : RDataTo n w g k TF TN) (hb : Below w.heap.size w w') : RDataTo n w' g k TF TN := by
  obtain ⟨p, h0, h1, h2⟩ := h
  refine ⟨p, h0, (hb.block g (heap_lt h1)).trans h1, fun i hi => ?_⟩
  obtain ⟨gi, e, hr⟩ := h2 i hi
  exact ⟨gi, e, hr.below hb⟩
theorem RefAt.mono {n m : Nat} {w : World} {g : Nat} {F : List (List Int)} {L : List Nat} (h : RefAt n w g F L) (hm : m ≤ n) : RefAt m w g F L := by
  obtain ⟨vF, vL, h1, h2, h3, h4, h5⟩ := h
  refine ⟨vF, vL, by omega, h2, ⟨h3.1, ?_⟩, ⟨h4.1, ?_⟩, h5⟩
  · rcases h3.2 with q | ⟨g', c, cur, e, hb, r⟩
    · exact .inl q
    · exact .inr ⟨g', c, cur, e, by omega, r⟩
  · rcases h4.2 with q | ⟨g', c, cur, e, hb, r⟩
    · exact .inl q
    · exact .inr ⟨g', c, cur, e, by omega, r⟩
theorem RefAt.setData {n : Nat} {w : World} {gi : Nat} {F : List (List Int)} {L : List Nat} (h : RefAt n w gi F L) {g : Nat} {cs : List Value} (hg : w.heap[g]? = some (.cells cs.toArray 57 (0, 0))) (j : Nat) (x : Value) : RefAt n (w.setCell ⟨g, j, none⟩ x) gi F L := by
  obtain ⟨vF, vL, h1, h2, h3, h4, h5⟩ := h
  have e1 : gi ≠ g := fun e => by
    rw [e, hg] at h2
    simp at h2
  refine ⟨vF, vL, h1, ?_, h3.kept (set_grown w g j x) (.inr (own_ne h3 hg (by decide))), h4.kept (set_grown w g j x) (.inr (own_ne h4 hg (by decide))), h5⟩
  rw [heap_setCell_other _ _ _ _ (fun e => e1 e)]
  exact h2
theorem RDataTo.store {n : Nat} {w : World} {g k : Nat} {TF : Nat → List (List Int)} {TN : Nat → List Nat} (h : RDataTo n w g k TF TN) (hk : k < 4) {gt : Nat} (ht : RefAt n w gt (TF k) (TN k)) : RDataTo n (w.setCell ⟨g, k, none⟩ (.pointer (some ⟨gt, 0, none⟩))) g (k + 1) TF TN := by
  obtain ⟨p, h0, h1, h2⟩ := h
  refine ⟨fun i => if i = k then .pointer (some ⟨gt, 0, none⟩) else p i, h0, heap_set_row h1 ?_, fun i hi => ?_⟩
  · have : k = 0 ∨ k = 1 ∨ k = 2 ∨ k = 3 := by omega
    rcases this with rfl | rfl | rfl | rfl <;> rfl
  · by_cases e : i = k
    · subst e
      exact ⟨gt, by show (if i = i then _ else _) = _; rw [if_pos rfl], ht.setData h1 i _⟩
    · obtain ⟨gi, e2, hr⟩ := h2 i (by omega)
      exact ⟨gi, by show (if i = k then _ else _) = _; rw [if_neg e]; exact e2, hr.setData h1 k _⟩
theorem RDataTo.cell {n : Nat} {w : World} {g k : Nat} {TF : Nat → List (List Int)} {TN : Nat → List Nat} (h : RDataTo n w g k TF TN) {i : Nat} (hi : i < 4) : (∃ u, w.cell? ⟨g, i, none⟩ = some u) ∧ w.frozen? ⟨g, i, none⟩ = false := by
  obtain ⟨p, _, h1, _⟩ := h
  refine ⟨⟨p i, ?_⟩, frozen_of_row _ _ _ _ _ h1⟩
  have : i = 0 ∨ i = 1 ∨ i = 2 ∨ i = 3 := by omega
  rcases this with rfl | rfl | rfl | rfl <;> exact cell_row h1 rfl
theorem RDataTo.trie {n : Nat} {w : World} {g k : Nat} {TF : Nat → List (List Int)} {TN : Nat → List Nat} (h : RDataTo n w g k TF TN) {i : Nat} (hi : i < k) (hk : k ≤ 4) : ∃ gi, w.cell? ⟨g, i, none⟩ = some (.pointer (some ⟨gi, 0, none⟩)) ∧ g < w.heap.size ∧ RefAt n w gi (TF i) (TN i) := by
  obtain ⟨p, _, h1, h2⟩ := h
  obtain ⟨gi, e, hr⟩ := h2 i hi
  refine ⟨gi, ?_, heap_lt h1, hr⟩
  have : i = 0 ∨ i = 1 ∨ i = 2 ∨ i = 3 := by omega
  rcases this with rfl | rfl | rfl | rfl <;> exact (cell_row h1 rfl).trans (by rw [e])
def tabN (i : Nat) : List Nat := likeOf (blocksF (valP (tabR i)))

set_option maxRecDepth 100000 in
set_option maxHeartbeats 8000000 in
theorem rnew_any (w : World) :
    Calls Tryd.prog 14 #[] w fun e w' => ∃ g, e = .returned (.pointer (some ⟨g, 0, none⟩)) ∧ RDataTo w.heap.size w' g 4 (fun i => firstB (tabR i)) tabN ∧ Below w.heap.size w w' := by
  obtain ⟨TF, hTF⟩ : ∃ TF : Nat → List (List Int), TF = fun i => firstB (tabR i) := ⟨_, rfl⟩
  obtain ⟨TN, hTN⟩ : ∃ TN : Nat → List Nat, TN = tabN := ⟨_, rfl⟩
  have hF : ∀ i, TF i = firstB (tabR i) := fun i => by rw [hTF]
  have hN : ∀ i, TN i = likeOf (blocksF (valP (tabR i))) := fun i => by rw [hTN]; unfold tabN; rfl
  have HTB : Hid (∀ i, i < 4 → ∀ v w, PropsIn w v (tabR i) → Calls Tryd.prog 26 #[v] w fun e w' => ∃ gt, e = .returned (.tuple #[.pointer (some ⟨gt, 0, none⟩), .int .i64 0]) ∧ RefAt w.heap.size w' gt (TF i) (TN i) ∧ Below w.heap.size w w') := fun i hi v w hv => by
    refine (refBuild_any (tabR i) v w hv (tab_bytesR i hi)).mono ?_
    rintro e w' ⟨pv, rfl, _, h2, h3⟩
    obtain ⟨gt, rfl, hr⟩ := h2 (tab_errR i hi)
    rw [tab_errR i hi]
    exact ⟨gt, rfl, by rw [hF, hN]; exact hr, h3⟩
  rw [← hTF, ← hTN]
  clear hTF hTN hF hN
  go_enter Tryd.func14, Tryd.ntmps14
  go_wp2_with fail
  have HD0 : Hid (RDataTo w.heap.size (w.alloc (.cells #[.pointer none, .pointer none, .pointer none, .pointer none] 57)) w.heap.size 0 TF TN) := ⟨fun _ => .pointer none, Nat.le_refl _, heap_new' w _, fun i hi => by omega⟩
  have HB0 : Hid (Below w.heap.size w (w.alloc (.cells #[.pointer none, .pointer none, .pointer none, .pointer none] 57))) := (Below.refl _ _).alloc (Nat.le_refl _) _
  obtain ⟨w1, hw1⟩ : ∃ w1, w1 = w.alloc (.cells #[.pointer none, .pointer none, .pointer none, .pointer none] 57) := ⟨_, rfl⟩
  obtain ⟨g, hg⟩ : ∃ g, g = w.heap.size := ⟨_, rfl⟩
  have HGW : Hid (w.heap.size ≤ g) := by show _ ≤ _; omega
  have HD1 : Hid (RDataTo w.heap.size w1 g 0 TF TN) := by rw [hw1, hg]; exact HD0.out
  rw [← hw1] at HB0
  rw [← hw1, ← hg]
  clear hw1 hg HD0
  go_loopw [2] (fun x wr => ∃ k : Nat, k ≤ 4 ∧ x = .int .i64 k ∧ RDataTo w.heap.size wr g k TF TN ∧ Below w.heap.size w wr) (fun x _ => 4 - (intOf x).toNat)
  case atStart => exact ⟨0, Nat.zero_le _, rfl, HD1.out, HB0.out⟩
  case round =>
    obtain ⟨k, hk, rfl, hD, hB⟩ := hrel
    have hsi := hB.size
    obtain ⟨HD, HB⟩ : Hid (RDataTo w.heap.size wr g k TF TN) ∧ Hid (Below w.heap.size w wr) := ⟨hD, hB⟩
    clear hD hB HD1 HB0
    by_cases hlt : k < 4
    · have hlt' : (k : Int) < 4 := by omega
      go_wp2_with fail
      refine (rprops_any k hlt wr).mono ?_
      rintro e w2 ⟨v2, rfl, hp2, hB2⟩
      have hs2 := hB2.size
      obtain ⟨HP2, HB2⟩ : Hid (PropsIn w2 v2 (tabR k)) ∧ Hid (Below wr.heap.size wr w2) := ⟨hp2, hB2⟩
      clear hp2 hB2
      go_wp2_with fail
      refine (HTB.out k hlt v2 w2 HP2.out).mono ?_
      rintro e w3 ⟨gt, rfl, ht3, hB3⟩
      have HB3 : Hid (Below wr.heap.size wr w3) := HB2.out.trans (hB3.mono hs2)
      have HT3 : Hid (RefAt w.heap.size w3 gt (TF k) (TN k)) := ht3.mono (by omega)
      have HD3 : Hid (RDataTo w.heap.size w3 g k TF TN) := HD.out.below HB3.out
      obtain ⟨⟨u, hu⟩, hfz⟩ := HD3.out.cell hlt
      clear ht3 hB3
      go_wp2_with fail
      go_roundw
      case rel => exact ⟨k + 1, by omega, by go_num, HD3.out.store hlt HT3.out, (HB.out.trans (HB3.out.mono hsi)).setCell (show w.heap.size ≤ g from HGW.out) _⟩
      case measure => simp [intOf]; omega
    · obtain rfl : k = 4 := by omega
      go_wp2
      go_ret
      exact ⟨g, rfl, HD.out, HB.out⟩
def castN (TN : Nat → List Nat) (i : Nat) : List Int := (TN i).map (fun k : Nat => (k : Int))
/-- What the document's tries keep to. -/
structure RFine (F : List (List Int)) (L : List Nat) : Prop where
  pos : 1 ≤ F.length
  le : F.length ≤ 256
  len : L.length = 4352
  lt : ∀ x ∈ L, x < F.length
  isB : ∀ b ∈ F, IsB b
theorem RFine.fine {F : List (List Int)} {L : List Nat} (h : RFine F L) : Fine (L.map (fun k : Nat => (k : Int))) F where
  len := by rw [List.length_map, h.len]
  lt := fun x hx => by
    obtain ⟨k, hk, rfl⟩ := List.mem_map.1 hx
    have := h.lt k hk
    omega
  isB := h.isB
  pos := h.pos
  le := h.le
theorem rtab_fine (i : Nat) (hi : i < 4) : RFine (firstB (tabR i)) (tabN i) where
  pos := by rw [← firstB_tab i hi]; exact (tab_fine i hi).pos
  le := by rw [← firstB_tab i hi]; exact (tab_fine i hi).le
  len := by unfold tabN; rw [like_length, blocksF_length]
  lt := fun x hx => by
    unfold tabN at hx
    obtain ⟨j, hj, rfl⟩ := List.getElem_of_mem hx
    rw [like_length] at hj
    exact like_lt hj
  isB := by rw [← firstB_tab i hi]; exact (tab_fine i hi).isB

set_option maxRecDepth 100000 in
set_option maxHeartbeats 8000000 in
theorem rdpicto_any (n : Nat) (TF : Nat → List (List Int)) (TN : Nat → List Nat) (g : Nat) (r : Int) (w : World) (hd : RDataTo n w g 4 TF TN) (hf : ∀ i, i < 4 → RFine (TF i) (TN i)) :
    Calls Tryd.prog 34 #[.pointer (some ⟨g, 0, none⟩), .int .i64 r] w fun e w' => e = .returned (.bool (ofT (castN TN 3) (TF 3) r != 0)) ∧ Below w.heap.size w w' := by
  obtain ⟨gt, hc, _, hT⟩ := hd.trie (i := 3) (by omega) (Nat.le_refl _)
  have HT : Hid (RefAt n w gt (TF 3) (TN 3)) := hT
  have HFK : Hid (RFine (TF 3) (TN 3)) := hf 3 (by omega)
  have HUB : Hid (0 ≤ ofT (castN TN 3) (TF 3) r ∧ ofT (castN TN 3) (TF 3) r ≤ 255) := ofT_byte HFK.out.fine r
  obtain ⟨u, hu⟩ : ∃ u, u = ofT (castN TN 3) (TF 3) r := ⟨_, rfl⟩
  have HU : Hid (ofT ((TN 3).map (fun k : Nat => (k : Int))) (TF 3) r = u) := hu.symm
  rw [← hu] at HUB ⊢
  have hwu : IntKind.i64.wrap u = u := IntWalk.i64_in _ (by have := HUB.out; omega)
  clear hu hd hf hT
  go_enter Tryd.func34, Tryd.ntmps34
  go_wp2_with fail
  refine (refOf_any n (TF 3) (TN 3) gt r w HT.out (by have := HFK.out.le; omega) HFK.out.len HFK.out.lt).mono ?_
  rintro e w1 ⟨rfl, hB1⟩
  rw [HU.out]
  have HB1 : Hid (Below w.heap.size w w1) := hB1
  clear hB1
  go_wp2
  go_ret
  exact ⟨rfl, HB1.out⟩

set_option maxRecDepth 100000 in
set_option maxHeartbeats 8000000 in
theorem rdword_any (n : Nat) (TF : Nat → List (List Int)) (TN : Nat → List Nat) (g : Nat) (r : Int) (w : World) (hd : RDataTo n w g 4 TF TN) (hf : ∀ i, i < 4 → RFine (TF i) (TN i)) :
    Calls Tryd.prog 29 #[.pointer (some ⟨g, 0, none⟩), .int .i64 r] w fun e w' => e = .returned (.int .i64 (ofT (castN TN 1) (TF 1) r)) ∧ Below w.heap.size w w' := by
  obtain ⟨gt, hc, _, hT⟩ := hd.trie (i := 1) (by omega) (Nat.le_refl _)
  have HT : Hid (RefAt n w gt (TF 1) (TN 1)) := hT
  have HFK : Hid (RFine (TF 1) (TN 1)) := hf 1 (by omega)
  have HUB : Hid (0 ≤ ofT (castN TN 1) (TF 1) r ∧ ofT (castN TN 1) (TF 1) r ≤ 255) := ofT_byte HFK.out.fine r
  obtain ⟨u, hu⟩ : ∃ u, u = ofT (castN TN 1) (TF 1) r := ⟨_, rfl⟩
  have HU : Hid (ofT ((TN 1).map (fun k : Nat => (k : Int))) (TF 1) r = u) := hu.symm
  rw [← hu] at HUB ⊢
  have hwu : IntKind.i64.wrap u = u := IntWalk.i64_in _ (by have := HUB.out; omega)
  clear hu hd hf hT
  go_enter Tryd.func29, Tryd.ntmps29
  go_wp2_with fail
  refine (refOf_any n (TF 1) (TN 1) gt r w HT.out (by have := HFK.out.le; omega) HFK.out.len HFK.out.lt).mono ?_
  rintro e w1 ⟨rfl, hB1⟩
  rw [HU.out]
  have HB1 : Hid (Below w.heap.size w w1) := hB1
  clear hB1
  go_wp2
  go_ret
  exact ⟨rfl, HB1.out⟩

/-- The document's data, as it is shipped. -/
structure RShip (w : World) (g : Nat) : Prop where
  data : ∃ n, n ≤ w.heap.size ∧ RDataTo n w g 4 (fun i => firstB (tabR i)) tabN
theorem RShip.below {w w' : World} {g : Nat} (h : RShip w g) (hb : Below w.heap.size w w') : RShip w' g := by
  obtain ⟨n, hn, hd⟩ := h.data
  exact ⟨n, Nat.le_trans hn hb.size, hd.below hb⟩
theorem rnew_ship (w : World) : Calls Tryd.prog 14 #[] w fun e w' => ∃ g, e = .returned (.pointer (some ⟨g, 0, none⟩)) ∧ RShip w' g ∧ Below w.heap.size w w' :=
  (rnew_any w).mono (by rintro e w' ⟨g, rfl, h1, h2⟩; exact ⟨g, rfl, ⟨_, h2.size, h1⟩, h2⟩)
theorem rtab_ofT (i : Nat) (hi : i < 4) (r : Int) : ofT (castN tabN i) (firstB (tabR i)) r = valP (tabR i) r := by
  have e : castN tabN i = likeB (tabP i) := by rw [likeB_tab i hi]; rfl
  rw [e, ← firstB_tab i hi]
  exact tab_of i hi r
theorem rship_picto (w : World) (g : Nat) (r : Int) (h : RShip w g) : Calls Tryd.prog 34 #[.pointer (some ⟨g, 0, none⟩), .int .i64 r] w fun e w' => e = .returned (.bool (piV r)) ∧ Below w.heap.size w w' := by
  obtain ⟨n, hn, hd⟩ := h.data
  have := rdpicto_any n _ _ g r w hd (fun i hi => rtab_fine i hi)
  have e : piV r = (ofT (castN tabN 3) (firstB (tabR 3)) r != 0) := by rw [rtab_ofT 3 (by omega)]; rfl
  rw [e]
  exact this
theorem rship_word (w : World) (g : Nat) (r : Int) (h : RShip w g) : Calls Tryd.prog 29 #[.pointer (some ⟨g, 0, none⟩), .int .i64 r] w fun e w' => e = .returned (.int .i64 (wdV r)) ∧ Below w.heap.size w w' := by
  obtain ⟨n, hn, hd⟩ := h.data
  have := rdword_any n _ _ g r w hd (fun i hi => rtab_fine i hi)
  have e : wdV r = ofT (castN tabN 1) (firstB (tabR 1)) r := by rw [rtab_ofT 1 (by omega)]; rfl
  rw [e]
  exact this
end Go.Proofs.YtpmlbdfdiebkcaaDoor
