/-
  scansionref04: the document's tables, their entries, and the value of a number by them.
-/
import Derived.Test.YtpknmpgbaccffaaDoorFacts
namespace Go.Proofs.YtpknmpgbaccffaaDoor
open Go.RowKit
set_option linter.unusedVariables false

def cells3 (p : Pp) : List Value := [.int .i64 p.lo, .int .i64 p.hi, .int .i64 p.v]
def cells3s (l : List Pp) : List Value := l.flatMap cells3
theorem cells3s_at : ∀ (l : List Pp) (i j : Nat) (h : i < l.length), j < 3 → (cells3s l)[i * 3 + j]? = (cells3 l[i])[j]?
  | u :: us, 0, j, h, hj => by
    have e : cells3s (u :: us) = cells3 u ++ cells3s us := rfl
    rw [e, Nat.zero_mul, Nat.zero_add, List.getElem?_append_left (by simpa [cells3] using hj)]
    rfl
  | u :: us, i + 1, j, h, hj => by
    have e : cells3s (u :: us) = cells3 u ++ cells3s us := rfl
    rw [e, List.getElem?_append_right (by simp [cells3]; omega)]
    have e2 : (i + 1) * 3 + j - (cells3 u).length = i * 3 + j := by simp [cells3]; omega
    rw [e2, cells3s_at us i j (by simpa using h) hj]
    rfl
/-- The slice value v holds the rows l. -/
def TripIn (w : World) (v : Value) (l : List Pp) : Prop :=
  ∃ a cap, v = .slice a l.length cap ∧ ∀ i, (h : i < l.length) → ∃ g off, a = some ⟨g, off, none⟩ ∧ g < w.heap.size ∧ w.cell? ⟨g, off + i * 3, none⟩ = some (.int .i64 l[i].lo) ∧ w.cell? ⟨g, off + i * 3 + 1, none⟩ = some (.int .i64 l[i].hi) ∧ w.cell? ⟨g, off + i * 3 + 2, none⟩ = some (.int .i64 l[i].v)
def tripV (w : World) (l : List Pp) : Value := .slice (some ⟨w.heap.size, 0, none⟩) l.length l.length
def tripW (w : World) (l : List Pp) : World := w.alloc (.cells (cells3s l).toArray 76)
theorem trip_in (w : World) (l : List Pp) : TripIn (tripW w l) (tripV w l) l := by
  have hsz : (tripW w l).heap.size = w.heap.size + 1 := by simp [tripW]
  refine ⟨_, _, rfl, fun i hi => ⟨w.heap.size, 0, rfl, by omega, ?_, ?_, ?_⟩⟩
  · rw [Nat.zero_add]; exact cell_row (heap_new' w _) ((cells3s_at l i 0 hi (by omega)).trans rfl)
  · rw [Nat.zero_add]; exact cell_row (heap_new' w _) ((cells3s_at l i 1 hi (by omega)).trans rfl)
  · rw [Nat.zero_add]; exact cell_row (heap_new' w _) ((cells3s_at l i 2 hi (by omega)).trans rfl)
theorem tripW_below (w : World) (l : List Pp) : Below w.heap.size w (tripW w l) := (Below.refl _ _).alloc (Nat.le_refl _) _
set_option maxRecDepth 1000000 in
theorem rcluster_any (w : World) : Calls Tryd.prog 57 #[] w fun e w' => e = .returned (tripV w clR) ∧ w' = tripW w clR :=
  calls_table (noTab_ok _) Tryd.func57 rfl rfl (by kernel_rfl)
set_option maxRecDepth 1000000 in
theorem rword_any (w : World) : Calls Tryd.prog 58 #[] w fun e w' => e = .returned (tripV w wdR) ∧ w' = tripW w wdR :=
  calls_table (noTab_ok _) Tryd.func58 rfl rfl (by kernel_rfl)
set_option maxRecDepth 1000000 in
theorem rscript_any (w : World) : Calls Tryd.prog 59 #[] w fun e w' => e = .returned (tripV w scR) ∧ w' = tripW w scR :=
  calls_table (noTab_ok _) Tryd.func59 rfl rfl (by kernel_rfl)
set_option maxRecDepth 1000000 in
theorem rpicto_any (w : World) : Calls Tryd.prog 60 #[] w fun e w' => e = .returned (tripV w piR) ∧ w' = tripW w piR :=
  calls_table (noTab_ok _) Tryd.func60 rfl rfl (by kernel_rfl)

set_option maxRecDepth 100000 in
set_option maxHeartbeats 8000000 in
theorem rrows_any (i : Nat) (hi : i < 4) (w : World) :
    Calls Tryd.prog 45 #[.int .i64 (i : Int)] w fun e w' => ∃ v, e = .returned v ∧ TripIn w' v (tabR i) ∧ Below w.heap.size w w' := by
  have : i = 0 ∨ i = 1 ∨ i = 2 ∨ i = 3 := by omega
  rcases this with rfl | rfl | rfl | rfl
  · obtain ⟨R, hR⟩ : ∃ R, R = tabR 0 := ⟨_, rfl⟩
    have HC : Hid (Calls Tryd.prog 57 #[] w fun e w' => ∃ v, e = .returned v ∧ TripIn w' v R ∧ Below w.heap.size w w') := by
      rw [hR]; exact (rcluster_any w).mono (by rintro e w' ⟨rfl, rfl⟩; exact ⟨_, rfl, trip_in w _, tripW_below w _⟩)
    rw [← hR]
    clear hR
    go_enter Tryd.func45, Tryd.ntmps45
    go_wp2_with fail
    refine HC.out.mono ?_
    rintro e w1 ⟨v1, rfl, h1, hB1⟩
    obtain ⟨H1, HB1⟩ : Hid (TripIn w1 v1 R) ∧ Hid (Below w.heap.size w w1) := ⟨h1, hB1⟩
    clear h1 hB1
    go_wp2
    go_ret
    exact ⟨_, rfl, H1.out, HB1.out⟩
  · obtain ⟨R, hR⟩ : ∃ R, R = tabR 1 := ⟨_, rfl⟩
    have HC : Hid (Calls Tryd.prog 58 #[] w fun e w' => ∃ v, e = .returned v ∧ TripIn w' v R ∧ Below w.heap.size w w') := by
      rw [hR]; exact (rword_any w).mono (by rintro e w' ⟨rfl, rfl⟩; exact ⟨_, rfl, trip_in w _, tripW_below w _⟩)
    rw [← hR]
    clear hR
    go_enter Tryd.func45, Tryd.ntmps45
    go_wp2_with fail
    refine HC.out.mono ?_
    rintro e w1 ⟨v1, rfl, h1, hB1⟩
    obtain ⟨H1, HB1⟩ : Hid (TripIn w1 v1 R) ∧ Hid (Below w.heap.size w w1) := ⟨h1, hB1⟩
    clear h1 hB1
    go_wp2
    go_ret
    exact ⟨_, rfl, H1.out, HB1.out⟩
  · obtain ⟨R, hR⟩ : ∃ R, R = tabR 2 := ⟨_, rfl⟩
    have HC : Hid (Calls Tryd.prog 59 #[] w fun e w' => ∃ v, e = .returned v ∧ TripIn w' v R ∧ Below w.heap.size w w') := by
      rw [hR]; exact (rscript_any w).mono (by rintro e w' ⟨rfl, rfl⟩; exact ⟨_, rfl, trip_in w _, tripW_below w _⟩)
    rw [← hR]
    clear hR
    go_enter Tryd.func45, Tryd.ntmps45
    go_wp2_with fail
    refine HC.out.mono ?_
    rintro e w1 ⟨v1, rfl, h1, hB1⟩
    obtain ⟨H1, HB1⟩ : Hid (TripIn w1 v1 R) ∧ Hid (Below w.heap.size w w1) := ⟨h1, hB1⟩
    clear h1 hB1
    go_wp2
    go_ret
    exact ⟨_, rfl, H1.out, HB1.out⟩
  · obtain ⟨R, hR⟩ : ∃ R, R = tabR 3 := ⟨_, rfl⟩
    have HC : Hid (Calls Tryd.prog 60 #[] w fun e w' => ∃ v, e = .returned v ∧ TripIn w' v R ∧ Below w.heap.size w w') := by
      rw [hR]; exact (rpicto_any w).mono (by rintro e w' ⟨rfl, rfl⟩; exact ⟨_, rfl, trip_in w _, tripW_below w _⟩)
    rw [← hR]
    clear hR
    go_enter Tryd.func45, Tryd.ntmps45
    go_wp2_with fail
    refine HC.out.mono ?_
    rintro e w1 ⟨v1, rfl, h1, hB1⟩
    obtain ⟨H1, HB1⟩ : Hid (TripIn w1 v1 R) ∧ Hid (Below w.heap.size w w1) := ⟨h1, hB1⟩
    clear h1 hB1
    go_wp2
    go_ret
    exact ⟨_, rfl, H1.out, HB1.out⟩

end Go.Proofs.YtpknmpgbaccffaaDoor
