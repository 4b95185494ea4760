/-
  scansionlaw04.awake: true; what the shipped data tells of every number.
-/
import Derived.Test.YtpknmpgbaccffaaDoorAsk
namespace Go.Proofs.YtpknmpgbaccffaaDoor
open Go.RowKit
set_option linter.unusedVariables false

/-- Data that tells of every number what the document's tables say. -/
structure Ship (w : World) (g : Nat) : Prop where
  data : DataAt w g (fun i => likeB (tabP i)) (fun i => firstB (tabP i))
/-- A number's kind in clusters, by the document's rows. -/
def clV (r : Int) : Int := if 44032 ≤ r ∧ r ≤ 55203 then (if (r - 44032) % 28 = 0 then 12 else 13) else valP clR r
theorem Ship.below {w w' : World} {g : Nat} (h : Ship w g) (hb : Below w.heap.size w w') : Ship w' g := ⟨h.data.below hb⟩
theorem new_ship (w : World) (hs : Scripts w) (h0 : 0 < w.heap.size) : Calls Tryd.prog 10 #[] w fun e w' => ∃ g, e = .returned (.pointer (some ⟨g, 0, none⟩)) ∧ Ship w' g ∧ Below w.heap.size w w' :=
  (new_any w hs h0).mono (by rintro e w' ⟨g, rfl, h1, h2⟩; exact ⟨g, rfl, ⟨h1⟩, h2⟩)
theorem ship_cluster (w : World) (g : Nat) (r : Int) (h : Ship w g) : Calls Tryd.prog 12 #[.pointer (some ⟨g, 0, none⟩), .int .i64 r] w fun e w' => e = .returned (.int .i64 (clV r)) ∧ Below w.heap.size w w' := by
  have e : clusterT (likeB (tabP 0)) (firstB (tabP 0)) r = clV r := by
    unfold clusterT clV
    rw [tab_of 0 (by omega) r]
    rfl
  have := dcluster_any _ _ g r w h.data (fun i hi => tab_fine i hi)
  rw [← e]
  exact this
theorem ship_word (w : World) (g : Nat) (r : Int) (h : Ship w g) : Calls Tryd.prog 13 #[.pointer (some ⟨g, 0, none⟩), .int .i64 r] w fun e w' => e = .returned (.int .i64 (valP wdR r)) ∧ Below w.heap.size w w' := by
  have e : ofT (likeB (tabP 1)) (firstB (tabP 1)) r = valP wdR r := tab_of 1 (by omega) r
  have := dword_any _ _ g r w h.data (fun i hi => tab_fine i hi)
  rw [← e]
  exact this
theorem ship_script (w : World) (g : Nat) (r : Int) (h : Ship w g) : Calls Tryd.prog 14 #[.pointer (some ⟨g, 0, none⟩), .int .i64 r] w fun e w' => e = .returned (.int .i64 (valP scR r)) ∧ Below w.heap.size w w' := by
  have e : ofT (likeB (tabP 2)) (firstB (tabP 2)) r = valP scR r := tab_of 2 (by omega) r
  have := dscript_any _ _ g r w h.data (fun i hi => tab_fine i hi)
  rw [← e]
  exact this
theorem ship_picto (w : World) (g : Nat) (r : Int) (h : Ship w g) : Calls Tryd.prog 15 #[.pointer (some ⟨g, 0, none⟩), .int .i64 r] w fun e w' => e = .returned (.bool (valP piR r != 0)) ∧ Below w.heap.size w w' := by
  have e : ofT (likeB (tabP 3)) (firstB (tabP 3)) r = valP piR r := tab_of 3 (by omega) r
  have := dpicto_any _ _ g r w h.data (fun i hi => tab_fine i hi)
  rw [← e]
  exact this
set_option maxRecDepth 100000 in
theorem awake_vals : clV 13 = 1 ∧ clV 44033 = 13 ∧ valP wdR 65 = 10 ∧ valP scR 3585 = 2 ∧ (valP piR 128512 != 0) = true := ⟨by kernel_rfl, by kernel_rfl, by kernel_rfl, by kernel_rfl, by kernel_rfl⟩

set_option maxRecDepth 100000 in
set_option maxHeartbeats 8000000 in
theorem awake_u (w : World) (hs : Scripts w) (h0 : 0 < w.heap.size) :
    Calls Tryd.prog 9 #[] w fun e w' => e = .returned (.bool true) ∧ Below w.heap.size w w' := by
  have HS : Hid (Scripts w) := hs
  have HH0 : Hid (0 < w.heap.size) := h0
  clear hs h0
  go_enter Tryd.func9, Tryd.ntmps9
  go_wp2_with fail
  refine (new_ship w HS.out HH0.out).mono ?_
  rintro e w1 ⟨g, rfl, hd, hB1⟩
  obtain ⟨HD1, HB1⟩ : Hid (Ship w1 g) ∧ Hid (Below w.heap.size w w1) := ⟨hd, hB1⟩
  clear hd hB1
  go_wp2_with fail
  refine (ship_cluster w1 g 13 HD1.out).mono ?_
  rintro e w2 ⟨rfl, hB2⟩
  obtain ⟨HD2, HB2⟩ : Hid (Ship w2 g) ∧ Hid (Below w.heap.size w w2) := ⟨HD1.out.below hB2, HB1.out.trans (hB2.mono HB1.out.size)⟩
  clear hB2
  rw [awake_vals.1]
  go_wp2_with fail
  refine (ship_cluster w2 g 44033 HD2.out).mono ?_
  rintro e w3 ⟨rfl, hB3⟩
  obtain ⟨HD3, HB3⟩ : Hid (Ship w3 g) ∧ Hid (Below w.heap.size w w3) := ⟨HD2.out.below hB3, HB2.out.trans (hB3.mono HB2.out.size)⟩
  clear hB3
  rw [awake_vals.2.1]
  go_wp2_with fail
  refine (ship_word w3 g 65 HD3.out).mono ?_
  rintro e w4 ⟨rfl, hB4⟩
  obtain ⟨HD4, HB4⟩ : Hid (Ship w4 g) ∧ Hid (Below w.heap.size w w4) := ⟨HD3.out.below hB4, HB3.out.trans (hB4.mono HB3.out.size)⟩
  clear hB4
  rw [awake_vals.2.2.1]
  go_wp2_with fail
  refine (ship_script w4 g 3585 HD4.out).mono ?_
  rintro e w5 ⟨rfl, hB5⟩
  obtain ⟨HD5, HB5⟩ : Hid (Ship w5 g) ∧ Hid (Below w.heap.size w w5) := ⟨HD4.out.below hB5, HB4.out.trans (hB5.mono HB4.out.size)⟩
  clear hB5
  rw [awake_vals.2.2.2.1]
  go_wp2_with fail
  refine (ship_picto w5 g 128512 HD5.out).mono ?_
  rintro e w6 ⟨rfl, hB6⟩
  obtain ⟨HD6, HB6⟩ : Hid (Ship w6 g) ∧ Hid (Below w.heap.size w w6) := ⟨HD5.out.below hB6, HB5.out.trans (hB6.mono HB5.out.size)⟩
  clear hB6
  rw [awake_vals.2.2.2.2]
  go_wp2
  go_ret
  exact ⟨rfl, HB6.out⟩
end Go.Proofs.YtpknmpgbaccffaaDoor
