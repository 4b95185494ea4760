/-
  scansionlaw04.awake: true; what the shipped data tells of every number.
-/
import Derived.Test.YtpmlbdfdiebkcaaDoorAsk
namespace Go.Proofs.YtpmlbdfdiebkcaaDoor
open Go.RowKit
set_option linter.unusedVariables false

/-- Data that tells of every number what the document's tables say. -/
structure Ship (w : World) (g : Nat) : Prop where
  data : DataAt w g (fun i => likeB (tabP i)) (fun i => firstB (tabP i))
/-- A number's kind in clusters, by the document's rows. -/
def clV (r : Int) : Int := if 44032 ≤ r ∧ r ≤ 55203 then (if (r - 44032) % 28 = 0 then 12 else 13) else valP clR r
theorem Ship.below {w w' : World} {g : Nat} (h : Ship w g) (hb : Below w.heap.size w w') : Ship w' g := ⟨h.data.below hb⟩
theorem new_ship (w : World) (hs : Scripts w) (h0 : 0 < w.heap.size) : Calls Tryd.prog 10 #[] w fun e w' => ∃ g, e = .returned (.pointer (some ⟨g, 0, none⟩)) ∧ Ship w' g ∧ Below w.heap.size w w' :=
  (new_any w hs h0).mono (by rintro e w' ⟨g, rfl, h1, h2⟩; exact ⟨g, rfl, ⟨h1⟩, h2⟩)
theorem ship_word (w : World) (g : Nat) (r : Int) (h : Ship w g) : Calls Tryd.prog 19 #[.pointer (some ⟨g, 0, none⟩), .int .i64 r] w fun e w' => e = .returned (.int .i64 (valP wdR r)) ∧ Below w.heap.size w w' := by
  have e : ofT (likeB (tabP 1)) (firstB (tabP 1)) r = valP wdR r := tab_of 1 (by omega) r
  have := dword_any _ _ g r w h.data (fun i hi => tab_fine i hi)
  rw [← e]
  exact this
theorem ship_picto (w : World) (g : Nat) (r : Int) (h : Ship w g) : Calls Tryd.prog 51 #[.pointer (some ⟨g, 0, none⟩), .int .i64 r] w fun e w' => e = .returned (.bool (valP piR r != 0)) ∧ Below w.heap.size w w' := by
  have e : ofT (likeB (tabP 3)) (firstB (tabP 3)) r = valP piR r := tab_of 3 (by omega) r
  have := dpicto_any _ _ g r w h.data (fun i hi => tab_fine i hi)
  rw [← e]
  exact this
set_option maxRecDepth 100000 in
theorem awake_vals : clV 13 = 1 ∧ clV 44033 = 13 ∧ valP wdR 65 = 10 ∧ valP scR 3585 = 2 ∧ (valP piR 128512 != 0) = true := ⟨by kernel_rfl, by kernel_rfl, by kernel_rfl, by kernel_rfl, by kernel_rfl⟩

end Go.Proofs.YtpmlbdfdiebkcaaDoor
