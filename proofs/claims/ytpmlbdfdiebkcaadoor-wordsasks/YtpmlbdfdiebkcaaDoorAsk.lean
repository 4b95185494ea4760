/-
  ucd.value, Cluster, Word, Script, Picto: what data tells of a number.
-/
import Derived.Test.YtpmlbdfdiebkcaaDoorNew
namespace Go.Proofs.YtpmlbdfdiebkcaaDoor
open Go.RowKit
set_option linter.unusedVariables false

theorem getD_byte {l : List Int} (h : ∀ x ∈ l, 0 ≤ x ∧ x ≤ 255) (i : Nat) : 0 ≤ l[i]?.getD 0 ∧ l[i]?.getD 0 ≤ 255 := by
  cases e : l[i]? with
  | none => simp
  | some x => have := h x (List.mem_of_getElem? e); simpa using this
theorem ofT_byte {like : List Int} {F : List (List Int)} (hf : Fine like F) (r : Int) : 0 ≤ ofT like F r ∧ ofT like F r ≤ 255 := by
  unfold ofT
  split
  · exact getD_byte (fun x hx => by
      obtain ⟨b, hb, hxb⟩ := List.mem_flatten.1 hx
      exact (hf.isB b hb).2 x hxb) _
  · omega

set_option maxRecDepth 100000 in
set_option maxHeartbeats 8000000 in
theorem dvalue_any (TL : Nat → List Int) (TF : Nat → List (List Int)) (g k : Nat) (r : Int) (w : World) (hk : k < 4) (hd : DataAt w g TL TF) (hf : Fine (TL k) (TF k)) :
    Calls Tryd.prog 40 #[.pointer (some ⟨g, 0, none⟩), .int .i64 (k : Int), .int .i64 r] w fun e w' => e = .returned (.int .i64 (ofT (TL k) (TF k) r)) ∧ Below w.heap.size w w' := by
  obtain ⟨p, hg, ht⟩ := hd
  have hT := ht k hk
  obtain ⟨gt, hgt⟩ := hT.ptr
  have HT : Hid (TrieAt w.heap.size w (.pointer (some ⟨gt, 0, none⟩)) (TL k) (TF k)) := by rw [← hgt]; exact hT
  have hgl := heap_lt hg
  have HC : Hid (∀ w', Below w.heap.size w w' → w'.cell? ⟨g, k, none⟩ = some (.pointer (some ⟨gt, 0, none⟩))) := fun w' hw' => by
    refine (hw'.cell (p := ⟨g, k, none⟩) hgl).trans ?_
    have : k = 0 ∨ k = 1 ∨ k = 2 ∨ k = 3 := by omega
    rcases this with rfl | rfl | rfl | rfl <;> exact (cell_row hg rfl).trans (by rw [hgt])
  obtain ⟨u, hu⟩ : ∃ u, u = ofT (TL k) (TF k) r := ⟨_, rfl⟩
  have HU : Hid (u = ofT (TL k) (TF k) r) := hu
  have HUB : Hid (0 ≤ u ∧ u ≤ 255) := by rw [hu]; exact ofT_byte hf r
  have hkl : (k : Int) < 4 := by omega
  have hwu : IntKind.i64.wrap u = u := IntWalk.i64_in _ (by have := HUB.out; omega)
  rw [← hu]
  have hc := HC.out w (Below.refl _ _)
  clear hg ht hT hgt hu
  go_enter Tryd.func40, Tryd.ntmps40
  go_wp2_with fail
  refine (of_any _ _ _ _ w HT.out hf).mono ?_
  rintro e w1 ⟨rfl, hB1⟩
  rw [← HU.out]
  have HB1 : Hid (Below w.heap.size w w1) := hB1
  clear hB1
  go_wp2
  go_ret
  exact ⟨rfl, HB1.out⟩
/-- A number's kind in clusters. -/
def clusterT (like : List Int) (F : List (List Int)) (r : Int) : Int := if 44032 ≤ r ∧ r ≤ 55203 then (if (r - 44032) % 28 = 0 then 12 else 13) else ofT like F r


set_option maxRecDepth 100000 in
set_option maxHeartbeats 8000000 in
theorem dword_any (TL : Nat → List Int) (TF : Nat → List (List Int)) (g : Nat) (r : Int) (w : World) (hd : DataAt w g TL TF) (hf : ∀ i, i < 4 → Fine (TL i) (TF i)) :
    Calls Tryd.prog 19 #[.pointer (some ⟨g, 0, none⟩), .int .i64 r] w fun e w' => e = .returned (.int .i64 (ofT (TL 1) (TF 1) r)) ∧ Below w.heap.size w w' := by
  obtain ⟨u, hu⟩ : ∃ u, u = ofT (TL 1) (TF 1) r := ⟨_, rfl⟩
  have HU : Hid (u = ofT (TL 1) (TF 1) r) := hu
  have HD : Hid (DataAt w g TL TF) := hd
  have HF : Hid (∀ i, i < 4 → Fine (TL i) (TF i)) := hf
  rw [← hu]
  clear hu hd hf
  go_enter Tryd.func19, Tryd.ntmps19
  go_wp2_with fail
  refine (dvalue_any TL TF g 1 r w (by omega) HD.out (HF.out 1 (by omega))).mono ?_
  rintro e w1 ⟨rfl, hB1⟩
  rw [← HU.out]
  have HB1 : Hid (Below w.heap.size w w1) := hB1
  clear hB1
  go_wp2
  go_ret
  exact ⟨rfl, HB1.out⟩


set_option maxRecDepth 100000 in
set_option maxHeartbeats 8000000 in
theorem dpicto_any (TL : Nat → List Int) (TF : Nat → List (List Int)) (g : Nat) (r : Int) (w : World) (hd : DataAt w g TL TF) (hf : ∀ i, i < 4 → Fine (TL i) (TF i)) :
    Calls Tryd.prog 51 #[.pointer (some ⟨g, 0, none⟩), .int .i64 r] w fun e w' => e = .returned (.bool (ofT (TL 3) (TF 3) r != 0)) ∧ Below w.heap.size w w' := by
  obtain ⟨u, hu⟩ : ∃ u, u = ofT (TL 3) (TF 3) r := ⟨_, rfl⟩
  have HU : Hid (u = ofT (TL 3) (TF 3) r) := hu
  have HD : Hid (DataAt w g TL TF) := hd
  have HF : Hid (∀ i, i < 4 → Fine (TL i) (TF i)) := hf
  rw [← hu]
  clear hu hd hf
  go_enter Tryd.func51, Tryd.ntmps51
  go_wp2_with fail
  refine (dvalue_any TL TF g 3 r w (by omega) HD.out (HF.out 3 (by omega))).mono ?_
  rintro e w1 ⟨rfl, hB1⟩
  rw [← HU.out]
  have HB1 : Hid (Below w.heap.size w w1) := hB1
  clear hB1
  go_wp2
  go_ret
  exact ⟨rfl, HB1.out⟩
end Go.Proofs.YtpmlbdfdiebkcaaDoor
