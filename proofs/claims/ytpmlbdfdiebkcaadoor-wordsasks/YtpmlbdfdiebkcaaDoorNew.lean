/-
  ucd.New: the data of the shipped tables.
-/
import Derived.Test.YtpmlbdfdiebkcaaDoorShip
namespace Go.Proofs.YtpmlbdfdiebkcaaDoor
open Go.RowKit
set_option linter.unusedVariables false

set_option maxRecDepth 100000 in
set_option maxHeartbeats 8000000 in
theorem new_any (w : World) (hs : Scripts w) (h0 : 0 < w.heap.size) :
    Calls Tryd.prog 10 #[] w fun e w' => ∃ g, e = .returned (.pointer (some ⟨g, 0, none⟩)) ∧ DataAt w' g (fun i => likeB (tabP i)) (fun i => firstB (tabP i)) ∧ Below w.heap.size w w' := by
  have HS : Hid (Scripts w) := hs
  have HH0 : Hid (0 < w.heap.size) := h0
  obtain ⟨TL, hTL⟩ : ∃ TL : Nat → List Int, TL = fun i => likeB (tabP i) := ⟨_, rfl⟩
  obtain ⟨TF, hTF⟩ : ∃ TF : Nat → List (List Int), TF = fun i => firstB (tabP i) := ⟨_, rfl⟩
  have hL : ∀ i, TL i = likeB (tabP i) := fun i => by rw [hTL]
  have hF : ∀ i, TF i = firstB (tabP i) := fun i => by rw [hTF]
  have HTF : Hid (∀ i, i < 4 → Fine (TL i) (TF i)) := fun i hi => by rw [hL, hF]; exact tab_fine i hi
  have HTB : Hid (∀ i, i < 4 → ∀ v w, PropsIn w v (tabP i) → Calls Tryd.prog 21 #[v] w fun e w' => ∃ pv, e = .returned (.tuple #[pv, .int .i64 0]) ∧ TrieAt w'.heap.size w' pv (TL i) (TF i) ∧ Below w.heap.size w w') := fun i hi v w hv => by
    refine (build_any (tabP i) v w hv (tab_bytes i hi)).mono ?_
    rintro e w' ⟨pv, rfl, _, h2, h3⟩
    rw [tab_err i hi]
    exact ⟨pv, rfl, by rw [hL, hF]; exact h2 (tab_err i hi), h3⟩
  rw [← hTL, ← hTF]
  clear hs hTL hTF hL hF h0
  go_enter Tryd.func10, Tryd.ntmps10
  go_wp2_with fail
  have HD0 : Hid (DataTo (w.alloc (.cells #[.pointer none, .pointer none, .pointer none, .pointer none] 41)) w.heap.size 0 TL TF) := ⟨fun _ => .pointer none, heap_new' w _, fun _ _ => ⟨none, rfl⟩, fun i hi => by omega⟩
  have HB0 : Hid (Below w.heap.size w (w.alloc (.cells #[.pointer none, .pointer none, .pointer none, .pointer none] 41))) := (Below.refl _ _).alloc (Nat.le_refl _) _
  obtain ⟨w1, hw1⟩ : ∃ w1, w1 = w.alloc (.cells #[.pointer none, .pointer none, .pointer none, .pointer none] 41) := ⟨_, rfl⟩
  obtain ⟨g, hg⟩ : ∃ g, g = w.heap.size := ⟨_, rfl⟩
  have HGW : Hid (w.heap.size ≤ g) := by show _ ≤ _; omega
  rw [← hw1] at HD0 HB0
  rw [← hw1, ← hg]
  rw [← hg] at HD0
  clear hw1 hg
  go_loopw [5] (fun x wr => ∃ k : Nat, k ≤ 4 ∧ x = .int .i64 k ∧ DataTo wr g k TL TF ∧ Below w.heap.size w wr) (fun x _ => 4 - (intOf x).toNat)
  case atStart => exact ⟨0, Nat.zero_le _, rfl, HD0.out, HB0.out⟩
  case round =>
    obtain ⟨k, hk, rfl, hD, hB⟩ := hrel
    have hsi := hB.size
    obtain ⟨HD, HB⟩ : Hid (DataTo wr g k TL TF) ∧ Hid (Below w.heap.size w wr) := ⟨hD, hB⟩
    clear hD hB HD0 HB0
    by_cases hlt : k < 4
    · have hlt' : (k : Int) < 4 := by omega
      go_wp2_with fail
      refine wp_region_bad (fun w' => Below wr.heap.size wr w') [11] (by kernel_rfl) ((Below.refl _ _).drew) (fun hS => ?_)
      refine wpAnyB_pure (i := 0) (v := .pointer (some ⟨g, 0, none⟩)) rfl (by kernel_rfl) (fun _ _ _ h => h) (Or.inl ⟨by rfl, fun w _ => by go_simp⟩) hS ?_
      simp only [List.getElem_toArray, List.getElem_cons_zero, Act.put, List.setIfInBounds_toArray, List.set_cons_zero, List.set_cons_succ]
      refine wpAnyB_pure (i := 1) (v := .int .i64 (k : Int)) rfl (by kernel_rfl) (fun _ _ _ h => h) (Or.inl ⟨by rfl, fun w _ => by go_simp⟩) hS ?_
      simp only [List.getElem_toArray, List.getElem_cons_succ, List.getElem_cons_zero, Act.put, List.setIfInBounds_toArray, List.set_cons_zero, List.set_cons_succ]
      refine wpAnyB_pure (i := 2) (v := .int .i64 (k : Int)) rfl (by kernel_rfl) (fun _ _ _ h => h) (Or.inl ⟨by rfl, fun w _ => by go_simp⟩) hS ?_
      simp only [List.getElem_toArray, List.getElem_cons_succ, List.getElem_cons_zero, Act.put, List.setIfInBounds_toArray, List.set_cons_zero, List.set_cons_succ]
      refine wpAnyB_pure (i := 8) (v := .pointer (some ⟨g, 0, none⟩)) rfl (by kernel_rfl) (fun _ _ _ h => h) (Or.inl ⟨by rfl, fun w _ => by go_simp⟩) hS ?_
      simp only [List.getElem_toArray, List.getElem_cons_succ, List.getElem_cons_zero, Act.put, List.setIfInBounds_toArray, List.set_cons_zero, List.set_cons_succ]
      refine wpAnyB_pure (i := 9) (v := .pointer (some ⟨g, 0, none⟩)) rfl (by kernel_rfl) (fun _ _ _ h => h) (Or.inl ⟨by rfl, fun w _ => by go_simp⟩) hS ?_
      simp only [List.getElem_toArray, List.getElem_cons_succ, List.getElem_cons_zero, Act.put, List.setIfInBounds_toArray, List.set_cons_zero, List.set_cons_succ]
      refine wpAnyB_one (i := 3) rfl (by kernel_rfl) (fun K hK => ?_)
      go_simp
      refine (shipped_any k hlt wr.drew ((HS.out.below HH0.out HB.out).below (by have := HH0.out; omega) hS) (by show 0 < wr.heap.size; have := HH0.out; omega)).mono ?_
      rintro e w2 ⟨v2, rfl, hp2, hB2⟩
      have HP2 : Hid (PropsIn w2 v2 (tabP k)) := hp2
      have HB2 : Hid (Below wr.heap.size wr w2) := hS.trans hB2
      refine hK.out _ _ HB2.out ?_
      clear hK K hp2 hB2 hS
      refine wpAnyB_one (i := 4) rfl (by kernel_rfl) (fun K hK => ?_)
      go_simp
      refine (HTB.out k hlt v2 w2 HP2.out).mono ?_
      rintro e w3 ⟨pv, rfl, ht3, hB3⟩
      obtain ⟨gt, rfl⟩ := ht3.ptr
      have hB3' : Below wr.heap.size wr w3 := HB2.out.trans (hB3.mono HB2.out.size)
      have HT3 : Hid (TrieAt w3.heap.size w3 (.pointer (some ⟨gt, 0, none⟩)) (TL k) (TF k)) := ht3
      have HB3 : Hid (Below wr.heap.size wr w3) := hB3'
      have HD3 : Hid (DataTo w3 g k TL TF) := HD.out.below hB3'
      refine hK.out _ _ HB3.out ?_
      clear hK K ht3 hB3
      refine wpAnyB_pure (i := 5) (v := .tuple #[.pointer (some ⟨gt, 0, none⟩), .int .i64 0]) rfl (by kernel_rfl) (fun _ _ _ h => h) (Or.inl ⟨by rfl, fun w _ => by go_simp⟩) hB3' ?_
      simp only [List.getElem_toArray, List.getElem_cons_succ, List.getElem_cons_zero, Act.put, List.setIfInBounds_toArray, List.set_cons_zero, List.set_cons_succ]
      refine wpAnyB_pure (i := 6) (v := .pointer (some ⟨gt, 0, none⟩)) rfl (by kernel_rfl) (fun _ _ _ h => h) (Or.inl ⟨by rfl, fun w _ => by go_simp⟩) hB3' ?_
      simp only [List.getElem_toArray, List.getElem_cons_succ, List.getElem_cons_zero, Act.put, List.setIfInBounds_toArray, List.set_cons_zero, List.set_cons_succ]
      refine wpAnyB_pure (i := 7) (v := .int .i64 0) rfl (by kernel_rfl) (fun _ _ _ h => h) (Or.inl ⟨by rfl, fun w _ => by go_simp⟩) hB3' ?_
      simp only [List.getElem_toArray, List.getElem_cons_succ, List.getElem_cons_zero, Act.put, List.setIfInBounds_toArray, List.set_cons_zero, List.set_cons_succ]
      refine wpAnyB_pure (i := 10) (v := .pointer (some ⟨g, k, none⟩)) rfl (by kernel_rfl) (fun _ _ _ h => h) (Or.inl ⟨by rfl, fun w _ => by go_simp⟩) hB3' ?_
      simp only [List.getElem_toArray, List.getElem_cons_succ, List.getElem_cons_zero, Act.put, List.setIfInBounds_toArray, List.set_cons_zero, List.set_cons_succ]
      obtain ⟨⟨u, hu⟩, hfz⟩ := HD3.out.cell hlt
      refine wpAnyB_last (i := 11) rfl (by kernel_rfl) (fun K hK => ?_)
      rw [if_pos (by rfl)]
      go_wp2
      refine hK.out _ _ ?_
      refine wpAnyB_done (by kernel_rfl) ?_ _
      refine NoPanic.normal ?_
      clear hK K hu hfz hB3'
      go_wp2
      go_roundw
      case rel => exact ⟨k + 1, by omega, by go_num, HD3.out.store hlt HT3.out (fun i hi => HTF.out i (by omega)), (HB.out.trans (HB3.out.mono hsi)).setCell (show w.heap.size ≤ g from HGW.out) _⟩
      case measure => simp [intOf]; omega
    · obtain rfl : k = 4 := by omega
      go_wp2
      go_ret
      exact ⟨g, rfl, HD.out.at, HB.out⟩
end Go.Proofs.YtpmlbdfdiebkcaaDoor
