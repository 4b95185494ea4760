/-
  scansionref03.Blocks, Of.
-/
import Derived.Test.YtmhligcmcfikfaaDoorRefBuild
namespace Go.Proofs.YtmhligcmcfikfaaDoor
open Go.RowKit
set_option linter.unusedVariables false


set_option maxRecDepth 100000 in
set_option maxHeartbeats 8000000 in
theorem refOf_any (n : Nat) (F : List (List Int)) (L : List Nat) (g : Nat) (r : Int) (w : World) (ht : RefAt n w g F L) (hF : F.length ≤ 4352) (hL : L.length = 4352) (hlt : ∀ x ∈ L, x < F.length) :
    Calls Tryd.prog 51 #[.pointer (some ⟨g, 0, none⟩), .int .i64 r] w fun e w' => e = .returned (.int .u8 (ofT (L.map (fun k : Nat => (k : Int))) F r)) ∧ Below w.heap.size w w' := by
  obtain ⟨vF, vL, hng, hg, hoF, hoL, hisF⟩ := ht
  obtain ⟨aF, capF, rfl⟩ := slice_of_row hoF
  obtain ⟨aL, capL, rfl⟩ := slice_of_row hoL
  obtain ⟨u, hu⟩ : ∃ u, u = ofT (L.map (fun k : Nat => (k : Int))) F r := ⟨_, rfl⟩
  rw [← hu]
  have HU : Hid (u = ofT (L.map (fun k : Nat => (k : Int))) F r) := hu
  clear hu
  by_cases n1 : r < 0
  · have e0 : u = 0 := by rw [HU.out]; unfold ofT; rw [if_neg (by omega)]
    subst e0
    go_enter Tryd.func51, Tryd.ntmps51
    go_wp2
    go_ret
    exact ⟨rfl, Below.refl _ _⟩
  by_cases n2 : 1114111 < r
  · have e0 : u = 0 := by rw [HU.out]; unfold ofT; rw [if_neg (by omega)]
    subst e0
    go_enter Tryd.func51, Tryd.ntmps51
    go_wp2
    go_ret
    exact ⟨rfl, Below.refl _ _⟩
  · obtain ⟨r, rfl⟩ : ∃ r' : Nat, r = (r' : Int) := ⟨r.toNat, by omega⟩
    obtain ⟨k, hk⟩ : ∃ k, k = r / 256 := ⟨_, rfl⟩
    obtain ⟨j, hj⟩ : ∃ j, j = r % 256 := ⟨_, rfl⟩
    have hkl : k < L.length := by rw [hL]; omega
    obtain ⟨m, hm⟩ : ∃ m : Nat, m = L[k] := ⟨_, rfl⟩
    have hmF : m < F.length := by rw [hm]; exact hlt _ (List.getElem_mem hkl)
    obtain ⟨gF, rfl, hgF⟩ : ∃ gF, aF = some ⟨gF, 0, none⟩ ∧ gF < w.heap.size := by
      rcases hoF.2 with ⟨_, h0⟩ | ⟨g', cap', cur, e, _, hg', _⟩
      · omega
      · exact ⟨g', by simpa using (by simpa using e : _ ∧ _).1, heap_lt hg'⟩
    obtain ⟨gL, rfl, hgL⟩ : ∃ gL, aL = some ⟨gL, 0, none⟩ ∧ gL < w.heap.size := by
      rcases hoL.2 with ⟨_, h0⟩ | ⟨g', cap', cur, e, _, hg', _⟩
      · omega
      · exact ⟨g', by simpa using (by simpa using e : _ ∧ _).1, heap_lt hg'⟩
    have hfl : F.flatten[m * 256 + j]? = some u := by
      have hb := hisF F[m] (List.getElem_mem hmF)
      have hjb : j < (F[m]).length := by rw [hb.1]; omega
      rw [flat_at (isB_even hisF) hmF (by omega), List.getElem?_eq_getElem hjb]
      congr 1
      rw [HU.out]
      unfold ofT
      rw [if_pos (by omega)]
      have e1 : ((r : Int) / 256).toNat = k := by omega
      have e2 : ((r : Int) % 256).toNat = j := by omega
      rw [e1, e2, List.getElem?_map, List.getElem?_eq_getElem hkl]
      simp only [Option.map_some, Option.getD_some]
      rw [← hm, Int.toNat_natCast, flat_at (isB_even hisF) hmF (by omega), List.getElem?_eq_getElem hjb]
      rfl
    have hgl := heap_lt hg
    have HC0 : Hid (∀ w', Below w.heap.size w w' → w'.cell? ⟨g, 0, none⟩ = some (.slice (some ⟨gF, 0, none⟩) (F.length * 256) capF)) := fun w' hw' => (hw'.cell (p := ⟨g, 0, none⟩) hgl).trans (cell_row hg rfl)
    have HC1 : Hid (∀ w', Below w.heap.size w w' → w'.cell? ⟨g, 1, none⟩ = some (.slice (some ⟨gL, 0, none⟩) 4352 capL)) := fun w' hw' => (hw'.cell (p := ⟨g, 1, none⟩) hgl).trans (cell_row hg (by rw [← hL]; rfl))
    have HCK : Hid (∀ w', Below w.heap.size w w' → w'.cell? ⟨gL, k, none⟩ = some (.int .i64 (m : Int))) := fun w' hw' => (hw'.cell (p := ⟨gL, k, none⟩) hgL).trans (by
      have := hoL.cells (g := gL) rfl k (.int .i64 (m : Int)) (by rw [List.getElem?_map, List.getElem?_eq_getElem hkl, hm]; rfl)
      rw [Addr.add_mid, Nat.zero_add] at this
      exact this)
    have HCU : Hid (∀ w', Below w.heap.size w w' → w'.cell? ⟨gF, m * 256 + j, none⟩ = some (.int .u8 u)) := fun w' hw' => (hw'.cell (p := ⟨gF, m * 256 + j, none⟩) hgF).trans (by
      have := hoF.cells (g := gF) rfl (m * 256 + j) (.int .u8 u) (by unfold cellsBl i8; rw [List.getElem?_map, hfl]; rfl)
      rw [Addr.add_mid, Nat.zero_add] at this
      exact this)
    have hq : (r : Int).tdiv 256 = (k : Int) := by rw [Int.tdiv_eq_ediv_of_nonneg (by omega)]; omega
    have hr : (r : Int).tmod 256 = (j : Int) := by rw [Int.tmod_eq_emod_of_nonneg (by omega)]; omega
    have hk4 : (k : Int) < 4352 := by omega
    have hk5 : k < 4352 := by omega
    have hwk : IntKind.i64.wrap (k : Int) = (k : Int) := IntWalk.i64_in _ (by omega)
    have hwj : IntKind.i64.wrap (j : Int) = (j : Int) := IntWalk.i64_in _ (by omega)
    have hwm : IntKind.i64.wrap ((m : Int) * 256) = (m : Int) * 256 := IntWalk.i64_in _ (by omega)
    have hwa : IntKind.i64.wrap ((m : Int) * 256 + (j : Int)) = (m : Int) * 256 + (j : Int) := IntWalk.i64_in _ (by omega)
    have hi1 : (0 : Int) ≤ (m : Int) * 256 + (j : Int) := by omega
    have hi2 : (m : Int) * 256 + (j : Int) < (F.length : Int) * 256 := by omega
    have hi3 : ((m : Int) * 256 + (j : Int)).toNat = m * 256 + j := by omega
    clear hfl hm hk hj hoF hoL hg hisF hlt
    go_enter Tryd.func51, Tryd.ntmps51
    go_wp2_with fail
    refine wp_region_bad (fun w' => Below w.heap.size w w') [] (by kernel_rfl) ((Below.refl _ _).drew) (fun hS => ?_)
    have hC0 := HC0.out
    have hC1 := HC1.out
    have hCK := HCK.out
    have hCU := HCU.out
    refine wpAnyB_pure (i := 0) (v := .pointer (some ⟨g, 0, none⟩)) rfl (by kernel_rfl) (fun _ _ _ h => h) (Or.inl ⟨by rfl, fun w _ => by go_simp⟩) hS ?_
    simp only [List.getElem_toArray, List.getElem_cons_zero, Act.put, List.setIfInBounds_toArray, List.set_cons_zero, List.set_cons_succ]
    refine wpAnyB_pure (i := 1) (v := .pointer (some ⟨g, 0, none⟩)) rfl (by kernel_rfl) (fun _ _ _ h => h) (Or.inl ⟨by rfl, fun w _ => by go_simp⟩) hS ?_
    simp only [List.getElem_toArray, List.getElem_cons_succ, List.getElem_cons_zero, Act.put, List.setIfInBounds_toArray, List.set_cons_zero, List.set_cons_succ]
    refine wpAnyB_pure (i := 2) (v := .pointer (some ⟨g, 0, none⟩)) rfl (by kernel_rfl) (fun _ _ _ h => h) (Or.inl ⟨by rfl, fun w _ => by go_simp⟩) hS ?_
    simp only [List.getElem_toArray, List.getElem_cons_succ, List.getElem_cons_zero, Act.put, List.setIfInBounds_toArray, List.set_cons_zero, List.set_cons_succ]
    refine wpAnyB_take [] (i := 3) (v := .slice (some ⟨gF, 0, none⟩) (F.length * 256) capF) rfl (by kernel_rfl) (fun _ _ _ h => h) (Or.inl ⟨by rfl, fun w hSw => by have := hC0 w hSw; go_simp⟩) hS ?_
    simp only [List.getElem_toArray, List.getElem_cons_succ, List.getElem_cons_zero, Act.put, List.setIfInBounds_toArray, List.set_cons_zero, List.set_cons_succ]
    refine wpAnyB_pure (i := 4) (v := .pointer (some ⟨g, 0, none⟩)) rfl (by kernel_rfl) (fun _ _ _ h => h) (Or.inl ⟨by rfl, fun w _ => by go_simp⟩) hS ?_
    simp only [List.getElem_toArray, List.getElem_cons_succ, List.getElem_cons_zero, Act.put, List.setIfInBounds_toArray, List.set_cons_zero, List.set_cons_succ]
    refine wpAnyB_pure (i := 5) (v := .pointer (some ⟨g, 0, none⟩)) rfl (by kernel_rfl) (fun _ _ _ h => h) (Or.inl ⟨by rfl, fun w _ => by go_simp⟩) hS ?_
    simp only [List.getElem_toArray, List.getElem_cons_succ, List.getElem_cons_zero, Act.put, List.setIfInBounds_toArray, List.set_cons_zero, List.set_cons_succ]
    refine wpAnyB_pure (i := 6) (v := .pointer (some ⟨g, 1, none⟩)) rfl (by kernel_rfl) (fun _ _ _ h => h) (Or.inl ⟨by rfl, fun w _ => by go_simp⟩) hS ?_
    simp only [List.getElem_toArray, List.getElem_cons_succ, List.getElem_cons_zero, Act.put, List.setIfInBounds_toArray, List.set_cons_zero, List.set_cons_succ]
    refine wpAnyB_take [] (i := 7) (v := .slice (some ⟨gL, 0, none⟩) 4352 capL) rfl (by kernel_rfl) (fun _ _ _ h => h) (Or.inl ⟨by rfl, fun w hSw => by have := hC1 w hSw; go_simp⟩) hS ?_
    simp only [List.getElem_toArray, List.getElem_cons_succ, List.getElem_cons_zero, Act.put, List.setIfInBounds_toArray, List.set_cons_zero, List.set_cons_succ]
    refine wpAnyB_pure (i := 8) (v := .int .i64 (r : Int)) rfl (by kernel_rfl) (fun _ _ _ h => h) (Or.inl ⟨by rfl, fun w _ => by go_simp⟩) hS ?_
    simp only [List.getElem_toArray, List.getElem_cons_succ, List.getElem_cons_zero, Act.put, List.setIfInBounds_toArray, List.set_cons_zero, List.set_cons_succ]
    refine wpAnyB_pure (i := 9) (v := .int .i64 (k : Int)) rfl (by kernel_rfl) (fun _ _ _ h => h) (Or.inl ⟨by rfl, fun w _ => by go_simp⟩) hS ?_
    simp only [List.getElem_toArray, List.getElem_cons_succ, List.getElem_cons_zero, Act.put, List.setIfInBounds_toArray, List.set_cons_zero, List.set_cons_succ]
    refine wpAnyB_pure (i := 10) (v := .pointer (some ⟨gL, k, none⟩)) rfl (by kernel_rfl) (fun _ _ _ h => h) (Or.inl ⟨by rfl, fun w _ => by go_simp⟩) hS ?_
    simp only [List.getElem_toArray, List.getElem_cons_succ, List.getElem_cons_zero, Act.put, List.setIfInBounds_toArray, List.set_cons_zero, List.set_cons_succ]
    refine wpAnyB_take [] (i := 11) (v := .int .i64 (m : Int)) rfl (by kernel_rfl) (fun _ _ _ h => h) (Or.inl ⟨by rfl, fun w hSw => by have := hCK w hSw; go_simp⟩) hS ?_
    simp only [List.getElem_toArray, List.getElem_cons_succ, List.getElem_cons_zero, Act.put, List.setIfInBounds_toArray, List.set_cons_zero, List.set_cons_succ]
    refine wpAnyB_pure (i := 12) (v := .int .i64 ((m : Int) * 256)) rfl (by kernel_rfl) (fun _ _ _ h => h) (Or.inl ⟨by rfl, fun w _ => by go_simp⟩) hS ?_
    simp only [List.getElem_toArray, List.getElem_cons_succ, List.getElem_cons_zero, Act.put, List.setIfInBounds_toArray, List.set_cons_zero, List.set_cons_succ]
    refine wpAnyB_pure (i := 13) (v := .int .i64 (r : Int)) rfl (by kernel_rfl) (fun _ _ _ h => h) (Or.inl ⟨by rfl, fun w _ => by go_simp⟩) hS ?_
    simp only [List.getElem_toArray, List.getElem_cons_succ, List.getElem_cons_zero, Act.put, List.setIfInBounds_toArray, List.set_cons_zero, List.set_cons_succ]
    refine wpAnyB_pure (i := 14) (v := .int .i64 (j : Int)) rfl (by kernel_rfl) (fun _ _ _ h => h) (Or.inl ⟨by rfl, fun w _ => by go_simp⟩) hS ?_
    simp only [List.getElem_toArray, List.getElem_cons_succ, List.getElem_cons_zero, Act.put, List.setIfInBounds_toArray, List.set_cons_zero, List.set_cons_succ]
    refine wpAnyB_pure (i := 15) (v := .int .i64 ((m : Int) * 256 + (j : Int))) rfl (by kernel_rfl) (fun _ _ _ h => h) (Or.inl ⟨by rfl, fun w _ => by go_simp⟩) hS ?_
    simp only [List.getElem_toArray, List.getElem_cons_succ, List.getElem_cons_zero, Act.put, List.setIfInBounds_toArray, List.set_cons_zero, List.set_cons_succ]
    refine wpAnyB_pure (i := 16) (v := .pointer (some ⟨gF, m * 256 + j, none⟩)) rfl (by kernel_rfl) (fun _ _ _ h => h) (Or.inl ⟨by rfl, fun w _ => by go_simp⟩) hS ?_
    simp only [List.getElem_toArray, List.getElem_cons_succ, List.getElem_cons_zero, Act.put, List.setIfInBounds_toArray, List.set_cons_zero, List.set_cons_succ]
    refine wpAnyB_take [] (i := 17) (v := .int .u8 u) rfl (by kernel_rfl) (fun _ _ _ h => h) (Or.inl ⟨by rfl, fun w hSw => by have := hCU w hSw; go_simp⟩) hS ?_
    simp only [List.getElem_toArray, List.getElem_cons_succ, List.getElem_cons_zero, Act.put, List.setIfInBounds_toArray, List.set_cons_zero, List.set_cons_succ]
    refine wpAnyB_pure (i := 18) (v := .int .u8 u) rfl (by kernel_rfl) (fun _ _ _ h => h) (Or.inl ⟨by rfl, fun w _ => by go_simp⟩) hS ?_
    simp only [List.getElem_toArray, List.getElem_cons_succ, List.getElem_cons_zero, Act.put, List.setIfInBounds_toArray, List.set_cons_zero, List.set_cons_succ]
    refine wpAnyB_done (by kernel_rfl) ?_ _
    refine NoPanic.normal ?_
    clear hC0 hC1 hCK hCU
    have HS : Hid (Below w.heap.size w w.drew) := hS
    clear hS
    go_wp2
    go_ret
    exact ⟨rfl, HS.out⟩
end Go.Proofs.YtmhligcmcfikfaaDoor
