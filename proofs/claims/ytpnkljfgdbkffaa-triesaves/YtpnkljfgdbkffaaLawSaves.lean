/-
  The law TrieSaves: true, for all entries.
-/
import Derived.Test.YtpnkljfgdbkffaaRefAll
import Derived.Test.YtpnkljfgdbkffaaRefSave
namespace Go.Proofs.Ytpnkljfgdbkffaa
open Go.RowKit
set_option linter.unusedVariables false

theorem raw_length4 {like : List Int} {F : List (List Int)} (hf : Fine like F) : (rawSave like F).length = 4353 + 256 * F.length := by
  rw [← rawTo_end]; exact rawTo_length hf (Nat.le_refl _)
theorem rsTo_raw (F : List (List Int)) (L : List Nat) (hL : L.length = 4352) : rsTo F L 4352 ++ F.flatten = rawSave (L.map (fun k : Nat => (k : Int))) F := by
  unfold rsTo rawSave
  rw [List.take_of_length_le (by omega)]
  rfl
theorem runs_lenN {like : List Int} {F : List (List Int)} {N : Nat} (hN : N = 1114112) : (runsL (valsTo like F N)).length ≤ 1114112 := by
  have := runsL_len (valsTo like F N)
  rw [valsTo_length] at this
  omega

set_option maxRecDepth 100000 in
set_option maxHeartbeats 8000000 in
theorem trieSaves_any (l : List Pp) (v : Value) (w : World) (hv : PropsIn w v l) (hby : Bytes l) :
    Calls Try.prog 3 #[v] w fun e w' => e = .returned (.bool true) ∧ Below w.heap.size w w' := by
  have HV : Hid (PropsIn w v l) := hv
  obtain ⟨a, cap0, rfl, _, _⟩ := hv
  go_enter Try.func3, Try.ntmps3
  go_wp2_with fail
  refine (awake_any w).mono ?_
  rintro e w1 ⟨rfl, hB1⟩
  have HB1 : Hid (Below w.heap.size w w1) := hB1
  clear hB1
  by_cases h30 : 30 < l.length
  · have h30' : (30 : Int) < (l.length : Int) := by omega
    go_wp2
    go_ret
    exact ⟨rfl, HB1.out⟩
  have h30' : ¬ (30 : Int) < (l.length : Int) := by omega
  go_wp2_with fail
  refine (build_any l _ w1 ((HV.out.below HB1.out).mono HB1.out.size) hby).mono ?_
  rintro e w2 ⟨pv, rfl, hn2, ht2, hB2⟩
  have HB2 : Hid (Below w.heap.size w w2) := HB1.out.trans (hB2.mono HB1.out.size)
  clear hB2
  go_wp2_with fail
  refine (refBuild_any l _ w2 ((HV.out.below HB2.out).mono HB2.out.size) hby).mono ?_
  rintro e w3 ⟨pw, rfl, hn3, ht3, hB3⟩
  have HB3 : Hid (Below w.heap.size w w3) := HB2.out.trans (hB3.mono HB2.out.size)
  have hs3 := hB3.size
  by_cases g1 : l.all good1 = true
  · have e1 : errB l = 0 := by rw [errB_small (by omega), if_pos g1]
    have hT := (ht2 e1).below hB3
    obtain ⟨gt, rfl⟩ := hT.ptr
    obtain ⟨gw, rfl, hR⟩ := ht3 e1
    have hz := errB_zero e1
    have hF : Fine (likeB l) (firstB l) := fineB hby hz.2.2
    have HPO : Hid (1 ≤ (firstB l).length) := hF.pos
    obtain ⟨like, hlike⟩ : ∃ like, like = likeB l := ⟨_, rfl⟩
    obtain ⟨F, hFe⟩ : ∃ F, F = firstB l := ⟨_, rfl⟩
    obtain ⟨L, hLe⟩ : ∃ L, L = likeOf (blocksF (valP l)) := ⟨_, rfl⟩
    have HLK : Hid (L.map (fun k : Nat => (k : Int)) = like) := by show _ = _; rw [hLe, hlike]; rfl
    have HLL : Hid (L.length = 4352) := by show _ = _; rw [hLe, like_length, blocksF_length]
    have HLT : Hid (∀ x ∈ L, x < F.length) := fun x hx => by
      rw [hLe] at hx
      obtain ⟨i, hi, rfl⟩ := List.getElem_of_mem hx
      rw [like_length] at hi
      rw [hFe]
      exact like_lt hi
    have h256 : F.length ≤ 256 := by rw [hFe]; exact hz.2.2
    rw [← hlike, ← hFe] at hT hF
    rw [← hFe] at hR HPO
    rw [← hLe] at hR
    obtain ⟨HT, HR, HF⟩ : Hid (TrieAt w3.heap.size w3 (.pointer (some ⟨gt, 0, none⟩)) like F) ∧ Hid (RefAt w2.heap.size w3 gw F L) ∧ Hid (Fine like F) := ⟨hT.mono hs3, hR, hF⟩
    rw [e1]
    clear hn2 ht2 hn3 ht3 hB3 hT hR hF hz g1 e1 hlike hFe hLe
    have HRL : Hid ((rawSave like F).length = 4353 + 256 * F.length) := raw_length4 HF.out
    obtain ⟨m, hm, hml⟩ : ∃ m, m = runsL (valsTo like F 1114112) ∧ m.length ≤ 1114112 := by
      obtain ⟨N, hN⟩ : ∃ N : Nat, N = 1114112 := ⟨_, rfl⟩
      have := runs_lenN (like := like) (F := F) hN
      rw [hN] at this
      exact ⟨_, rfl, this⟩
    obtain ⟨HM, HML⟩ : Hid (m = runsL (valsTo like F 1114112)) ∧ Hid (m.length ≤ 1114112) := ⟨hm, hml⟩
    clear hm hml
    go_wp2_with fail
    refine (all_any2 _ _ _ w3 HT.out HF.out).mono ?_
    rintro e w4 ⟨v4, rfl, ho4, hB4⟩
    rw [← HM.out] at ho4
    have HB4 : Hid (Below w3.heap.size w3 w4) := hB4
    have HP4 : Hid (PropsIn w4 v4 m) := props_of_row ho4
    clear ho4 hB4
    go_wp2_with fail
    refine (refAll_any w2.heap.size F L gw w4 (HR.out.below HB4.out) (by omega) HLL.out HLT.out).mono ?_
    rintro e w5 ⟨v5, rfl, ho5, hB5⟩
    rw [HLK.out, ← HM.out] at ho5
    have HB5 : Hid (Below w3.heap.size w3 w5) := HB4.out.trans (hB5.mono HB4.out.size)
    have HP5 : Hid (PropsIn w5 v5 m) := props_of_row ho5
    have HP45 : Hid (PropsIn w5 v4 m) := (HP4.out.below hB5).mono hB5.size
    clear ho5 hB5
    go_wp2_with fail
    refine (refSame_any m v4 v5 w5 HP45.out HP5.out HML.out).mono ?_
    rintro e w6 ⟨rfl, hB6⟩
    have HB6 : Hid (Below w3.heap.size w3 w6) := HB5.out.trans (hB6.mono HB5.out.size)
    clear hB6
    go_wp2_with fail
    refine wp_region_bad (fun w' => Below w6.heap.size w6 w') [] (by kernel_rfl) ((Below.refl _ _).drew) (fun hS => ?_)
    refine wpAnyB_pure (i := 0) (v := .bool true) rfl (by kernel_rfl) (fun _ _ _ h => h) (Or.inl ⟨by rfl, fun w _ => by go_simp⟩) hS ?_
    simp only [List.getElem_toArray, List.getElem_cons_zero, Act.put, List.setIfInBounds_toArray, List.set_cons_zero, List.set_cons_succ]
    refine wpAnyB_pure (i := 1) (v := .bool true) rfl (by kernel_rfl) (fun _ _ _ h => h) (Or.inl ⟨by rfl, fun w _ => by go_simp⟩) hS ?_
    simp only [List.getElem_toArray, List.getElem_cons_succ, List.getElem_cons_zero, Act.put, List.setIfInBounds_toArray, List.set_cons_zero, List.set_cons_succ]
    refine wpAnyB_pure (i := 2) (v := .pointer (some ⟨gt, 0, none⟩)) rfl (by kernel_rfl) (fun _ _ _ h => h) (Or.inl ⟨by rfl, fun w _ => by go_simp⟩) hS ?_
    simp only [List.getElem_toArray, List.getElem_cons_succ, List.getElem_cons_zero, Act.put, List.setIfInBounds_toArray, List.set_cons_zero, List.set_cons_succ]
    refine wpAnyB_pure (i := 5) (v := .pointer (some ⟨gw, 0, none⟩)) rfl (by kernel_rfl) (fun _ _ _ h => h) (Or.inl ⟨by rfl, fun w _ => by go_simp⟩) hS ?_
    simp only [List.getElem_toArray, List.getElem_cons_succ, List.getElem_cons_zero, Act.put, List.setIfInBounds_toArray, List.set_cons_zero, List.set_cons_succ]
    refine wpAnyB_one (i := 3) rfl (by kernel_rfl) (fun K hK => ?_)
    go_simp
    refine (save_any _ _ _ w6.drew ((HT.out.below (HB6.out.trans (hS.mono HB6.out.size))).mono (by have := HB6.out.size; have := hS.size; omega)) HF.out).mono ?_
    rintro e w7 ⟨v7, rfl, ho7, hB7⟩
    have HY7 : Hid (BytesAt w7.heap.size w7 v7 (rawSave like F)) := bytes_of_row (by rw [HRL.out]; exact ho7)
    have HB7 : Hid (Below w6.heap.size w6 w7) := hS.trans hB7
    refine hK.out _ _ HB7.out ?_
    refine wpAnyB_mono (S' := fun w' => Below w7.heap.size w7 w') (fun w' h => HB7.out.trans (h.mono HB7.out.size)) ?_
    clear hK K ho7 hB7 hS
    have hS7 : Below w7.heap.size w7 w7 := Below.refl _ _
    refine wpAnyB_take [] (i := 4) (v := .string (strOfNums (rawSave like F))) rfl (by kernel_rfl) (fun _ _ _ h => h) (yields_convert (by rfl) rfl rfl (fun w' hw' => (HY7.out.below hw').conv)) hS7 ?_
    simp only [List.getElem_toArray, List.getElem_cons_succ, List.getElem_cons_zero, Act.put, List.setIfInBounds_toArray, List.set_cons_zero, List.set_cons_succ]
    refine wpAnyB_one (i := 6) rfl (by kernel_rfl) (fun K hK => ?_)
    go_simp
    refine (refSave_any w2.heap.size F L gw w7 (by have := HB6.out.size; have := HB7.out.size; omega) (HR.out.below (HB6.out.trans (HB7.out.mono HB6.out.size))) HPO.out h256 HLL.out HLT.out).mono ?_
    rintro e w8 ⟨v8, rfl, ho8, hB8⟩
    have HY8 : Hid (BytesAt w8.heap.size w8 v8 (rawSave like F)) := by
      have e8 : rsTo F L 4352 ++ F.flatten = rawSave like F := by rw [rsTo_raw F L HLL.out, HLK.out]
      rw [e8] at ho8
      exact bytes_of_row (by rw [HRL.out, Nat.mul_comm 256]; exact ho8)
    have HB8 : Hid (Below w7.heap.size w7 w8) := hB8
    refine hK.out _ _ HB8.out ?_
    refine wpAnyB_mono (S' := fun w' => Below w8.heap.size w8 w') (fun w' h => HB8.out.trans (h.mono HB8.out.size)) ?_
    clear hK K ho8 hB8 hS7
    have hS8 : Below w8.heap.size w8 w8 := Below.refl _ _
    refine wpAnyB_take [] (i := 7) (v := .string (strOfNums (rawSave like F))) rfl (by kernel_rfl) (fun _ _ _ h => h) (yields_convert (by rfl) rfl rfl (fun w' hw' => (HY8.out.below hw').conv)) hS8 ?_
    simp only [List.getElem_toArray, List.getElem_cons_succ, List.getElem_cons_zero, Act.put, List.setIfInBounds_toArray, List.set_cons_zero, List.set_cons_succ]
    refine wpAnyB_pure (i := 8) (v := .bool true) rfl (by kernel_rfl) (fun _ _ _ h => h) (Or.inl ⟨by rfl, fun w _ => by go_simp⟩) hS8 ?_
    simp only [List.getElem_toArray, List.getElem_cons_succ, List.getElem_cons_zero, Act.put, List.setIfInBounds_toArray, List.set_cons_zero, List.set_cons_succ]
    refine wpAnyB_pure (i := 9) (v := .bool true) rfl (by kernel_rfl) (fun _ _ _ h => h) (Or.inl ⟨by rfl, fun w _ => by go_simp⟩) hS8 ?_
    simp only [List.getElem_toArray, List.getElem_cons_succ, List.getElem_cons_zero, Act.put, List.setIfInBounds_toArray, List.set_cons_zero, List.set_cons_succ]
    refine wpAnyB_pure (i := 10) (v := .bool true) rfl (by kernel_rfl) (fun _ _ _ h => h) (Or.inl ⟨by rfl, fun w _ => by go_simp⟩) hS8 ?_
    simp only [List.getElem_toArray, List.getElem_cons_succ, List.getElem_cons_zero, Act.put, List.setIfInBounds_toArray, List.set_cons_zero, List.set_cons_succ]
    refine wpAnyB_done (by kernel_rfl) ?_ _
    refine NoPanic.normal ?_
    clear hS8
    go_wp2
    go_ret
    exact ⟨rfl, HB3.out.trans ((HB6.out.trans ((HB7.out.trans (HB8.out.mono HB7.out.size)).mono HB6.out.size)).mono HB3.out.size)⟩
  · have e1 : errB l = 1 := by rw [errB_small (by omega), if_neg g1]
    obtain rfl := hn2 (by omega)
    obtain rfl := hn3 (by omega)
    rw [e1]
    clear hn2 ht2 hn3 ht3 e1 g1 hB3
    go_wp2
    go_ret
    exact ⟨rfl, HB3.out⟩
end Go.Proofs.Ytpnkljfgdbkffaa
