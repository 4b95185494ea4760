/-
  cluster.ends, cluster.Break: the rules, one by one.
-/
import Derived.Test.YtmhligcmcfikfaaDoorRegs
namespace Go.Proofs.YtmhligcmcfikfaaDoor
open Go.RowKit
set_option linter.unusedVariables false

theorem ends_first (l : List Int) (last : Nat) : endsB l last 0 = true := by unfold endsB; rw [List.take_zero]; exact brkN_nil _ _
theorem ends_last (l : List Int) (last : Nat) : endsB l last l.length = true := by unfold endsB; rw [List.drop_length]; exact brkN_end _ _
theorem tmod_two (n : Nat) : ((n : Int).tmod 2) = ((n % 2 : Nat) : Int) := by rw [Int.tmod_eq_emod_of_nonneg (by omega)]; omega

set_option maxRecDepth 100000 in
set_option maxHeartbeats 8000000 in
theorem ends_any (l : List Int) (v : Value) (g last i : Nat) (w : World) (hd : Ship w g) (hv : IntsAt w.heap.size w v l) (hn : l.length ≤ 10000) (hli : last ≤ i) (hi : i ≤ l.length) :
    Calls Tryd.prog 26 #[.pointer (some ⟨g, 0, none⟩), v, .int .i64 (last : Int), .int .i64 (i : Int)] w fun e w' => e = .returned (.bool (endsB l last i)) ∧ Below w.heap.size w w' := by
  by_cases i0 : i = 0
  · subst i0
    obtain ⟨a, cap, rfl, hcap, hc⟩ := hv
    rw [ends_first]
    clear hc hd hn
    go_enter Tryd.func26, Tryd.ntmps26
    go_wp2
    go_ret
    exact ⟨rfl, Below.refl _ _⟩
  by_cases il : i = l.length
  · subst il
    obtain ⟨a, cap, rfl, hcap, hc⟩ := hv
    rw [ends_last]
    have e0 : ((l.length : Int) == 0) = false := by rw [beq_eq_false_iff_ne]; omega
    clear hc hd hn i0
    go_enter Tryd.func26, Tryd.ntmps26
    go_wp2
    go_ret
    exact ⟨rfl, Below.refl _ _⟩
  obtain ⟨m, rfl⟩ : ∃ m, i = m + 1 := ⟨i - 1, by omega⟩
  have HV : Hid (IntsAt w.heap.size w v l) := hv
  obtain ⟨a, cap, rfl, hcap, hc⟩ := hv
  obtain ⟨gi, off, rfl, hg, c0⟩ := hc m (by omega)
  obtain ⟨gj, offj, ej, _, c1⟩ := hc (m + 1) (by omega)
  obtain ⟨rfl, rfl⟩ : gi = gj ∧ off = offj := by cases ej; exact ⟨rfl, rfl⟩
  obtain ⟨x, hx⟩ : ∃ x, x = l[m]'(by omega) := ⟨_, rfl⟩
  obtain ⟨y, hy⟩ : ∃ y, y = l[m + 1]'(by omega) := ⟨_, rfl⟩
  obtain ⟨E, hE⟩ : ∃ E, E = endsB l last (m + 1) := ⟨_, rfl⟩
  have HE : Hid (E = ruleK (clV x) (clV y) (piV y) (picR (l.take m).reverse) (regR ((l.take (m + 1)).drop last).reverse)) := by
    show E = _
    rw [hE, ends_mid (by omega), hx, hy]
  rw [← hx] at c0
  rw [← hy] at c1
  rw [← hE]
  clear hE hx hy hc ej
  obtain ⟨i, hi'⟩ : ∃ i, i = m + 1 := ⟨_, rfl⟩
  rw [← hi'] at c1 HE i0 il hli ⊢
  have HX : Hid (∀ w', Below w.heap.size w w' → w'.cell? ⟨gi, off + m, none⟩ = some (.int .i64 x)) := fun w' hw' => (hw'.cell (p := ⟨gi, _, none⟩) hg).trans c0
  have HY : Hid (∀ w', Below w.heap.size w w' → w'.cell? ⟨gi, off + i, none⟩ = some (.int .i64 y)) := fun w' hw' => (hw'.cell (p := ⟨gi, _, none⟩) hg).trans c1
  have HD : Hid (Ship w g) := hd
  have HF : Hid (i = m + 1 ∧ i < l.length ∧ l.length ≤ 10000 ∧ last ≤ i) := ⟨hi', by omega, hn, hli⟩
  have e0 : ((i : Int) == 0) = false := by simp; omega
  have e1 : ((i : Int) == (l.length : Int)) = false := by simp; omega
  have hw1 : IntKind.i64.wrap ((i : Int) - 1) = (m : Int) := (IntWalk.i64_in _ (by omega)).trans (by omega)
  have hm1 : (m : Int) < (l.length : Int) := by omega
  have hi1 : (i : Int) < (l.length : Int) := by omega
  have hmc : (m : Int) ≤ (cap : Int) := by omega
  have hic : (i : Int) ≤ (cap : Int) := by omega
  have hlc : (last : Int) ≤ (i : Int) := by omega
  clear c0 c1 hd hn hi hi' i0 il hg hli
  go_enter Tryd.func26, Tryd.ntmps26
  go_wp2_with fail
  refine wp_region_bad (fun w' => Below w.heap.size w w') [] (by kernel_rfl) ((Below.refl _ _).drew) (fun hS => ?_)
  refine wpAnyB_pure (i := 0) (v := .pointer (some ⟨g, 0, none⟩)) rfl (by kernel_rfl) (fun _ _ _ h => h) (Or.inl ⟨by rfl, fun w _ => by go_simp⟩) hS ?_
  simp only [List.getElem_toArray, List.getElem_cons_zero, Act.put, List.setIfInBounds_toArray, List.set_cons_zero, List.set_cons_succ]
  refine wpAnyB_pure (i := 1) (v := .slice (some ⟨gi, off, none⟩) l.length cap) rfl (by kernel_rfl) (fun _ _ _ h => h) (Or.inl ⟨by rfl, fun w _ => by go_simp⟩) hS ?_
  simp only [List.getElem_toArray, List.getElem_cons_succ, List.getElem_cons_zero, Act.put, List.setIfInBounds_toArray, List.set_cons_zero, List.set_cons_succ]
  refine wpAnyB_pure (i := 2) (v := .int .i64 (i : Int)) rfl (by kernel_rfl) (fun _ _ _ h => h) (Or.inl ⟨by rfl, fun w _ => by go_simp⟩) hS ?_
  simp only [List.getElem_toArray, List.getElem_cons_succ, List.getElem_cons_zero, Act.put, List.setIfInBounds_toArray, List.set_cons_zero, List.set_cons_succ]
  refine wpAnyB_pure (i := 3) (v := .int .i64 (m : Int)) rfl (by kernel_rfl) (fun _ _ _ h => h) (Or.inl ⟨by rfl, fun w _ => by go_simp⟩) hS ?_
  simp only [List.getElem_toArray, List.getElem_cons_succ, List.getElem_cons_zero, Act.put, List.setIfInBounds_toArray, List.set_cons_zero, List.set_cons_succ]
  refine wpAnyB_pure (i := 4) (v := .pointer (some ⟨gi, off + m, none⟩)) rfl (by kernel_rfl) (fun _ _ _ h => h) (Or.inl ⟨by rfl, fun w _ => by go_simp⟩) hS ?_
  simp only [List.getElem_toArray, List.getElem_cons_succ, List.getElem_cons_zero, Act.put, List.setIfInBounds_toArray, List.set_cons_zero, List.set_cons_succ]
  refine wpAnyB_take [5] (i := 5) (v := .int .i64 x) rfl (by kernel_rfl) (fun _ _ _ h => h) (Or.inl ⟨by rfl, fun w hSw => by have := HX.out w hSw; go_simp⟩) hS ?_
  simp only [List.getElem_toArray, List.getElem_cons_succ, List.getElem_cons_zero, Act.put, List.setIfInBounds_toArray, List.set_cons_zero, List.set_cons_succ]
  refine wpAnyB_pure (i := 7) (v := .pointer (some ⟨g, 0, none⟩)) rfl (by kernel_rfl) (fun _ _ _ h => h) (Or.inl ⟨by rfl, fun w _ => by go_simp⟩) hS ?_
  simp only [List.getElem_toArray, List.getElem_cons_succ, List.getElem_cons_zero, Act.put, List.setIfInBounds_toArray, List.set_cons_zero, List.set_cons_succ]
  refine wpAnyB_pure (i := 8) (v := .slice (some ⟨gi, off, none⟩) l.length cap) rfl (by kernel_rfl) (fun _ _ _ h => h) (Or.inl ⟨by rfl, fun w _ => by go_simp⟩) hS ?_
  simp only [List.getElem_toArray, List.getElem_cons_succ, List.getElem_cons_zero, Act.put, List.setIfInBounds_toArray, List.set_cons_zero, List.set_cons_succ]
  refine wpAnyB_pure (i := 9) (v := .int .i64 (i : Int)) rfl (by kernel_rfl) (fun _ _ _ h => h) (Or.inl ⟨by rfl, fun w _ => by go_simp⟩) hS ?_
  simp only [List.getElem_toArray, List.getElem_cons_succ, List.getElem_cons_zero, Act.put, List.setIfInBounds_toArray, List.set_cons_zero, List.set_cons_succ]
  refine wpAnyB_pure (i := 10) (v := .pointer (some ⟨gi, off + i, none⟩)) rfl (by kernel_rfl) (fun _ _ _ h => h) (Or.inl ⟨by rfl, fun w _ => by go_simp⟩) hS ?_
  simp only [List.getElem_toArray, List.getElem_cons_succ, List.getElem_cons_zero, Act.put, List.setIfInBounds_toArray, List.set_cons_zero, List.set_cons_succ]
  refine wpAnyB_take [11] (i := 11) (v := .int .i64 y) rfl (by kernel_rfl) (fun _ _ _ h => h) (Or.inl ⟨by rfl, fun w hSw => by have := HY.out w hSw; go_simp⟩) hS ?_
  simp only [List.getElem_toArray, List.getElem_cons_succ, List.getElem_cons_zero, Act.put, List.setIfInBounds_toArray, List.set_cons_zero, List.set_cons_succ]
  refine wpAnyB_one (i := 6) rfl (by kernel_rfl) (fun K hK => ?_)
  go_simp
  refine (ship_cluster w.drew g x (HD.out.below hS)).mono ?_
  rintro e w1 ⟨rfl, hB1⟩
  have hS1 : Below w.heap.size w w1 := hS.trans (hB1.mono hS.size)
  refine hK.out _ _ hS1 ?_
  clear hK K hB1
  refine wpAnyB_one (i := 12) rfl (by kernel_rfl) (fun K hK => ?_)
  go_simp
  refine (ship_cluster w1 g y (HD.out.below hS1)).mono ?_
  rintro e w2 ⟨rfl, hB2⟩
  have hS2 : Below w.heap.size w w2 := hS1.trans (hB2.mono hS1.size)
  refine hK.out _ _ hS2 ?_
  clear hK K hB2
  refine wpAnyB_pure (i := 13) (v := .int .i64 (clV x)) rfl (by kernel_rfl) (fun _ _ _ h => h) (Or.inl ⟨by rfl, fun w _ => by go_simp⟩) hS2 ?_
  simp only [List.getElem_toArray, List.getElem_cons_succ, List.getElem_cons_zero, Act.put, List.setIfInBounds_toArray, List.set_cons_zero, List.set_cons_succ]
  refine wpAnyB_pure (i := 14) (v := .int .i64 (clV y)) rfl (by kernel_rfl) (fun _ _ _ h => h) (Or.inl ⟨by rfl, fun w _ => by go_simp⟩) hS2 ?_
  simp only [List.getElem_toArray, List.getElem_cons_succ, List.getElem_cons_zero, Act.put, List.setIfInBounds_toArray, List.set_cons_zero, List.set_cons_succ]
  refine wpAnyB_done (by kernel_rfl) ?_ _
  refine NoPanic.normal ?_
  have HB : Hid (Below w.heap.size w w2) := hS2
  clear hS hS1 hS2
  obtain ⟨a, ha⟩ : ∃ a, a = clV x := ⟨_, rfl⟩
  obtain ⟨b, hb⟩ : ∃ b, b = clV y := ⟨_, rfl⟩
  obtain ⟨pb, hpb⟩ : ∃ pb, pb = piV y := ⟨_, rfl⟩
  have HPB : Hid (pb = piV y) := hpb
  rw [← ha, ← hb, ← hpb] at HE
  rw [← ha, ← hb]
  clear ha hb hpb
  by_cases a1 : a = 1
  · subst a1
    by_cases b2 : b = 2
    · subst b2
      obtain rfl : E = false := by rw [HE.out]; rfl
      go_wp2
      go_ret
      exact ⟨rfl, HB.out⟩
    · have b3 : (b == 2) = false := by simpa using b2
      obtain rfl : E = true := by rw [HE.out]; unfold ruleK; rw [if_neg (by omega), if_pos (Or.inl (show aloneK 1 = true from rfl))]
      clear b2
      go_wp2_with fail
      refine (alone_any 1 w2).mono ?_
      rintro e w3 ⟨rfl, rfl⟩
      rw [show aloneK 1 = true from rfl]
      go_wp2
      go_ret
      exact ⟨rfl, HB.out⟩
  have a2 : (a == 1) = false := by simpa using a1
  have HE1 : Hid (E = if aloneK a = true ∨ aloneK b = true then true
    else if sylK a b = true ∨ markK b = true ∨ a = 7 then false
    else if a = 5 ∧ pb = true then !(picR (l.take m).reverse)
    else if a = 6 ∧ b = 6 then regR ((l.take i).drop last).reverse % 2 == 0
    else true) := by
    show E = _
    rw [HE.out]; unfold ruleK; rw [if_neg (fun h => a1 h.1)]
  clear a1 HE
  go_wp2_with fail
  refine (alone_any a w2).mono ?_
  rintro e w3 ⟨rfl, rfl⟩
  obtain ⟨p1, hp1⟩ : ∃ p, p = aloneK a := ⟨_, rfl⟩
  rw [← hp1]
  rw [← hp1] at HE1
  clear hp1
  cases p1 with
  | true =>
    obtain rfl : E = true := by rw [HE1.out, if_pos (Or.inl rfl)]
    go_wp2
    go_ret
    exact ⟨rfl, HB.out⟩
  | false =>
  go_wp2_with fail
  refine (alone_any b w2).mono ?_
  rintro e w3 ⟨rfl, rfl⟩
  obtain ⟨p2, hp2⟩ : ∃ p, p = aloneK b := ⟨_, rfl⟩
  rw [← hp2]
  rw [← hp2] at HE1
  clear hp2
  cases p2 with
  | true =>
    obtain rfl : E = true := by rw [HE1.out, if_pos (Or.inr rfl)]
    go_wp2
    go_ret
    exact ⟨rfl, HB.out⟩
  | false =>
  have HE2 : Hid (E = if sylK a b = true ∨ markK b = true ∨ a = 7 then false
    else if a = 5 ∧ pb = true then !(picR (l.take m).reverse)
    else if a = 6 ∧ b = 6 then regR ((l.take i).drop last).reverse % 2 == 0
    else true) := by
    show E = _
    rw [HE1.out, if_neg (by simp)]
  clear HE1
  go_wp2_with fail
  refine (syl_any a b w2).mono ?_
  rintro e w3 ⟨rfl, rfl⟩
  obtain ⟨p3, hp3⟩ : ∃ p, p = sylK a b := ⟨_, rfl⟩
  rw [← hp3]
  rw [← hp3] at HE2
  clear hp3
  cases p3 with
  | true =>
    obtain rfl : E = false := by rw [HE2.out, if_pos (Or.inl rfl)]
    go_wp2
    go_ret
    exact ⟨rfl, HB.out⟩
  | false =>
  go_wp2_with fail
  refine (mark_any b w2).mono ?_
  rintro e w3 ⟨rfl, rfl⟩
  obtain ⟨p4, hp4⟩ : ∃ p, p = markK b := ⟨_, rfl⟩
  rw [← hp4]
  rw [← hp4] at HE2
  clear hp4
  cases p4 with
  | true =>
    obtain rfl : E = false := by rw [HE2.out, if_pos (Or.inr (Or.inl rfl))]
    go_wp2
    go_ret
    exact ⟨rfl, HB.out⟩
  | false =>
  by_cases a7 : a = 7
  · subst a7
    obtain rfl : E = false := by rw [HE2.out, if_pos (Or.inr (Or.inr rfl))]
    go_wp2
    go_ret
    exact ⟨rfl, HB.out⟩
  have a8 : (a == 7) = false := by simpa using a7
  have HE3 : Hid (E = if a = 5 ∧ pb = true then !(picR (l.take m).reverse)
    else if a = 6 ∧ b = 6 then regR ((l.take i).drop last).reverse % 2 == 0
    else true) := by
    show E = _
    rw [HE2.out, if_neg (by simp [a7])]
  clear HE2 a7
  by_cases a5 : a = 5
  · subst a5
    have hy2 := HY.out w2 HB.out
    go_wp2_with fail
    refine (ship_pic w2 g y (HD.out.below HB.out)).mono ?_
    rintro e w3 ⟨rfl, hB3⟩
    have HB3 : Hid (Below w.heap.size w w3) := HB.out.trans (hB3.mono HB.out.size)
    rw [← HPB.out]
    clear hB3 hy2
    cases pb with
    | true =>
      have HEQ : Hid (E = !(picR (l.take m).reverse)) := by show E = _; rw [HE3.out, if_pos (by simp)]
      have HS1 : Hid (IntsAt w3.heap.size w3 (.slice (some ⟨gi, off, none⟩) m cap) (l.take m)) := (HV.out.on HB3.out).front (by have := HF.out; omega)
      have HL1 : Hid ((l.take m).length ≤ 10000) := by show _ ≤ _; rw [List.length_take]; have := HF.out; omega
      obtain ⟨pc, hpc⟩ : ∃ pc, pc = picR (l.take m).reverse := ⟨_, rfl⟩
      have HPC : Hid (picR (l.take m).reverse = pc) := hpc.symm
      rw [← hpc] at HEQ
      clear hpc HE3
      go_wp2_with fail
      refine (joins_any _ _ g w3 (HD.out.below HB3.out) HS1.out HL1.out).mono ?_
      rintro e w4 ⟨rfl, hB4⟩
      have HB4 : Hid (Below w.heap.size w w4) := HB3.out.trans (hB4.mono HB3.out.size)
      rw [HPC.out]
      clear hB4
      go_wp2
      go_ret
      exact ⟨by rw [HEQ.out]; rfl, HB4.out⟩
    | false =>
      obtain rfl : E = true := by rw [HE3.out, if_neg (by simp), if_neg (by simp)]
      go_wp2
      go_ret
      exact ⟨rfl, HB3.out⟩
  have a6 : (a == 5) = false := by simpa using a5
  have HE4 : Hid (E = if a = 6 ∧ b = 6 then regR ((l.take i).drop last).reverse % 2 == 0 else true) := by
    show E = _
    rw [HE3.out, if_neg (fun h => a5 h.1)]
  clear HE3 a5
  by_cases aa : a = 6
  · subst aa
    by_cases bb : b = 6
    · subst bb
      have HEQ : Hid (E = (regR ((l.take i).drop last).reverse % 2 == 0)) := by show E = _; rw [HE4.out, if_pos (by simp)]
      have HS1 : Hid (IntsAt w2.heap.size w2 (.slice (some ⟨gi, off + last, none⟩) (i - last) (cap - last)) ((l.take i).drop last)) := (HV.out.on HB.out).part (by have := HF.out; omega) (by have := HF.out; omega)
      have HL1 : Hid (((l.take i).drop last).length ≤ 10000) := by show _ ≤ _; rw [List.length_drop, List.length_take]; have := HF.out; omega
      obtain ⟨N, hN⟩ : ∃ N, N = regR ((l.take i).drop last).reverse := ⟨_, rfl⟩
      have HNN : Hid (regR ((l.take i).drop last).reverse = N) := hN.symm
      rw [← hN] at HEQ
      have hlt : last < cap := by have := HF.out; omega
      have ht := tmod_two N
      clear hN HE4
      go_wp2_with fail
      refine (regionals_any _ _ g w2 (HD.out.below HB.out) HS1.out HL1.out).mono ?_
      rintro e w4 ⟨rfl, hB4⟩
      have HB4 : Hid (Below w.heap.size w w4) := HB.out.trans (hB4.mono HB.out.size)
      rw [HNN.out]
      clear hB4
      rcases Nat.mod_two_eq_zero_or_one N with q | q
      · rw [q] at ht HEQ
        go_wp2
        go_ret
        exact ⟨by rw [HEQ.out]; rfl, HB4.out⟩
      · rw [q] at ht HEQ
        go_wp2
        go_ret
        exact ⟨by rw [HEQ.out]; rfl, HB4.out⟩
    · have b7 : (b == 6) = false := by simpa using bb
      obtain rfl : E = true := by rw [HE4.out, if_neg (fun h => bb h.2)]
      clear bb
      go_wp2
      go_ret
      exact ⟨rfl, HB.out⟩
  · have a9 : (a == 6) = false := by simpa using aa
    obtain rfl : E = true := by rw [HE4.out, if_neg (fun h => aa h.1)]
    clear aa
    go_wp2
    go_ret
    exact ⟨rfl, HB.out⟩

theorem isPlace_any (l : List Int) (v : Value) (i : Int) (w : World) (hv : IntsAt w.heap.size w v l) :
    Calls Tryd.prog 25 #[v, .int .i64 i] w fun e w' => e = .returned (.bool (decide (0 ≤ i) && decide (i ≤ (l.length : Int)))) ∧ w = w' := by
  obtain ⟨a, cap, rfl, hcap, hc⟩ := hv
  clear hc
  by_cases h1 : 0 ≤ i
  · by_cases h2 : i ≤ (l.length : Int)
    · have e : (decide (0 ≤ i) && decide (i ≤ (l.length : Int))) = true := by simp [h1, h2]
      rw [e]
      clear e
      go_enter Tryd.func25, Tryd.ntmps25
      go_wp2
      go_ret
      exact ⟨rfl, rfl⟩
    · have e : (decide (0 ≤ i) && decide (i ≤ (l.length : Int))) = false := by simp [h2]
      rw [e]
      clear e
      go_enter Tryd.func25, Tryd.ntmps25
      go_wp2
      go_ret
      exact ⟨rfl, rfl⟩
  · have e : (decide (0 ≤ i) && decide (i ≤ (l.length : Int))) = false := by simp [h1]
    rw [e]
    clear e
    go_enter Tryd.func25, Tryd.ntmps25
    go_wp2
    go_ret
    exact ⟨rfl, rfl⟩
/-- Break, at a place and beyond. -/
theorem break_any (l : List Int) (v : Value) (g i : Nat) (w : World) (hd : Ship w g) (hv : IntsAt w.heap.size w v l) (hn : l.length ≤ 10000) (hi : i ≤ l.length) :
    Calls Tryd.prog 17 #[.pointer (some ⟨g, 0, none⟩), v, .int .i64 (i : Int)] w fun e w' => e = .returned (.bool (brk l i)) ∧ Below w.heap.size w w' := by
  have HV : Hid (IntsAt w.heap.size w v l) := hv
  have HC : Hid (Calls Tryd.prog 26 #[.pointer (some ⟨g, 0, none⟩), v, .int .i64 0, .int .i64 (i : Int)] w fun e w' => e = .returned (.bool (brk l i)) ∧ Below w.heap.size w w') := ends_any l v g 0 i w hd hv hn (Nat.zero_le _) hi
  obtain ⟨E, hE⟩ : ∃ E, E = brk l i := ⟨_, rfl⟩
  rw [← hE] at HC ⊢
  have hz : (decide (0 ≤ (i : Int)) && decide ((i : Int) ≤ (l.length : Int))) = true := by simp; omega
  have HZ : Hid ((decide (0 ≤ (i : Int)) && decide ((i : Int) ≤ (l.length : Int))) = true) := hz
  clear hE hz hd hv hn
  go_enter Tryd.func17, Tryd.ntmps17
  go_wp2_with fail
  refine (isPlace_any l v (i : Int) w HV.out).mono ?_
  rintro e w1 ⟨rfl, rfl⟩
  rw [HZ.out]
  go_wp2_with fail
  refine HC.out.mono ?_
  rintro e w2 ⟨rfl, hB⟩
  have HB : Hid (Below w.heap.size w w2) := hB
  clear hB
  go_wp2
  go_ret
  exact ⟨rfl, HB.out⟩
theorem break_out (l : List Int) (v : Value) (g : Nat) (i : Int) (w : World) (hv : IntsAt w.heap.size w v l) (hi : i < 0 ∨ (l.length : Int) < i) :
    Calls Tryd.prog 17 #[.pointer (some ⟨g, 0, none⟩), v, .int .i64 i] w fun e w' => e = .returned (.bool false) ∧ Below w.heap.size w w' := by
  have HV : Hid (IntsAt w.heap.size w v l) := hv
  have hz : (decide (0 ≤ i) && decide (i ≤ (l.length : Int))) = false := by simp; omega
  have HZ : Hid ((decide (0 ≤ i) && decide (i ≤ (l.length : Int))) = false) := hz
  clear hz hv hi
  go_enter Tryd.func17, Tryd.ntmps17
  go_wp2_with fail
  refine (isPlace_any l v i w HV.out).mono ?_
  rintro e w1 ⟨rfl, rfl⟩
  rw [HZ.out]
  go_wp2
  go_ret
  exact ⟨rfl, Below.refl _ _⟩
end Go.Proofs.YtmhligcmcfikfaaDoor
