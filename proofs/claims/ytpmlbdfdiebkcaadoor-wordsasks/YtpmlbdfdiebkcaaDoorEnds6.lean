/-
  words.ends: the rules, one by one.
-/
import Derived.Test.YtpmlbdfdiebkcaaDoorNext
import Derived.Test.YtpmlbdfdiebkcaaDoorJoins
namespace Go.Proofs.YtpmlbdfdiebkcaaDoor
open Go.RowKit
set_option linter.unusedVariables false

/-- The rules 2 to 20 but the sixth, as the program asks them of a past. -/
def ruleP (a b : Int) (pb : Bool) (before last : Int) (regs : Nat) (next : Int) : Bool :=
  if a = 1 ∧ b = 2 then false
  else if lineK a = true ∨ lineK b = true then true
  else if a = 5 ∧ pb = true then false
  else if a = 18 ∧ b = 18 then false
  else !(joinsP before last regs b next)
def endsP (l : List Int) (i : Nat) (before last : Int) (regs : Nat) : Bool :=
  if i = 0 then true else ruleP (kd l (i - 1)) (kd l i) (piV (l[i]?.getD 0)) before last regs ((nx l (i + 1)).getD 0)
theorem ends_brk {l : List Int} {i : Nat} (hh : headB l i = true) : endsP l i ((hk l i)[1]?.getD 0) ((hk l i)[0]?.getD 0) (regK (hk l i)) = brk l i := by
  have hi := head_lt hh
  unfold endsP brk
  by_cases h0 : i = 0
  · rw [if_pos h0, if_pos (Or.inl h0)]
  · rw [if_neg h0, if_neg (by omega)]
    unfold ruleP ruleW
    by_cases q : kd l (i - 1) = 1 ∧ kd l i = 2
    · rw [if_pos q, if_pos q]
    · rw [if_neg q, if_neg q]
      by_cases q2 : lineK (kd l (i - 1)) = true ∨ lineK (kd l i) = true
      · rw [if_pos q2, if_pos q2]
      · rw [if_neg q2, if_neg q2]
        have hm : ¬ markK (kd l i) = true := fun h => q2 (Or.inl (head_mark h0 hh h))
        rw [joinsP_eq]
        have hm' : markK (kd l i) = false := by simpa using hm
        simp [hm']
def pastV (before last regs : Int) : Value := .agg #[.int .i64 before, .int .i64 last, .int .i64 regs]
def pastO (before last regs : Int) : Obj := .cells #[.int .i64 before, .int .i64 last, .int .i64 regs] 48
theorem past_cells {before last regs : Int} {w w' : World} (h : Below (w.alloc (pastO before last regs)).heap.size (w.alloc (pastO before last regs)) w') :
    w'.cell? ⟨w.heap.size, 0, none⟩ = some (.int .i64 before) ∧ w'.cell? ⟨w.heap.size, 1, none⟩ = some (.int .i64 last) ∧ w'.cell? ⟨w.heap.size, 2, none⟩ = some (.int .i64 regs) := by
  have e : w'.heap[w.heap.size]? = some (.cells #[.int .i64 before, .int .i64 last, .int .i64 regs] 48 (0, 0)) := (h.block w.heap.size (by simp)).trans (heap_new' w _)
  exact ⟨cell_of_row _ _ _ _ _ _ e, cell_of_row _ _ _ _ _ _ e, cell_of_row _ _ _ _ _ _ e⟩

set_option maxRecDepth 100000 in
set_option maxHeartbeats 8000000 in
theorem ends_any (l : List Int) (v : Value) (g i : Nat) (before last : Int) (regs : Nat) (w : World) (hd : Ship w g) (hv : IntsAt w.heap.size w v l) (hn : l.length ≤ 10000) (hi : i < l.length) :
    Calls Tryd.prog 24 #[.pointer (some ⟨g, 0, none⟩), v, .int .i64 (i : Int), pastV before last (regs : Int)] w fun e w' => e = .returned (.bool (endsP l i before last regs)) ∧ Below w.heap.size w w' := by
  by_cases i0 : i = 0
  · subst i0
    obtain ⟨a, cap, rfl, hcap, hc⟩ := hv
    have e : endsP l 0 before last regs = true := by unfold endsP; rw [if_pos rfl]
    rw [e]
    unfold pastV
    clear hc hd hn e hi
    go_enter Tryd.func24, Tryd.ntmps24
    go_wp2
    go_ret
    exact ⟨rfl, (Below.refl _ _).alloc (Nat.le_refl _) _⟩
  obtain ⟨m, rfl⟩ : ∃ m, i = m + 1 := ⟨i - 1, by omega⟩
  have HV : Hid (IntsAt w.heap.size w v l) := hv
  obtain ⟨a, cap, rfl, hcap, hc⟩ := hv
  obtain ⟨gi, off, rfl, hg, c0⟩ := hc m (by omega)
  obtain ⟨gj, offj, ej, _, c1⟩ := hc (m + 1) (by omega)
  obtain ⟨rfl, rfl⟩ : gi = gj ∧ off = offj := by cases ej; exact ⟨rfl, rfl⟩
  obtain ⟨x, hx⟩ : ∃ x, x = l[m]'(by omega) := ⟨_, rfl⟩
  obtain ⟨y, hy⟩ : ∃ y, y = l[m + 1]'(by omega) := ⟨_, rfl⟩
  obtain ⟨E, hE⟩ : ∃ E, E = endsP l (m + 1) before last regs := ⟨_, rfl⟩
  obtain ⟨next, hnx⟩ : ∃ z, z = (nx l (m + 1 + 1)).getD 0 := ⟨_, rfl⟩
  have HE : Hid (E = ruleP (wdV x) (wdV y) (piV y) before last regs next) := by
    show E = _
    rw [hE]; unfold endsP
    rw [if_neg (by omega), Nat.add_sub_cancel, kd_get (by omega), kd_get hi, ← hx, ← hy, List.getElem?_eq_getElem hi, ← hnx, hy]; rfl
  rw [← hx] at c0
  rw [← hy] at c1
  rw [← hE]
  clear hE hx hy hc ej
  obtain ⟨i, hi'⟩ : ∃ i, i = m + 1 := ⟨_, rfl⟩
  rw [← hi'] at c1 i0 hi hnx ⊢
  have HNX : Hid (∀ w', Below w.heap.size w w' → Calls Tryd.prog 52 #[.pointer (some ⟨g, 0, none⟩), .slice (some ⟨gi, off, none⟩) l.length cap, .int .i64 (i : Int)] w' fun e W' => e = .returned (.int .i64 next) ∧ Below w'.heap.size w' W') := fun w' hw' => by
    rw [hnx]
    exact next_any g _ l hn i hi w' (hd.below hw') (HV.out.on hw')
  have HX : Hid (∀ w', Below w.heap.size w w' → w'.cell? ⟨gi, off + m, none⟩ = some (.int .i64 x)) := fun w' hw' => (hw'.cell (p := ⟨gi, _, none⟩) hg).trans c0
  have HY : Hid (∀ w', Below w.heap.size w w' → w'.cell? ⟨gi, off + i, none⟩ = some (.int .i64 y)) := fun w' hw' => (hw'.cell (p := ⟨gi, _, none⟩) hg).trans c1
  have HD : Hid (Ship w g) := hd
  have e0 : ((i : Int) == 0) = false := by simp; omega
  have hw1 : IntKind.i64.wrap ((i : Int) - 1) = (m : Int) := (IntWalk.i64_in _ (by omega)).trans (by omega)
  have hm1 : (m : Int) < (l.length : Int) := by omega
  have hi1 : (i : Int) < (l.length : Int) := by omega
  unfold pastV
  clear c0 c1 hd hn hi hi' i0 hg hnx
  go_enter Tryd.func24, Tryd.ntmps24
  go_wp2_with fail
  obtain ⟨wb, hwb⟩ : ∃ wb, wb = w.alloc (pastO before last (regs : Int)) := ⟨_, rfl⟩
  have HWB : Hid (Below w.heap.size w wb) := by rw [hwb]; exact (Below.refl _ _).alloc (Nat.le_refl _) _
  have HPC : Hid (∀ w', Below wb.heap.size wb w' → w'.cell? ⟨w.heap.size, 0, none⟩ = some (.int .i64 before) ∧ w'.cell? ⟨w.heap.size, 1, none⟩ = some (.int .i64 last) ∧ w'.cell? ⟨w.heap.size, 2, none⟩ = some (.int .i64 (regs : Int))) := fun w' hw' => by rw [hwb] at hw'; exact past_cells hw'
  have HBW : Hid (∀ w', Below wb.heap.size wb w' → Below w.heap.size w w') := fun w' hw' => HWB.out.trans (hw'.mono HWB.out.size)
  change Code.wp _ _ _ _ (w.alloc (pastO before last (regs : Int)))
  rw [← hwb]
  clear hwb
  refine wp_region_bad (fun w' => Below wb.heap.size wb w') [] (by kernel_rfl) ((Below.refl _ _).drew) (fun hS => ?_)
  refine wpAnyB_pure (i := 0) (v := .pointer (some ⟨g, 0, none⟩)) rfl (by kernel_rfl) (fun _ _ _ h => h) (Or.inl ⟨by rfl, fun w _ => by go_simp⟩) hS ?_
  simp only [List.getElem_toArray, List.getElem_cons_zero, Act.put, List.setIfInBounds_toArray, List.set_cons_zero, List.set_cons_succ]
  refine wpAnyB_pure (i := 1) (v := .slice (some ⟨gi, off, none⟩) l.length cap) rfl (by kernel_rfl) (fun _ _ _ h => h) (Or.inl ⟨by rfl, fun w _ => by go_simp⟩) hS ?_
  simp only [List.getElem_toArray, List.getElem_cons_succ, List.getElem_cons_zero, Act.put, List.setIfInBounds_toArray, List.set_cons_zero, List.set_cons_succ]
  refine wpAnyB_pure (i := 2) (v := .int .i64 (i : Int)) rfl (by kernel_rfl) (fun _ _ _ h => h) (Or.inl ⟨by rfl, fun w _ => by go_simp⟩) hS ?_
  simp only [List.getElem_toArray, List.getElem_cons_succ, List.getElem_cons_zero, Act.put, List.setIfInBounds_toArray, List.set_cons_zero, List.set_cons_succ]
  refine wpAnyB_pure (i := 3) (v := .int .i64 (m : Int)) rfl (by kernel_rfl) (fun _ _ _ h => h) (Or.inl ⟨by rfl, fun w _ => by go_simp⟩) hS ?_
  simp only [List.getElem_toArray, List.getElem_cons_succ, List.getElem_cons_zero, Act.put, List.setIfInBounds_toArray, List.set_cons_zero, List.set_cons_succ]
  refine wpAnyB_pure (i := 4) (v := .pointer (some ⟨gi, off + m, none⟩)) rfl (by kernel_rfl) (fun _ _ _ h => h) (Or.inl ⟨by rfl, fun w _ => by go_simp⟩) hS ?_
  simp only [List.getElem_toArray, List.getElem_cons_succ, List.getElem_cons_zero, Act.put, List.setIfInBounds_toArray, List.set_cons_zero, List.set_cons_succ]
  refine wpAnyB_take [5] (i := 5) (v := .int .i64 x) rfl (by kernel_rfl) (fun _ _ _ h => h) (Or.inl ⟨by rfl, fun w hSw => by have := HX.out w (HBW.out w hSw); go_simp⟩) hS ?_
  simp only [List.getElem_toArray, List.getElem_cons_succ, List.getElem_cons_zero, Act.put, List.setIfInBounds_toArray, List.set_cons_zero, List.set_cons_succ]
  refine wpAnyB_pure (i := 7) (v := .pointer (some ⟨g, 0, none⟩)) rfl (by kernel_rfl) (fun _ _ _ h => h) (Or.inl ⟨by rfl, fun w _ => by go_simp⟩) hS ?_
  simp only [List.getElem_toArray, List.getElem_cons_succ, List.getElem_cons_zero, Act.put, List.setIfInBounds_toArray, List.set_cons_zero, List.set_cons_succ]
  refine wpAnyB_pure (i := 8) (v := .slice (some ⟨gi, off, none⟩) l.length cap) rfl (by kernel_rfl) (fun _ _ _ h => h) (Or.inl ⟨by rfl, fun w _ => by go_simp⟩) hS ?_
  simp only [List.getElem_toArray, List.getElem_cons_succ, List.getElem_cons_zero, Act.put, List.setIfInBounds_toArray, List.set_cons_zero, List.set_cons_succ]
  refine wpAnyB_pure (i := 9) (v := .int .i64 (i : Int)) rfl (by kernel_rfl) (fun _ _ _ h => h) (Or.inl ⟨by rfl, fun w _ => by go_simp⟩) hS ?_
  simp only [List.getElem_toArray, List.getElem_cons_succ, List.getElem_cons_zero, Act.put, List.setIfInBounds_toArray, List.set_cons_zero, List.set_cons_succ]
  refine wpAnyB_pure (i := 10) (v := .pointer (some ⟨gi, off + i, none⟩)) rfl (by kernel_rfl) (fun _ _ _ h => h) (Or.inl ⟨by rfl, fun w _ => by go_simp⟩) hS ?_
  simp only [List.getElem_toArray, List.getElem_cons_succ, List.getElem_cons_zero, Act.put, List.setIfInBounds_toArray, List.set_cons_zero, List.set_cons_succ]
  refine wpAnyB_take [11] (i := 11) (v := .int .i64 y) rfl (by kernel_rfl) (fun _ _ _ h => h) (Or.inl ⟨by rfl, fun w hSw => by have := HY.out w (HBW.out w hSw); go_simp⟩) hS ?_
  simp only [List.getElem_toArray, List.getElem_cons_succ, List.getElem_cons_zero, Act.put, List.setIfInBounds_toArray, List.set_cons_zero, List.set_cons_succ]
  refine wpAnyB_one (i := 6) rfl (by kernel_rfl) (fun K hK => ?_)
  go_simp
  refine (ship_wd wb.drew g x (HD.out.below (HBW.out _ hS))).mono ?_
  rintro e w1 ⟨rfl, hB1⟩
  have hS1 : Below wb.heap.size wb w1 := hS.trans (hB1.mono hS.size)
  refine hK.out _ _ hS1 ?_
  clear hK K hB1
  refine wpAnyB_one (i := 12) rfl (by kernel_rfl) (fun K hK => ?_)
  go_simp
  refine (ship_wd w1 g y (HD.out.below (HBW.out _ hS1))).mono ?_
  rintro e w2 ⟨rfl, hB2⟩
  have hS2 : Below wb.heap.size wb w2 := hS1.trans (hB2.mono hS1.size)
  refine hK.out _ _ hS2 ?_
  clear hK K hB2
  refine wpAnyB_pure (i := 13) (v := .int .i64 (wdV x)) rfl (by kernel_rfl) (fun _ _ _ h => h) (Or.inl ⟨by rfl, fun w _ => by go_simp⟩) hS2 ?_
  simp only [List.getElem_toArray, List.getElem_cons_succ, List.getElem_cons_zero, Act.put, List.setIfInBounds_toArray, List.set_cons_zero, List.set_cons_succ]
  refine wpAnyB_pure (i := 14) (v := .int .i64 (wdV y)) rfl (by kernel_rfl) (fun _ _ _ h => h) (Or.inl ⟨by rfl, fun w _ => by go_simp⟩) hS2 ?_
  simp only [List.getElem_toArray, List.getElem_cons_succ, List.getElem_cons_zero, Act.put, List.setIfInBounds_toArray, List.set_cons_zero, List.set_cons_succ]
  refine wpAnyB_done (by kernel_rfl) ?_ _
  refine NoPanic.normal ?_
  have HB2 : Hid (Below wb.heap.size wb w2) := hS2
  clear hS hS1 hS2
  obtain ⟨a, ha⟩ : ∃ a, a = wdV x := ⟨_, rfl⟩
  obtain ⟨b, hb⟩ : ∃ b, b = wdV y := ⟨_, rfl⟩
  obtain ⟨pb, hpb⟩ : ∃ pb, pb = piV y := ⟨_, rfl⟩
  have HPB : Hid (pb = piV y) := hpb
  rw [← ha, ← hb, ← hpb] at HE
  rw [← ha, ← hb]
  clear ha hb hpb
  by_cases a1 : a = 1
  · subst a1
    by_cases b2 : b = 2
    · subst b2
      obtain rfl : E = false := by rw [HE.out]; rfl
      go_wp2
      go_ret
      exact ⟨rfl, HBW.out _ HB2.out⟩
    · have b3 : (b == 2) = false := by simpa using b2
      obtain rfl : E = true := by rw [HE.out]; unfold ruleP; rw [if_neg (by omega), if_pos (Or.inl (show lineK 1 = true from rfl))]
      clear b2
      go_wp2_with fail
      refine (line_any 1 w2).mono ?_
      rintro e w3 ⟨rfl, hB⟩
      have HB3 : Hid (Below wb.heap.size wb w3) := HB2.out.trans (hB.mono HB2.out.size)
      clear hB
      rw [show lineK 1 = true from rfl]
      go_wp2
      go_ret
      exact ⟨rfl, HBW.out _ HB3.out⟩
  have a2 : (a == 1) = false := by simpa using a1
  have HE1 : Hid (E = if lineK a = true ∨ lineK b = true then true else if a = 5 ∧ pb = true then false else if a = 18 ∧ b = 18 then false else !(joinsP before last regs b next)) := by
    show E = _
    rw [HE.out]; unfold ruleP; rw [if_neg (fun h => a1 h.1)]
  clear a1 HE
  go_wp2_with fail
  refine (line_any a w2).mono ?_
  rintro e w3 ⟨rfl, hB⟩
  have HB3 : Hid (Below wb.heap.size wb w3) := HB2.out.trans (hB.mono HB2.out.size)
  clear hB
  obtain ⟨p1, hp1⟩ : ∃ p, p = lineK a := ⟨_, rfl⟩
  rw [← hp1] at HE1 ⊢
  clear hp1
  cases p1 with
  | true =>
    obtain rfl : E = true := by rw [HE1.out, if_pos (Or.inl rfl)]
    go_wp2
    go_ret
    exact ⟨rfl, HBW.out _ HB3.out⟩
  | false =>
  go_wp2_with fail
  refine (line_any b w3).mono ?_
  rintro e w4 ⟨rfl, hB⟩
  have HB4 : Hid (Below wb.heap.size wb w4) := HB3.out.trans (hB.mono HB3.out.size)
  clear hB
  obtain ⟨p2, hp2⟩ : ∃ p, p = lineK b := ⟨_, rfl⟩
  rw [← hp2] at HE1 ⊢
  clear hp2
  cases p2 with
  | true =>
    obtain rfl : E = true := by rw [HE1.out, if_pos (Or.inr rfl)]
    go_wp2
    go_ret
    exact ⟨rfl, HBW.out _ HB4.out⟩
  | false =>
  have HE2 : Hid (E = if a = 5 ∧ pb = true then false else if a = 18 ∧ b = 18 then false else !(joinsP before last regs b next)) := by
    show E = _
    rw [HE1.out, if_neg (by simp)]
  clear HE1
  by_cases a5 : a = 5
  · subst a5
    have hy2 := HY.out w4 (HBW.out _ HB4.out)
    go_wp2_with fail
    refine (ship_pic w4 g y (HD.out.below (HBW.out _ HB4.out))).mono ?_
    rintro e w5 ⟨rfl, hB⟩
    have HB5 : Hid (Below wb.heap.size wb w5) := HB4.out.trans (hB.mono HB4.out.size)
    rw [← HPB.out]
    clear hB hy2
    cases pb with
    | true =>
      obtain rfl : E = false := by rw [HE2.out, if_pos (by simp)]
      go_wp2
      go_ret
      exact ⟨rfl, HBW.out _ HB5.out⟩
    | false =>
      have HEJ : Hid (E = !(joinsP before last regs b next)) := by show E = _; rw [HE2.out, if_neg (by simp), if_neg (by omega)]
      go_wp2_with fail
      refine wp_region_bad (fun w' => Below wb.heap.size wb w') [8] (by kernel_rfl) (HB5.out.drew) (fun hS => ?_)
      refine wpAnyB_take [0, 6, 8] (i := 0) (v := .agg #[.int .i64 before, .int .i64 last, .int .i64 (regs : Int)]) rfl (by kernel_rfl) (fun _ _ _ h => h) (Or.inl ⟨by rfl, fun w hSw => by have := HPC.out w hSw; go_simp⟩) hS ?_
      simp only [List.getElem_toArray, List.getElem_cons_zero, Act.put, List.setIfInBounds_toArray, List.set_cons_zero, List.set_cons_succ]
      refine wpAnyB_pure (i := 1) (v := .int .i64 b) rfl (by kernel_rfl) (fun _ _ _ h => h) (Or.inl ⟨by rfl, fun w _ => by go_simp⟩) hS ?_
      simp only [List.getElem_toArray, List.getElem_cons_succ, List.getElem_cons_zero, Act.put, List.setIfInBounds_toArray, List.set_cons_zero, List.set_cons_succ]
      refine wpAnyB_pure (i := 2) (v := .pointer (some ⟨g, 0, none⟩)) rfl (by kernel_rfl) (fun _ _ _ h => h) (Or.inl ⟨by rfl, fun w _ => by go_simp⟩) hS ?_
      simp only [List.getElem_toArray, List.getElem_cons_succ, List.getElem_cons_zero, Act.put, List.setIfInBounds_toArray, List.set_cons_zero, List.set_cons_succ]
      refine wpAnyB_pure (i := 3) (v := .slice (some ⟨gi, off, none⟩) l.length cap) rfl (by kernel_rfl) (fun _ _ _ h => h) (Or.inl ⟨by rfl, fun w _ => by go_simp⟩) hS ?_
      simp only [List.getElem_toArray, List.getElem_cons_succ, List.getElem_cons_zero, Act.put, List.setIfInBounds_toArray, List.set_cons_zero, List.set_cons_succ]
      refine wpAnyB_pure (i := 4) (v := .int .i64 (i : Int)) rfl (by kernel_rfl) (fun _ _ _ h => h) (Or.inl ⟨by rfl, fun w _ => by go_simp⟩) hS ?_
      simp only [List.getElem_toArray, List.getElem_cons_succ, List.getElem_cons_zero, Act.put, List.setIfInBounds_toArray, List.set_cons_zero, List.set_cons_succ]
      refine wpAnyB_two (i := 5) (j := 7) rfl rfl (by kernel_rfl) (fun K hK => ?_) (fun K hK => ?_)
      · go_simp
        refine (HNX.out w5.drew (HBW.out _ hS)).mono ?_
        rintro e wc ⟨rfl, hB⟩
        have hSc : Below wb.heap.size wb wc := hS.trans (hB.mono hS.size)
        refine hK.out _ _ hSc ?_
        clear hK K hB
        refine wpAnyB_pure (i := 6) (v := .agg #[.int .i64 before, .int .i64 last, .int .i64 (regs : Int), .int .i64 b, .int .i64 next]) rfl (by kernel_rfl) (fun _ _ _ h => h) (Or.inl ⟨by rfl, fun w _ => by go_simp⟩) hSc ?_
        simp only [List.getElem_toArray, List.getElem_cons_succ, List.getElem_cons_zero, Act.put, List.setIfInBounds_toArray, List.set_cons_zero, List.set_cons_succ]
        refine wpAnyB_one (i := 7) rfl (by kernel_rfl) (fun K hK => ?_)
        go_simp
        refine hK.out _ _ (hSc.alloc hSc.size _) ?_
        clear hK K
        refine wpAnyB_last (i := 8) rfl (by kernel_rfl) (fun K hK => ?_)
        go_simp
        refine hK.out _ _ ?_
        clear hK K
        refine wpAnyB_done (by kernel_rfl) ?_ _
        refine NoPanic.normal ?_
        have HBC : Hid (Below wb.heap.size wb (wc.alloc (sightO before last (regs : Int) b next))) := hSc.alloc hSc.size _
        clear hS hSc
        go_wp2_with fail
        refine (joins_any before last regs b next (wc.alloc (sightO before last (regs : Int) b next))).mono ?_
        rintro e wd ⟨rfl, hB⟩
        have HBD : Hid (Below wb.heap.size wb wd) := HBC.out.trans (hB.mono HBC.out.size)
        clear hB
        obtain ⟨q, hq⟩ : ∃ q, q = joinsP before last regs b next := ⟨_, rfl⟩
        rw [← hq] at HEJ ⊢
        clear hq
        go_wp2
        go_ret
        exact ⟨by rw [HEJ.out]; cases q <;> rfl, HBW.out _ HBD.out⟩
      · go_simp
        refine hK.out _ _ (hS.alloc hS.size _) ?_
        clear hK K
        obtain ⟨wA, hwA⟩ : ∃ wA, wA = (w5.alloc (.cells #[.int .i64 0, .int .i64 0, .int .i64 0, .int .i64 0, .int .i64 0] 83)).drew := ⟨_, rfl⟩
        have hSA : Below wb.heap.size wb wA := by rw [hwA]; exact (HB5.out.alloc HB5.out.size _).drew
        have HZA : Hid (wA.heap[w5.heap.size]? = some (.cells #[.int .i64 0, .int .i64 0, .int .i64 0, .int .i64 0, .int .i64 0] 83 (0, 0)) ∧ w5.heap.size < wA.heap.size ∧ wb.heap.size ≤ w5.heap.size) := by
          rw [hwA]
          exact ⟨heap_new' w5 _, by simp, HB5.out.size⟩
        rw [← hwA]
        clear hwA hS
        refine wpAnyB_one (i := 5) rfl (by kernel_rfl) (fun K hK => ?_)
        go_simp
        refine (HNX.out wA (HBW.out _ hSA)).mono ?_
        rintro e wc ⟨rfl, hB⟩
        have hSc : Below wb.heap.size wb wc := hSA.trans (hB.mono hSA.size)
        have hz : wc.heap[w5.heap.size]? = some (.cells #[.int .i64 0, .int .i64 0, .int .i64 0, .int .i64 0, .int .i64 0] 83 (0, 0)) := (hB.block _ HZA.out.2.1).trans HZA.out.1
        refine hK.out _ _ hSc ?_
        clear hK K hB
        refine wpAnyB_pure (i := 6) (v := .agg #[.int .i64 before, .int .i64 last, .int .i64 (regs : Int), .int .i64 b, .int .i64 next]) rfl (by kernel_rfl) (fun _ _ _ h => h) (Or.inl ⟨by rfl, fun w _ => by go_simp⟩) hSc ?_
        simp only [List.getElem_toArray, List.getElem_cons_succ, List.getElem_cons_zero, Act.put, List.setIfInBounds_toArray, List.set_cons_zero, List.set_cons_succ]
        have z0 : wc.cell? ⟨w5.heap.size, 0, none⟩ = some (.int .i64 0) := cell_of_row _ _ _ _ _ _ hz
        have z1 : wc.cell? ⟨w5.heap.size, 1, none⟩ = some (.int .i64 0) := cell_of_row _ _ _ _ _ _ hz
        have z2 : wc.cell? ⟨w5.heap.size, 2, none⟩ = some (.int .i64 0) := cell_of_row _ _ _ _ _ _ hz
        have z3 : wc.cell? ⟨w5.heap.size, 3, none⟩ = some (.int .i64 0) := cell_of_row _ _ _ _ _ _ hz
        have z4 : wc.cell? ⟨w5.heap.size, 4, none⟩ = some (.int .i64 0) := cell_of_row _ _ _ _ _ _ hz
        have f0 : ∀ j, wc.frozen? ⟨w5.heap.size, j, none⟩ = false := fun j => frozen_of_row _ _ _ _ _ hz
        have f00 := f0 0
        have f01 := f0 1
        have f02 := f0 2
        have f03 := f0 3
        have f04 := f0 4
        refine wpAnyB_last (i := 8) rfl (by kernel_rfl) (fun K hK => ?_)
        go_simp
        refine hK.out _ _ ?_
        clear hK K
        refine wpAnyB_done (by kernel_rfl) ?_ _
        refine NoPanic.normal ?_
        have hle : wb.heap.size ≤ w5.heap.size := HZA.out.2.2
        have HBC : Hid (Below wb.heap.size wb (((((wc.setCell ⟨w5.heap.size, 0, none⟩ (.int .i64 before)).setCell ⟨w5.heap.size, 1, none⟩ (.int .i64 last)).setCell ⟨w5.heap.size, 2, none⟩ (.int .i64 (regs : Int))).setCell ⟨w5.heap.size, 3, none⟩ (.int .i64 b)).setCell ⟨w5.heap.size, 4, none⟩ (.int .i64 next))) := ((((hSc.setCell (p := ⟨w5.heap.size, 0, none⟩) hle _).setCell (p := ⟨w5.heap.size, 1, none⟩) hle _).setCell (p := ⟨w5.heap.size, 2, none⟩) hle _).setCell (p := ⟨w5.heap.size, 3, none⟩) hle _).setCell (p := ⟨w5.heap.size, 4, none⟩) hle _
        clear hSA hSc hz hle
        go_wp2_with fail
        refine (joins_any before last regs b next _).mono ?_
        rintro e wd ⟨rfl, hB⟩
        have HBD : Hid (Below wb.heap.size wb wd) := HBC.out.trans (hB.mono HBC.out.size)
        clear hB
        obtain ⟨q, hq⟩ : ∃ q, q = joinsP before last regs b next := ⟨_, rfl⟩
        rw [← hq] at HEJ ⊢
        clear hq
        go_wp2
        go_ret
        exact ⟨by rw [HEJ.out]; cases q <;> rfl, HBW.out _ HBD.out⟩
  have a6 : (a == 5) = false := by simpa using a5
  have HE3 : Hid (E = if a = 18 ∧ b = 18 then false else !(joinsP before last regs b next)) := by
    show E = _
    rw [HE2.out, if_neg (fun h => a5 h.1)]
  clear HE2 a5
  by_cases a18 : a = 18
  · subst a18
    by_cases b18 : b = 18
    · subst b18
      obtain rfl : E = false := by rw [HE3.out, if_pos (by simp)]
      go_wp2
      go_ret
      exact ⟨rfl, HBW.out _ HB4.out⟩
    · have b19 : (b == 18) = false := by simpa using b18
      have HEJ : Hid (E = !(joinsP before last regs b next)) := by show E = _; rw [HE3.out, if_neg (fun h => b18 h.2)]
      go_wp2_with fail
      refine wp_region_bad (fun w' => Below wb.heap.size wb w') [8] (by kernel_rfl) (HB4.out.drew) (fun hS => ?_)
      refine wpAnyB_take [0, 6, 8] (i := 0) (v := .agg #[.int .i64 before, .int .i64 last, .int .i64 (regs : Int)]) rfl (by kernel_rfl) (fun _ _ _ h => h) (Or.inl ⟨by rfl, fun w hSw => by have := HPC.out w hSw; go_simp⟩) hS ?_
      simp only [List.getElem_toArray, List.getElem_cons_zero, Act.put, List.setIfInBounds_toArray, List.set_cons_zero, List.set_cons_succ]
      refine wpAnyB_pure (i := 1) (v := .int .i64 b) rfl (by kernel_rfl) (fun _ _ _ h => h) (Or.inl ⟨by rfl, fun w _ => by go_simp⟩) hS ?_
      simp only [List.getElem_toArray, List.getElem_cons_succ, List.getElem_cons_zero, Act.put, List.setIfInBounds_toArray, List.set_cons_zero, List.set_cons_succ]
      refine wpAnyB_pure (i := 2) (v := .pointer (some ⟨g, 0, none⟩)) rfl (by kernel_rfl) (fun _ _ _ h => h) (Or.inl ⟨by rfl, fun w _ => by go_simp⟩) hS ?_
      simp only [List.getElem_toArray, List.getElem_cons_succ, List.getElem_cons_zero, Act.put, List.setIfInBounds_toArray, List.set_cons_zero, List.set_cons_succ]
      refine wpAnyB_pure (i := 3) (v := .slice (some ⟨gi, off, none⟩) l.length cap) rfl (by kernel_rfl) (fun _ _ _ h => h) (Or.inl ⟨by rfl, fun w _ => by go_simp⟩) hS ?_
      simp only [List.getElem_toArray, List.getElem_cons_succ, List.getElem_cons_zero, Act.put, List.setIfInBounds_toArray, List.set_cons_zero, List.set_cons_succ]
      refine wpAnyB_pure (i := 4) (v := .int .i64 (i : Int)) rfl (by kernel_rfl) (fun _ _ _ h => h) (Or.inl ⟨by rfl, fun w _ => by go_simp⟩) hS ?_
      simp only [List.getElem_toArray, List.getElem_cons_succ, List.getElem_cons_zero, Act.put, List.setIfInBounds_toArray, List.set_cons_zero, List.set_cons_succ]
      refine wpAnyB_two (i := 5) (j := 7) rfl rfl (by kernel_rfl) (fun K hK => ?_) (fun K hK => ?_)
      · go_simp
        refine (HNX.out w4.drew (HBW.out _ hS)).mono ?_
        rintro e wc ⟨rfl, hB⟩
        have hSc : Below wb.heap.size wb wc := hS.trans (hB.mono hS.size)
        refine hK.out _ _ hSc ?_
        clear hK K hB
        refine wpAnyB_pure (i := 6) (v := .agg #[.int .i64 before, .int .i64 last, .int .i64 (regs : Int), .int .i64 b, .int .i64 next]) rfl (by kernel_rfl) (fun _ _ _ h => h) (Or.inl ⟨by rfl, fun w _ => by go_simp⟩) hSc ?_
        simp only [List.getElem_toArray, List.getElem_cons_succ, List.getElem_cons_zero, Act.put, List.setIfInBounds_toArray, List.set_cons_zero, List.set_cons_succ]
        refine wpAnyB_one (i := 7) rfl (by kernel_rfl) (fun K hK => ?_)
        go_simp
        refine hK.out _ _ (hSc.alloc hSc.size _) ?_
        clear hK K
        refine wpAnyB_last (i := 8) rfl (by kernel_rfl) (fun K hK => ?_)
        go_simp
        refine hK.out _ _ ?_
        clear hK K
        refine wpAnyB_done (by kernel_rfl) ?_ _
        refine NoPanic.normal ?_
        have HBC : Hid (Below wb.heap.size wb (wc.alloc (sightO before last (regs : Int) b next))) := hSc.alloc hSc.size _
        clear hS hSc
        go_wp2_with fail
        refine (joins_any before last regs b next (wc.alloc (sightO before last (regs : Int) b next))).mono ?_
        rintro e wd ⟨rfl, hB⟩
        have HBD : Hid (Below wb.heap.size wb wd) := HBC.out.trans (hB.mono HBC.out.size)
        clear hB
        obtain ⟨q, hq⟩ : ∃ q, q = joinsP before last regs b next := ⟨_, rfl⟩
        rw [← hq] at HEJ ⊢
        clear hq
        go_wp2
        go_ret
        exact ⟨by rw [HEJ.out]; cases q <;> rfl, HBW.out _ HBD.out⟩
      · go_simp
        refine hK.out _ _ (hS.alloc hS.size _) ?_
        clear hK K
        obtain ⟨wA, hwA⟩ : ∃ wA, wA = (w4.alloc (.cells #[.int .i64 0, .int .i64 0, .int .i64 0, .int .i64 0, .int .i64 0] 83)).drew := ⟨_, rfl⟩
        have hSA : Below wb.heap.size wb wA := by rw [hwA]; exact (HB4.out.alloc HB4.out.size _).drew
        have HZA : Hid (wA.heap[w4.heap.size]? = some (.cells #[.int .i64 0, .int .i64 0, .int .i64 0, .int .i64 0, .int .i64 0] 83 (0, 0)) ∧ w4.heap.size < wA.heap.size ∧ wb.heap.size ≤ w4.heap.size) := by
          rw [hwA]
          exact ⟨heap_new' w4 _, by simp, HB4.out.size⟩
        rw [← hwA]
        clear hwA hS
        refine wpAnyB_one (i := 5) rfl (by kernel_rfl) (fun K hK => ?_)
        go_simp
        refine (HNX.out wA (HBW.out _ hSA)).mono ?_
        rintro e wc ⟨rfl, hB⟩
        have hSc : Below wb.heap.size wb wc := hSA.trans (hB.mono hSA.size)
        have hz : wc.heap[w4.heap.size]? = some (.cells #[.int .i64 0, .int .i64 0, .int .i64 0, .int .i64 0, .int .i64 0] 83 (0, 0)) := (hB.block _ HZA.out.2.1).trans HZA.out.1
        refine hK.out _ _ hSc ?_
        clear hK K hB
        refine wpAnyB_pure (i := 6) (v := .agg #[.int .i64 before, .int .i64 last, .int .i64 (regs : Int), .int .i64 b, .int .i64 next]) rfl (by kernel_rfl) (fun _ _ _ h => h) (Or.inl ⟨by rfl, fun w _ => by go_simp⟩) hSc ?_
        simp only [List.getElem_toArray, List.getElem_cons_succ, List.getElem_cons_zero, Act.put, List.setIfInBounds_toArray, List.set_cons_zero, List.set_cons_succ]
        have z0 : wc.cell? ⟨w4.heap.size, 0, none⟩ = some (.int .i64 0) := cell_of_row _ _ _ _ _ _ hz
        have z1 : wc.cell? ⟨w4.heap.size, 1, none⟩ = some (.int .i64 0) := cell_of_row _ _ _ _ _ _ hz
        have z2 : wc.cell? ⟨w4.heap.size, 2, none⟩ = some (.int .i64 0) := cell_of_row _ _ _ _ _ _ hz
        have z3 : wc.cell? ⟨w4.heap.size, 3, none⟩ = some (.int .i64 0) := cell_of_row _ _ _ _ _ _ hz
        have z4 : wc.cell? ⟨w4.heap.size, 4, none⟩ = some (.int .i64 0) := cell_of_row _ _ _ _ _ _ hz
        have f0 : ∀ j, wc.frozen? ⟨w4.heap.size, j, none⟩ = false := fun j => frozen_of_row _ _ _ _ _ hz
        have f00 := f0 0
        have f01 := f0 1
        have f02 := f0 2
        have f03 := f0 3
        have f04 := f0 4
        refine wpAnyB_last (i := 8) rfl (by kernel_rfl) (fun K hK => ?_)
        go_simp
        refine hK.out _ _ ?_
        clear hK K
        refine wpAnyB_done (by kernel_rfl) ?_ _
        refine NoPanic.normal ?_
        have hle : wb.heap.size ≤ w4.heap.size := HZA.out.2.2
        have HBC : Hid (Below wb.heap.size wb (((((wc.setCell ⟨w4.heap.size, 0, none⟩ (.int .i64 before)).setCell ⟨w4.heap.size, 1, none⟩ (.int .i64 last)).setCell ⟨w4.heap.size, 2, none⟩ (.int .i64 (regs : Int))).setCell ⟨w4.heap.size, 3, none⟩ (.int .i64 b)).setCell ⟨w4.heap.size, 4, none⟩ (.int .i64 next))) := ((((hSc.setCell (p := ⟨w4.heap.size, 0, none⟩) hle _).setCell (p := ⟨w4.heap.size, 1, none⟩) hle _).setCell (p := ⟨w4.heap.size, 2, none⟩) hle _).setCell (p := ⟨w4.heap.size, 3, none⟩) hle _).setCell (p := ⟨w4.heap.size, 4, none⟩) hle _
        clear hSA hSc hz hle
        go_wp2_with fail
        refine (joins_any before last regs b next _).mono ?_
        rintro e wd ⟨rfl, hB⟩
        have HBD : Hid (Below wb.heap.size wb wd) := HBC.out.trans (hB.mono HBC.out.size)
        clear hB
        obtain ⟨q, hq⟩ : ∃ q, q = joinsP before last regs b next := ⟨_, rfl⟩
        rw [← hq] at HEJ ⊢
        clear hq
        go_wp2
        go_ret
        exact ⟨by rw [HEJ.out]; cases q <;> rfl, HBW.out _ HBD.out⟩
  · have a19 : (a == 18) = false := by simpa using a18
    have HEJ : Hid (E = !(joinsP before last regs b next)) := by show E = _; rw [HE3.out, if_neg (fun h => a18 h.1)]
    go_wp2_with fail
    refine wp_region_bad (fun w' => Below wb.heap.size wb w') [8] (by kernel_rfl) (HB4.out.drew) (fun hS => ?_)
    refine wpAnyB_take [0, 6, 8] (i := 0) (v := .agg #[.int .i64 before, .int .i64 last, .int .i64 (regs : Int)]) rfl (by kernel_rfl) (fun _ _ _ h => h) (Or.inl ⟨by rfl, fun w hSw => by have := HPC.out w hSw; go_simp⟩) hS ?_
    simp only [List.getElem_toArray, List.getElem_cons_zero, Act.put, List.setIfInBounds_toArray, List.set_cons_zero, List.set_cons_succ]
    refine wpAnyB_pure (i := 1) (v := .int .i64 b) rfl (by kernel_rfl) (fun _ _ _ h => h) (Or.inl ⟨by rfl, fun w _ => by go_simp⟩) hS ?_
    simp only [List.getElem_toArray, List.getElem_cons_succ, List.getElem_cons_zero, Act.put, List.setIfInBounds_toArray, List.set_cons_zero, List.set_cons_succ]
    refine wpAnyB_pure (i := 2) (v := .pointer (some ⟨g, 0, none⟩)) rfl (by kernel_rfl) (fun _ _ _ h => h) (Or.inl ⟨by rfl, fun w _ => by go_simp⟩) hS ?_
    simp only [List.getElem_toArray, List.getElem_cons_succ, List.getElem_cons_zero, Act.put, List.setIfInBounds_toArray, List.set_cons_zero, List.set_cons_succ]
    refine wpAnyB_pure (i := 3) (v := .slice (some ⟨gi, off, none⟩) l.length cap) rfl (by kernel_rfl) (fun _ _ _ h => h) (Or.inl ⟨by rfl, fun w _ => by go_simp⟩) hS ?_
    simp only [List.getElem_toArray, List.getElem_cons_succ, List.getElem_cons_zero, Act.put, List.setIfInBounds_toArray, List.set_cons_zero, List.set_cons_succ]
    refine wpAnyB_pure (i := 4) (v := .int .i64 (i : Int)) rfl (by kernel_rfl) (fun _ _ _ h => h) (Or.inl ⟨by rfl, fun w _ => by go_simp⟩) hS ?_
    simp only [List.getElem_toArray, List.getElem_cons_succ, List.getElem_cons_zero, Act.put, List.setIfInBounds_toArray, List.set_cons_zero, List.set_cons_succ]
    refine wpAnyB_two (i := 5) (j := 7) rfl rfl (by kernel_rfl) (fun K hK => ?_) (fun K hK => ?_)
    · go_simp
      refine (HNX.out w4.drew (HBW.out _ hS)).mono ?_
      rintro e wc ⟨rfl, hB⟩
      have hSc : Below wb.heap.size wb wc := hS.trans (hB.mono hS.size)
      refine hK.out _ _ hSc ?_
      clear hK K hB
      refine wpAnyB_pure (i := 6) (v := .agg #[.int .i64 before, .int .i64 last, .int .i64 (regs : Int), .int .i64 b, .int .i64 next]) rfl (by kernel_rfl) (fun _ _ _ h => h) (Or.inl ⟨by rfl, fun w _ => by go_simp⟩) hSc ?_
      simp only [List.getElem_toArray, List.getElem_cons_succ, List.getElem_cons_zero, Act.put, List.setIfInBounds_toArray, List.set_cons_zero, List.set_cons_succ]
      refine wpAnyB_one (i := 7) rfl (by kernel_rfl) (fun K hK => ?_)
      go_simp
      refine hK.out _ _ (hSc.alloc hSc.size _) ?_
      clear hK K
      refine wpAnyB_last (i := 8) rfl (by kernel_rfl) (fun K hK => ?_)
      go_simp
      refine hK.out _ _ ?_
      clear hK K
      refine wpAnyB_done (by kernel_rfl) ?_ _
      refine NoPanic.normal ?_
      have HBC : Hid (Below wb.heap.size wb (wc.alloc (sightO before last (regs : Int) b next))) := hSc.alloc hSc.size _
      clear hS hSc
      go_wp2_with fail
      refine (joins_any before last regs b next (wc.alloc (sightO before last (regs : Int) b next))).mono ?_
      rintro e wd ⟨rfl, hB⟩
      have HBD : Hid (Below wb.heap.size wb wd) := HBC.out.trans (hB.mono HBC.out.size)
      clear hB
      obtain ⟨q, hq⟩ : ∃ q, q = joinsP before last regs b next := ⟨_, rfl⟩
      rw [← hq] at HEJ ⊢
      clear hq
      go_wp2
      go_ret
      exact ⟨by rw [HEJ.out]; cases q <;> rfl, HBW.out _ HBD.out⟩
    · go_simp
      refine hK.out _ _ (hS.alloc hS.size _) ?_
      clear hK K
      obtain ⟨wA, hwA⟩ : ∃ wA, wA = (w4.alloc (.cells #[.int .i64 0, .int .i64 0, .int .i64 0, .int .i64 0, .int .i64 0] 83)).drew := ⟨_, rfl⟩
      have hSA : Below wb.heap.size wb wA := by rw [hwA]; exact (HB4.out.alloc HB4.out.size _).drew
      have HZA : Hid (wA.heap[w4.heap.size]? = some (.cells #[.int .i64 0, .int .i64 0, .int .i64 0, .int .i64 0, .int .i64 0] 83 (0, 0)) ∧ w4.heap.size < wA.heap.size ∧ wb.heap.size ≤ w4.heap.size) := by
        rw [hwA]
        exact ⟨heap_new' w4 _, by simp, HB4.out.size⟩
      rw [← hwA]
      clear hwA hS
      refine wpAnyB_one (i := 5) rfl (by kernel_rfl) (fun K hK => ?_)
      go_simp
      refine (HNX.out wA (HBW.out _ hSA)).mono ?_
      rintro e wc ⟨rfl, hB⟩
      have hSc : Below wb.heap.size wb wc := hSA.trans (hB.mono hSA.size)
      have hz : wc.heap[w4.heap.size]? = some (.cells #[.int .i64 0, .int .i64 0, .int .i64 0, .int .i64 0, .int .i64 0] 83 (0, 0)) := (hB.block _ HZA.out.2.1).trans HZA.out.1
      refine hK.out _ _ hSc ?_
      clear hK K hB
      refine wpAnyB_pure (i := 6) (v := .agg #[.int .i64 before, .int .i64 last, .int .i64 (regs : Int), .int .i64 b, .int .i64 next]) rfl (by kernel_rfl) (fun _ _ _ h => h) (Or.inl ⟨by rfl, fun w _ => by go_simp⟩) hSc ?_
      simp only [List.getElem_toArray, List.getElem_cons_succ, List.getElem_cons_zero, Act.put, List.setIfInBounds_toArray, List.set_cons_zero, List.set_cons_succ]
      have z0 : wc.cell? ⟨w4.heap.size, 0, none⟩ = some (.int .i64 0) := cell_of_row _ _ _ _ _ _ hz
      have z1 : wc.cell? ⟨w4.heap.size, 1, none⟩ = some (.int .i64 0) := cell_of_row _ _ _ _ _ _ hz
      have z2 : wc.cell? ⟨w4.heap.size, 2, none⟩ = some (.int .i64 0) := cell_of_row _ _ _ _ _ _ hz
      have z3 : wc.cell? ⟨w4.heap.size, 3, none⟩ = some (.int .i64 0) := cell_of_row _ _ _ _ _ _ hz
      have z4 : wc.cell? ⟨w4.heap.size, 4, none⟩ = some (.int .i64 0) := cell_of_row _ _ _ _ _ _ hz
      have f0 : ∀ j, wc.frozen? ⟨w4.heap.size, j, none⟩ = false := fun j => frozen_of_row _ _ _ _ _ hz
      have f00 := f0 0
      have f01 := f0 1
      have f02 := f0 2
      have f03 := f0 3
      have f04 := f0 4
      refine wpAnyB_last (i := 8) rfl (by kernel_rfl) (fun K hK => ?_)
      go_simp
      refine hK.out _ _ ?_
      clear hK K
      refine wpAnyB_done (by kernel_rfl) ?_ _
      refine NoPanic.normal ?_
      have hle : wb.heap.size ≤ w4.heap.size := HZA.out.2.2
      have HBC : Hid (Below wb.heap.size wb (((((wc.setCell ⟨w4.heap.size, 0, none⟩ (.int .i64 before)).setCell ⟨w4.heap.size, 1, none⟩ (.int .i64 last)).setCell ⟨w4.heap.size, 2, none⟩ (.int .i64 (regs : Int))).setCell ⟨w4.heap.size, 3, none⟩ (.int .i64 b)).setCell ⟨w4.heap.size, 4, none⟩ (.int .i64 next))) := ((((hSc.setCell (p := ⟨w4.heap.size, 0, none⟩) hle _).setCell (p := ⟨w4.heap.size, 1, none⟩) hle _).setCell (p := ⟨w4.heap.size, 2, none⟩) hle _).setCell (p := ⟨w4.heap.size, 3, none⟩) hle _).setCell (p := ⟨w4.heap.size, 4, none⟩) hle _
      clear hSA hSc hz hle
      go_wp2_with fail
      refine (joins_any before last regs b next _).mono ?_
      rintro e wd ⟨rfl, hB⟩
      have HBD : Hid (Below wb.heap.size wb wd) := HBC.out.trans (hB.mono HBC.out.size)
      clear hB
      obtain ⟨q, hq⟩ : ∃ q, q = joinsP before last regs b next := ⟨_, rfl⟩
      rw [← hq] at HEJ ⊢
      clear hq
      go_wp2
      go_ret
      exact ⟨by rw [HEJ.out]; cases q <;> rfl, HBW.out _ HBD.out⟩
end Go.Proofs.YtpmlbdfdiebkcaaDoor
