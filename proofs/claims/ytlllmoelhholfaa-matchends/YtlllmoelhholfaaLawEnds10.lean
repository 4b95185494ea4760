/-
  scansionlaw10.MatchEnds.
-/
import Derived.Test.YtlllmoelhholfaaMtRef5
namespace Go.Proofs.Ytlllmoelhholfaa
open Go.RowKit Go.Shelf
set_option linter.unusedVariables false

set_option maxRecDepth 100000 in
set_option maxHeartbeats 16000000 in
theorem matchEnds_any (a : Nd) (za : Value) (wa : Option Addr) (wc : Nat) (ws : List Nat) (w : World) (ha : KdX (fun k => k < w.heap.size) w za a.kids) (hw : WrdAt w.heap.size w (.slice wa ws.length wc) ws) (hnil : wa = none → wc = 0) :
    Calls Try.prog 4 #[ndV a za, .slice wa ws.length wc] w fun e w' => e = .returned (.bool true) ∧ Below w.heap.size w w' := by
  obtain ⟨xa, ca, rfl, _⟩ := ha.slice
  obtain ⟨W0, hW0⟩ : ∃ W, W = w.alloc (.cells #[.int .i64 a.k, .int .i64 a.s, .slice xa a.kids.length ca] 24) := ⟨_, rfl⟩
  have hB0 : Below w.heap.size w W0 := by rw [hW0]; exact below_alloc _ _
  have hbA : Box W0 w.heap.size a.k a.s (.slice xa a.kids.length ca) := by rw [hW0]; exact box_new _ _ _ _
  have HA : Hid (KdX (fun k => k < w.heap.size) w (.slice xa a.kids.length ca) a.kids) := ha
  have HW : Hid (WrdAt w.heap.size w (.slice wa ws.length wc) ws) := hw
  have HFA : Hid (∀ W, Below w.heap.size w W → Calls Try.prog 10 #[ndV a (.slice xa a.kids.length ca), .slice wa ws.length wc] W fun e w' => ∃ b, e = .returned (.bool b) ∧ (b = true → Dp 12 a.kids ∧ ws.length ≤ 30) ∧ Below W.heap.size W w') := fun W h => few_any a _ wa ws.length wc W (kdx_below ha h)
  unfold ndV at HFA ⊢
  obtain ⟨ak, hak⟩ : ∃ x, x = a.k := ⟨_, rfl⟩
  obtain ⟨as1, has1⟩ : ∃ x, x = a.s := ⟨_, rfl⟩
  obtain ⟨al, hal⟩ : ∃ x, x = a.kids.length := ⟨_, rfl⟩
  obtain ⟨wl, hwl⟩ : ∃ x, x = ws.length := ⟨_, rfl⟩
  have HNA : Hid (ak = a.k ∧ as1 = a.s ∧ al = a.kids.length) := ⟨hak, has1, hal⟩
  have HWL : Hid (wl = ws.length) := hwl
  rw [← hak, ← has1, ← hal] at HFA hbA hW0 ⊢
  rw [← hal] at HA
  rw [← hwl] at HFA HW ⊢
  have HB0 : Hid (Below w.heap.size w W0) := hB0
  have HBA : Hid (Box W0 w.heap.size ak as1 (.slice xa al ca)) := hbA
  have haw := awake_any W0
  rw [hW0] at haw
  clear hak has1 hal hwl ha hw hB0 hbA
  go_enter Try.func4, Try.ntmps4
  go_wp2_with fail
  refine haw.mono ?_
  rintro e w1 ⟨rfl, hB1⟩
  rw [← hW0] at hB1
  have HB1 : Hid (Below W0.heap.size W0 w1) := hB1
  obtain ⟨a0, a1, a2⟩ : _ ∧ _ ∧ _ := ⟨(HBA.out.below hB1).c0, (HBA.out.below hB1).c1, (HBA.out.below hB1).c2⟩
  have hf1 := HFA.out w1 (below_after HB0.out hB1)
  clear haw hB1 hW0
  go_wp2_with fail
  refine hf1.mono ?_
  rintro e w3 ⟨ok1, rfl, ho1, hB3⟩
  have HB3 : Hid (Below W0.heap.size W0 w3) := below_after HB1.out hB3
  have HO1 : Hid (ok1 = true → Dp 12 a.kids ∧ ws.length ≤ 30) := fun h => (by have := ho1 h; rwa [HWL.out] at this)
  have HBW3 : Hid (Below w.heap.size w w3) := below_after HB0.out HB3.out
  clear hf1 hB3 a0 a1 a2 ho1
  cases ok1 with
  | false =>
    go_wp2
    go_ret
    exact ⟨rfl, HBW3.out⟩
  | true =>
  have HDA : Hid (Dp 12 a.kids) := (HO1.out rfl).1
  have hw30 : wl ≤ 30 := by have := (HO1.out rfl).2; have := HWL.out; omega
  obtain ⟨a0, a1, a2⟩ : _ ∧ _ ∧ _ := ⟨(HBA.out.below HB3.out).c0, (HBA.out.below HB3.out).c1, (HBA.out.below HB3.out).c2⟩
  have hlt1 : w.heap.size < w3.heap.size := (HBA.out.below HB3.out).lt
  clear HO1
  obtain ⟨sa, hsa⟩ : ∃ x, x = suffB ws a := ⟨_, rfl⟩
  obtain ⟨pa, hpa⟩ : ∃ x, x = prefB ws a := ⟨_, rfl⟩
  have HKA : Hid (∀ W, Below w3.heap.size w3 W → W.cell? ⟨w.heap.size, 0, none⟩ = some (.int .i64 ak) ∧ W.cell? ⟨w.heap.size, 1, none⟩ = some (.int .i64 as1) ∧ W.cell? ⟨w.heap.size, 2, none⟩ = some (.slice xa al ca)) := fun W h => ⟨(HBA.out.below (below_after HB3.out h)).c0, (HBA.out.below (below_after HB3.out h)).c1, (HBA.out.below (below_after HB3.out h)).c2⟩
  have HC1 : Hid (∀ W, Below w3.heap.size w3 W → Calls Try.prog 15 #[.agg #[.int .i64 ak, .int .i64 as1, .slice xa al ca], .slice wa wl wc] W fun e w' => e = .returned (.bool sa) ∧ Below W.heap.size W w') := fun W h => by
    have hw' := HW.out
    rw [HWL.out] at hw'
    have := suffix_any 12 (by omega) ws (by have := HWL.out; omega) a _ wa wc W HDA.out (kdx_below HA.out (below_after HBW3.out h)) (wrd_below hw' (below_after HBW3.out h))
    unfold ndV at this
    rw [← HNA.out.1, ← HNA.out.2.1, ← hsa, ← HWL.out] at this
    exact this
  have HC2 : Hid (∀ W, Below w3.heap.size w3 W → Calls Try.prog 16 #[.agg #[.int .i64 ak, .int .i64 as1, .slice xa al ca], .slice wa wl wc] W fun e w' => e = .returned (.bool sa) ∧ Below W.heap.size W w') := fun W h => by
    have hw' := HW.out
    rw [HWL.out] at hw'
    have := refSuffix_any 12 ws (by have := HWL.out; omega) a _ wa wc W HDA.out (kdx_below HA.out (below_after HBW3.out h)) (wrd_below hw' (below_after HBW3.out h)) hnil
    unfold ndV at this
    rw [← HNA.out.1, ← HNA.out.2.1, ← hsa, ← HWL.out] at this
    exact this
  have HC3 : Hid (∀ W, Below w3.heap.size w3 W → Calls Try.prog 17 #[.agg #[.int .i64 ak, .int .i64 as1, .slice xa al ca], .slice wa wl wc] W fun e w' => e = .returned (.bool pa) ∧ Below W.heap.size W w') := fun W h => by
    have hw' := HW.out
    rw [HWL.out] at hw'
    have := prefix_any 12 (by omega) ws (by have := HWL.out; omega) a _ wa wc W HDA.out (kdx_below HA.out (below_after HBW3.out h)) (wrd_below hw' (below_after HBW3.out h))
    unfold ndV at this
    rw [← HNA.out.1, ← HNA.out.2.1, ← hpa, ← HWL.out] at this
    exact this
  have HC4 : Hid (∀ W, Below w3.heap.size w3 W → Calls Try.prog 18 #[.agg #[.int .i64 ak, .int .i64 as1, .slice xa al ca], .slice wa wl wc] W fun e w' => e = .returned (.bool pa) ∧ Below W.heap.size W w') := fun W h => by
    have hw' := HW.out
    rw [HWL.out] at hw'
    have := refPrefix_any 12 ws (by have := HWL.out; omega) a _ wa wc W HDA.out (kdx_below HA.out (below_after HBW3.out h)) (wrd_below hw' (below_after HBW3.out h))
    unfold ndV at this
    rw [← HNA.out.1, ← HNA.out.2.1, ← hpa, ← HWL.out] at this
    exact this
  have hEQ : (sa == sa) = true := by simp
  clear hsa hpa hnil
  go_upto_region 5 with fail
  go_region_held3 (fun W => W.cell? ⟨w.heap.size, 0, none⟩ = some (.int .i64 ak) ∧ W.cell? ⟨w.heap.size, 1, none⟩ = some (.int .i64 as1) ∧ W.cell? ⟨w.heap.size, 2, none⟩ = some (.slice xa al ca)) (first | exact HKA.out _ hk7 | exact HKA.out _ hk6 | exact HKA.out _ hk5 | exact HKA.out _ hk4 | go_keep) ((first | (go_at_call 18; refine (HC4.out _ hk6).mono ?_; rintro e w7 ⟨rfl, hq4⟩; have hk7 := below_after hk6 hq4) | (go_at_call 17; refine (HC3.out _ hk5).mono ?_; rintro e w6 ⟨rfl, hq3⟩; have hk6 := below_after hk5 hq3) | (go_at_call 16; refine (HC2.out _ hk4).mono ?_; rintro e w5 ⟨rfl, hq2⟩; have hk5 := below_after hk4 hq2) | (go_at_call 15; refine (HC1.out _ (below_drewN' (Below.refl _ _) 1)).mono ?_; rintro e w4 ⟨rfl, hq1⟩; have hk4 := below_drew1 hq1)))
  all_goals (go_wp2_with fail; go_ret; exact ⟨by simp, below_after HBW3.out hk7⟩)
end Go.Proofs.Ytlllmoelhholfaa
