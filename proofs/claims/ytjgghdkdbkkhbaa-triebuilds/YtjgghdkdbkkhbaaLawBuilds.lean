/-
  The law TrieBuilds: true, for all entries and numbers.
-/
import Derived.Test.YtjgghdkdbkkhbaaRefOf
namespace Go.Proofs.Ytjgghdkdbkkhbaa
open Go.RowKit
set_option linter.unusedVariables false

/-- The slice value v holds the ints l, in a block below n. -/
def IntsAt (n : Nat) (w : World) (v : Value) (l : List Int) : Prop :=
  ∃ a cap, v = .slice a l.length cap ∧ l.length ≤ cap ∧ ∀ i, (h : i < l.length) → ∃ g off, a = some ⟨g, off, none⟩ ∧ g < n ∧ w.cell? ⟨g, off + i, none⟩ = some (.int .i64 l[i])

set_option maxRecDepth 100000 in
set_option maxHeartbeats 8000000 in
theorem trieBuilds_any (l : List Pp) (v : Value) (rs : List Int) (rv : Value) (w : World) (hv : PropsIn w v l) (hby : Bytes l) (hr : IntsAt w.heap.size w rv rs) :
    Calls Try.prog 3 #[v, rv] w fun e w' => e = .returned (.bool true) ∧ Below w.heap.size w w' := by
  have HV : Hid (PropsIn w v l) := hv
  obtain ⟨a, cap0, rfl, _, _⟩ := hv
  obtain ⟨ar, capr, rfl, _, hcr⟩ := hr
  have HCR : Hid (∀ i, (h : i < rs.length) → ∃ g off, ar = some ⟨g, off, none⟩ ∧ g < w.heap.size ∧ w.cell? ⟨g, off + i, none⟩ = some (.int .i64 rs[i])) := hcr
  clear hcr
  go_enter Try.func3, Try.ntmps3
  go_wp2_with fail
  refine (awake_any w).mono ?_
  rintro e w1 ⟨rfl, hB1⟩
  have HB1 : Hid (Below w.heap.size w w1) := hB1
  clear hB1
  by_cases h30 : 30 < l.length
  · have h30' : (30 : Int) < (l.length : Int) := by omega
    go_wp2
    go_ret
    exact ⟨rfl, HB1.out⟩
  have h30' : ¬ (30 : Int) < (l.length : Int) := by omega
  go_wp2_with fail
  refine (build_any l _ w1 ((HV.out.below HB1.out).mono HB1.out.size) hby).mono ?_
  rintro e w2 ⟨pv, rfl, hn2, ht2, hB2⟩
  have HB2 : Hid (Below w.heap.size w w2) := HB1.out.trans (hB2.mono HB1.out.size)
  clear hB2
  go_wp2_with fail
  refine (refBuild_any l _ w2 ((HV.out.below HB2.out).mono HB2.out.size) hby).mono ?_
  rintro e w3 ⟨pw, rfl, hn3, ht3, hB3⟩
  have HB3 : Hid (Below w.heap.size w w3) := HB2.out.trans (hB3.mono HB2.out.size)
  have hs3 := hB3.size
  by_cases g1 : l.all good1 = true
  · have e1 : errB l = 0 := by rw [errB_small (by omega), if_pos g1]
    have hT := (ht2 e1).below hB3
    obtain ⟨gt, rfl⟩ := hT.ptr
    obtain ⟨gw, rfl, hR⟩ := ht3 e1
    have hz := errB_zero e1
    have hF : Fine (likeB l) (firstB l) := fineB hby hz.2.2
    obtain ⟨HT, HR, HF⟩ : Hid (TrieAt w3.heap.size w3 (.pointer (some ⟨gt, 0, none⟩)) (likeB l) (firstB l)) ∧ Hid (RefAt w2.heap.size w3 gw (firstB l) (likeOf (blocksF (valP l)))) ∧ Hid (Fine (likeB l) (firstB l)) := ⟨hT.mono hs3, hR, hF⟩
    have h256 : (firstB l).length ≤ 256 := hz.2.2
    have HLL : Hid ((likeOf (blocksF (valP l))).length = 4352) := by show _ = _; rw [like_length, blocksF_length]
    have HLT : Hid (∀ x ∈ likeOf (blocksF (valP l)), x < (firstB l).length) := fun x hx => by
      obtain ⟨i, hi, rfl⟩ := List.getElem_of_mem hx
      rw [like_length] at hi
      exact like_lt hi
    rw [e1]
    clear hn2 ht2 hn3 ht3 hB3 hT hR hF hz g1 e1
    go_wp2
    go_loopw [10] (fun x wr => ∃ k : Nat, k ≤ rs.length ∧ k ≤ 200 ∧ x = .int .i64 k ∧ Below w3.heap.size w3 wr) (fun x _ => 200 - (intOf x).toNat)
    case atStart => exact ⟨0, Nat.zero_le _, Nat.zero_le _, rfl, Below.refl _ _⟩
    case round =>
      obtain ⟨k, hk, hk2, rfl, hBr⟩ := hrel
      have hbr := hBr.size
      have HBR : Hid (Below w3.heap.size w3 wr) := hBr
      have HTR : Hid (TrieAt wr.heap.size wr (.pointer (some ⟨gt, 0, none⟩)) (likeB l) (firstB l)) := (HT.out.below hBr).mono hbr
      have HRR : Hid (RefAt w2.heap.size wr gw (firstB l) (likeOf (blocksF (valP l)))) := HR.out.below hBr
      have HBW : Hid (Below w.heap.size w wr) := HB3.out.trans (hBr.mono HB3.out.size)
      clear hBr
      by_cases hgo : k < rs.length ∧ k < 200
      · have hg1 : (k : Int) < (rs.length : Int) := by omega
        have hg2 : (k : Int) < 200 := by omega
        obtain ⟨g, off, rfl, hg, c0⟩ := HCR.out k hgo.1
        obtain ⟨x, hx⟩ : ∃ x, x = rs[k]'hgo.1 := ⟨_, rfl⟩
        rw [← hx] at c0
        have HX : Hid (∀ w', Below wr.heap.size wr w' → w'.cell? ⟨g, off + k, none⟩ = some (.int .i64 x)) := fun w' hw' => (hw'.cell (p := ⟨g, _, none⟩) (by show g < _; have := HBW.out.size; omega)).trans ((HBW.out.cell (p := ⟨g, _, none⟩) hg).trans c0)
        clear c0 hx hgo
        go_wp2_with fail
        refine wp_region_bad (fun w' => Below wr.heap.size wr w') [] (by kernel_rfl) ((Below.refl _ _).drew) (fun hS => ?_)
        have hX := HX.out
        refine wpAnyB_pure (i := 0) (v := .pointer (some ⟨gt, 0, none⟩)) rfl (by kernel_rfl) (fun _ _ _ h => h) (Or.inl ⟨by rfl, fun w _ => by go_simp⟩) hS ?_
        simp only [List.getElem_toArray, List.getElem_cons_zero, Act.put, List.setIfInBounds_toArray, List.set_cons_zero, List.set_cons_succ]
        refine wpAnyB_pure (i := 1) (v := .slice (some ⟨g, off, none⟩) rs.length capr) rfl (by kernel_rfl) (fun _ _ _ h => h) (Or.inl ⟨by rfl, fun w _ => by go_simp⟩) hS ?_
        simp only [List.getElem_toArray, List.getElem_cons_succ, List.getElem_cons_zero, Act.put, List.setIfInBounds_toArray, List.set_cons_zero, List.set_cons_succ]
        refine wpAnyB_pure (i := 2) (v := .int .i64 (k : Int)) rfl (by kernel_rfl) (fun _ _ _ h => h) (Or.inl ⟨by rfl, fun w _ => by go_simp⟩) hS ?_
        simp only [List.getElem_toArray, List.getElem_cons_succ, List.getElem_cons_zero, Act.put, List.setIfInBounds_toArray, List.set_cons_zero, List.set_cons_succ]
        refine wpAnyB_pure (i := 3) (v := .pointer (some ⟨g, off + k, none⟩)) rfl (by kernel_rfl) (fun _ _ _ h => h) (Or.inl ⟨by rfl, fun w _ => by go_simp⟩) hS ?_
        simp only [List.getElem_toArray, List.getElem_cons_succ, List.getElem_cons_zero, Act.put, List.setIfInBounds_toArray, List.set_cons_zero, List.set_cons_succ]
        refine wpAnyB_take [] (i := 4) (v := .int .i64 x) rfl (by kernel_rfl) (fun _ _ _ h => h) (Or.inl ⟨by rfl, fun w hSw => by have := hX w hSw; go_simp⟩) hS ?_
        simp only [List.getElem_toArray, List.getElem_cons_succ, List.getElem_cons_zero, Act.put, List.setIfInBounds_toArray, List.set_cons_zero, List.set_cons_succ]
        refine wpAnyB_pure (i := 6) (v := .pointer (some ⟨gw, 0, none⟩)) rfl (by kernel_rfl) (fun _ _ _ h => h) (Or.inl ⟨by rfl, fun w _ => by go_simp⟩) hS ?_
        simp only [List.getElem_toArray, List.getElem_cons_succ, List.getElem_cons_zero, Act.put, List.setIfInBounds_toArray, List.set_cons_zero, List.set_cons_succ]
        refine wpAnyB_pure (i := 7) (v := .slice (some ⟨g, off, none⟩) rs.length capr) rfl (by kernel_rfl) (fun _ _ _ h => h) (Or.inl ⟨by rfl, fun w _ => by go_simp⟩) hS ?_
        simp only [List.getElem_toArray, List.getElem_cons_succ, List.getElem_cons_zero, Act.put, List.setIfInBounds_toArray, List.set_cons_zero, List.set_cons_succ]
        refine wpAnyB_pure (i := 8) (v := .int .i64 (k : Int)) rfl (by kernel_rfl) (fun _ _ _ h => h) (Or.inl ⟨by rfl, fun w _ => by go_simp⟩) hS ?_
        simp only [List.getElem_toArray, List.getElem_cons_succ, List.getElem_cons_zero, Act.put, List.setIfInBounds_toArray, List.set_cons_zero, List.set_cons_succ]
        refine wpAnyB_pure (i := 9) (v := .pointer (some ⟨g, off + k, none⟩)) rfl (by kernel_rfl) (fun _ _ _ h => h) (Or.inl ⟨by rfl, fun w _ => by go_simp⟩) hS ?_
        simp only [List.getElem_toArray, List.getElem_cons_succ, List.getElem_cons_zero, Act.put, List.setIfInBounds_toArray, List.set_cons_zero, List.set_cons_succ]
        refine wpAnyB_take [] (i := 10) (v := .int .i64 x) rfl (by kernel_rfl) (fun _ _ _ h => h) (Or.inl ⟨by rfl, fun w hSw => by have := hX w hSw; go_simp⟩) hS ?_
        simp only [List.getElem_toArray, List.getElem_cons_succ, List.getElem_cons_zero, Act.put, List.setIfInBounds_toArray, List.set_cons_zero, List.set_cons_succ]
        clear hX
        refine wpAnyB_one (i := 5) rfl (by kernel_rfl) (fun K hK => ?_)
        go_simp
        refine (of_any _ _ _ _ wr.drew (HTR.out.below hS) HF.out).mono ?_
        rintro e wc ⟨rfl, hBc⟩
        have HSc : Hid (Below wr.heap.size wr wc) := hS.trans hBc
        refine hK.out _ _ HSc.out ?_
        clear hK K hBc
        refine wpAnyB_one (i := 11) rfl (by kernel_rfl) (fun K hK => ?_)
        go_simp
        refine (refOf_any w2.heap.size (firstB l) (likeOf (blocksF (valP l))) gw x wc (HRR.out.below HSc.out) (by omega) HLL.out HLT.out).mono ?_
        rintro e wd ⟨he, hBd⟩
        have he' : e = .returned (.int .u8 (ofT (likeB l) (firstB l) x)) := he
        subst he'
        have HSd : Hid (Below wr.heap.size wr wd) := HSc.out.trans (hBd.mono HSc.out.size)
        refine hK.out _ _ HSd.out ?_
        clear hK K hBd he
        refine wpAnyB_pure (i := 12) (v := .bool false) rfl (by kernel_rfl) (fun _ _ _ h => h) (Or.inl ⟨by rfl, fun w _ => by go_simp⟩) HSd.out ?_
        simp only [List.getElem_toArray, List.getElem_cons_succ, List.getElem_cons_zero, Act.put, List.setIfInBounds_toArray, List.set_cons_zero, List.set_cons_succ]
        refine wpAnyB_done (by kernel_rfl) ?_ _
        refine NoPanic.normal ?_
        clear hS
        go_wp2
        go_roundw
        case rel => exact ⟨k + 1, by omega, by omega, by go_num, HBR.out.trans (HSd.out.mono hbr)⟩
        case measure => simp [intOf]; omega
      · have hex : ¬ ((k : Int) < (rs.length : Int)) ∨ ((k : Int) < (rs.length : Int)) ∧ ¬ ((k : Int) < 200) := by omega
        clear hgo
        rcases hex with n1 | ⟨n1, n2⟩
        · go_wp2_with fail
          refine (blocks_any _ _ _ wr HTR.out HF.out).mono ?_
          rintro e wc ⟨rfl, hBc⟩
          have HBc : Hid (Below wr.heap.size wr wc) := hBc
          clear hBc
          go_wp2_with fail
          refine (refBlocks_any w2.heap.size (firstB l) (likeOf (blocksF (valP l))) gw wc (HRR.out.below HBc.out) (by omega)).mono ?_
          rintro e wd ⟨rfl, hwd⟩
          subst hwd
          go_wp2
          go_ret
          exact ⟨rfl, HBW.out.trans (HBc.out.mono HBW.out.size)⟩
        · go_wp2_with fail
          refine (blocks_any _ _ _ wr HTR.out HF.out).mono ?_
          rintro e wc ⟨rfl, hBc⟩
          have HBc : Hid (Below wr.heap.size wr wc) := hBc
          clear hBc
          go_wp2_with fail
          refine (refBlocks_any w2.heap.size (firstB l) (likeOf (blocksF (valP l))) gw wc (HRR.out.below HBc.out) (by omega)).mono ?_
          rintro e wd ⟨rfl, hwd⟩
          subst hwd
          go_wp2
          go_ret
          exact ⟨rfl, HBW.out.trans (HBc.out.mono HBW.out.size)⟩
  · have e1 : errB l = 1 := by rw [errB_small (by omega), if_neg g1]
    obtain rfl := hn2 (by omega)
    obtain rfl := hn3 (by omega)
    rw [e1]
    clear hn2 ht2 hn3 ht3 e1 g1 hB3
    go_wp2
    go_loopw [10] (fun x wr => x = .int .i64 0 ∧ wr = w3) (fun x _ => 0)
    case atStart => exact ⟨rfl, rfl⟩
    case round =>
      obtain ⟨rfl, rfl⟩ := hrel
      by_cases n1 : 0 < rs.length
      · have n1' : (0 : Int) < (rs.length : Int) := by omega
        go_wp2
        go_ret
        exact ⟨rfl, HB3.out⟩
      · obtain rfl : rs = [] := List.length_eq_zero_iff.1 (by omega)
        clear n1
        go_wp2
        go_ret
        exact ⟨rfl, HB3.out⟩
end Go.Proofs.Ytjgghdkdbkkhbaa
