/-
  RightP
-/
import Derived.Test.YtfdjchnckjgapaaGreatDoorX41
import Derived.Test.YtfdjchnckjgapaaGreatDoorX42
namespace Go.Proofs.YtfdjchnckjgapaaGreatDoor
open Go.RowKit Go.Shelf S1
set_option linter.unusedVariables false
theorem mayR_cons {m : Nat} {x : Rl} {l : List Rl} : mayR m (x :: l) = (mayN 120 0 0 m x.l).bind fun m1 => (mayN 120 0 0 m1 x.r).bind fun m2 => mayR m2 l := by
  rw [mayR]
  cases mayN 120 0 0 m x.l with
  | none => rfl
  | some m1 =>
    simp only [Option.bind_some]
    cases mayN 120 0 0 m1 x.r <;> rfl
theorem chk_new (w : World) : ChkAt (w.alloc (.cells #[.int .i64 0] 69)) w.heap.size 0 := heap_new' w _
set_option maxRecDepth 100000 in
set_option maxHeartbeats 16000000 in
theorem right_any8 (st : Sts) (rl : List Rl) (hok : FewOk st rl) (sv rv : Value) (w : World) (h : SetIn w sv st) (k : RulIn w rv rl) :
    Calls Tryz.prog 15 #[.agg #[sv, rv]] w fun e w' => e = .returned (.bool (rightB st rl)) ∧ Below w.heap.size w w' := by
  have HOK : Hid (FewOk st rl) := hok
  have HSA : Hid (SetIn w sv st) := h
  have HRA : Hid (RulIn w rv rl) := k
  obtain ⟨za, ca, rfl, hca, _⟩ := h
  obtain ⟨ya, da, rfl, hda, _⟩ := k
  obtain ⟨q, hq⟩ : ∃ q, q = rightB st rl := ⟨_, rfl⟩
  rw [← hq]
  have HQ : Hid (q = (decide (st.length ≤ 60) && decide (rl.length ≤ 64) && setsF st.length st && (mayR 0 rl == some st.length))) := hq
  have hsa := fun W hW => areSets_any st (by have := hok.1; omega) (fun s hs => by have := hok.2.2.1 s hs; omega) (.slice za st.length ca) W (HSA.out.below (w' := W) hW)
  have hns70 := hok.1
  have hnr70 := hok.2.1
  obtain ⟨ns, hns⟩ : ∃ x, x = st.length := ⟨_, rfl⟩
  obtain ⟨nr, hnr⟩ : ∃ x, x = rl.length := ⟨_, rfl⟩
  rw [← hns] at HSA hca hsa hns70 HQ ⊢
  rw [← hnr] at HRA hda hnr70 HQ ⊢
  have HNS : Hid (ns = st.length) := hns
  have HNR : Hid (nr = rl.length) := hnr
  have HB0 : Hid (Below w.heap.size w (w.alloc (.cells #[.slice za ns ca, .slice ya nr da] 27))) := below_alloc _ _
  have HEA : Hid ((w.alloc (.cells #[.slice za ns ca, .slice ya nr da] 27)).heap[w.heap.size]? = some (.cells #[.slice za ns ca, .slice ya nr da] 27 (0, 0))) := heap_new' w _
  have hsa1 := hsa _ HB0.out
  clear hq hok hns hnr hsa
  by_cases h1 : 60 < ns
  · have h1' : decide ((ns : Int) > 60) = true := by simp; omega
    have h2 : decide (ns ≤ 60) = false := by simp; omega
    have HE : Hid (q = false) := by show _ = _; rw [HQ.out, h2]; rfl
    clear h1 h2 hsa1
    go_enter Tryz.func15, Tryz.ntmps15
    go_wp2
    go_ret
    rw [HE.out]
    exact ⟨rfl, HB0.out⟩
  have h1' : decide ((ns : Int) > 60) = false := by simp; omega
  have h1d : decide (ns ≤ 60) = true := by simp; omega
  by_cases h2 : 64 < nr
  · have h2' : decide ((nr : Int) > 64) = true := by simp; omega
    have h2d : decide (nr ≤ 64) = false := by simp; omega
    have HE : Hid (q = false) := by show _ = _; rw [HQ.out, h1d, h2d]; rfl
    clear h1 h2 h1d h2d hsa1
    go_enter Tryz.func15, Tryz.ntmps15
    go_wp2
    go_ret
    rw [HE.out]
    exact ⟨rfl, HB0.out⟩
  have h2' : decide ((nr : Int) > 64) = false := by simp; omega
  have h2d : decide (nr ≤ 64) = true := by simp; omega
  have HQ2 : Hid (q = (setsF ns st && (mayR 0 rl == some ns))) := by show _ = _; rw [HQ.out, h1d, h2d]; rfl
  clear h1 h2 h1d h2d HQ
  cases hsf : setsF ns st with
  | false =>
    rw [hsf] at hsa1
    have HE : Hid (q = false) := by show _ = _; rw [HQ2.out, hsf]; rfl
    clear hsf
    go_enter Tryz.func15, Tryz.ntmps15
    go_wp2_with fail
    refine hsa1.mono ?_
    rintro e w1 ⟨rfl, hB1⟩
    clear hsa1
    have hBB := below_after HB0.out hB1
    go_wp2
    go_ret
    rw [HE.out]
    exact ⟨rfl, hBB⟩
  | true =>
    rw [hsf] at hsa1
    have HQ3 : Hid (q = (mayR 0 rl == some ns)) := by show _ = _; rw [HQ2.out, hsf, Bool.true_and]
    clear hsf HQ2
    go_enter Tryz.func15, Tryz.ntmps15
    go_wp2_with fail
    refine hsa1.mono ?_
    rintro e w1 ⟨rfl, hB1⟩
    clear hsa1
    have HB01 : Hid (Below w.heap.size w w1) := below_after HB0.out hB1
    have e1 : w1.heap[w.heap.size]? = some (.cells #[.slice za ns ca, .slice ya nr da] 27 (0, 0)) := (hB1.block _ (by simp)).trans HEA.out
    have HE1 : Hid (w1.heap[w.heap.size]? = some (.cells #[.slice za ns ca, .slice ya nr da] 27 (0, 0))) := e1
    have hlt1 : w.heap.size < w1.heap.size := (Array.getElem?_eq_some_iff.1 e1).1
    have c11 : w1.cell? ⟨w.heap.size, 1, none⟩ = some (.slice ya nr da) := cell_of_row _ _ 1 _ _ _ e1
    have HCH : Hid (ChkAt (w1.alloc (.cells #[.int .i64 0] 69)) w1.heap.size 0) := chk_new w1
    have HE2 : Hid ((w1.alloc (.cells #[.int .i64 0] 69)).heap[w.heap.size]? = some (.cells #[.slice za ns ca, .slice ya nr da] 27 (0, 0))) := ((below_alloc w1 _).block _ hlt1).trans e1
    clear hB1 e1
    go_wp2
    go_loopw [25] (fun x wr => ∃ (j m : Nat), j ≤ nr ∧ x = .int .i64 (j : Int) ∧ Hid (mayR 0 rl = mayR m (rl.drop j)) ∧ Hid (m ≤ 6200 * j) ∧ Hid (ChkAt wr w1.heap.size m) ∧ wr.heap[w.heap.size]? = some (.cells #[.slice za ns ca, .slice ya nr da] 27 (0, 0)) ∧ w1.grownBy wr (some w1.heap.size)) (fun x _ => nr - (intOf x).toNat)
    case atStart => exact ⟨0, 0, Nat.zero_le _, rfl, (show _ = _ by rw [List.drop_zero]), (show 0 ≤ 6200 * 0 by omega), HCH, HE2.out, grownR_below (below_alloc _ _) _⟩
    case round =>
      obtain ⟨j, m, hj, rfl, HD, HM, HC, hEA, hG⟩ := hrel
      have hlt : w.heap.size < wr.heap.size := (Array.getElem?_eq_some_iff.1 hEA).1
      have HEA' : Hid (wr.heap[w.heap.size]? = some (.cells #[.slice za ns ca, .slice ya nr da] 27 (0, 0))) := hEA
      have HBW : Hid (Below w.heap.size w wr) := ⟨hG.os.trans HB01.out.os, hG.tape.trans HB01.out.tape, hG.output.trans HB01.out.output, Nat.le_trans HB01.out.size hG.size, fun k hk => (hG.block k (by omega) (by simp; omega)).trans (HB01.out.block k hk)⟩
      have HG : Hid (w1.grownBy wr (some w1.heap.size)) := hG
      have hs1 := hG.size
      have hlc : w1.heap.size < wr.heap.size := (Array.getElem?_eq_some_iff.1 HC.out).1
      clear hG
      by_cases hjl : j < nr
      · have hjl' : decide ((j : Int) < (nr : Int)) = true := by simp; omega
        have hjs : j < rl.length := by have := HNR.out; omega
        obtain ⟨ga, oa, bb, lk, ls, la, ln, lca, rk, rs, ra, rn, rca, rfl, hga, ⟨c0, c1, c2, c3, c4, c5, c6⟩, hcl, hcr⟩ : ∃ (ga oa : Nat) (bb : Bool) (lk ls : Int) (la : Option Addr) (ln lca : Nat) (rk rs : Int) (ra : Option Addr) (rn rca : Nat), ya = some ⟨ga, oa, none⟩ ∧ ga < wr.heap.size ∧
            (wr.cell? ⟨ga, oa + j * 7, none⟩ = some (.bool bb) ∧ wr.cell? ⟨ga, oa + j * 7 + 1, none⟩ = some (.int .i64 lk) ∧ wr.cell? ⟨ga, oa + j * 7 + 2, none⟩ = some (.int .i64 ls) ∧ wr.cell? ⟨ga, oa + j * 7 + 3, none⟩ = some (.slice la ln lca) ∧ wr.cell? ⟨ga, oa + j * 7 + 4, none⟩ = some (.int .i64 rk) ∧ wr.cell? ⟨ga, oa + j * 7 + 5, none⟩ = some (.int .i64 rs) ∧ wr.cell? ⟨ga, oa + j * 7 + 6, none⟩ = some (.slice ra rn rca)) ∧
            (∀ m W, m ≤ 900000 → wr.grownBy W (some w1.heap.size) → ChkAt W w1.heap.size m → Calls Tryz.prog 30 #[.pointer (some ⟨w1.heap.size, 0, none⟩), .agg #[.int .i64 lk, .int .i64 ls, .slice la ln lca], .int .i64 0, .int .i64 0] W fun e w'' => MayT w1.heap.size (mayN 120 0 0 m rl[j].l) W e w'') ∧
            (∀ m W, m ≤ 900000 → wr.grownBy W (some w1.heap.size) → ChkAt W w1.heap.size m → Calls Tryz.prog 30 #[.pointer (some ⟨w1.heap.size, 0, none⟩), .agg #[.int .i64 rk, .int .i64 rs, .slice ra rn rca], .int .i64 0, .int .i64 0] W fun e w'' => MayT w1.heap.size (mayN 120 0 0 m rl[j].r) W e w'') := by
          obtain ⟨a, ca', e1, _, hi⟩ := HRA.out
          obtain ⟨ga, oa, zl, zr, rfl, hga, c0, c1, c2, c3, c4, c5, c6, c7, c8⟩ := hi j hjs
          obtain ⟨x1, x2, rfl, _⟩ := c7.slice
          obtain ⟨x3, x4, rfl, _⟩ := c8.slice
          have hf := HOK.out.2.2.2 _ (List.getElem_mem hjs)
          have e1' : ya = some ⟨ga, oa, none⟩ := by simp at e1; exact e1.1
          have hcell : ∀ o v, w.cell? ⟨ga, o, none⟩ = some v → wr.cell? ⟨ga, o, none⟩ = some v := fun o v hv => (HBW.out.cell (p := ⟨ga, o, none⟩) hga).trans hv
          have hto : ∀ W, wr.grownBy W (some w1.heap.size) → ∀ k, k < w.heap.size → W.heap[k]? = w.heap[k]? ∧ k < W.heap.size ∧ k ≠ w1.heap.size := fun W hW k hk => ⟨(hW.block k (by omega) (by simp; omega)).trans (HBW.out.block k hk), by have := hW.size; omega, by omega⟩
          exact ⟨ga, oa, _, _, _, x1, _, x2, _, _, x3, _, x4, e1', by omega, ⟨hcell _ _ c0, hcell _ _ c1, hcell _ _ c2, hcell _ _ c3, hcell _ _ c4, hcell _ _ c5, hcell _ _ c6⟩, fun m W hm hW hC => mayBe_any 120 rl[j].l _ 0 0 m w1.heap.size W hf.1.1 (by omega) (by omega) (by have := hf.1.2; omega) hC (c7.to (hto W hW)), fun m W hm hW hC => mayBe_any 120 rl[j].r _ 0 0 m w1.heap.size W hf.2.1 (by omega) (by omega) (by have := hf.2.2; omega) hC (c8.to (hto W hW))⟩
        have hj0 : (0 : Int) ≤ (j : Int) := by omega
        have hj1 : (j : Int) < (nr : Int) := by omega
        have ed : rl.drop j = rl[j] :: rl.drop (j + 1) := List.drop_eq_getElem_cons hjs
        have HD1 : Hid (mayR 0 rl = (mayN 120 0 0 m rl[j].l).bind fun m1 => (mayN 120 0 0 m1 rl[j].r).bind fun m2 => mayR m2 (rl.drop (j + 1))) := by
          show _ = _
          rw [HD.out, ed, mayR_cons]
        have HSZ : Hid (Sz 120 rl[j].l < 3100 ∧ Sz 120 rl[j].r < 3100) := ⟨(HOK.out.2.2.2 _ (List.getElem_mem hjs)).1.2, (HOK.out.2.2.2 _ (List.getElem_mem hjs)).2.2⟩
        have hm1 : m ≤ 6200 * j := HM.out
        have HGW : Hid (wr.grownBy (wr.alloc (.cells #[.bool bb, .int .i64 lk, .int .i64 ls, .slice la ln lca, .int .i64 rk, .int .i64 rs, .slice ra rn rca] 41)) (some w1.heap.size)) := grownR_below (below_alloc _ _) _
        have hcl1 := hcl m (wr.alloc (.cells #[.bool bb, .int .i64 lk, .int .i64 ls, .slice la ln lca, .int .i64 rk, .int .i64 rs, .slice ra rn rca] 41)) (by omega) HGW.out (HC.out.below (below_alloc _ _))
        have HCR : Hid (∀ m W, m ≤ 900000 → wr.grownBy W (some w1.heap.size) → ChkAt W w1.heap.size m → Calls Tryz.prog 30 #[.pointer (some ⟨w1.heap.size, 0, none⟩), .agg #[.int .i64 rk, .int .i64 rs, .slice ra rn rca], .int .i64 0, .int .i64 0] W fun e w'' => MayT w1.heap.size (mayN 120 0 0 m rl[j].r) W e w'') := hcr
        have HRB : Hid ((wr.alloc (.cells #[.bool bb, .int .i64 lk, .int .i64 ls, .slice la ln lca, .int .i64 rk, .int .i64 rs, .slice ra rn rca] 41)).heap[wr.heap.size]? = some (.cells #[.bool bb, .int .i64 lk, .int .i64 ls, .slice la ln lca, .int .i64 rk, .int .i64 rs, .slice ra rn rca] 41 (0, 0))) := heap_new' _ _
        obtain ⟨q1, hq1⟩ : ∃ x, x = mayN 120 0 0 m rl[j].l := ⟨_, rfl⟩
        rw [← hq1] at hcl1 HD1
        have HQ1 : Hid (∀ x, q1 = some x → x ≤ m + 3100) := fun x hx => by
          have := mayN_le (hq1.symm.trans hx)
          have := HSZ.out.1
          omega
        clear hcl hcr HD ed hq1
        go_wp2_with fail
        refine hcl1.mono ?_
        rintro e w2 ⟨b1, m1, rfl, hc2, hg2, hb1, hb2⟩
        clear hcl1
        have HC2 : Hid (ChkAt w2 w1.heap.size m1) := hc2
        have HG2 : Hid (wr.grownBy w2 (some w1.heap.size)) := HGW.out.trans hg2
        have HBB1 : Hid (b1 = q1.isSome ∧ (b1 = true → q1 = some m1)) := ⟨hb1, hb2⟩
        have e2 : w2.heap[wr.heap.size]? = some (.cells #[.bool bb, .int .i64 lk, .int .i64 ls, .slice la ln lca, .int .i64 rk, .int .i64 rs, .slice ra rn rca] 41 (0, 0)) := (hg2.block _ (by simp) (by simp; omega)).trans HRB.out
        have d4 : w2.cell? ⟨wr.heap.size, 4, none⟩ = some (.int .i64 rk) := cell_of_row _ _ 4 _ _ _ e2
        have d5 : w2.cell? ⟨wr.heap.size, 5, none⟩ = some (.int .i64 rs) := cell_of_row _ _ 5 _ _ _ e2
        have d6 : w2.cell? ⟨wr.heap.size, 6, none⟩ = some (.slice ra rn rca) := cell_of_row _ _ 6 _ _ _ e2
        have hlt2 : wr.heap.size < w2.heap.size := (Array.getElem?_eq_some_iff.1 e2).1
        clear hc2 hg2 hb1 hb2 e2 c0 c1 c2 c3 c4 c5 c6
        cases hbv : b1 with
        | false =>
          have HE : Hid (q = false) := by
            show _ = _
            have h5 := HBB1.out.1
            rw [hbv] at h5
            rw [HQ3.out, HD1.out]
            cases q1 with
            | none => rfl
            | some x => cases h5
          have hBB : Below w.heap.size w w2 := ⟨HG2.out.os.trans HBW.out.os, HG2.out.tape.trans HBW.out.tape, HG2.out.output.trans HBW.out.output, Nat.le_trans HBW.out.size HG2.out.size, fun k hk => (HG2.out.block k (by omega) (by simp; omega)).trans (HBW.out.block k hk)⟩
          clear hbv
          go_wp2
          go_ret
          rw [HE.out]
          exact ⟨rfl, hBB⟩
        | true =>
          have HQ1S : Hid (q1 = some m1) := HBB1.out.2 hbv
          have hm2 : m1 ≤ m + 3100 := HQ1.out _ HQ1S.out
          have hcr1 := HCR.out m1 w2 (by omega) HG2.out HC2.out
          have HD2 : Hid (mayR 0 rl = (mayN 120 0 0 m1 rl[j].r).bind fun m2 => mayR m2 (rl.drop (j + 1))) := by
            show _ = _
            rw [HD1.out, HQ1S.out]; rfl
          obtain ⟨q2, hq2⟩ : ∃ x, x = mayN 120 0 0 m1 rl[j].r := ⟨_, rfl⟩
          rw [← hq2] at hcr1 HD2
          have HQ2' : Hid (∀ x, q2 = some x → x ≤ m1 + 3100) := fun x hx => by
            have := mayN_le (hq2.symm.trans hx)
            have := HSZ.out.2
            omega
          clear hbv hq2 HD1
          go_wp2_with fail
          refine hcr1.mono ?_
          rintro e w3 ⟨b2, m2, rfl, hc3, hg3, hb1, hb2⟩
          clear hcr1
          have HC3 : Hid (ChkAt w3 w1.heap.size m2) := hc3
          have HG3 : Hid (wr.grownBy w3 (some w1.heap.size)) := HG2.out.trans hg3
          have HBB2 : Hid (b2 = q2.isSome ∧ (b2 = true → q2 = some m2)) := ⟨hb1, hb2⟩
          clear hc3 hg3 hb1 hb2
          cases hbv : b2 with
          | false =>
            have HE : Hid (q = false) := by
              show _ = _
              have h5 := HBB2.out.1
              rw [hbv] at h5
              rw [HQ3.out, HD2.out]
              cases q2 with
              | none => rfl
              | some x => cases h5
            have hBB : Below w.heap.size w w3 := ⟨HG3.out.os.trans HBW.out.os, HG3.out.tape.trans HBW.out.tape, HG3.out.output.trans HBW.out.output, Nat.le_trans HBW.out.size HG3.out.size, fun k hk => (HG3.out.block k (by omega) (by simp; omega)).trans (HBW.out.block k hk)⟩
            clear hbv
            go_wp2
            go_ret
            rw [HE.out]
            exact ⟨rfl, hBB⟩
          | true =>
            have HQ2S : Hid (q2 = some m2) := HBB2.out.2 hbv
            have HM2 : Hid (m2 ≤ 6200 * (j + 1)) := by
              have := HQ2'.out _ HQ2S.out
              show _ ≤ _
              omega
            have HD3 : Hid (mayR 0 rl = mayR m2 (rl.drop (j + 1))) := by
              show _ = _
              rw [HD2.out, HQ2S.out]; rfl
            have HE3 : Hid (w3.heap[w.heap.size]? = some (.cells #[.slice za ns ca, .slice (some ⟨ga, oa, none⟩) nr da] 27 (0, 0))) := (HG3.out.block _ hlt (by simp; omega)).trans HEA'.out
            clear hbv
            go_wp2
            go_roundw
            case rel => exact ⟨j + 1, m2, by omega, by go_num, HD3, HM2, HC3, HE3.out, HG.out.trans HG3.out⟩
            case measure => simp [intOf]; omega
      · have hjl' : decide ((j : Int) < (nr : Int)) = false := by simp; omega
        have HE : Hid (q = ((m : Int) == (ns : Int))) := by
          show _ = _
          rw [HQ3.out, HD.out, List.drop_eq_nil_of_le (by rw [← HNR.out]; omega)]
          show (some m == some ns) = _
          by_cases e : m = ns
          · subst e; simp
          · have e2 : ((m : Int) == (ns : Int)) = false := by simp; omega
            rw [e2]
            simp [e]
        have cm : wr.cell? ⟨w1.heap.size, 0, none⟩ = some (.int .i64 (m : Int)) := cell_of_row _ _ 0 _ _ _ HC.out
        have cp : wr.cell? ⟨w.heap.size, 0, none⟩ = some (.slice za ns ca) := cell_of_row _ _ 0 _ _ _ hEA
        clear hEA
        go_wp2
        go_ret
        rw [HE.out]
        exact ⟨rfl, HBW.out⟩
end Go.Proofs.YtfdjchnckjgapaaGreatDoor
