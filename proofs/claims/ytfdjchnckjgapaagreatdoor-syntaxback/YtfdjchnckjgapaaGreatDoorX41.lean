/-
  MayP2
-/
import Derived.Test.YtfdjchnckjgapaaGreatDoorX40
namespace Go.Proofs.YtfdjchnckjgapaaGreatDoor
open Go.RowKit Go.Shelf S1
set_option linter.unusedVariables false
theorem meetS_le {m m' : Nat} {s : Int} (h : meetS m s = some m') : m' ≤ m + 1 := by
  unfold meetS at h
  split at h
  · cases h; omega
  · split at h
    · cases h; omega
    · cases h
theorem metL_le {g : Nat → Nd → Option Nat} {z : Nd → Nat} (hg : ∀ m x m', g m x = some m' → m' ≤ m + z x) : ∀ {l : List Nd} {m m' : Nat}, metL g m l = some m' → m' ≤ m + (l.map z).sum
  | [], m, m', h => by cases h; simp
  | x :: l, m, m', h => by
    unfold metL at h
    split at h
    · cases h
    · rename_i m1 h1
      have := hg _ _ _ h1
      have := metL_le hg h
      simp; omega
theorem metN_le : ∀ {f m : Nat} {n : Nd} {m' : Nat}, metN f m n = some m' → m' ≤ m + Sz f n
  | 0, m, n, m', h => by
    unfold metN at h
    split at h
    · have := meetS_le h; simp [Sz]; omega
    · cases h; simp
  | f + 1, m, n, m', h => by
    unfold metN at h
    split at h
    · have := meetS_le h; simp [Sz]; omega
    · have := metL_le (z := Sz f) (fun m x m' h => metN_le h) h
      simp [Sz]; omega
theorem mayN_le {f dp sg m : Nat} {n : Nd} {m' : Nat} (h : mayN f dp sg m n = some m') : m' ≤ m + Sz f n := by
  unfold mayN at h
  split at h
  · exact metN_le h
  · cases h
theorem grownR_new {w w' : World} {C : Nat} (h : w.grownBy w' (some C)) (o : Obj) : w.grownBy (w'.alloc o) (some C) := h.trans (grownR_below (below_alloc _ _) _)
def MayT (C : Nat) (q : Option Nat) (w : World) (e : Ending) (w' : World) : Prop :=
  ∃ b m', e = .returned (.bool b) ∧ ChkAt w' C m' ∧ w.grownBy w' (some C) ∧ b = q.isSome ∧ (b = true → q = some m')
theorem ChkAt.below {w w' : World} {C m : Nat} (h : ChkAt w C m) (hB : Below w.heap.size w w') : ChkAt w' C m := (hB.block C (Array.getElem?_eq_some_iff.1 h).1).trans h
set_option maxRecDepth 100000 in
set_option maxHeartbeats 16000000 in
theorem mayBe_body (n : Nd) (za : Option Addr) (ca : Nat) (f dp sg m C : Nat) (hlen : n.kids.length ≤ 3100) (hdp : dp ≤ 20) (hsg : sg ≤ 3) (hm : m + (n.kids.map (Sz f)).sum + 1 ≤ 1000000) (w : World) (hC : ChkAt w C m) (q : Option Nat)
    (hq1 : n.k = 1 → q = if n.kids = [] then meetS m n.s else none) (hq2 : n.k ≠ 1 → okH sg n = false → q = none) (hq3 : n.k ≠ 1 → okH sg n = true → q = mayK f dp (sgs sg n.k) n.k m n.kids)
    (HR : ∀ i, (h : i < n.kids.length) → n.kids.length ≤ ca ∧ ∃ ga oa xa ka, za = some ⟨ga, oa, none⟩ ∧ ga < w.heap.size ∧ ga ≠ C ∧ w.cell? ⟨ga, oa + i * 3, none⟩ = some (.int .i64 n.kids[i].k) ∧ w.cell? ⟨ga, oa + i * 3 + 1, none⟩ = some (.int .i64 n.kids[i].s) ∧ w.cell? ⟨ga, oa + i * 3 + 2, none⟩ = some (.slice xa n.kids[i].kids.length ka) ∧
      (∀ (dp' sg' m' : Nat) W, dp' ≤ 20 → sg' ≤ 3 → m' + Sz f n.kids[i] ≤ 1000000 → w.grownBy W (some C) → ChkAt W C m' → Calls Tryz.prog 30 #[.pointer (some ⟨C, 0, none⟩), .agg #[.int .i64 n.kids[i].k, .int .i64 n.kids[i].s, .slice xa n.kids[i].kids.length ka], .int .i64 (dp' : Int), .int .i64 (sg' : Int)] W fun e w'' => MayT C (mayN f dp' sg' m' n.kids[i]) W e w'')) :
    Calls Tryz.prog 30 #[.pointer (some ⟨C, 0, none⟩), .agg #[.int .i64 n.k, .int .i64 n.s, .slice za n.kids.length ca], .int .i64 (dp : Int), .int .i64 (sg : Int)] w fun e w' => MayT C q w e w' := by
  have hCl : C < w.heap.size := (Array.getElem?_eq_some_iff.1 hC).1
  have HC : Hid (ChkAt w C m) := hC
  have HHR : Hid (∀ i, (h : i < n.kids.length) → n.kids.length ≤ ca ∧ ∃ (ga oa : Nat) (xa : Option Addr) (ka : Nat) (yk ys : Int) (yl : Nat), yk = n.kids[i].k ∧ za = some ⟨ga, oa, none⟩ ∧ ga < w.heap.size ∧ ga ≠ C ∧ w.cell? ⟨ga, oa + i * 3, none⟩ = some (.int .i64 yk) ∧ w.cell? ⟨ga, oa + i * 3 + 1, none⟩ = some (.int .i64 ys) ∧ w.cell? ⟨ga, oa + i * 3 + 2, none⟩ = some (.slice xa yl ka) ∧
      (∀ (dp' sg' m' : Nat) W, dp' ≤ 20 → sg' ≤ 3 → m' + Sz f n.kids[i] ≤ 1000000 → w.grownBy W (some C) → ChkAt W C m' → Calls Tryz.prog 30 #[.pointer (some ⟨C, 0, none⟩), .agg #[.int .i64 yk, .int .i64 ys, .slice xa yl ka], .int .i64 (dp' : Int), .int .i64 (sg' : Int)] W fun e w'' => MayT C (mayN f dp' sg' m' n.kids[i]) W e w'')) := fun i hi => by
    obtain ⟨h1, ga, oa, xa, ka, h⟩ := HR i hi
    exact ⟨h1, ga, oa, xa, ka, _, _, _, rfl, h⟩
  have HM : Hid (m + (n.kids.map (Sz f)).sum + 1 ≤ 1000000) := hm
  have HQ1 : Hid (n.k = 1 → q = if n.kids = [] then meetS m n.s else none) := hq1
  have HQ2 : Hid (n.k ≠ 1 → okH sg n = false → q = none) := hq2
  have HQ3 : Hid (n.k ≠ 1 → okH sg n = true → q = mayK f dp (sgs sg n.k) n.k m n.kids) := hq3
  have hm1 : m + 1 ≤ 1000000 := by omega
  clear HR hm hq1 hq2 hq3 hC
  obtain ⟨len, hle⟩ : ∃ len, len = n.kids.length := ⟨_, rfl⟩
  obtain ⟨nk, hnk⟩ : ∃ x, x = n.k := ⟨_, rfl⟩
  obtain ⟨ns, hns⟩ : ∃ x, x = n.s := ⟨_, rfl⟩
  rw [← hle, ← hnk, ← hns]
  have HLEN : Hid (len = n.kids.length ∧ nk = n.k ∧ ns = n.s) := ⟨hle, hnk, hns⟩
  have hlen' : len ≤ 3100 := by omega
  have HG0 : Hid (w.grownBy (w.alloc (.cells #[.int .i64 nk, .int .i64 ns, .slice za len ca] 39)) (some C)) := grownR_below (below_alloc _ _) _
  have HEA : Hid ((w.alloc (.cells #[.int .i64 nk, .int .i64 ns, .slice za len ca] 39)).heap[w.heap.size]? = some (.cells #[.int .i64 nk, .int .i64 ns, .slice za len ca] 39 (0, 0))) := heap_new' w _
  have HC1 : Hid (ChkAt (w.alloc (.cells #[.int .i64 nk, .int .i64 ns, .slice za len ca] 39)) C m) := HC.out.below (below_alloc _ _)
  clear hle hnk hns hlen
  by_cases hk1 : nk = 1
  · have hk1' : (nk == 1) = true := by simpa using hk1
    by_cases h0 : len = 0
    · have h0' : ((len : Int) == 0) = true := by simp; omega
      have HE : Hid (q = meetS m ns) := by
        show _ = _
        rw [HQ1.out (by rw [← HLEN.out.2.1]; exact hk1), if_pos (List.length_eq_zero_iff.1 (by rw [← HLEN.out.1]; exact h0)), HLEN.out.2.2]
      have h1 := meets_any C m (by omega) ns _ HC1.out
      clear hk1 h0
      go_enter Tryz.func30, Tryz.ntmps30
      go_wp2_with fail
      refine h1.mono ?_
      rintro e w1 ⟨b, m', rfl, hc, hg, hb1, hb2⟩
      have HB1 : Hid (b = (meetS m ns).isSome ∧ (b = true → meetS m ns = some m')) := ⟨hb1, hb2⟩
      clear h1 hb1 hb2
      go_wp2
      go_ret
      rw [HE.out]
      exact ⟨b, m', rfl, hc, HG0.out.trans hg, HB1.out.1, HB1.out.2⟩
    · have h0' : ((len : Int) == 0) = false := by simp; omega
      have HE : Hid (q = none) := by
        show _ = _
        rw [HQ1.out (by rw [← HLEN.out.2.1]; exact hk1), if_neg (fun e => h0 (by rw [HLEN.out.1, e]; rfl))]
      clear hk1 h0
      go_enter Tryz.func30, Tryz.ntmps30
      go_wp2
      go_ret
      rw [HE.out]
      exact ⟨false, m, rfl, HC1.out, HG0.out, rfl, fun h => (by cases h)⟩
  have hk1' : (nk == 1) = false := by simpa using hk1
  have h1 := fun W => signOf_any nk W
  have HK1 : Hid (nk ≠ 1) := hk1
  
  cases hs : signK nk with
  | true =>
    have hne := signT_some hs
    obtain ⟨str, hstr⟩ : ∃ x, x = strOfNums (signT nk) := ⟨_, rfl⟩
    rw [← hstr] at hne h1
    clear hstr
    have HSG : Hid (sgs sg n.k = sg + 1) := by
      show _ = _
      rw [← HLEN.out.2.1]; simp [sgs, hs]
    clear hs
    by_cases hn0 : ns ≠ 0
    · have hn0' : (ns != 0) = true := by simpa using hn0
      have hn1 : (ns == 0) = false := by simpa using hn0
      have HE : Hid (q = none) := HQ2.out (by rw [← HLEN.out.2.1]; exact HK1.out) (by unfold okH; rw [← HLEN.out.2.2, hn1]; rfl)
      clear hn0 hn1
      go_enter Tryz.func30, Tryz.ntmps30
      go_wp2_with fail
      refine (h1 _).mono ?_
      rintro e w1 ⟨rfl, rfl⟩
      clear h1
      go_wp2
      go_ret
      rw [HE.out]
      exact ⟨false, m, rfl, HC1.out, HG0.out, rfl, fun h => (by cases h)⟩
    have hn0 : ns = 0 := Decidable.not_not.1 hn0
    subst hn0
    have HNS : Hid (n.s = 0) := HLEN.out.2.2.symm
    by_cases hs3 : 3 < sg + 1
    · have hs3' : decide ((sg : Int) + 1 > 3) = true := by simp; omega
      have hs4 : decide (sg + 1 ≤ 3) = false := by simp; omega
      have HE : Hid (q = none) := HQ2.out (by rw [← HLEN.out.2.1]; exact HK1.out) (by unfold okH; rw [HSG.out, HNS.out, hs4]; rfl)
      clear hs3 hs4
      go_enter Tryz.func30, Tryz.ntmps30
      go_wp2_with fail
      refine (h1 _).mono ?_
      rintro e w1 ⟨rfl, rfl⟩
      clear h1
      go_wp2
      go_ret
      rw [HE.out]
      exact ⟨false, m, rfl, HC1.out, HG0.out, rfl, fun h => (by cases h)⟩
    have hs3n : sg + 1 ≤ 3 := by omega
    have hs3' : decide ((sg : Int) + 1 > 3) = false := by simp; omega
    clear hs3
    have hs4 : decide (sg + 1 ≤ 3) = true := by simp; try omega
    have h2 := hasParts_any nk 0 za len ca (w.alloc (.cells #[.int .i64 nk, .int .i64 0, .slice za len ca] 39))
    cases hp : hasP nk len with
    | false =>
      rw [hp] at h2
      have HE : Hid (q = none) := HQ2.out (by rw [← HLEN.out.2.1]; exact HK1.out) (by unfold okH; rw [← HLEN.out.2.1, ← HLEN.out.1, hp]; simp)
      clear hp hs4
      go_enter Tryz.func30, Tryz.ntmps30
      go_wp2_with fail
      refine (h1 _).mono ?_
      rintro e w1 ⟨rfl, rfl⟩
      clear h1
      go_wp2_with fail
      refine h2.mono ?_
      rintro e w2 ⟨rfl, hB2⟩
      clear h2
      go_wp2
      go_ret
      rw [HE.out]
      exact ⟨false, m, rfl, HC1.out.below hB2, HG0.out.trans (grownR_below hB2 _), rfl, fun h => (by cases h)⟩
    | true =>
      rw [hp] at h2
      have HE : Hid (q = mayK f dp (sg + 1) nk m n.kids) := by
        show _ = _
        rw [HLEN.out.2.1, ← HSG.out]
        exact HQ3.out (by rw [← HLEN.out.2.1]; exact HK1.out) (by unfold okH; rw [HSG.out, HNS.out, ← HLEN.out.2.1, ← HLEN.out.1, hp, hs4]; rfl)
      clear hp hs4
      go_enter Tryz.func30, Tryz.ntmps30
      go_wp2_with fail
      refine (h1 _).mono ?_
      rintro e w1 ⟨rfl, rfl⟩
      clear h1
      go_wp2_with fail
      refine h2.mono ?_
      rintro e w2 ⟨rfl, hB2⟩
      clear h2
      have HG2 : Hid (w.grownBy w2 (some C)) := HG0.out.trans (grownR_below hB2 _)
      have hEA2 : w2.heap[w.heap.size]? = some (.cells #[.int .i64 nk, .int .i64 0, .slice za len ca] 39 (0, 0)) := (hB2.block _ (by simp)).trans HEA.out
      have HEA2 : Hid (w2.heap[w.heap.size]? = some (.cells #[.int .i64 nk, .int .i64 0, .slice za len ca] 39 (0, 0))) := hEA2
      have a22 : w2.cell? ⟨w.heap.size, 2, none⟩ = some (.slice za len ca) := cell_of_row _ _ 2 _ _ _ hEA2
      have hlt2 : w.heap.size < w2.heap.size := (Array.getElem?_eq_some_iff.1 hEA2).1
      have HC2 : Hid (ChkAt w2 C m) := HC1.out.below hB2
      clear hB2 hEA2
      go_wp2
      go_loopw [46] (fun x wr => ∃ (j m' : Nat), j ≤ len ∧ x = .int .i64 (j : Int) ∧ Hid (q = mayK f dp (sg + 1) nk m' (n.kids.drop j)) ∧ Hid (m' + ((n.kids.drop j).map (Sz f)).sum ≤ 1000000) ∧ Hid (ChkAt wr C m') ∧ wr.heap[w.heap.size]? = some (.cells #[.int .i64 nk, .int .i64 0, .slice za len ca] 39 (0, 0)) ∧ w.grownBy wr (some C)) (fun x _ => len - (intOf x).toNat)
      case atStart => exact ⟨0, m, Nat.zero_le _, rfl, HE, (by have := HM.out; show _ ≤ _; rw [List.drop_zero]; omega), HC2, HEA2.out, HG2.out⟩
      case round =>
        obtain ⟨j, m', hj, rfl, HD, HZ, HCr, hEA, hG⟩ := hrel
        have hlt : w.heap.size < wr.heap.size := (Array.getElem?_eq_some_iff.1 hEA).1
        have a0 : wr.cell? ⟨w.heap.size, 0, none⟩ = some (.int .i64 nk) := cell_of_row _ _ 0 _ _ _ hEA
        have HEA' : Hid (wr.heap[w.heap.size]? = some (.cells #[.int .i64 nk, .int .i64 0, .slice za len ca] 39 (0, 0))) := hEA
        clear hEA
        by_cases hjl : j < len
        · have hjl' : decide ((j : Int) < (len : Int)) = true := by simp; omega
          have hjn : j < n.kids.length := by rw [← HLEN.out.1]; exact hjl
          obtain ⟨hca, ga, oa, xa, ka, yk, ys, yl, hyk, rfl, hga, hgC, p0, p1, p2, hcall⟩ := HHR.out j hjn
          have r0 : wr.cell? ⟨ga, oa + j * 3, none⟩ = some (.int .i64 yk) := (World.cell?_of_block (a := ⟨ga, _, none⟩) (hG.block ga hga (by simpa using hgC))).trans p0
          have r1 : wr.cell? ⟨ga, oa + j * 3 + 1, none⟩ = some (.int .i64 ys) := (World.cell?_of_block (a := ⟨ga, _, none⟩) (hG.block ga hga (by simpa using hgC))).trans p1
          have r2 : wr.cell? ⟨ga, oa + j * 3 + 2, none⟩ = some (.slice xa yl ka) := (World.cell?_of_block (a := ⟨ga, _, none⟩) (hG.block ga hga (by simpa using hgC))).trans p2
          have hga' : ga < wr.heap.size := Nat.lt_of_lt_of_le hga hG.size
          have hj0 : (0 : Int) ≤ (j : Int) := by omega
          have hj1 : (j : Int) < (len : Int) := by omega
          have hca2 : len ≤ ca := by rw [HLEN.out.1]; exact hca
          have HB3 : Hid (Below wr.heap.size wr (wr.alloc (.cells #[.int .i64 yk, .int .i64 ys, .slice xa yl ka] 39))) := below_alloc _ _
          have HC3 : Hid (ChkAt (wr.alloc (.cells #[.int .i64 yk, .int .i64 ys, .slice xa yl ka] 39)) C m') := HCr.out.below (below_alloc _ _)
          have HG3 : Hid (w.grownBy (wr.alloc (.cells #[.int .i64 yk, .int .i64 ys, .slice xa yl ka] 39)) (some C)) := grownR_new hG _
          have hib := inBrackets_any yk nk (wr.alloc (.cells #[.int .i64 yk, .int .i64 ys, .slice xa yl ka] 39))
          have ed : n.kids.drop j = n.kids[j] :: n.kids.drop (j + 1) := List.drop_eq_getElem_cons hjn
          have HD1 : Hid (q = if 20 < dp + brN yk nk then none else (mayN f (dp + brN yk nk) (sg + 1) m' n.kids[j]).bind fun m2 => mayK f dp (sg + 1) nk m2 (n.kids.drop (j + 1))) := by
            show _ = _
            rw [HD.out, ed, mayK_cons, hyk]
          have HZ1 : Hid (m' + Sz f n.kids[j] + ((n.kids.drop (j + 1)).map (Sz f)).sum ≤ 1000000) := by
            have h5 := HZ.out
            rw [ed] at h5
            simp only [List.map_cons, List.sum_cons] at h5
            show _ ≤ _
            omega
          have HCALL : Hid (∀ (dp' : Nat) W, dp' ≤ 20 → w.grownBy W (some C) → ChkAt W C m' → Calls Tryz.prog 30 #[.pointer (some ⟨C, 0, none⟩), .agg #[.int .i64 yk, .int .i64 ys, .slice xa yl ka], .int .i64 (dp' : Int), .int .i64 ((sg + 1 : Nat) : Int)] W fun e w'' => MayT C (mayN f dp' (sg + 1) m' n.kids[j]) W e w'') := fun dp' W h1 h2 h3 => hcall dp' (sg + 1) m' W h1 hs3n (by have := HZ1.out; omega) h2 h3
          clear p0 p1 p2 hcall hca ed hyk HD HZ
          cases hbr : inBr yk nk with
          | false =>
            rw [hbr] at hib
            have hbn : brN yk nk = 0 := by simp [brN, hbr]
            rw [hbn] at HD1
            by_cases hdp2 : 20 < dp + 0
            · omega
            · have hdp3 : decide ((dp : Int) > 20) = false := by simp; omega
              have hcl : Calls Tryz.prog 30 #[.pointer (some ⟨C, 0, none⟩), .agg #[.int .i64 yk, .int .i64 ys, .slice xa yl ka], .int .i64 (dp : Int), .int .i64 ((sg : Int) + 1)] (wr.alloc (.cells #[.int .i64 yk, .int .i64 ys, .slice xa yl ka] 39)) fun e w'' => MayT C (mayN f (dp + 0) (sg + 1) m' n.kids[j]) (wr.alloc (.cells #[.int .i64 yk, .int .i64 ys, .slice xa yl ka] 39)) e w'' := HCALL.out (dp + 0) _ (by omega) HG3.out HC3.out
              obtain ⟨qk, hqk⟩ : ∃ x, x = mayN f (dp + 0) (sg + 1) m' n.kids[j] := ⟨_, rfl⟩
              rw [← hqk] at hcl
              have HD2 : Hid (q = qk.bind fun m2 => mayK f dp (sg + 1) nk m2 (n.kids.drop (j + 1))) := by
                show _ = _
                rw [HD1.out, if_neg hdp2, hqk]
              have HZ2 : Hid (∀ m2, qk = some m2 → m2 + ((n.kids.drop (j + 1)).map (Sz f)).sum ≤ 1000000) := fun m2 h => by
                have h5 := mayN_le (hqk.symm.trans h)
                have := HZ1.out
                omega
              clear hdp2 hbn hbr hqk HD1 HZ1
              go_wp2_with fail
              refine hib.mono ?_
              rintro e w3 ⟨rfl, rfl⟩
              clear hib
              go_wp2_with fail
              refine hcl.mono ?_
              rintro e w4 ⟨b, m2, rfl, hc4, hg4, hb1, hb2⟩
              clear hcl
              have HC4 : Hid (ChkAt w4 C m2) := hc4
              have HG4 : Hid (w.grownBy w4 (some C)) := HG3.out.trans hg4
              have HE4 : Hid (w4.heap[w.heap.size]? = some (.cells #[.int .i64 nk, .int .i64 0, .slice (some ⟨ga, oa, none⟩) len ca] 39 (0, 0))) := (hg4.block _ (by simp; omega) (by simp; omega)).trans ((HB3.out.block _ hlt).trans HEA'.out)
              have HBB : Hid (b = qk.isSome ∧ (b = true → qk = some m2)) := ⟨hb1, hb2⟩
              clear hc4 hg4 hb1 hb2
              cases hb : b with
              | false =>
                have HE2 : Hid (q = none) := by
                  show _ = _
                  have h5 := HBB.out.1
                  rw [hb] at h5
                  rw [HD2.out]
                  cases qk with
                  | none => rfl
                  | some x => cases h5
                clear hb
                go_wp2
                go_ret
                rw [HE2.out]
                exact ⟨false, m2, rfl, HC4.out, HG4.out, rfl, fun h => (by cases h)⟩
              | true =>
                have HQK : Hid (qk = some m2) := HBB.out.2 hb
                have HE2 : Hid (q = mayK f dp (sg + 1) nk m2 (n.kids.drop (j + 1))) := by
                  show _ = _
                  rw [HD2.out, HQK.out]
                  rfl
                clear hb
                go_wp2
                go_roundw
                case rel => exact ⟨j + 1, m2, by omega, by go_num, HE2, HZ2.out _ HQK.out, HC4, HE4.out, HG4.out⟩
                case measure => simp [intOf]; omega
          | true =>
            rw [hbr] at hib
            have hbn : brN yk nk = 1 := by simp [brN, hbr]
            rw [hbn] at HD1
            by_cases hdp2 : 20 < dp + 1
            · have hdp3 : decide (((dp : Int) + 1) > 20) = true := by simp; omega
              have HE2 : Hid (q = none) := by
                show _ = _
                rw [HD1.out, if_pos hdp2]
              clear hdp2 hbn hbr
              go_wp2_with fail
              refine hib.mono ?_
              rintro e w3 ⟨rfl, rfl⟩
              clear hib
              go_wp2
              go_ret
              rw [HE2.out]
              exact ⟨false, m', rfl, HC3.out, HG3.out, rfl, fun h => (by cases h)⟩
            · have hdp3 : decide (((dp : Int) + 1) > 20) = false := by simp; omega
              have hcl : Calls Tryz.prog 30 #[.pointer (some ⟨C, 0, none⟩), .agg #[.int .i64 yk, .int .i64 ys, .slice xa yl ka], .int .i64 ((dp : Int) + 1), .int .i64 ((sg : Int) + 1)] (wr.alloc (.cells #[.int .i64 yk, .int .i64 ys, .slice xa yl ka] 39)) fun e w'' => MayT C (mayN f (dp + 1) (sg + 1) m' n.kids[j]) (wr.alloc (.cells #[.int .i64 yk, .int .i64 ys, .slice xa yl ka] 39)) e w'' := HCALL.out (dp + 1) _ (by omega) HG3.out HC3.out
              obtain ⟨qk, hqk⟩ : ∃ x, x = mayN f (dp + 1) (sg + 1) m' n.kids[j] := ⟨_, rfl⟩
              rw [← hqk] at hcl
              have HD2 : Hid (q = qk.bind fun m2 => mayK f dp (sg + 1) nk m2 (n.kids.drop (j + 1))) := by
                show _ = _
                rw [HD1.out, if_neg hdp2, hqk]
              have HZ2 : Hid (∀ m2, qk = some m2 → m2 + ((n.kids.drop (j + 1)).map (Sz f)).sum ≤ 1000000) := fun m2 h => by
                have h5 := mayN_le (hqk.symm.trans h)
                have := HZ1.out
                omega
              clear hdp2 hbn hbr hqk HD1 HZ1
              go_wp2_with fail
              refine hib.mono ?_
              rintro e w3 ⟨rfl, rfl⟩
              clear hib
              go_wp2_with fail
              refine hcl.mono ?_
              rintro e w4 ⟨b, m2, rfl, hc4, hg4, hb1, hb2⟩
              clear hcl
              have HC4 : Hid (ChkAt w4 C m2) := hc4
              have HG4 : Hid (w.grownBy w4 (some C)) := HG3.out.trans hg4
              have HE4 : Hid (w4.heap[w.heap.size]? = some (.cells #[.int .i64 nk, .int .i64 0, .slice (some ⟨ga, oa, none⟩) len ca] 39 (0, 0))) := (hg4.block _ (by simp; omega) (by simp; omega)).trans ((HB3.out.block _ hlt).trans HEA'.out)
              have HBB : Hid (b = qk.isSome ∧ (b = true → qk = some m2)) := ⟨hb1, hb2⟩
              clear hc4 hg4 hb1 hb2
              cases hb : b with
              | false =>
                have HE2 : Hid (q = none) := by
                  show _ = _
                  have h5 := HBB.out.1
                  rw [hb] at h5
                  rw [HD2.out]
                  cases qk with
                  | none => rfl
                  | some x => cases h5
                clear hb
                go_wp2
                go_ret
                rw [HE2.out]
                exact ⟨false, m2, rfl, HC4.out, HG4.out, rfl, fun h => (by cases h)⟩
              | true =>
                have HQK : Hid (qk = some m2) := HBB.out.2 hb
                have HE2 : Hid (q = mayK f dp (sg + 1) nk m2 (n.kids.drop (j + 1))) := by
                  show _ = _
                  rw [HD2.out, HQK.out]
                  rfl
                clear hb
                go_wp2
                go_roundw
                case rel => exact ⟨j + 1, m2, by omega, by go_num, HE2, HZ2.out _ HQK.out, HC4, HE4.out, HG4.out⟩
                case measure => simp [intOf]; omega
        · have hjl' : decide ((j : Int) < (len : Int)) = false := by simp; omega
          have HE2 : Hid (q = some m') := by
            show _ = _
            rw [HD.out, List.drop_eq_nil_of_le (by rw [← HLEN.out.1]; omega)]
            rfl
          go_wp2
          go_ret
          rw [HE2.out]
          exact ⟨true, m', rfl, HCr.out, hG, rfl, fun _ => rfl⟩
  | false =>
    rw [signT_none hs] at h1
    have h1' : ∀ W, Calls Tryz.prog 64 #[.int .i64 nk] W fun e w' => e = .returned (.string ⟨#[]⟩) ∧ W = w' := h1
    clear h1
    have h1 := h1'
    clear h1'
    have HSG : Hid (sgs sg n.k = 0) := by
      show _ = _
      rw [← HLEN.out.2.1]; simp [sgs, hs]
    clear hs
    by_cases hn0 : ns ≠ 0
    · have hn0' : (ns != 0) = true := by simpa using hn0
      have hn1 : (ns == 0) = false := by simpa using hn0
      have HE : Hid (q = none) := HQ2.out (by rw [← HLEN.out.2.1]; exact HK1.out) (by unfold okH; rw [← HLEN.out.2.2, hn1]; rfl)
      clear hn0 hn1
      go_enter Tryz.func30, Tryz.ntmps30
      go_wp2_with fail
      refine (h1 _).mono ?_
      rintro e w1 ⟨rfl, rfl⟩
      clear h1
      go_wp2
      go_ret
      rw [HE.out]
      exact ⟨false, m, rfl, HC1.out, HG0.out, rfl, fun h => (by cases h)⟩
    have hn0 : ns = 0 := Decidable.not_not.1 hn0
    subst hn0
    have HNS : Hid (n.s = 0) := HLEN.out.2.2.symm
    have hs3n : 0 ≤ 3 := by omega
    have hs4 : decide (0 ≤ 3) = true := by simp; try omega
    have h2 := hasParts_any nk 0 za len ca (w.alloc (.cells #[.int .i64 nk, .int .i64 0, .slice za len ca] 39))
    cases hp : hasP nk len with
    | false =>
      rw [hp] at h2
      have HE : Hid (q = none) := HQ2.out (by rw [← HLEN.out.2.1]; exact HK1.out) (by unfold okH; rw [← HLEN.out.2.1, ← HLEN.out.1, hp]; simp)
      clear hp hs4
      go_enter Tryz.func30, Tryz.ntmps30
      go_wp2_with fail
      refine (h1 _).mono ?_
      rintro e w1 ⟨rfl, rfl⟩
      clear h1
      go_wp2_with fail
      refine h2.mono ?_
      rintro e w2 ⟨rfl, hB2⟩
      clear h2
      go_wp2
      go_ret
      rw [HE.out]
      exact ⟨false, m, rfl, HC1.out.below hB2, HG0.out.trans (grownR_below hB2 _), rfl, fun h => (by cases h)⟩
    | true =>
      rw [hp] at h2
      have HE : Hid (q = mayK f dp (0) nk m n.kids) := by
        show _ = _
        rw [HLEN.out.2.1, ← HSG.out]
        exact HQ3.out (by rw [← HLEN.out.2.1]; exact HK1.out) (by unfold okH; rw [HSG.out, HNS.out, ← HLEN.out.2.1, ← HLEN.out.1, hp, hs4]; rfl)
      clear hp hs4
      go_enter Tryz.func30, Tryz.ntmps30
      go_wp2_with fail
      refine (h1 _).mono ?_
      rintro e w1 ⟨rfl, rfl⟩
      clear h1
      go_wp2_with fail
      refine h2.mono ?_
      rintro e w2 ⟨rfl, hB2⟩
      clear h2
      have HG2 : Hid (w.grownBy w2 (some C)) := HG0.out.trans (grownR_below hB2 _)
      have hEA2 : w2.heap[w.heap.size]? = some (.cells #[.int .i64 nk, .int .i64 0, .slice za len ca] 39 (0, 0)) := (hB2.block _ (by simp)).trans HEA.out
      have HEA2 : Hid (w2.heap[w.heap.size]? = some (.cells #[.int .i64 nk, .int .i64 0, .slice za len ca] 39 (0, 0))) := hEA2
      have a22 : w2.cell? ⟨w.heap.size, 2, none⟩ = some (.slice za len ca) := cell_of_row _ _ 2 _ _ _ hEA2
      have hlt2 : w.heap.size < w2.heap.size := (Array.getElem?_eq_some_iff.1 hEA2).1
      have HC2 : Hid (ChkAt w2 C m) := HC1.out.below hB2
      clear hB2 hEA2
      go_wp2
      go_loopw [46] (fun x wr => ∃ (j m' : Nat), j ≤ len ∧ x = .int .i64 (j : Int) ∧ Hid (q = mayK f dp (0) nk m' (n.kids.drop j)) ∧ Hid (m' + ((n.kids.drop j).map (Sz f)).sum ≤ 1000000) ∧ Hid (ChkAt wr C m') ∧ wr.heap[w.heap.size]? = some (.cells #[.int .i64 nk, .int .i64 0, .slice za len ca] 39 (0, 0)) ∧ w.grownBy wr (some C)) (fun x _ => len - (intOf x).toNat)
      case atStart => exact ⟨0, m, Nat.zero_le _, rfl, HE, (by have := HM.out; show _ ≤ _; rw [List.drop_zero]; omega), HC2, HEA2.out, HG2.out⟩
      case round =>
        obtain ⟨j, m', hj, rfl, HD, HZ, HCr, hEA, hG⟩ := hrel
        have hlt : w.heap.size < wr.heap.size := (Array.getElem?_eq_some_iff.1 hEA).1
        have a0 : wr.cell? ⟨w.heap.size, 0, none⟩ = some (.int .i64 nk) := cell_of_row _ _ 0 _ _ _ hEA
        have HEA' : Hid (wr.heap[w.heap.size]? = some (.cells #[.int .i64 nk, .int .i64 0, .slice za len ca] 39 (0, 0))) := hEA
        clear hEA
        by_cases hjl : j < len
        · have hjl' : decide ((j : Int) < (len : Int)) = true := by simp; omega
          have hjn : j < n.kids.length := by rw [← HLEN.out.1]; exact hjl
          obtain ⟨hca, ga, oa, xa, ka, yk, ys, yl, hyk, rfl, hga, hgC, p0, p1, p2, hcall⟩ := HHR.out j hjn
          have r0 : wr.cell? ⟨ga, oa + j * 3, none⟩ = some (.int .i64 yk) := (World.cell?_of_block (a := ⟨ga, _, none⟩) (hG.block ga hga (by simpa using hgC))).trans p0
          have r1 : wr.cell? ⟨ga, oa + j * 3 + 1, none⟩ = some (.int .i64 ys) := (World.cell?_of_block (a := ⟨ga, _, none⟩) (hG.block ga hga (by simpa using hgC))).trans p1
          have r2 : wr.cell? ⟨ga, oa + j * 3 + 2, none⟩ = some (.slice xa yl ka) := (World.cell?_of_block (a := ⟨ga, _, none⟩) (hG.block ga hga (by simpa using hgC))).trans p2
          have hga' : ga < wr.heap.size := Nat.lt_of_lt_of_le hga hG.size
          have hj0 : (0 : Int) ≤ (j : Int) := by omega
          have hj1 : (j : Int) < (len : Int) := by omega
          have hca2 : len ≤ ca := by rw [HLEN.out.1]; exact hca
          have HB3 : Hid (Below wr.heap.size wr (wr.alloc (.cells #[.int .i64 yk, .int .i64 ys, .slice xa yl ka] 39))) := below_alloc _ _
          have HC3 : Hid (ChkAt (wr.alloc (.cells #[.int .i64 yk, .int .i64 ys, .slice xa yl ka] 39)) C m') := HCr.out.below (below_alloc _ _)
          have HG3 : Hid (w.grownBy (wr.alloc (.cells #[.int .i64 yk, .int .i64 ys, .slice xa yl ka] 39)) (some C)) := grownR_new hG _
          have hib := inBrackets_any yk nk (wr.alloc (.cells #[.int .i64 yk, .int .i64 ys, .slice xa yl ka] 39))
          have ed : n.kids.drop j = n.kids[j] :: n.kids.drop (j + 1) := List.drop_eq_getElem_cons hjn
          have HD1 : Hid (q = if 20 < dp + brN yk nk then none else (mayN f (dp + brN yk nk) (0) m' n.kids[j]).bind fun m2 => mayK f dp (0) nk m2 (n.kids.drop (j + 1))) := by
            show _ = _
            rw [HD.out, ed, mayK_cons, hyk]
          have HZ1 : Hid (m' + Sz f n.kids[j] + ((n.kids.drop (j + 1)).map (Sz f)).sum ≤ 1000000) := by
            have h5 := HZ.out
            rw [ed] at h5
            simp only [List.map_cons, List.sum_cons] at h5
            show _ ≤ _
            omega
          have HCALL : Hid (∀ (dp' : Nat) W, dp' ≤ 20 → w.grownBy W (some C) → ChkAt W C m' → Calls Tryz.prog 30 #[.pointer (some ⟨C, 0, none⟩), .agg #[.int .i64 yk, .int .i64 ys, .slice xa yl ka], .int .i64 (dp' : Int), .int .i64 ((0 : Nat) : Int)] W fun e w'' => MayT C (mayN f dp' (0) m' n.kids[j]) W e w'') := fun dp' W h1 h2 h3 => hcall dp' (0) m' W h1 hs3n (by have := HZ1.out; omega) h2 h3
          clear p0 p1 p2 hcall hca ed hyk HD HZ
          cases hbr : inBr yk nk with
          | false =>
            rw [hbr] at hib
            have hbn : brN yk nk = 0 := by simp [brN, hbr]
            rw [hbn] at HD1
            by_cases hdp2 : 20 < dp + 0
            · omega
            · have hdp3 : decide ((dp : Int) > 20) = false := by simp; omega
              have hcl : Calls Tryz.prog 30 #[.pointer (some ⟨C, 0, none⟩), .agg #[.int .i64 yk, .int .i64 ys, .slice xa yl ka], .int .i64 (dp : Int), .int .i64 0] (wr.alloc (.cells #[.int .i64 yk, .int .i64 ys, .slice xa yl ka] 39)) fun e w'' => MayT C (mayN f (dp + 0) (0) m' n.kids[j]) (wr.alloc (.cells #[.int .i64 yk, .int .i64 ys, .slice xa yl ka] 39)) e w'' := HCALL.out (dp + 0) _ (by omega) HG3.out HC3.out
              obtain ⟨qk, hqk⟩ : ∃ x, x = mayN f (dp + 0) (0) m' n.kids[j] := ⟨_, rfl⟩
              rw [← hqk] at hcl
              have HD2 : Hid (q = qk.bind fun m2 => mayK f dp (0) nk m2 (n.kids.drop (j + 1))) := by
                show _ = _
                rw [HD1.out, if_neg hdp2, hqk]
              have HZ2 : Hid (∀ m2, qk = some m2 → m2 + ((n.kids.drop (j + 1)).map (Sz f)).sum ≤ 1000000) := fun m2 h => by
                have h5 := mayN_le (hqk.symm.trans h)
                have := HZ1.out
                omega
              clear hdp2 hbn hbr hqk HD1 HZ1
              go_wp2_with fail
              refine hib.mono ?_
              rintro e w3 ⟨rfl, rfl⟩
              clear hib
              go_wp2_with fail
              refine hcl.mono ?_
              rintro e w4 ⟨b, m2, rfl, hc4, hg4, hb1, hb2⟩
              clear hcl
              have HC4 : Hid (ChkAt w4 C m2) := hc4
              have HG4 : Hid (w.grownBy w4 (some C)) := HG3.out.trans hg4
              have HE4 : Hid (w4.heap[w.heap.size]? = some (.cells #[.int .i64 nk, .int .i64 0, .slice (some ⟨ga, oa, none⟩) len ca] 39 (0, 0))) := (hg4.block _ (by simp; omega) (by simp; omega)).trans ((HB3.out.block _ hlt).trans HEA'.out)
              have HBB : Hid (b = qk.isSome ∧ (b = true → qk = some m2)) := ⟨hb1, hb2⟩
              clear hc4 hg4 hb1 hb2
              cases hb : b with
              | false =>
                have HE2 : Hid (q = none) := by
                  show _ = _
                  have h5 := HBB.out.1
                  rw [hb] at h5
                  rw [HD2.out]
                  cases qk with
                  | none => rfl
                  | some x => cases h5
                clear hb
                go_wp2
                go_ret
                rw [HE2.out]
                exact ⟨false, m2, rfl, HC4.out, HG4.out, rfl, fun h => (by cases h)⟩
              | true =>
                have HQK : Hid (qk = some m2) := HBB.out.2 hb
                have HE2 : Hid (q = mayK f dp (0) nk m2 (n.kids.drop (j + 1))) := by
                  show _ = _
                  rw [HD2.out, HQK.out]
                  rfl
                clear hb
                go_wp2
                go_roundw
                case rel => exact ⟨j + 1, m2, by omega, by go_num, HE2, HZ2.out _ HQK.out, HC4, HE4.out, HG4.out⟩
                case measure => simp [intOf]; omega
          | true =>
            rw [hbr] at hib
            have hbn : brN yk nk = 1 := by simp [brN, hbr]
            rw [hbn] at HD1
            by_cases hdp2 : 20 < dp + 1
            · have hdp3 : decide (((dp : Int) + 1) > 20) = true := by simp; omega
              have HE2 : Hid (q = none) := by
                show _ = _
                rw [HD1.out, if_pos hdp2]
              clear hdp2 hbn hbr
              go_wp2_with fail
              refine hib.mono ?_
              rintro e w3 ⟨rfl, rfl⟩
              clear hib
              go_wp2
              go_ret
              rw [HE2.out]
              exact ⟨false, m', rfl, HC3.out, HG3.out, rfl, fun h => (by cases h)⟩
            · have hdp3 : decide (((dp : Int) + 1) > 20) = false := by simp; omega
              have hcl : Calls Tryz.prog 30 #[.pointer (some ⟨C, 0, none⟩), .agg #[.int .i64 yk, .int .i64 ys, .slice xa yl ka], .int .i64 ((dp : Int) + 1), .int .i64 0] (wr.alloc (.cells #[.int .i64 yk, .int .i64 ys, .slice xa yl ka] 39)) fun e w'' => MayT C (mayN f (dp + 1) (0) m' n.kids[j]) (wr.alloc (.cells #[.int .i64 yk, .int .i64 ys, .slice xa yl ka] 39)) e w'' := HCALL.out (dp + 1) _ (by omega) HG3.out HC3.out
              obtain ⟨qk, hqk⟩ : ∃ x, x = mayN f (dp + 1) (0) m' n.kids[j] := ⟨_, rfl⟩
              rw [← hqk] at hcl
              have HD2 : Hid (q = qk.bind fun m2 => mayK f dp (0) nk m2 (n.kids.drop (j + 1))) := by
                show _ = _
                rw [HD1.out, if_neg hdp2, hqk]
              have HZ2 : Hid (∀ m2, qk = some m2 → m2 + ((n.kids.drop (j + 1)).map (Sz f)).sum ≤ 1000000) := fun m2 h => by
                have h5 := mayN_le (hqk.symm.trans h)
                have := HZ1.out
                omega
              clear hdp2 hbn hbr hqk HD1 HZ1
              go_wp2_with fail
              refine hib.mono ?_
              rintro e w3 ⟨rfl, rfl⟩
              clear hib
              go_wp2_with fail
              refine hcl.mono ?_
              rintro e w4 ⟨b, m2, rfl, hc4, hg4, hb1, hb2⟩
              clear hcl
              have HC4 : Hid (ChkAt w4 C m2) := hc4
              have HG4 : Hid (w.grownBy w4 (some C)) := HG3.out.trans hg4
              have HE4 : Hid (w4.heap[w.heap.size]? = some (.cells #[.int .i64 nk, .int .i64 0, .slice (some ⟨ga, oa, none⟩) len ca] 39 (0, 0))) := (hg4.block _ (by simp; omega) (by simp; omega)).trans ((HB3.out.block _ hlt).trans HEA'.out)
              have HBB : Hid (b = qk.isSome ∧ (b = true → qk = some m2)) := ⟨hb1, hb2⟩
              clear hc4 hg4 hb1 hb2
              cases hb : b with
              | false =>
                have HE2 : Hid (q = none) := by
                  show _ = _
                  have h5 := HBB.out.1
                  rw [hb] at h5
                  rw [HD2.out]
                  cases qk with
                  | none => rfl
                  | some x => cases h5
                clear hb
                go_wp2
                go_ret
                rw [HE2.out]
                exact ⟨false, m2, rfl, HC4.out, HG4.out, rfl, fun h => (by cases h)⟩
              | true =>
                have HQK : Hid (qk = some m2) := HBB.out.2 hb
                have HE2 : Hid (q = mayK f dp (0) nk m2 (n.kids.drop (j + 1))) := by
                  show _ = _
                  rw [HD2.out, HQK.out]
                  rfl
                clear hb
                go_wp2
                go_roundw
                case rel => exact ⟨j + 1, m2, by omega, by go_num, HE2, HZ2.out _ HQK.out, HC4, HE4.out, HG4.out⟩
                case measure => simp [intOf]; omega
        · have hjl' : decide ((j : Int) < (len : Int)) = false := by simp; omega
          have HE2 : Hid (q = some m') := by
            show _ = _
            rw [HD.out, List.drop_eq_nil_of_le (by rw [← HLEN.out.1]; omega)]
            rfl
          go_wp2
          go_ret
          rw [HE2.out]
          exact ⟨true, m', rfl, HCr.out, hG, rfl, fun _ => rfl⟩
theorem mayBe_any : ∀ (d : Nat) (n : Nd) (z : Value) (dp sg m C : Nat) (w : World), Dp d n.kids → dp ≤ 20 → sg ≤ 3 → m + Sz d n ≤ 1000000 → ChkAt w C m → KdX (fun k => k < w.heap.size ∧ k ≠ C) w z n.kids →
    Calls Tryz.prog 30 #[.pointer (some ⟨C, 0, none⟩), ndV n z, .int .i64 (dp : Int), .int .i64 (sg : Int)] w fun e w' => MayT C (mayN d dp sg m n) w e w'
  | 0, n, z, dp, sg, m, C, w, hd, hdp, hsg, hm, hC, hz => by
    obtain ⟨a, ca, rfl, _⟩ := hz.slice
    have h0 : n.kids = [] := hd
    have hm' : m + 1 ≤ 1000000 := hm
    refine mayBe_body n a ca 0 dp sg m C (by rw [h0]; simp) hdp hsg (by rw [h0]; simp; omega) w hC _ (fun h => mayN_set h) (fun h h2 => mayN_bad h h2) (fun h h2 => ?_) (fun i hi => by rw [h0] at hi; cases hi)
    rw [mayN_zero h0, if_neg h, if_pos h2, h0]
    rfl
  | d + 1, n, z, dp, sg, m, C, w, hd, hdp, hsg, hm, hC, hz => by
    obtain ⟨a, ca, rfl, _⟩ := hz.slice
    have hm' : m + (1 + (n.kids.map (Sz d)).sum) ≤ 1000000 := hm
    refine mayBe_body n a ca d dp sg m C hd.1 hdp hsg (by omega) w hC _ (fun h => mayN_set h) (fun h h2 => mayN_bad h h2) (fun h h2 => mayN_kids h h2) (fun i hi => ?_)
    obtain ⟨g, off, cap, z', e1, e2, e3, e4, e5, e6, e7⟩ := hz.at i hi
    obtain ⟨rfl, _, rfl⟩ : a = some ⟨g, off, none⟩ ∧ n.kids.length = n.kids.length ∧ ca = cap := by simpa using e1
    obtain ⟨xa, xc, rfl, _⟩ := e7.slice
    refine ⟨e2, g, off, xa, xc, rfl, e3.1, e3.2, e4, e5, e6, fun dp' sg' m' W h1 h2 h3 hG hC' => ?_⟩
    exact mayBe_any d n.kids[i] _ dp' sg' m' C W (hd.2 _ (List.getElem_mem hi)) h1 h2 h3 hC' (e7.to (fun k hk => ⟨hG.block k hk.1 (by simpa using hk.2), Nat.lt_of_lt_of_le hk.1 hG.size, hk.2⟩))
end Go.Proofs.YtfdjchnckjgapaaGreatDoor
