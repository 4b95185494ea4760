/-
  subset.Build.
-/
import Derived.Test.YtklhjjgnhigbiaaGreatDoorGH
import Derived.Deep.RegionLaw
import Derived.Deep.CutRange
import Derived.Deep.AppendLies
namespace Go.Proofs.YtklhjjgnhigbiaaGreatDoor
open Go.RowKit Go.Shelf
set_option linter.unusedVariables false

theorem oneTo_any (m n : Int) (w : World) : Calls Tryz.prog 21 #[.int .i64 m, .int .i64 n] w fun e w' => e = .returned (.bool (decide (1 ≤ n) && decide (n ≤ m))) ∧ w' = w := by
  go_enter Tryz.func21, Tryz.ntmps21
  by_cases h : 1 ≤ n
  · have h1 : decide (1 ≤ n) = true := decide_eq_true h
    go_wp2
    go_ret
    exact ⟨by first | (simp; done) | simp [h], by first | rfl | trivial⟩
  · have h1 : decide (1 ≤ n) = false := decide_eq_false h
    go_wp2
    go_ret
    exact ⟨by first | (simp; done) | simp [h], by first | rfl | trivial⟩
/-- As it is made: nothing was met. -/
theorem met_made {W0 W : World} {base : Nat} (h : W = ((W0.alloc (.cells #[.slice none 0 0] 27)).alloc (.map #[] 0)).alloc (.cells #[.map (some (W0.heap.size + 1))] 64)) (hb : base ≤ W0.heap.size) : MetI base W0.heap.size (W0.heap.size + 1 + 1) (W0.heap.size + 1) W (.slice none 0 0) [] [] := by
  obtain ⟨h1, h2, h3, h4, h5⟩ := alloc3 h
  refine ⟨hb, by omega, by omega, h1, h3, rfl, World.ownsRow_nil _ _ _ _, fun i h => (by cases h), fun u h => (by cases h), .map [], ?_, ?_⟩
  · obtain ⟨V, hV⟩ : ∃ V, V = W0.alloc (.cells #[.slice none 0 0] 27) := ⟨_, rfl⟩
    rw [← hV] at h
    have hs : V.heap.size = W0.heap.size + 1 := by rw [hV]; simp
    have := World.ownsMap_made (H := Unit) V Tryz.prog 9 (plainElem Tryz.prog 3)
    rw [hs] at this
    rw [h]
    exact this.kept (row := none) ⟨rfl, rfl, rfl, by simp, fun k hk _ => Below.heap_alloc _ _ _ hk⟩ (by simp)
  · exact ⟨fun l => by simp [Maps.has], fun l h => (by cases h)⟩
set_option maxRecDepth 100000 in
set_option maxHeartbeats 32000000 in
theorem sbuild_any (d : AutD) (av : Value) (ms : List Nat) (mv : Value) (free : Bool) (lim : Int) (w : World) (hT : TabW w) (hP : PowW w) (ha : AutAt w av d) (hok : OkA d) (hmv : WrdAt w.heap.size w mv ms) (hms : ms.length ≤ 400) :
    Calls Tryz.prog 5 #[av, mv, .bool free, .int .i64 lim] w (SbdA d free ms lim w) := by
  have hmm := @run_makeMap Tryz.prog
  obtain ⟨iL, hiL, hzL0, hzL1, hzL2⟩ := info_parts Tryz.infoLs12
  obtain ⟨iB, hiB, hzB0, hzB1, hzB2⟩ := info_parts Tryz.infoBool12
  have HT : Hid (TabW w) := hT
  have HP : Hid (PowW w) := hP
  have HAU : Hid (AutAt w av d) := ha
  have HOK : Hid (OkA d) := hok
  have HMV : Hid (WrdAt w.heap.size w mv ms) := hmv
  obtain ⟨sv1, fv, lv, wv, rfl, hs, hf, hl1, hw⟩ := ha
  obtain ⟨sa, sc, hes, _⟩ := hs.slice
  obtain ⟨fa, fc, hef, _⟩ := hf.slice
  obtain ⟨la, lc, hel, _⟩ := hl1.slice
  obtain ⟨xa, xc, hex, _⟩ := hw.slice
  obtain ⟨ma, mc, hem, hmc⟩ : ∃ a c, mv = .slice a ms.length c ∧ ms.length ≤ c := by
    obtain ⟨a, c, e, h1, _⟩ := hmv
    exact ⟨a, c, e, h1⟩
  obtain ⟨n1, hn1⟩ : ∃ x, x = d.null := ⟨_, rfl⟩
  obtain ⟨n2, hn2⟩ : ∃ x, x = d.sets.length := ⟨_, rfl⟩
  obtain ⟨n3, hn3⟩ : ∃ x, x = d.first.length := ⟨_, rfl⟩
  obtain ⟨n4, hn4⟩ : ∃ x, x = d.last.length := ⟨_, rfl⟩
  obtain ⟨n5, hn5⟩ : ∃ x, x = d.fol.length := ⟨_, rfl⟩
  obtain ⟨len, hn6⟩ : ∃ x, x = ms.length := ⟨_, rfl⟩
  have HN6 : Hid (len = ms.length) := hn6
  rw [← hn2] at hes
  rw [← hn3] at hef
  rw [← hn4] at hel
  rw [← hn5] at hex
  rw [← hn6] at hem hmc hms
  subst hes hef hel hex hem
  rw [← hn1] at HAU
  rw [← hn1]
  obtain ⟨W0, hW0⟩ : ∃ W, W = (w.alloc (.cells #[.bool n1, .slice sa n2 sc, .slice fa n3 fc, .slice la n4 lc, .slice xa n5 xc] 29)).alloc (.cells #[.slice none 0 0, .slice none 0 0] 35) := ⟨_, rfl⟩
  obtain ⟨h0, h1, hB0, hs0⟩ := alloc2 hW0
  have HA0 : Hid (ABox W0 w.heap.size n1 (.slice sa n2 sc) (.slice fa n3 fc) (.slice la n4 lc) (.slice xa n5 xc)) := h0
  have HD0 : Hid (DBox W0 (w.heap.size + 1) (.slice none 0 0) (.slice none 0 0)) := h1
  have HB0 : Hid (Below w.heap.size w W0) := hB0
  have HS0 : Hid (W0.heap.size = w.heap.size + 2) := hs0
  have HW0 : Hid (W0 = _) := hW0
  have ho1 := oneTo_any 200 (len : Int) W0
  have ho2 := oneTo_any 5000 lim W0
  by_cases hbad : ms.length < 1 ∨ 200 < ms.length ∨ lim < 1 ∨ 5000 < lim
  · have HE : Hid (errD d free ms lim = 1 ∧ dfaD d free ms lim = ([], [])) := errD_arg hbad
    have e0 := HD0.out.c0
    have e1 := HD0.out.c1
    have f0 := HD0.out.nf 0
    have f1 := HD0.out.nf 1
    have hlt := HD0.out.lt
    obtain ⟨b1, hb1⟩ : ∃ b, b = (decide (1 ≤ (len : Int)) && decide ((len : Int) ≤ 200)) := ⟨_, rfl⟩
    obtain ⟨b2, hb2⟩ : ∃ b, b = (decide (1 ≤ lim) && decide (lim ≤ 5000)) := ⟨_, rfl⟩
    have hbb : b1 = false ∨ b2 = false := by
      rw [hb1, hb2]
      rcases hbad with q | q | q | q
      · left; simp; omega
      · left; simp; omega
      · right; simp; omega
      · right; simp; omega
    rw [← hb1] at ho1
    rw [← hb2] at ho2
    have HBF : Hid (Below w.heap.size w ((W0.setCell ⟨w.heap.size + 1, 0, none⟩ (.slice none 0 0)).setCell ⟨w.heap.size + 1, 1, none⟩ (.slice none 0 0))) := (hB0.setCell (Nat.le_succ _) _).setCell (Nat.le_succ _) _
    clear hs hf hl1 hw hn1 hn2 hn3 hn4 hn5 hn6 hB0 hok hT hP hmv h0 h1 hs0 hW0 hb1 hb2 hbad
    go_enter Tryz.func5, Tryz.ntmps5
    go_upto_region 1 with fail
    rw [← HW0.out]
    cases b1 with
    | false =>
      go_wp2_with fail
      refine ho1.mono ?_
      rintro e w1 ⟨rfl, hw1⟩
      have hw1' := hw1.symm
      subst hw1'
      clear ho1 ho2
      go_wp2
      refine bodyPost_ret (results_cell_tmp_row rfl _ _ (w.heap.size + 1) 35 #[.slice none 0 0, .slice none 0 0] (0, 0) _ rfl ?_ Tryz.underlying35 rfl (by kernel_rfl)) rfl ?_
      · exact (HD0.out.s0 _).s1 _
      · exact sbdA_zero HE.out HBF.out
    | true =>
      obtain rfl : b2 = false := by simpa using hbb
      go_wp2_with fail
      refine ho1.mono ?_
      rintro e w1 ⟨rfl, hw1⟩
      have hw1' := hw1.symm
      subst hw1'
      clear ho1
      go_wp2_with fail
      refine ho2.mono ?_
      rintro e w2 ⟨rfl, hw2⟩
      have hw2' := hw2.symm
      subst hw2'
      clear ho2
      go_wp2
      refine bodyPost_ret (results_cell_tmp_row rfl _ _ (w.heap.size + 1) 35 #[.slice none 0 0, .slice none 0 0] (0, 0) _ rfl ?_ Tryz.underlying35 rfl (by kernel_rfl)) rfl ?_
      · exact (HD0.out.s0 _).s1 _
      · exact sbdA_zero HE.out HBF.out
  · obtain ⟨L, rfl⟩ : ∃ L : Nat, lim = (L : Int) := ⟨lim.toNat, by omega⟩
    have hL1 : 1 ≤ L := by omega
    have hL2 : L ≤ 5000 := by omega
    have hm1 : 1 ≤ len := by omega
    have hm2 : len ≤ 200 := by omega
    have HGD : Hid (¬ (ms.length < 1 ∨ 200 < ms.length ∨ (L : Int) < 1 ∨ 5000 < (L : Int))) := hbad
    have e1 : (decide (1 ≤ (len : Int)) && decide ((len : Int) ≤ 200)) = true := by simp; omega
    have e2 : (decide (1 ≤ (L : Int)) && decide ((L : Int) ≤ 5000)) = true := by simp; omega
    rw [e1] at ho1
    rw [e2] at ho2
    clear hs hf hl1 hw hn1 hn2 hn3 hn4 hn5 hn6 hB0 hok hT hP hmv h0 h1 hs0 hW0 hbad e1 e2
    go_enter Tryz.func5, Tryz.ntmps5
    go_upto_region 1 with fail
    rw [← HW0.out]
    go_wp2_with fail
    refine ho1.mono ?_
    rintro e w1 ⟨rfl, hw1⟩
    have hw1' := hw1.symm
    subst hw1'
    clear ho1
    go_wp2_with fail
    refine ho2.mono ?_
    rintro e w2 ⟨rfl, hw2⟩
    have hw2' := hw2.symm
    subst hw2'
    clear ho2
    go_upto_region 6 with fail
    obtain ⟨WM, hWM⟩ : ∃ W, W = ((W0.alloc (.cells #[.slice none 0 0] 27)).alloc (.map #[] 0)).alloc (.cells #[.map (some (W0.heap.size + 1))] 64) := ⟨_, rfl⟩
    rw [← hWM]
    have hMM : MetI w.heap.size W0.heap.size (W0.heap.size + 1 + 1) (W0.heap.size + 1) WM (.slice none 0 0) [] [] := met_made hWM HB0.out.size
    have hBM : Below W0.heap.size W0 WM := by
      obtain ⟨_, _, _, h, _⟩ := alloc3 hWM
      exact h
    have HMM : Hid (MetI w.heap.size W0.heap.size (W0.heap.size + 1 + 1) (W0.heap.size + 1) WM (.slice none 0 0) [] []) := hMM
    have HAM : Hid (ABox WM w.heap.size n1 (.slice sa n2 sc) (.slice fa n3 fc) (.slice la n4 lc) (.slice xa n5 xc)) := HA0.out.below hBM
    have HDM : Hid (DBox WM (w.heap.size + 1) (.slice none 0 0) (.slice none 0 0)) := HD0.out.below hBM
    have HBM : Hid (Below w.heap.size w WM) := below_after HB0.out hBM
    have hbg := begin_any WM
    clear hMM hBM hWM
    go_wp2_with fail
    refine hbg.mono ?_
    rintro e w1 ⟨v1, rfl, ho1, hB1⟩
    have HM1 : Hid (MetI w.heap.size W0.heap.size (W0.heap.size + 1 + 1) (W0.heap.size + 1) w1 (.slice none 0 0) [] []) := HMM.out.below hB1
    have hmt := meet_any w.heap.size W0.heap.size (W0.heap.size + 1 + 1) (W0.heap.size + 1) w1 (.slice none 0 0) [] [] v1 [0] (HP.out.below (below_after HBM.out hB1)) HM1.out (fun k e => (ho1.lt k e).2) (below_after HBM.out hB1).size (lst_of_row (l := [0]) ho1 HBM.out.size) (by simp) (by simp) (by simp)
    have HAX : Hid (ABox w1 w.heap.size n1 (.slice sa n2 sc) (.slice fa n3 fc) (.slice la n4 lc) (.slice xa n5 xc)) := HAM.out.below hB1
    have HDX : Hid (DBox w1 (w.heap.size + 1) (.slice none 0 0) (.slice none 0 0)) := HDM.out.below hB1
    have HBX : Hid (Below w.heap.size w w1) := below_after HBM.out hB1
    have eg := meet_ent
    obtain ⟨va, vn, vc, rfl⟩ := own_any ho1
    clear hbg ho1 hB1
    go_wp2_with fail
    refine hmt.mono ?_
    rintro e w2 ⟨rfl, sv2, vs2, hI2, _, hF2⟩
    obtain ⟨WB, hWB⟩ : ∃ W, W = w2.alloc (.cells #[.slice none 0 0, .slice none 0 0] 35) := ⟨_, rfl⟩
    have hBB : Below w2.heap.size w2 WB := by rw [hWB]; exact below_alloc _ _
    have HBW : Hid (BdW w (w.heap.size) (w.heap.size + 1) n1 (.slice sa n2 sc) (.slice fa n3 fc) (.slice la n4 lc) (.slice xa n5 xc) W0.heap.size (W0.heap.size + 1 + 1) (W0.heap.size + 1) w2.heap.size WB sv2 (bfs d free ms 0).S vs2 (.slice none 0 0) (.slice none 0 0) [] (bfs d free ms 0).N (bfs d free ms 0).F) := by
      have hd2 : DBox w2 (w.heap.size + 1) (.slice none 0 0) (.slice none 0 0) := hF2.keep HM1.out HDX.out (by decide) (by decide)
      have hb2 : Below w.heap.size w w2 := HBX.out.trans (hF2.below HM1.out)
      refine ⟨⟨(hI2.below hBB : MetI _ _ _ _ _ _ _ _), hb2.size, by rw [hWB]; exact heap_new' _ _, rfl, World.ownsRow_nil _ _ _ _, fun i h => (by cases h), fun k e => (by cases e), World.ownsRow_nil _ _ _ _⟩, ?_, hd2.below hBB, ?_, hb2.trans (hBB.mono hb2.size)⟩
      · exact (show ABox w2 _ _ _ _ _ _ from hF2.keep HM1.out HAX.out (by decide) (by decide)).below hBB
      · have := hd2.lt
        omega
    obtain ⟨bd, hbd⟩ : ∃ b, b = w2.heap.size := ⟨_, rfl⟩
    have HWB : Hid (WB = _) := hWB
    clear hmt hI2 hF2 hBB
    go_upto_region 8 with fail
    rw [← HWB.out]
    rw [← hbd] at HBW
    rw [← hbd]
    clear hbd hWB HWB
    go_wp2
    go_loopw [14] (fun x14 wr => ∃ (j : Nat) (sv nv fv : Value) (vs ns : List Value), Hid (Vb d free ms L j) ∧ x14 = .int .i64 (j : Int) ∧ Hid (BdW w (w.heap.size) (w.heap.size + 1) n1 (.slice sa n2 sc) (.slice fa n3 fc) (.slice la n4 lc) (.slice xa n5 xc) W0.heap.size (W0.heap.size + 1 + 1) (W0.heap.size + 1) bd wr sv (bfs d free ms j).S vs nv fv ns (bfs d free ms j).N (bfs d free ms j).F)) (fun x14 _ => L + 2 - (intOf x14).toNat)
    case atStart => exact ⟨0, _, _, _, _, _, Vb.zero, rfl, HBW⟩
    case round =>
      obtain ⟨j, sv, nv, fv, vs, ns, HV, rfl, HW⟩ := hrel
      have HVL : Hid ((bfs d free ms j).S.length ≤ L ∧ j ≤ L) := ⟨HV.out.len hL1, HV.out.le hL1⟩
      have HMB : Hid (∀ x ∈ (bfs d free ms j).S, (∀ y ∈ x, y ≤ d.sets.length) ∧ x.length ≤ d.sets.length + 2) := bfs_mem d free ms j
      have HNF : Hid ((bfs d free ms j).N.length = j ∧ (bfs d free ms j).F.length = j) := bfs_NF d free ms j
      obtain ⟨B, hB⟩ : ∃ B, B = bfs d free ms j := ⟨_, rfl⟩
      have HBJ : Hid (B = bfs d free ms j) := hB
      rw [← hB] at HW HVL HMB HNF
      obtain ⟨qa, qc, rfl⟩ := HW.out.bi.met.slice
      obtain ⟨na, nn, nc, rfl⟩ := own_slice' HW.out.bi.nrow
      obtain ⟨fva, fvn, fvc, rfl⟩ := own_slice' HW.out.bi.frow
      obtain ⟨sl, hsl⟩ : ∃ x, x = B.S.length := ⟨_, rfl⟩
      have HSL : Hid (sl = B.S.length) := hsl
      rw [← hsl] at HW
      have b0 := HW.out.cs
      have b1 := HW.out.lt
      by_cases hjl : j < sl
      · obtain ⟨SB, hSB⟩ : ∃ X, X = stepB d free ms B j := ⟨_, rfl⟩
        have HSB : Hid (SB = stepB d free ms B j) := hSB
        obtain ⟨RN, hRN⟩ : ∃ X, X = (rowF d free (B.S.getD j []) ms B.S).1 := ⟨_, rfl⟩
        have HRN : Hid (SB.N = B.N ++ [RN] ∧ SB.F = B.F ++ [(B.S.getD j []).any (endP d)]) := by rw [hSB, hRN]; exact ⟨rfl, rfl⟩
        have hjB : j < B.S.length := by rw [← hsl]; exact hjl
        have HJM : Hid ((∀ y ∈ B.S.getD j [], y ≤ d.sets.length) ∧ (B.S.getD j []).length ≤ d.sets.length + 2) := HMB.out _ (by rw [List.getD_eq_getElem?_getD, List.getElem?_eq_getElem hjB]; exact List.getElem_mem hjB)
        have HPR : Hid (SB.S.getD j [] = B.S.getD j [] ∧ j < SB.S.length) := by
          obtain ⟨T, hT2⟩ := stepB_pre d free ms B j
          rw [hSB, hT2]
          refine ⟨?_, by rw [List.length_append]; omega⟩
          rw [List.getD_eq_getElem?_getD, List.getElem?_append_left hjB, List.getD_eq_getElem?_getD]
        obtain ⟨qg, qc', qv, he, hqc, hqg, qv0, hql⟩ := HW.out.at (j := j) hjB
        obtain ⟨rfl, rfl⟩ : qa = some ⟨qg, 0, none⟩ ∧ qc = qc' := by
          injection he with h1 h2 h3
          exact ⟨h1, h3⟩
        have hd3 : d.sets.length ≤ 300 := HOK.out.sets
        have HROW : Hid (∀ W, Below wr.heap.size wr W → Calls Tryz.prog 25 #[(.agg #[.bool n1, .slice sa n2 sc, .slice fa n3 fc, .slice la n4 lc, .slice xa n5 xc]), qv, .slice ma len mc, .bool free, .func (.func 22) #[] #[.pointer (some ⟨W0.heap.size + 1 + 1, 0, none⟩), .pointer (some ⟨W0.heap.size, 0, none⟩)]] W fun e w' => ∃ v', e = .returned v' ∧ ∃ sv' vs', Hid (BdW w (w.heap.size) (w.heap.size + 1) n1 (.slice sa n2 sc) (.slice fa n3 fc) (.slice la n4 lc) (.slice xa n5 xc) W0.heap.size (W0.heap.size + 1 + 1) (W0.heap.size + 1) bd w' sv' SB.S vs' (.slice na nn nc) (.slice fva fvn fvc) ns B.N B.F ∧ LstAt w.heap.size w' v' RN)) := fun W hb => by
          have hWW := HW.out.below hb
          have hr := row_any w W0.heap.size (W0.heap.size + 1 + 1) (W0.heap.size + 1) d (.agg #[.bool n1, .slice sa n2 sc, .slice fa n3 fc, .slice la n4 lc, .slice xa n5 xc]) (B.S.getD j []) qv ms (.slice ma len mc) free W _ B.S vs HT.out HP.out HAU.out HOK.out HMV.out hWW.bl hWW.bi.met (hql.below hb) HJM.out.1 (by have := HJM.out.2; omega) (by have := HVL.out.1; have := HN6.out; omega)
          refine hr.mono ?_
          rintro e w' ⟨v', rfl, sv', vs', ho, hI, hF⟩
          refine ⟨v', rfl, sv', vs', ?_⟩
          show _ ∧ _
          rw [hSB, hRN]
          exact ⟨hWW.call hI hF, lst_of_row ho hWW.bl.size⟩
        have HFN : Hid (∀ w6 sv6 vs6 v6 w8 o gL capL, BdW w (w.heap.size) (w.heap.size + 1) n1 (.slice sa n2 sc) (.slice fa n3 fc) (.slice la n4 lc) (.slice xa n5 xc) W0.heap.size (W0.heap.size + 1 + 1) (W0.heap.size + 1) bd w6 sv6 SB.S vs6 (.slice na nn nc) (.slice fva fvn fvc) ns B.N B.F → LstAt w.heap.size w6 v6 RN → (w6.alloc o).grownBy w8 (Value.slice na nn nc).ownBlock → w8.ownsRow w.heap.size 26 1 (.slice (some ⟨gL, 0, none⟩) (j + 1) capL) (j + 1) (ns ++ [v6]) → ((Value.slice na nn nc).ownBlock = some gL ∨ gL = w6.heap.size + 1) → (w8.cell? ⟨bd, 0, none⟩ = some (.slice na nn nc) ∧ w8.frozen? ⟨bd, 0, none⟩ = false) ∧ Hid (BdW w (w.heap.size) (w.heap.size + 1) n1 (.slice sa n2 sc) (.slice fa n3 fc) (.slice la n4 lc) (.slice xa n5 xc) W0.heap.size (W0.heap.size + 1 + 1) (W0.heap.size + 1) bd (w8.setCell ⟨bd, 0, none⟩ (.slice (some ⟨gL, 0, none⟩) (j + 1) capL)) sv6 SB.S vs6 (.slice (some ⟨gL, 0, none⟩) (j + 1) capL) (.slice fva fvn fvc) (ns ++ [v6]) SB.N B.F)) := fun w6 sv6 vs6 v6 w8 o gL capL h6 hv hg ho hat => by
          have h7 := h6.below (below_alloc w6 o)
          have e := HNF.out.1
          have hp := h7.pushN (g := gL) (cap := capL) (v := v6) (l := RN) (hv.below (below_alloc w6 o)) hg (by rw [e]; exact ho) (by rcases hat with q | q; exact .inl q; right; simp; omega)
          rw [e] at hp
          refine ⟨hp.1, ?_⟩
          show BdW _ _ _ _ _ _ _ _ _ _ _ _ _ _ _ _ _ _ _ _ _
          rw [HRN.out.1]
          exact hp.2
        have HRW : Hid (∀ w6 sv6 vs6 o, BdW w (w.heap.size) (w.heap.size + 1) n1 (.slice sa n2 sc) (.slice fa n3 fc) (.slice la n4 lc) (.slice xa n5 xc) W0.heap.size (W0.heap.size + 1 + 1) (W0.heap.size + 1) bd w6 sv6 SB.S vs6 (.slice na nn nc) (.slice fva fvn fvc) ns B.N B.F → (w6.alloc o).ownsRow w.heap.size 26 1 (.slice na nn nc) j ns) := fun w6 sv6 vs6 o h6 => by
          have := (h6.below (below_alloc w6 o)).bi.nrow
          rw [HNF.out.1] at this
          exact this
        have c0 := HW.out.ab.c0
        have c1 := HW.out.ab.c1
        have c2 := HW.out.ab.c2
        have c3 := HW.out.ab.c3
        have c4 := HW.out.ab.c4
        have d0 := HW.out.c0
        have hA := HW.out.ab.lt
        obtain ⟨va, vn, vc, rfl⟩ := hql.any
        have hj0 : (0 : Int) ≤ (j : Int) := by omega
        have hj1 : (j : Int) < (sl : Int) := by omega
        have hjL : j ≤ L := HVL.out.2
        have HQL : Hid (LstAt w.heap.size wr (.slice va vn vc) (B.S.getD j [])) := hql
        clear hB hSB hRN hql he hsl hjB hd3
        go_upto_region 11 with fail
        go_cut [] from 30 to 64 (fun wx => Hid (∃ sv' vs' nv' ns', BdW w (w.heap.size) (w.heap.size + 1) n1 (.slice sa n2 sc) (.slice fa n3 fc) (.slice la n4 lc) (.slice xa n5 xc) W0.heap.size (W0.heap.size + 1 + 1) (W0.heap.size + 1) bd wx sv' SB.S vs' nv' (.slice fva fvn fvc) ns' SB.N B.F))
        case first =>
          go_region_law (first | (go_simp; (with_reducible refine (HROW.out wr.drew (Below.refl _ _).drew).mono ?_); rintro e w6 ⟨v6, rfl, sv6, vs6, H6⟩; obtain ⟨ya, yn, yc, rfl⟩ := H6.out.2.any; have s4 := H6.out.1.c0; have s5 := H6.out.1.lt; try dsimp only) | (refine step_append_lies _ (by rfl) (.tmp 37) (.tmp 47) 27 (by rfl) w.heap.size 26 iL (.slice none 0 0) 1 24 Tryz.underlying27 hiL hzL0 hzL1 hzL2 rfl (by decide) (.slice na nn nc) j ns (by rfl) (by exact (HRW.out _ _ _ _ H6.out.1)) ⟨w6.heap.size, 0, none⟩ 1 1 [.slice ya yn yc] (by rfl) rfl (by exact World.news_of_block (heap_new' w6 _)) (by simp [Value.oneCell']) (by omega) (by unfold maxLen; omega) (by omega) (by have := H6.out.1.bl.size; simp; omega) (w6.heap.size + 1) (by simp) ?_; intro gL capL w8 hownL hgrowL hatL hltL; obtain ⟨⟨t0, t1⟩, HZ⟩ := HFN.out _ _ _ _ _ _ _ _ H6.out.1 H6.out.2 hgrowL hownL hatL))
          all_goals (go_wp2; go_meet; exact ⟨_, _, _, _, HZ.out⟩)
        case rest =>
          obtain ⟨sv3, vs3, nv3, ns3, HC⟩ := hcut.out
          have HC : Hid (BdW w (w.heap.size) (w.heap.size + 1) n1 (.slice sa n2 sc) (.slice fa n3 fc) (.slice la n4 lc) (.slice xa n5 xc) W0.heap.size (W0.heap.size + 1 + 1) (W0.heap.size + 1) bd wc sv3 SB.S vs3 nv3 (.slice fva fvn fvc) ns3 SB.N B.F) := HC
          clear hcut c0 c1 c2 c3 c4 d0 hA b0 b1 hj1 qv0 hqg
          obtain ⟨sl3, hsl3⟩ : ∃ x, x = SB.S.length := ⟨_, rfl⟩
          have HSL3 : Hid (sl3 = SB.S.length) := hsl3
          obtain ⟨rg, rc, rv, rfl, hrc, hrg, rv0, hrl⟩ := HC.out.at (j := j) HPR.out.2
          obtain ⟨ka, kn, kc, rfl⟩ := own_slice' HC.out.bi.nrow
          obtain ⟨xx, hxx⟩ : ∃ x, x = (B.S.getD j []).any (endP d) := ⟨_, rfl⟩
          have HEND : Hid (∀ W, Below wc.heap.size wc W → Calls Tryz.prog 26 #[(.agg #[.bool n1, .slice sa n2 sc, .slice fa n3 fc, .slice la n4 lc, .slice xa n5 xc]), rv] W fun e w' => e = .returned (.bool xx) ∧ Hid (BdW w (w.heap.size) (w.heap.size + 1) n1 (.slice sa n2 sc) (.slice fa n3 fc) (.slice la n4 lc) (.slice xa n5 xc) W0.heap.size (W0.heap.size + 1 + 1) (W0.heap.size + 1) bd w' (.slice (some ⟨rg, 0, none⟩) SB.S.length rc) SB.S vs3 (.slice ka kn kc) (.slice fva fvn fvc) ns3 SB.N B.F)) := fun W hb => by
            have hWW := HC.out.below hb
            have he := end_any d (.agg #[.bool n1, .slice sa n2 sc, .slice fa n3 fc, .slice la n4 lc, .slice xa n5 xc]) (B.S.getD j []) rv W (HAU.out.below hWW.bl) (by have := (hrl.below hb).plc.less (Nat.zero_le _); rw [HPR.out.1] at this; exact this) (by have := HJM.out.2; have := HOK.out.sets; omega) (by have := HOK.out.in2.len (Nat.zero_le _); have := HOK.out.sets; omega)
            refine he.mono ?_
            rintro e w' ⟨rfl, hb'⟩
            exact ⟨by rw [hxx], hWW.below hb'⟩
          have HFN2 : Hid (∀ w6 w8 o v', BdW w (w.heap.size) (w.heap.size + 1) n1 (.slice sa n2 sc) (.slice fa n3 fc) (.slice la n4 lc) (.slice xa n5 xc) W0.heap.size (W0.heap.size + 1 + 1) (W0.heap.size + 1) bd w6 (.slice (some ⟨rg, 0, none⟩) SB.S.length rc) SB.S vs3 (.slice ka kn kc) (.slice fva fvn fvc) ns3 SB.N B.F → (w6.alloc o).grownBy w8 (Value.slice fva fvn fvc).ownBlock → w8.ownsRow w.heap.size 4 1 v' (j + 1) (cellBo B.F ++ [.bool xx]) → (w8.cell? ⟨bd, 1, none⟩ = some (.slice fva fvn fvc) ∧ w8.frozen? ⟨bd, 1, none⟩ = false) ∧ Hid (BdW w (w.heap.size) (w.heap.size + 1) n1 (.slice sa n2 sc) (.slice fa n3 fc) (.slice la n4 lc) (.slice xa n5 xc) W0.heap.size (W0.heap.size + 1 + 1) (W0.heap.size + 1) bd (w8.setCell ⟨bd, 1, none⟩ v') (.slice (some ⟨rg, 0, none⟩) SB.S.length rc) SB.S vs3 (.slice ka kn kc) v' ns3 SB.N SB.F)) := fun w6 w8 o v' h6 hg ho => by
            have h7 := h6.below (below_alloc w6 o)
            have hp := h7.pushF (v' := v') (x := xx) hg (by rw [HNF.out.2]; exact ho)
            refine ⟨hp.1, ?_⟩
            show BdW _ _ _ _ _ _ _ _ _ _ _ _ _ _ _ _ _ _ _ _ _
            rw [HRN.out.2, ← hxx]
            exact hp.2
          have HRW2 : Hid (∀ w6 o, BdW w (w.heap.size) (w.heap.size + 1) n1 (.slice sa n2 sc) (.slice fa n3 fc) (.slice la n4 lc) (.slice xa n5 xc) W0.heap.size (W0.heap.size + 1 + 1) (W0.heap.size + 1) bd w6 (.slice (some ⟨rg, 0, none⟩) SB.S.length rc) SB.S vs3 (.slice ka kn kc) (.slice fva fvn fvc) ns3 SB.N B.F → (w6.alloc o).ownsRow w.heap.size 4 1 (.slice fva fvn fvc) j (cellBo B.F)) := fun w6 o h6 => by
            have := (h6.below (below_alloc w6 o)).bi.frow
            rw [HNF.out.2] at this
            exact this
          rw [← hsl3] at hrc HEND HFN2 HRW2
          have c0 := HC.out.ab.c0
          have c1 := HC.out.ab.c1
          have c2 := HC.out.ab.c2
          have c3 := HC.out.ab.c3
          have c4 := HC.out.ab.c4
          have d1 := HC.out.c1
          have b0 := HC.out.cs
          rw [← hsl3] at b0
          have b1 := HC.out.lt
          have hA := HC.out.ab.lt
          obtain ⟨va', vn', vc', rfl⟩ := hrl.any
          have hj1 : (j : Int) < (sl3 : Int) := by have := HPR.out.2; omega
          clear hrl hxx hsl3
          go_upto_region 12 with fail
          go_cut [] from 30 to 64 (fun wx => Hid (∃ sv' vs' nv' fv' ns', BdW w (w.heap.size) (w.heap.size + 1) n1 (.slice sa n2 sc) (.slice fa n3 fc) (.slice la n4 lc) (.slice xa n5 xc) W0.heap.size (W0.heap.size + 1 + 1) (W0.heap.size + 1) bd wx sv' SB.S vs' nv' fv' ns' SB.N SB.F))
          case first =>
            go_region_law (first | (go_simp; (with_reducible refine (HEND.out wc.drew (Below.refl _ _).drew).mono ?_); rintro e w6 ⟨rfl, H6⟩; have s4 := H6.out.c1; have s5 := H6.out.lt; try dsimp only) | (refine step_append_lies _ (by rfl) (.tmp 51) (.tmp 58) 33 (by rfl) w.heap.size 4 iB (.bool false) 1 1 Tryz.underlying33 hiB hzB0 hzB1 hzB2 rfl (by decide) (.slice fva fvn fvc) j (cellBo B.F) (by rfl) (by exact (HRW2.out _ _ H6.out)) ⟨w6.heap.size, 0, none⟩ 1 1 [.bool xx] (by rfl) rfl (by exact World.news_of_block (heap_new' w6 _)) (by simp [Value.oneCell']) (by omega) (by unfold maxLen; omega) (by omega) (by have := H6.out.bl.size; simp; omega) (w6.heap.size + 1) (by simp) ?_; intro gL capL w8 hownL hgrowL hatL hltL; obtain ⟨⟨t0, t1⟩, HZ⟩ := HFN2.out _ _ _ _ H6.out hgrowL hownL))
            all_goals (go_wp2; go_meet; exact ⟨_, _, _, _, _, HZ.out⟩)
          case rest =>
            obtain ⟨sv4, vs4, nv4, fv4, ns4, HC4⟩ := hcut.out
            have HC4 : Hid (BdW w (w.heap.size) (w.heap.size + 1) n1 (.slice sa n2 sc) (.slice fa n3 fc) (.slice la n4 lc) (.slice xa n5 xc) W0.heap.size (W0.heap.size + 1 + 1) (W0.heap.size + 1) bd wc sv4 SB.S vs4 nv4 fv4 ns4 SB.N SB.F) := HC4
            have HSB' : Hid (SB = bfs d free ms (j + 1)) := by
              show _ = _
              rw [HSB.out, HBJ.out]
              rfl
            have HJS : Hid (j < (bfs d free ms j).S.length) := by
              show _ < _
              rw [← HBJ.out, ← HSL.out]
              exact hjl
            clear c0 c1 c2 c3 c4 d1 b0 b1 hA hj1 hcut rv0 hrg
            obtain ⟨ra4, rc4, rfl⟩ := HC4.out.bi.met.slice
            obtain ⟨ma4, mn4, mc4, rfl⟩ := own_slice' HC4.out.bi.nrow
            obtain ⟨fa4, fn4, fc4, rfl⟩ := own_slice' HC4.out.bi.frow
            have b0 := HC4.out.cs
            have b1 := HC4.out.lt
            rw [← HSL3.out] at b0
            by_cases hbig : L < sl3
            · have HE : Hid (errD d free ms (L : Int) = 8 ∧ dfaD d free ms (L : Int) = ([], [])) := errD_none HGD.out (by
                have := ans_err HV.out hL1 HJS.out (by rw [← HSB'.out, ← HSL3.out]; exact hbig)
                simpa using this)
              have e0 := HC4.out.db.c0
              have e1 := HC4.out.db.c1
              have f0 := HC4.out.db.nf 0
              have f1 := HC4.out.db.nf 1
              have hlt := HC4.out.db.lt
              have HBF : Hid (Below w.heap.size w ((wc.setCell ⟨w.heap.size + 1, 0, none⟩ (.slice none 0 0)).setCell ⟨w.heap.size + 1, 1, none⟩ (.slice none 0 0))) := (HC4.out.bl.setCell (Nat.le_succ _) _).setCell (Nat.le_succ _) _
              go_wp2
              refine bodyPost_ret (results_cell_tmp_row rfl _ _ (w.heap.size + 1) 35 #[.slice none 0 0, .slice none 0 0] (0, 0) _ rfl ?_ Tryz.underlying35 rfl (by kernel_rfl)) rfl ?_
              · exact (HC4.out.db.s0 _).s1 _
              · exact sbdA_zero HE.out HBF.out
            · have HV1 : Hid (Vb d free ms L (j + 1)) := HV.out.succ HJS.out (by rw [← HSB'.out, ← HSL3.out]; omega)
              go_wp2
              go_roundw
              case rel =>
                rw [HSB'.out] at HC4
                exact ⟨j + 1, _, _, _, _, _, HV1, by go_num, HC4⟩
              case measure => simp [intOf]; omega
      · have HJS : Hid (¬ j < (bfs d free ms j).S.length) := by
          show ¬ _
          rw [← HBJ.out, ← HSL.out]
          exact hjl
        have HE : Hid (errD d free ms (L : Int) = 0 ∧ dfaD d free ms (L : Int) = (B.N, B.F)) := by
          show _ ∧ _
          rw [HBJ.out]
          exact errD_some HGD.out (by
            have := ans_ok HV.out hL1 HJS.out
            simpa using this)
        have d0 := HW.out.c0
        have d1 := HW.out.c1
        have e0 := HW.out.db.c0
        have e1 := HW.out.db.c1
        have f0 := HW.out.db.nf 0
        have f1 := HW.out.db.nf 1
        have hlt := HW.out.db.lt
        clear hB hsl
        go_wp2
        refine bodyPost_ret (results_cell_tmp_row rfl _ _ (w.heap.size + 1) 35 #[.slice na nn nc, .slice fva fvn fvc] (0, 0) _ rfl ?_ Tryz.underlying35 rfl (by kernel_rfl)) rfl ?_
        · exact (HW.out.db.s0 _).s1 _
        · have hfin := HW.out.fin (Nat.le_succ _)
          exact ⟨_, by rw [HE.out.1]; rfl, by rw [HE.out.2]; exact hfin.1, hfin.2⟩
end Go.Proofs.YtklhjjgnhigbiaaGreatDoor
