/-
  scansionref12.Build.
-/
import Derived.Test.YtehkaiohmcenbaaDoorSbRBox
import Derived.Test.YtehkaiohmcenbaaDoorSbRFind
import Derived.Test.YtehkaiohmcenbaaDoorSbBuild
import Derived.Test.YtehkaiohmcenbaaDoorGE
import Derived.Deep.RegionLaw
import Derived.Deep.CutRange
import Derived.Deep.AppendLies
namespace Go.Proofs.YtehkaiohmcenbaaDoor
open Go.RowKit Go.Shelf
set_option linter.unusedVariables false

section
variable {w0 : World} {A D : Nat} {n1 : Bool} {a1 a2 a3 a4 : Value} {bd : Nat} {w w1 w' : World} {sv nv fv rv : Value} {S : List (List Nat)} {vs ns : List Value} {N : List (List Nat)} {F : List Bool} {R : List Nat}
theorem RfI.sl (h : RfI w0 A D n1 a1 a2 a3 a4 bd w sv S vs nv fv ns N F rv R) : ∃ a c, sv = .slice a S.length c ∧ S.length ≤ c := by
  rcases h.srow.2 with ⟨rfl, h0⟩ | ⟨g, cap, cur, rfl, hb, hg, hc, hm, hs, ht⟩
  · exact ⟨none, 0, by rw [h0], by omega⟩
  · exact ⟨_, _, rfl, hc⟩
theorem RfI.rl (h : RfI w0 A D n1 a1 a2 a3 a4 bd w sv S vs nv fv ns N F rv R) : ∃ a c, rv = .slice a R.length c := by
  rcases h.rrow.2 with ⟨rfl, h0⟩ | ⟨g, cap, cur, rfl, hb, hg, hc, hm, hs, ht⟩
  · exact ⟨none, 0, by rw [h0]⟩
  · exact ⟨_, _, rfl⟩
/-- The beginning: one state, the places that are [0]. -/
theorem rf_made {w W0 WM : World} (hA : ABox W0 w.heap.size n1 a1 a2 a3 a4) (hD : DBox W0 (w.heap.size + 1) (.slice none 0 0) (.slice none 0 0)) (hb : Below w.heap.size w W0) (hs : W0.heap.size = w.heap.size + 2) (h : WM = ((W0.alloc (.cells #[.int .i64 0] 3)).alloc (.cells #[.slice (some ⟨W0.heap.size, 0, none⟩) 1 1] 27)).alloc (.cells #[.slice none 0 0, .slice none 0 0] 46)) :
    RfI w w.heap.size (w.heap.size + 1) n1 a1 a2 a3 a4 (W0.heap.size + 1 + 1) WM (.slice (some ⟨W0.heap.size + 1, 0, none⟩) 1 1) [[0]] [.slice (some ⟨W0.heap.size, 0, none⟩) 1 1] (.slice none 0 0) (.slice none 0 0) [] [] [] (.slice none 0 0) [] := by
  obtain ⟨h1, h2, h3, h4, h5⟩ := alloc3 h
  obtain ⟨V1, hV1⟩ : ∃ V, V = W0.alloc (.cells #[.int .i64 0] 3) := ⟨_, rfl⟩
  have hs1 : V1.heap.size = W0.heap.size + 1 := by rw [hV1]; simp
  obtain ⟨V2, hV2⟩ : ∃ V, V = V1.alloc (.cells #[.slice (some ⟨W0.heap.size, 0, none⟩) 1 1] 27) := ⟨_, rfl⟩
  rw [← hV1, ← hV2] at h
  have hbV : Below V2.heap.size V2 WM := by rw [h]; exact below_alloc _ _
  have hb1 : Below V1.heap.size V1 V2 := by rw [hV2]; exact below_alloc _ _
  have hrow : V2.ownsRow w.heap.size 27 1 (.slice (some ⟨V1.heap.size, 0, none⟩) 1 1) 1 [.slice (some ⟨W0.heap.size, 0, none⟩) 1 1] := by
    rw [hV2]
    exact World.ownsRow_lit V1 #[.slice (some ⟨W0.heap.size, 0, none⟩) 1 1] 1 (by omega) (by unfold maxLen; omega) rfl
  have hl0 : LstAt w.heap.size V1 (.slice (some ⟨W0.heap.size, 0, none⟩) 1 1) [0] := by rw [hV1]; exact lst_one W0 0 (by omega)
  rw [hs1] at hrow
  refine ⟨hA.below h4, hD.below h4, by omega, hb.trans (h4.mono hb.size), by omega, h3, rfl, ownsRow_below hrow hbV, fun i k1 k2 => ?_, rfl, World.ownsRow_nil _ _ _ _, fun i k => (by cases k), fun k e => (by cases e), World.ownsRow_nil _ _ _ _, World.ownsRow_nil _ _ _ _, fun u hu k e => ?_⟩
  · obtain rfl : i = 0 := by simpa using k1
    exact (hl0.below hb1).below hbV
  · rcases hu with hu | hu
    · obtain rfl := List.mem_singleton.1 hu
      have : W0.heap.size = k := by injection e
      exact ⟨by omega, fun q => (by cases q)⟩
    · cases hu
end
theorem WrdAt.at12 {w : World} {B : Nat} {a : Option Addr} {n c : Nat} {ms : List Nat} (h : WrdAt B w (.slice a n c) ms) {i : Nat} (hi : i < ms.length) : ms[i] < 18446744073709551616 ∧ ∃ g off, a = some ⟨g, off, none⟩ ∧ g < B ∧ w.cell? ⟨g, off + i, none⟩ = some (.int .u64 (ms[i] : Int)) := by
  obtain ⟨a', c', e, hc, hx⟩ := h
  injection e with e1 e2 e3
  subst e1
  exact hx i hi
theorem rowF_more (d : AutD) (free : Bool) (a : List Nat) (ms : List Nat) (S : List (List Nat)) (i : Nat) : (rowF d free a (ms.take i) S).2.length ≤ (rowF d free a ms S).2.length := by
  have e : (rowF d free a ms S) = (ms.drop i).foldl (stepR d free a) (rowF d free a (ms.take i) S) := by
    unfold rowF
    rw [← List.foldl_append, List.take_append_drop]
  rw [e]
  exact (fold_len d free a (ms.drop i) _).2.1
theorem rowF_pre (d : AutD) (free : Bool) (a : List Nat) (ms : List Nat) (S : List (List Nat)) : ∃ T, (rowF d free a ms S).2 = S ++ T := fold_pre d free a ms ([], S)
theorem rowF_in (d : AutD) (free : Bool) (a : List Nat) (ms : List Nat) (S : List (List Nat)) (h : ∀ x ∈ S, x.length ≤ 100000) (hd : d.sets.length ≤ 300) : ∀ x ∈ (rowF d free a ms S).2, x.length ≤ 100000 := fun x hx => by
  rcases fold_mem d free a ms _ x hx with q | ⟨m, rfl⟩
  · exact h x q
  · have := nxt_len (d := d) free a m
    omega

set_option maxRecDepth 100000 in
set_option maxHeartbeats 32000000 in
theorem rsbuild_any (d : AutD) (av : Value) (ms : List Nat) (mv : Value) (free : Bool) (lim : Int) (w : World) (ha : AutAt w av d) (hok : OkA d) (hmv : WrdAt w.heap.size w mv ms) (hms : ms.length ≤ 400) :
    Calls Tryd.prog 24 #[av, mv, .bool free, .int .i64 lim] w (SbdA d free ms lim w) := by
  obtain ⟨i0, hi0, hz0, hz1, hz2⟩ := info_parts Tryd.infoInt
  obtain ⟨iL, hiL, hzL0, hzL1, hzL2⟩ := info_parts Tryd.infoLs12
  obtain ⟨iB, hiB, hzB0, hzB1, hzB2⟩ := info_parts Tryd.infoBool12
  have HAU : Hid (AutAt w av d) := ha
  have HOK : Hid (OkA d) := hok
  have HMV : Hid (WrdAt w.heap.size w mv ms) := hmv
  obtain ⟨sv1, fv, lv, wv, rfl, hs, hf, hl1, hw⟩ := ha
  obtain ⟨sa, sc, hes, _⟩ := hs.slice
  obtain ⟨fa, fc, hef, _⟩ := hf.slice
  obtain ⟨la, lc, hel, _⟩ := hl1.slice
  obtain ⟨xa, xc, hex, _⟩ := hw.slice
  obtain ⟨ma, mc, hem, hmc⟩ : ∃ a c, mv = .slice a ms.length c ∧ ms.length ≤ c := by
    obtain ⟨a, c, e, h1, _⟩ := hmv
    exact ⟨a, c, e, h1⟩
  obtain ⟨n1, hn1⟩ : ∃ x, x = d.null := ⟨_, rfl⟩
  obtain ⟨n2, hn2⟩ : ∃ x, x = d.sets.length := ⟨_, rfl⟩
  obtain ⟨n3, hn3⟩ : ∃ x, x = d.first.length := ⟨_, rfl⟩
  obtain ⟨n4, hn4⟩ : ∃ x, x = d.last.length := ⟨_, rfl⟩
  obtain ⟨n5, hn5⟩ : ∃ x, x = d.fol.length := ⟨_, rfl⟩
  obtain ⟨len, hn6⟩ : ∃ x, x = ms.length := ⟨_, rfl⟩
  have HN6 : Hid (len = ms.length) := hn6
  rw [← hn2] at hes
  rw [← hn3] at hef
  rw [← hn4] at hel
  rw [← hn5] at hex
  rw [← hn6] at hem hmc hms
  subst hes hef hel hex hem
  rw [← hn1] at HAU
  rw [← hn1]
  obtain ⟨W0, hW0⟩ : ∃ W, W = (w.alloc (.cells #[.bool n1, .slice sa n2 sc, .slice fa n3 fc, .slice la n4 lc, .slice xa n5 xc] 30)).alloc (.cells #[.slice none 0 0, .slice none 0 0] 46) := ⟨_, rfl⟩
  obtain ⟨h0, h1, hB0, hs0⟩ := alloc2 hW0
  have HA0 : Hid (ABox W0 w.heap.size n1 (.slice sa n2 sc) (.slice fa n3 fc) (.slice la n4 lc) (.slice xa n5 xc)) := h0
  have HD0 : Hid (DBox W0 (w.heap.size + 1) (.slice none 0 0) (.slice none 0 0)) := h1
  have HB0 : Hid (Below w.heap.size w W0) := hB0
  have HS0 : Hid (W0.heap.size = w.heap.size + 2) := hs0
  have HW0 : Hid (W0 = _) := hW0
  have e0 := HD0.out.c0
  have e1 := HD0.out.c1
  have f0 := HD0.out.nf 0
  have f1 := HD0.out.nf 1
  have hlt := HD0.out.lt
  have HBF : Hid (Below w.heap.size w ((W0.setCell ⟨w.heap.size + 1, 0, none⟩ (.slice none 0 0)).setCell ⟨w.heap.size + 1, 1, none⟩ (.slice none 0 0))) := (hB0.setCell (Nat.le_succ _) _).setCell (Nat.le_succ _) _
  have HHB : Hid (¬ (len < 1 ∨ 200 < len ∨ lim < 1 ∨ 5000 < lim) ∨ (errD d free ms lim = 1 ∧ dfaD d free ms lim = ([], []))) := by
    show _ ∨ _
    by_cases q : len < 1 ∨ 200 < len ∨ lim < 1 ∨ 5000 < lim
    · exact .inr (errD_arg (by rw [← hn6]; exact q))
    · exact .inl q
  clear hs hf hl1 hw hn1 hn2 hn3 hn4 hn5 hn6 hB0 hok hmv h0 h1 hs0 hW0
  go_enter Tryd.func24, Tryd.ntmps24
  go_upto_region 1 with fail
  rw [← HW0.out]
  by_cases q0 : len < 1
  case pos =>
    have HE : Hid (errD d free ms lim = 1 ∧ dfaD d free ms lim = ([], [])) := by
      rcases HHB.out with k | k
      · exact absurd (by omega) k
      · exact k
    have g0 : decide ((len : Int) < 1) = true := decide_eq_true (by omega)
    clear q0
    go_wp2
    refine bodyPost_ret (results_cell_tmp_row rfl _ _ (w.heap.size + 1) 46 #[.slice none 0 0, .slice none 0 0] (0, 0) _ rfl ?_ Tryd.underlying46 rfl (by kernel_rfl)) rfl ?_
    · exact (HD0.out.s0 _).s1 _
    · exact sbdA_zero HE.out HBF.out
  case neg =>
  have g0 : decide ((len : Int) < 1) = false := decide_eq_false (by omega)
  by_cases q1 : 200 < len
  case pos =>
    have HE : Hid (errD d free ms lim = 1 ∧ dfaD d free ms lim = ([], [])) := by
      rcases HHB.out with k | k
      · exact absurd (by omega) k
      · exact k
    have g1 : decide ((200 : Int) < (len : Int)) = true := decide_eq_true (by omega)
    clear q1
    go_wp2
    refine bodyPost_ret (results_cell_tmp_row rfl _ _ (w.heap.size + 1) 46 #[.slice none 0 0, .slice none 0 0] (0, 0) _ rfl ?_ Tryd.underlying46 rfl (by kernel_rfl)) rfl ?_
    · exact (HD0.out.s0 _).s1 _
    · exact sbdA_zero HE.out HBF.out
  case neg =>
  have g1 : decide ((200 : Int) < (len : Int)) = false := decide_eq_false (by omega)
  by_cases q2 : lim < 1
  case pos =>
    have HE : Hid (errD d free ms lim = 1 ∧ dfaD d free ms lim = ([], [])) := by
      rcases HHB.out with k | k
      · exact absurd (by omega) k
      · exact k
    have g2 : decide (lim < 1) = true := decide_eq_true (by omega)
    clear q2
    go_wp2
    refine bodyPost_ret (results_cell_tmp_row rfl _ _ (w.heap.size + 1) 46 #[.slice none 0 0, .slice none 0 0] (0, 0) _ rfl ?_ Tryd.underlying46 rfl (by kernel_rfl)) rfl ?_
    · exact (HD0.out.s0 _).s1 _
    · exact sbdA_zero HE.out HBF.out
  case neg =>
  have g2 : decide (lim < 1) = false := decide_eq_false (by omega)
  by_cases q3 : 5000 < lim
  case pos =>
    have HE : Hid (errD d free ms lim = 1 ∧ dfaD d free ms lim = ([], [])) := by
      rcases HHB.out with k | k
      · exact absurd (by omega) k
      · exact k
    have g3 : decide (5000 < lim) = true := decide_eq_true (by omega)
    clear q3
    go_wp2
    refine bodyPost_ret (results_cell_tmp_row rfl _ _ (w.heap.size + 1) 46 #[.slice none 0 0, .slice none 0 0] (0, 0) _ rfl ?_ Tryd.underlying46 rfl (by kernel_rfl)) rfl ?_
    · exact (HD0.out.s0 _).s1 _
    · exact sbdA_zero HE.out HBF.out
  case neg =>
  have g3 : decide (5000 < lim) = false := decide_eq_false (by omega)
  obtain ⟨L, rfl⟩ : ∃ L : Nat, lim = (L : Int) := ⟨lim.toNat, by omega⟩
  have hL1 : 1 ≤ L := by omega
  have hL2 : L ≤ 5000 := by omega
  have hm1 : 1 ≤ len := by omega
  have hm2 : len ≤ 200 := by omega
  have HGD : Hid (¬ (ms.length < 1 ∨ 200 < ms.length ∨ (L : Int) < 1 ∨ 5000 < (L : Int))) := by rw [← HN6.out]; show ¬ _; omega
  clear q0 q1 q2 q3 HHB HBF e0 e1 f0 f1
  obtain ⟨WM, hWM⟩ : ∃ W, W = ((W0.alloc (.cells #[.int .i64 0] 3)).alloc (.cells #[.slice (some ⟨W0.heap.size, 0, none⟩) 1 1] 27)).alloc (.cells #[.slice none 0 0, .slice none 0 0] 46) := ⟨_, rfl⟩
  have hbg := rf_made HA0.out HD0.out HB0.out HS0.out hWM
  have HWM : Hid (WM = _) := hWM
  obtain ⟨bd, hbd⟩ : ∃ b, b = W0.heap.size + 1 + 1 := ⟨_, rfl⟩
  have HBD : Hid (bd = W0.heap.size + 1 + 1) := hbd
  rw [← hbd] at hbg
  have HRB : Hid (RfI w w.heap.size (w.heap.size + 1) n1 (.slice sa n2 sc) (.slice fa n3 fc) (.slice la n4 lc) (.slice xa n5 xc) bd WM (.slice (some ⟨W0.heap.size + 1, 0, none⟩) 1 1) (bfs d free ms 0).S [.slice (some ⟨W0.heap.size, 0, none⟩) 1 1] (.slice none 0 0) (.slice none 0 0) [] (bfs d free ms 0).N (bfs d free ms 0).F (.slice none 0 0) []) := hbg
  clear hbg hWM hbd hlt
  go_upto_region 5 with fail
  rw [← HWM.out, ← HBD.out]
  clear g0 g1 g2 g3
  go_wp2
  go_loopw [10, 12] (fun x10 x12 wr => ∃ (j : Nat) (sv nv fv : Value) (vs ns : List Value), Hid (Vb d free ms L j) ∧ x10 = sv ∧ x12 = .int .i64 (j : Int) ∧ Hid (RfI w w.heap.size (w.heap.size + 1) n1 (.slice sa n2 sc) (.slice fa n3 fc) (.slice la n4 lc) (.slice xa n5 xc) bd wr sv (bfs d free ms j).S vs nv fv ns (bfs d free ms j).N (bfs d free ms j).F (.slice none 0 0) [])) (fun _ x12 _ => L + 2 - (intOf x12).toNat)
  case atStart => exact ⟨0, _, _, _, _, _, Vb.zero, rfl, rfl, HRB⟩
  case round =>
    obtain ⟨j, sv, nv, fv, vs, ns, HV, hx10, rfl, HW⟩ := hrel
    subst hx10
    have HVL : Hid ((bfs d free ms j).S.length ≤ L ∧ j ≤ L) := ⟨HV.out.len hL1, HV.out.le hL1⟩
    have HMB : Hid (∀ x ∈ (bfs d free ms j).S, (∀ y ∈ x, y ≤ d.sets.length) ∧ x.length ≤ d.sets.length + 2) := bfs_mem d free ms j
    have HNF : Hid ((bfs d free ms j).N.length = j ∧ (bfs d free ms j).F.length = j) := bfs_NF d free ms j
    obtain ⟨B, hB⟩ : ∃ B, B = bfs d free ms j := ⟨_, rfl⟩
    have HBJ : Hid (B = bfs d free ms j) := hB
    rw [← hB] at HW HVL HMB HNF
    obtain ⟨qa, qc, hqe, hqc⟩ := HW.out.sl
    obtain ⟨na, nn, nc, rfl⟩ := own_slice' HW.out.nrow
    obtain ⟨fva, fvn, fvc, rfl⟩ := own_slice' HW.out.frow
    obtain ⟨sl, hsl⟩ : ∃ x, x = B.S.length := ⟨_, rfl⟩
    have HSL : Hid (sl = B.S.length) := hsl
    rw [← hsl] at hqe hqc
    subst hqe
    have hjL : j ≤ L := HVL.out.2
    by_cases hjl : j < sl
    · obtain ⟨SB, hSB⟩ : ∃ X, X = stepB d free ms B j := ⟨_, rfl⟩
      have HSB : Hid (SB = stepB d free ms B j) := hSB
      have HJS : Hid (j < B.S.length) := by show _ < _; rw [← HSL.out]; exact hjl
      have HJS2 : Hid (j < (bfs d free ms j).S.length) := by show _ < _; rw [← HBJ.out]; exact HJS.out
      have HSB' : Hid (SB = bfs d free ms (j + 1)) := by show _ = _; rw [HSB.out, HBJ.out]; rfl
      obtain ⟨AT, hAT⟩ : ∃ X, X = B.S.getD j [] := ⟨_, rfl⟩
      have HAT : Hid (AT = B.S.getD j []) := hAT
      have HATM : Hid ((∀ y ∈ AT, y ≤ d.sets.length) ∧ AT.length ≤ d.sets.length + 2) := by
        show _ ∧ _
        rw [hAT]
        exact HMB.out _ (by rw [List.getD_eq_getElem?_getD, List.getElem?_eq_getElem HJS.out]; exact List.getElem_mem HJS.out)
      have HSBE : Hid (SB.S = (rowF d free AT ms B.S).2 ∧ SB.N = B.N ++ [(rowF d free AT ms B.S).1] ∧ SB.F = B.F ++ [AT.any (endP d)]) := by
        show _ ∧ _
        rw [hSB, hAT]
        exact ⟨rfl, rfl, rfl⟩
      have HGA : Hid (∀ i, (rowF d free AT (ms.take i) B.S).2.getD j [] = AT ∧ j < (rowF d free AT (ms.take i) B.S).2.length) := fun i => by
        obtain ⟨T, hT2⟩ := rowF_pre d free AT (ms.take i) B.S
        rw [hT2]
        refine ⟨?_, by rw [List.length_append]; have := HJS.out; omega⟩
        rw [List.getD_eq_getElem?_getD, List.getElem?_append_left HJS.out, HAT.out, List.getD_eq_getElem?_getD]
      have HOL : Hid (∀ i, ∀ x ∈ (rowF d free AT (ms.take i) B.S).2, x.length ≤ 100000) := fun i => rowF_in d free AT (ms.take i) B.S (fun x hx => by have := (HMB.out x hx).2; have := HOK.out.sets; omega) HOK.out.sets
      have HW' : Hid (RfI w w.heap.size (w.heap.size + 1) n1 (.slice sa n2 sc) (.slice fa n3 fc) (.slice la n4 lc) (.slice xa n5 xc) bd wr (.slice qa sl qc) (rowF d free AT (ms.take 0) B.S).2 vs (.slice na nn nc) (.slice fva fvn fvc) ns B.N B.F (.slice none 0 0) (rowF d free AT (ms.take 0) B.S).1) := HW
      have HL0 : Hid ((rowF d free AT (ms.take 0) B.S).2.length ≤ L) := HVL.out.1
      clear hB hSB hAT hsl HW
      go_wp2
      go_loopw [10, 13, 14] (fun x10 x13 x14 wr => ∃ (i : Nat) (sv rv : Value) (vs : List Value), i ≤ len ∧ x14 = .int .i64 (i : Int) ∧ x10 = sv ∧ x13 = rv ∧ Hid ((rowF d free AT (ms.take i) B.S).2.length ≤ L) ∧ Hid (RfI w w.heap.size (w.heap.size + 1) n1 (.slice sa n2 sc) (.slice fa n3 fc) (.slice la n4 lc) (.slice xa n5 xc) bd wr sv (rowF d free AT (ms.take i) B.S).2 vs (.slice na nn nc) (.slice fva fvn fvc) ns B.N B.F rv (rowF d free AT (ms.take i) B.S).1)) (fun _ _ x14 _ => len - (intOf x14).toNat)
      case atStart => exact ⟨0, _, _, _, Nat.zero_le _, rfl, rfl, rfl, HL0, HW'⟩
      case round =>
        obtain ⟨i, sv, rv, vs, hi, rfl, hx10, hx13, HLI, HW⟩ := hrel
        subst hx10 hx13
        obtain ⟨P, hP⟩ : ∃ P, P = rowF d free AT (ms.take i) B.S := ⟨_, rfl⟩
        have HPE : Hid (P = rowF d free AT (ms.take i) B.S) := hP
        have HGI : Hid (P.2.getD j [] = AT ∧ j < P.2.length) := by rw [hP]; exact HGA.out i
        have HOI : Hid (∀ x ∈ P.2, x.length ≤ 100000) := by rw [hP]; exact HOL.out i
        have HPL : Hid (P.1.length = i) := by
          show _ = _
          rw [hP, (rowF_len d free AT (ms.take i) B.S).1, List.length_take]
          have := HN6.out
          omega
        rw [← hP] at HLI HW
        obtain ⟨pa, pc, hpe, hpc⟩ := HW.out.sl
        obtain ⟨ra, rc, hre⟩ := HW.out.rl
        obtain ⟨pl, hpl⟩ : ∃ x, x = P.2.length := ⟨_, rfl⟩
        have HPLL : Hid (pl = P.2.length) := hpl
        rw [← hpl] at hpe hpc
        rw [HPL.out] at hre
        subst hpe hre
        have hplL : pl ≤ L := by rw [hpl]; exact HLI.out
        clear hP hpl
        by_cases hil : i < len
        case pos =>
          have him : i < ms.length := by rw [← HN6.out]; exact hil
          obtain ⟨MK, hMK⟩ : ∃ m, m = ms[i] := ⟨_, rfl⟩
          obtain ⟨h64, gm, om, hme, hgm, y0⟩ := HMV.out.at12 him
          rw [← hMK] at h64 y0
          have HPS : Hid (rowF d free AT (ms.take (i + 1)) B.S = stepR d free AT P MK) := by
            show _ = _
            rw [rowF_succ d free AT ms B.S him, ← HPE.out, ← hMK]
          obtain ⟨qg, qcc, qv, he, hqcc, hqg, qv0, hql⟩ := HW.out.at (j := j) HGI.out.2
          rw [HGI.out.1] at hql
          rw [← HPLL.out] at he
          obtain ⟨hpa, hpcc⟩ : pa = some ⟨qg, 0, none⟩ ∧ pc = qcc := by
            injection he with h1 h2 h3
            exact ⟨h1, h3⟩
          subst hpa hpcc hme
          obtain ⟨va, vn, vc, rfl⟩ := hql.any
          have HQL : Hid (LstAt w.heap.size wr (.slice va vn vc) AT) := hql
          have c0 := HW.out.ab.c0
          have c1 := HW.out.ab.c1
          have c2 := HW.out.ab.c2
          have c3 := HW.out.ab.c3
          have c4 := HW.out.ab.c4
          have hA := HW.out.ab.lt
          have y1 : wr.cell? ⟨gm, om + i, none⟩ = some (.int .u64 (MK : Int)) := (HW.out.bl.cell (p := ⟨gm, _, none⟩) hgm).trans y0
          have hgm' : gm < wr.heap.size := Nat.lt_of_lt_of_le hgm HW.out.bl.size
          have hj0 : (0 : Int) ≤ (j : Int) := by omega
          have hj1 : (j : Int) < (pl : Int) := by have := HGI.out.2; have := HPLL.out; omega
          have hi0' : (0 : Int) ≤ (i : Int) := by omega
          have hi1 : (i : Int) < (len : Int) := by omega
          have HSTP : Hid (Calls Tryd.prog 20 #[(.agg #[.bool n1, .slice sa n2 sc, .slice fa n3 fc, .slice la n4 lc, .slice xa n5 xc]), .slice va vn vc, .int .u64 (MK : Int)] wr.drew fun e w' => ∃ v' : Value, (∃ x y z, v' = .slice x y z) ∧ e = .returned v' ∧ w'.ownsRow wr.heap.size 3 1 v' (stepL d AT MK).length (cellP (stepL d AT MK)) ∧ Below wr.heap.size wr w') := by
            have hb : Below w.heap.size w wr.drew := HW.out.bl.drew
            have := rstep_any d (.agg #[.bool n1, .slice sa n2 sc, .slice fa n3 fc, .slice la n4 lc, .slice xa n5 xc]) AT (.slice va vn vc) MK wr.drew (HAU.out.below hb) HOK.out ((hql.below (Below.refl _ _).drew).plc.less (Nat.zero_le _)) HATM.out.1 (by have := HATM.out.2; have := HOK.out.sets; omega) h64
            exact this.mono fun e w' ⟨v', k1, k2, k3⟩ => ⟨v', own_slice' k2, k1, k2, below_drw k3⟩
          clear hql h64 y0 hMK he hqcc him
          go_upto_region 12 with fail
          go_cut [15] from 48 to 58 (fun s wx => Hid ((∃ x y z, s = .slice x y z) ∧ wx.ownsRow wr.heap.size 3 1 s (stepL d AT MK).length (cellP (stepL d AT MK)) ∧ Below wr.heap.size wr wx))
          case first =>
            go_region_law (go_simp; (with_reducible refine HSTP.out.mono ?_); rintro e w8 ⟨v8, ⟨_, _, _, rfl⟩, rfl, hP8, hB8⟩; try dsimp only)
            all_goals (
              go_wp2_with fail
              go_meet
              exact ⟨⟨_, _, _, rfl⟩, hP8, hB8⟩)
          case rest =>
          obtain ⟨⟨ta, tn, tc, rfl⟩, hP8, hB8⟩ := hcut.out
          obtain ⟨w8, hw8⟩ : ∃ W, W = wc := ⟨_, rfl⟩
          rw [← hw8] at hP8 hB8 ⊢
          have HO8 : Hid (w8.ownsRow wr.heap.size 3 1 (.slice ta tn tc) (stepL d AT MK).length (cellP (stepL d AT MK))) := hP8
          have HB8 : Hid (Below wr.heap.size wr w8) := hB8
          have HSTL : Hid ((stepL d AT MK).length ≤ 301) := by have := step_len (d := d) AT MK; have := HOK.out.sets; show _ ≤ _; omega
          clear hcut hP8 hB8 hw8 c0 c1 c2 c3 c4 hA y1 hgm' hj0 hj1 hi0' hi1 HSTP qv0 hqg hgm
          go_upto_if 58 with fail
          go_cut [15] from 59 to 62 (fun s wx => Hid (wx.ownsRow wr.heap.size 3 1 s (nxt d free AT MK).length (cellP (nxt d free AT MK)) ∧ Below wr.heap.size wr wx))
          case first =>
            cases free with
            | false =>
              go_wp2
              go_meet
              exact ⟨HO8.out, HB8.out⟩
            | true =>
              have HSR : Hid (SrcIs (w8.alloc (.cells #[.int .i64 0] 3)) (.slice ta tn tc) (stepL d AT MK).length 1 (cellP (stepL d AT MK))) := ((show PlcAt 0 0 w8 (.slice ta tn tc) (stepL d AT MK) from plc_of_row HO8.out (Nat.zero_le _)).below (below_alloc _ _)).src
              have HO9 : Hid ((w8.alloc (.cells #[.int .i64 0] 3)).ownsRow wr.heap.size 3 1 (.slice (some ⟨w8.heap.size, 0, none⟩) 1 1) 1 [.int .i64 0]) := World.ownsRow_lit w8 #[.int .i64 0] 1 HB8.out.size (by unfold maxLen; omega) rfl
              have hsz8 : wr.heap.size ≤ w8.heap.size := HB8.out.size
              have hst8 := HSTL.out
              go_wp2_with (at_builtin; go_must (refine wpList_append_src _ rfl _ _ 27 rfl wr.heap.size 3 i0 (.int .i64 0) 1 8 Tryd.underlying27 hi0 hz0 hz1 hz2 rfl (by decide) _ _ _ rfl HO9.out _ rfl (stepL d AT MK).length (cellP (stepL d AT MK)) HSR.out (by unfold maxLen; omega) (by omega) (by simp; omega) ?_); intro v3 w3 ho3 hg3)
              have hB3 : Below wr.heap.size wr w3 := (HB8.out.alloc hsz8 _).grown hg3 (by simp; omega) (fun z e => (HO9.out.lt z e).1)
              have HF3 : Hid (w3.ownsRow wr.heap.size 3 1 v3 (nxt d true AT MK).length (cellP (nxt d true AT MK)) ∧ Below wr.heap.size wr w3) := by
                refine ⟨?_, hB3⟩
                have e : (nxt d true AT MK).length = 1 + (stepL d AT MK).length := by simp [nxt, preF]; omega
                rw [e]
                exact ho3
              clear ho3 hg3 hB3
              go_wp2
              go_meet
              exact HF3.out
          case rest =>
          obtain ⟨w9, hw9⟩ : ∃ W, W = wc := ⟨_, rfl⟩
          rw [← hw9] at hcut ⊢
          have HO9 : Hid (w9.ownsRow wr.heap.size 3 1 u15 (nxt d free AT MK).length (cellP (nxt d free AT MK))) := hcut.out.1
          have HB9 : Hid (Below wr.heap.size wr w9) := hcut.out.2
          obtain ⟨xa1, xn1, xc1, rfl⟩ := own_slice' HO9.out
          have HW9 : Hid (RfI w w.heap.size (w.heap.size + 1) n1 (.slice sa n2 sc) (.slice fa n3 fc) (.slice la n4 lc) (.slice xa n5 xc) bd w9 (.slice (some ⟨qg, 0, none⟩) pl pc) P.2 vs (.slice na nn nc) (.slice fva fvn fvc) ns B.N B.F (.slice ra i rc) P.1) := HW.out.below HB9.out
          obtain ⟨nx, hnx⟩ : ∃ x, x = nxt d free AT MK := ⟨_, rfl⟩
          have HNX : Hid (nx = nxt d free AT MK) := hnx
          rw [← hnx] at HO9
          have HLX : Hid (LstAt w.heap.size w9 (.slice xa1 xn1 xc1) nx) := lst_of_row HO9.out HW.out.bl.size
          have HVK : Hid (∀ k, (Value.slice xa1 xn1 xc1).ownBlock = some k → k < w9.heap.size ∧ (Value.slice ra i rc).ownBlock ≠ some k) := fun k e => by
            refine ⟨(HO9.out.lt k e).2, fun e2 => ?_⟩
            have h1 := (HO9.out.lt k e).1
            have h2 := (HW.out.rrow.lt k e2).2
            omega
          have hfd := rfind_any12 P.2 w.heap.size (.slice (some ⟨qg, 0, none⟩) pl pc) vs nx (.slice xa1 xn1 xc1) w9 HW9.out.lenv HW9.out.srow HW9.out.slst HLX.out (by have := HPLL.out; omega) HOI.out
          obtain ⟨ix, hix⟩ : ∃ x, x = P.2.idxOf nx := ⟨_, rfl⟩
          have HIX : Hid (ix = P.2.idxOf nx) := hix
          obtain ⟨FR, hFR⟩ : ∃ x : Int, x = (if nx ∈ P.2 then ((P.2.idxOf nx : Nat) : Int) else -1) := ⟨_, rfl⟩
          have HFR : Hid ((nx ∈ P.2 → FR = (ix : Int)) ∧ (¬ nx ∈ P.2 → FR = -1)) := ⟨fun h => by rw [hFR, if_pos h, hix], fun h => by rw [hFR, if_neg h]⟩
          rw [← hFR] at hfd
          clear hcut hw9 hnx HO8 HB8 hFR hix
          go_wp2_with fail
          refine hfd.mono ?_
          rintro e w10 ⟨rfl, nd, rfl⟩
          have HW10 : Hid (RfI w w.heap.size (w.heap.size + 1) n1 (.slice sa n2 sc) (.slice fa n3 fc) (.slice la n4 lc) (.slice xa n5 xc) bd (w9.drewN nd) (.slice (some ⟨qg, 0, none⟩) pl pc) P.2 vs (.slice na nn nc) (.slice fva fvn fvc) ns B.N B.F (.slice ra i rc) P.1) := HW9.out.below (below_drewN' (Below.refl _ _) _)
          have HLX10 : Hid (LstAt w.heap.size (w9.drewN nd) (.slice xa1 xn1 xc1) nx) := HLX.out.below (below_drewN' (Below.refl _ _) _)
          obtain ⟨w10, hw10⟩ : ∃ W, W = w9.drewN nd := ⟨_, rfl⟩
          have HSZ : Hid (w10.heap.size = w9.heap.size) := by rw [hw10]; rfl
          rw [← hw10] at HW10 HLX10 ⊢
          clear hfd hw10
          go_upto_if 66 with fail
          go_cut [10, 16] from 67 to 73 (fun s k wx => k = .int .i64 (ix : Int) ∧ Hid (∃ vs', RfI w w.heap.size (w.heap.size + 1) n1 (.slice sa n2 sc) (.slice fa n3 fc) (.slice la n4 lc) (.slice xa n5 xc) bd wx s (meetS P.2 nx) vs' (.slice na nn nc) (.slice fva fvn fvc) ns B.N B.F (.slice ra i rc) P.1))
          case first =>
            by_cases hmem : nx ∈ P.2
            · have HMS : Hid (meetS P.2 nx = P.2) := by show _ = _; unfold meetS; rw [if_pos hmem]
              obtain rfl := HFR.out.1 hmem
              have hg : decide ((ix : Int) < 0) = false := decide_eq_false (by omega)
              clear hmem
              go_wp2
              go_meet
              exact ⟨rfl, by rw [HMS.out]; exact ⟨_, HW10.out⟩⟩
            · have HMS : Hid (meetS P.2 nx = P.2 ++ [nx] ∧ ix = pl) := by
                refine ⟨?_, ?_⟩
                · unfold meetS; rw [if_neg hmem]
                · rw [HIX.out, HPLL.out]; exact List.idxOf_eq_length hmem
              obtain rfl := HFR.out.2 hmem
              have HSR : Hid ((w10.alloc (.cells #[.slice xa1 xn1 xc1] 27)).ownsRow w.heap.size 27 1 (.slice (some ⟨qg, 0, none⟩) pl pc) pl vs) := by
                have := (HW10.out.below (below_alloc w10 (.cells #[.slice xa1 xn1 xc1] 27))).srow
                rw [← HPLL.out] at this
                exact this
              have hbs : w.heap.size ≤ w10.heap.size := HW10.out.bl.size
              have HFN : Hid (∀ w3 g cap, w3.ownsRow w.heap.size 27 1 (.slice (some ⟨g, 0, none⟩) (pl + 1) cap) (pl + 1) (vs ++ [.slice xa1 xn1 xc1]) → (w10.alloc (.cells #[.slice xa1 xn1 xc1] 27)).grownBy w3 (Value.slice (some ⟨qg, 0, none⟩) pl pc).ownBlock → ((Value.slice (some ⟨qg, 0, none⟩) pl pc).ownBlock = some g ∨ g = w10.heap.size + 1) → RfI w w.heap.size (w.heap.size + 1) n1 (.slice sa n2 sc) (.slice fa n3 fc) (.slice la n4 lc) (.slice xa n5 xc) bd w3 (.slice (some ⟨g, 0, none⟩) (pl + 1) cap) (meetS P.2 nx) (vs ++ [.slice xa1 xn1 xc1]) (.slice na nn nc) (.slice fva fvn fvc) ns B.N B.F (.slice ra i rc) P.1) := fun w3 g cap ho hg hat => by
                have hb := below_alloc w10 (.cells #[.slice xa1 xn1 xc1] 27)
                have h7 := HW10.out.below hb
                rw [HMS.out.1]
                have hp := h7.pushS (g := g) (cap := cap) (HLX10.out.below hb) (fun k e => ⟨by have := (HVK.out k e).1; have := HSZ.out; simp; omega, (HVK.out k e).2⟩) hg (by rw [← HPLL.out]; exact ho) (by rcases hat with q | q; exact .inl q; right; simp; omega)
                rw [← HPLL.out] at hp
                exact hp
              have hpl5 : pl ≤ 5000 := by omega
              clear hmem
              go_wp2_with (at_builtin; go_must (refine wpList_append_lies _ rfl _ _ 28 rfl w.heap.size 27 iL (.slice none 0 0) 1 24 Tryd.underlying28 hiL hzL0 hzL1 hzL2 rfl (by decide) _ _ _ rfl HSR.out ⟨w10.heap.size, 0, none⟩ 1 1 [.slice xa1 xn1 xc1] rfl rfl (World.news_of_block (by exact heap_new' _ _)) (by simp [Value.oneCell']) (by omega) (by unfold maxLen; omega) (by omega) (by simp; omega) (w10.heap.size + 1) (by simp) ?_); intro g cap w3 ho3 hg3 hat3 _; have HZ : Hid _ := HFN.out w3 g cap ho3 hg3 hat3; clear ho3 hg3 hat3)
              go_wp2
              go_meet
              exact ⟨by rw [HMS.out.2], _, HZ.out⟩
          case rest =>
          obtain ⟨rfl, hcut⟩ := hcut
          obtain ⟨vs2, HC⟩ := hcut.out
          obtain ⟨w11, hw11⟩ : ∃ W, W = wc := ⟨_, rfl⟩
          rw [← hw11] at HC ⊢
          have HP2 : Hid ((rowF d free AT (ms.take (i + 1)) B.S).2 = meetS P.2 nx ∧ (rowF d free AT (ms.take (i + 1)) B.S).1 = P.1 ++ [ix]) := by
            show _ ∧ _
            rw [HPS.out, HIX.out, HNX.out]
            exact ⟨rfl, rfl⟩
          have HW11 : Hid (RfI w w.heap.size (w.heap.size + 1) n1 (.slice sa n2 sc) (.slice fa n3 fc) (.slice la n4 lc) (.slice xa n5 xc) bd w11 u10 (rowF d free AT (ms.take (i + 1)) B.S).2 vs2 (.slice na nn nc) (.slice fva fvn fvc) ns B.N B.F (.slice ra i rc) P.1) := by
            show RfI _ _ _ _ _ _ _ _ _ _ _ _ _ _ _ _ _ _ _ _
            rw [HP2.out.1]
            exact HC
          obtain ⟨ka, kc, hke, hkc⟩ := HW11.out.sl
          obtain ⟨kl, hkl⟩ : ∃ x, x = (rowF d free AT (ms.take (i + 1)) B.S).2.length := ⟨_, rfl⟩
          have HKL : Hid (kl = (rowF d free AT (ms.take (i + 1)) B.S).2.length) := hkl
          rw [← hkl] at hke hkc
          subst hke
          clear hcut HC hw11 hkl HW9 HW10 HLX HLX10 HW HO9 HB9 HVK HSZ
          by_cases hbig : L < kl
          case pos =>
            have HE : Hid (errD d free ms (L : Int) = 8 ∧ dfaD d free ms (L : Int) = ([], [])) := errD_none HGD.out (by
              have := ans_err HV.out hL1 HJS2.out (by
                rw [← HSB'.out, HSBE.out.1]
                have := rowF_more d free AT ms B.S (i + 1)
                have := HKL.out
                omega)
              simpa using this)
            have e0 := HW11.out.db.c0
            have e1 := HW11.out.db.c1
            have f0 := HW11.out.db.nf 0
            have f1 := HW11.out.db.nf 1
            have hlt := HW11.out.db.lt
            have HBF : Hid (Below w.heap.size w ((w11.setCell ⟨w.heap.size + 1, 0, none⟩ (.slice none 0 0)).setCell ⟨w.heap.size + 1, 1, none⟩ (.slice none 0 0))) := (HW11.out.bl.setCell (Nat.le_succ _) _).setCell (Nat.le_succ _) _
            go_wp2
            refine bodyPost_ret (results_cell_tmp_row rfl _ _ (w.heap.size + 1) 46 #[.slice none 0 0, .slice none 0 0] (0, 0) _ rfl ?_ Tryd.underlying46 rfl (by kernel_rfl)) rfl ?_
            · exact (HW11.out.db.s0 _).s1 _
            · exact sbdA_zero HE.out HBF.out
          case neg =>
          have HLN : Hid ((rowF d free AT (ms.take (i + 1)) B.S).2.length ≤ L) := by have := HKL.out; show _ ≤ _; omega
          have HRR : Hid ((w11.alloc (.cells #[.int .i64 (ix : Int)] 3)).ownsRow w.heap.size 3 1 (.slice ra i rc) i (cellP P.1)) := by
            have := (HW11.out.below (below_alloc w11 (.cells #[.int .i64 (ix : Int)] 3))).rrow
            rw [HPL.out] at this
            exact this
          have hbs : w.heap.size ≤ w11.heap.size := HW11.out.bl.size
          have HFN : Hid (∀ w3 g cap, w3.ownsRow w.heap.size 3 1 (.slice (some ⟨g, 0, none⟩) (i + 1) cap) (i + 1) (cellP P.1 ++ [.int .i64 (ix : Int)]) → (w11.alloc (.cells #[.int .i64 (ix : Int)] 3)).grownBy w3 (Value.slice ra i rc).ownBlock → ((Value.slice ra i rc).ownBlock = some g ∨ g = w11.heap.size + 1) → RfI w w.heap.size (w.heap.size + 1) n1 (.slice sa n2 sc) (.slice fa n3 fc) (.slice la n4 lc) (.slice xa n5 xc) bd w3 (.slice ka kl kc) (rowF d free AT (ms.take (i + 1)) B.S).2 vs2 (.slice na nn nc) (.slice fva fvn fvc) ns B.N B.F (.slice (some ⟨g, 0, none⟩) (i + 1) cap) (rowF d free AT (ms.take (i + 1)) B.S).1) := fun w3 g cap ho hg hat => by
            have h7 := HW11.out.below (below_alloc w11 (.cells #[.int .i64 (ix : Int)] 3))
            rw [HP2.out.2]
            exact h7.pushR hg (by rw [HPL.out]; exact ho) (fun k e => by
              have e2 : g = k := by injection e
              subst e2
              rcases hat with q | q
              · exact .inl q
              · right; simp; omega)
          go_wp2_with (at_builtin; go_must (refine wpList_append_lies _ rfl _ _ 27 rfl w.heap.size 3 i0 (.int .i64 0) 1 8 Tryd.underlying27 hi0 hz0 hz1 hz2 rfl (by decide) _ _ _ rfl HRR.out ⟨w11.heap.size, 0, none⟩ 1 1 [.int .i64 (ix : Int)] rfl rfl (World.news_of_block (by exact heap_new' _ _)) (by simp [Value.oneCell']) (by omega) (by unfold maxLen; omega) (by omega) (by simp; omega) (w11.heap.size + 1) (by simp) ?_); intro g cap w3 ho3 hg3 hat3 _; have HZ : Hid _ := HFN.out w3 g cap ho3 hg3 hat3; clear ho3 hg3 hat3)
          go_wp2
          go_roundw
          case rel => exact ⟨i + 1, _, _, _, by omega, by go_num, rfl, rfl, HLN, HZ⟩
          case measure => simp [intOf]; omega
        case neg =>
        have HEQ : Hid (ms.take i = ms) := List.take_of_length_le (by have := HN6.out; omega)
        obtain ⟨RN, hRN⟩ : ∃ X, X = P.1 := ⟨_, rfl⟩
        have HRN : Hid (SB.S = P.2 ∧ SB.N = B.N ++ [RN] ∧ SB.F = B.F ++ [AT.any (endP d)]) := by
          have h1 := HPE.out
          rw [HEQ.out] at h1
          show _ ∧ _
          rw [hRN, h1]
          exact HSBE.out
        have HWE : Hid (RfI w w.heap.size (w.heap.size + 1) n1 (.slice sa n2 sc) (.slice fa n3 fc) (.slice la n4 lc) (.slice xa n5 xc) bd wr (.slice pa pl pc) SB.S vs (.slice na nn nc) (.slice fva fvn fvc) ns B.N B.F (.slice ra i rc) RN) := by
          show RfI _ _ _ _ _ _ _ _ _ _ _ _ _ _ _ _ _ _ _ _
          rw [HRN.out.1, hRN]
          exact HW.out
        have HSS : Hid (pl = SB.S.length ∧ j < SB.S.length ∧ SB.S.getD j [] = AT) := by
          show _ ∧ _
          rw [HRN.out.1]
          exact ⟨HPLL.out, HGI.out.2, HGI.out.1⟩
        have HNR : Hid ((wr.alloc (.cells #[.slice ra i rc] 27)).ownsRow w.heap.size 27 1 (.slice na nn nc) j ns) := by
          have := (HWE.out.below (below_alloc wr (.cells #[.slice ra i rc] 27))).nrow
          rw [HNF.out.1] at this
          exact this
        have HFN : Hid (∀ w3 g cap, w3.ownsRow w.heap.size 27 1 (.slice (some ⟨g, 0, none⟩) (j + 1) cap) (j + 1) (ns ++ [.slice ra i rc]) → (wr.alloc (.cells #[.slice ra i rc] 27)).grownBy w3 (Value.slice na nn nc).ownBlock → ((Value.slice na nn nc).ownBlock = some g ∨ g = wr.heap.size + 1) → (w3.cell? ⟨bd, 0, none⟩ = some (.slice na nn nc) ∧ w3.frozen? ⟨bd, 0, none⟩ = false) ∧ RfI w w.heap.size (w.heap.size + 1) n1 (.slice sa n2 sc) (.slice fa n3 fc) (.slice la n4 lc) (.slice xa n5 xc) bd (w3.setCell ⟨bd, 0, none⟩ (.slice (some ⟨g, 0, none⟩) (j + 1) cap)) (.slice pa pl pc) SB.S vs (.slice (some ⟨g, 0, none⟩) (j + 1) cap) (.slice fva fvn fvc) (ns ++ [.slice ra i rc]) SB.N B.F (.slice none 0 0) []) := fun w3 g cap ho hg hat => by
          have h7 := HWE.out.below (below_alloc wr (.cells #[.slice ra i rc] 27))
          have hp := h7.pushN (g := g) (cap := cap) hg (by rw [HNF.out.1]; exact ho) (by rcases hat with q | q; exact .inl q; right; simp; omega)
          rw [HNF.out.1] at hp
          refine ⟨hp.1, ?_⟩
          rw [HRN.out.2.1]
          exact hp.2
        have c0 := HWE.out.c0
        have hbdl := HWE.out.lt
        have hbs : w.heap.size ≤ wr.heap.size := HWE.out.bl.size
        clear hRN HW
        go_upto_region 22 with fail
        go_cut [] from 82 to 88 (fun wx => Hid (∃ nv' ns', RfI w w.heap.size (w.heap.size + 1) n1 (.slice sa n2 sc) (.slice fa n3 fc) (.slice la n4 lc) (.slice xa n5 xc) bd wx (.slice pa pl pc) SB.S vs nv' (.slice fva fvn fvc) ns' SB.N B.F (.slice none 0 0) []))
        case first =>
          go_wp2_with (at_builtin; go_must (refine wpList_append_lies _ rfl _ _ 28 rfl w.heap.size 27 iL (.slice none 0 0) 1 24 Tryd.underlying28 hiL hzL0 hzL1 hzL2 rfl (by decide) _ _ _ rfl HNR.out ⟨wr.heap.size, 0, none⟩ 1 1 [.slice ra i rc] rfl rfl (World.news_of_block (by exact heap_new' _ _)) (by simp [Value.oneCell']) (by omega) (by unfold maxLen; omega) (by omega) (by simp; omega) (wr.heap.size + 1) (by simp) ?_); intro g cap w3 ho3 hg3 hat3 _; obtain ⟨⟨z0, z1⟩, z2⟩ := HFN.out w3 g cap ho3 hg3 hat3; have HZ : Hid _ := z2; clear ho3 hg3 hat3 z2)
          go_wp2
          go_meet
          exact ⟨_, _, HZ.out⟩
        case rest =>
        obtain ⟨nv3, ns3, HC⟩ := hcut.out
        obtain ⟨w12, hw12⟩ : ∃ W, W = wc := ⟨_, rfl⟩
        rw [← hw12] at HC ⊢
        have HC : Hid (RfI w w.heap.size (w.heap.size + 1) n1 (.slice sa n2 sc) (.slice fa n3 fc) (.slice la n4 lc) (.slice xa n5 xc) bd w12 (.slice pa pl pc) SB.S vs nv3 (.slice fva fvn fvc) ns3 SB.N B.F (.slice none 0 0) []) := HC
        clear hcut hw12 c0 hbdl hbs HWE HNR HFN
        obtain ⟨rg, rcc, rv, hre2, hrc, hrg, rv0, hrl⟩ := HC.out.at (j := j) HSS.out.2.1
        rw [HSS.out.2.2] at hrl
        rw [← HSS.out.1] at hre2
        obtain ⟨hpa2, hpc2⟩ : pa = some ⟨rg, 0, none⟩ ∧ pc = rcc := by
          injection hre2 with h1 h2 h3
          exact ⟨h1, h3⟩
        subst hpa2 hpc2
        obtain ⟨ka, kn, kc, rfl⟩ := own_slice' HC.out.nrow
        obtain ⟨xx, hxx⟩ : ∃ x, x = AT.any (endP d) := ⟨_, rfl⟩
        obtain ⟨va', vn', vc', rfl⟩ := hrl.any
        have HEND : Hid (∀ W, Below w12.heap.size w12 W → Calls Tryd.prog 18 #[(.agg #[.bool n1, .slice sa n2 sc, .slice fa n3 fc, .slice la n4 lc, .slice xa n5 xc]), .slice va' vn' vc'] W fun e w' => e = .returned (.bool xx) ∧ Hid (RfI w w.heap.size (w.heap.size + 1) n1 (.slice sa n2 sc) (.slice fa n3 fc) (.slice la n4 lc) (.slice xa n5 xc) bd w' (.slice (some ⟨rg, 0, none⟩) pl pc) SB.S vs (.slice ka kn kc) (.slice fva fvn fvc) ns3 SB.N B.F (.slice none 0 0) [])) := fun W hb => by
          have hWW := HC.out.below hb
          have he := rend_any d (.agg #[.bool n1, .slice sa n2 sc, .slice fa n3 fc, .slice la n4 lc, .slice xa n5 xc]) AT (.slice va' vn' vc') W (HAU.out.below hWW.bl) ((hrl.below hb).plc.less (Nat.zero_le _)) (by have := HATM.out.2; have := HOK.out.sets; omega) (by have := HOK.out.in2.len (Nat.zero_le _); have := HOK.out.sets; omega)
          refine he.mono ?_
          rintro e w' ⟨rfl, hb'⟩
          exact ⟨by rw [hxx], hWW.below hb'⟩
        have HFN2 : Hid (∀ w6 w8 o v', RfI w w.heap.size (w.heap.size + 1) n1 (.slice sa n2 sc) (.slice fa n3 fc) (.slice la n4 lc) (.slice xa n5 xc) bd w6 (.slice (some ⟨rg, 0, none⟩) pl pc) SB.S vs (.slice ka kn kc) (.slice fva fvn fvc) ns3 SB.N B.F (.slice none 0 0) [] → (w6.alloc o).grownBy w8 (Value.slice fva fvn fvc).ownBlock → w8.ownsRow w.heap.size 4 1 v' (j + 1) (cellBo B.F ++ [.bool xx]) → (w8.cell? ⟨bd, 1, none⟩ = some (.slice fva fvn fvc) ∧ w8.frozen? ⟨bd, 1, none⟩ = false) ∧ Hid (RfI w w.heap.size (w.heap.size + 1) n1 (.slice sa n2 sc) (.slice fa n3 fc) (.slice la n4 lc) (.slice xa n5 xc) bd (w8.setCell ⟨bd, 1, none⟩ v') (.slice (some ⟨rg, 0, none⟩) pl pc) (bfs d free ms (j + 1)).S vs (.slice ka kn kc) v' ns3 (bfs d free ms (j + 1)).N (bfs d free ms (j + 1)).F (.slice none 0 0) [])) := fun w6 w8 o v' h6 hg ho => by
          have h7 := h6.below (below_alloc w6 o)
          have hp := h7.pushF (v' := v') (x := xx) hg (by rw [HNF.out.2]; exact ho)
          refine ⟨hp.1, ?_⟩
          show RfI _ _ _ _ _ _ _ _ _ _ _ _ _ _ _ _ _ _ _ _
          rw [← HSB'.out, HRN.out.2.2, ← hxx]
          exact hp.2
        have HRW2 : Hid (∀ w6 o, RfI w w.heap.size (w.heap.size + 1) n1 (.slice sa n2 sc) (.slice fa n3 fc) (.slice la n4 lc) (.slice xa n5 xc) bd w6 (.slice (some ⟨rg, 0, none⟩) pl pc) SB.S vs (.slice ka kn kc) (.slice fva fvn fvc) ns3 SB.N B.F (.slice none 0 0) [] → (w6.alloc o).ownsRow w.heap.size 4 1 (.slice fva fvn fvc) j (cellBo B.F)) := fun w6 o h6 => by
          have := (h6.below (below_alloc w6 o)).frow
          rw [HNF.out.2] at this
          exact this
        have c0 := HC.out.ab.c0
        have c1 := HC.out.ab.c1
        have c2 := HC.out.ab.c2
        have c3 := HC.out.ab.c3
        have c4 := HC.out.ab.c4
        have d1 := HC.out.c1
        have b1 := HC.out.lt
        have hA := HC.out.ab.lt
        have hj0 : (0 : Int) ≤ (j : Int) := by omega
        have hj1 : (j : Int) < (pl : Int) := by have := HSS.out.2.1; have := HSS.out.1; omega
        clear hrl hxx hre2
        have HV1 : Hid (Vb d free ms L (j + 1)) := HV.out.succ HJS2.out (by rw [← HSB'.out, ← HSS.out.1]; exact hplL)
        go_wp2
        go_region_law (first | (go_simp; (with_reducible refine (HEND.out w12.drew (Below.refl _ _).drew).mono ?_); rintro e w6 ⟨rfl, H6⟩; have s4 := H6.out.c1; have s5 := H6.out.lt; try dsimp only) | (refine step_append_lies _ (by rfl) (.tmp 89) (.tmp 96) 44 (by rfl) w.heap.size 4 iB (.bool false) 1 1 Tryd.underlying44 hiB hzB0 hzB1 hzB2 rfl (by decide) (.slice fva fvn fvc) j (cellBo B.F) (by rfl) (by exact (HRW2.out _ _ H6.out)) ⟨w6.heap.size, 0, none⟩ 1 1 [.bool xx] (by rfl) rfl (by exact World.news_of_block (heap_new' w6 _)) (by simp [Value.oneCell']) (by omega) (by unfold maxLen; omega) (by omega) (by have := H6.out.bl.size; simp; omega) (w6.heap.size + 1) (by simp) ?_; intro gL capL w8 hownL hgrowL hatL hltL; obtain ⟨⟨t0, t1⟩, HZ⟩ := HFN2.out _ _ _ _ H6.out hgrowL hownL))
        all_goals (
          go_wp2
          go_roundw
          case rel => exact ⟨j + 1, _, _, _, _, _, HV1, rfl, by go_num, HZ⟩
          case measure => simp [intOf]; omega)
    · have HJS : Hid (¬ j < (bfs d free ms j).S.length) := by
        show ¬ _
        rw [← HBJ.out, ← HSL.out]
        exact hjl
      have HE : Hid (errD d free ms (L : Int) = 0 ∧ dfaD d free ms (L : Int) = (B.N, B.F)) := by
        show _ ∧ _
        rw [HBJ.out]
        exact errD_some HGD.out (by
          have := ans_ok HV.out hL1 HJS.out
          simpa using this)
      have d0 := HW.out.c0
      have d1 := HW.out.c1
      have b1 := HW.out.lt
      have e0 := HW.out.db.c0
      have e1 := HW.out.db.c1
      have f0 := HW.out.db.nf 0
      have f1 := HW.out.db.nf 1
      have hlt := HW.out.db.lt
      clear hB hsl
      go_wp2
      refine bodyPost_ret (results_cell_tmp_row rfl _ _ (w.heap.size + 1) 46 #[.slice na nn nc, .slice fva fvn fvc] (0, 0) _ rfl ?_ Tryd.underlying46 rfl (by kernel_rfl)) rfl ?_
      · exact (HW.out.db.s0 _).s1 _
      · have hfin := HW.out.fin (Nat.le_succ _)
        exact ⟨_, by rw [HE.out.1]; rfl, by rw [HE.out.2]; exact hfin.1, hfin.2⟩
end Go.Proofs.YtehkaiohmcenbaaDoor
