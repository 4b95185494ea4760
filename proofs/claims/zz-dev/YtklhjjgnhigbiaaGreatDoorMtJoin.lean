/-
  Places joined.
-/
import Derived.Test.YtklhjjgnhigbiaaGreatDoorMtOver
import Derived.Deep.RegionLaw
namespace Go.Proofs.YtklhjjgnhigbiaaGreatDoor
open Go.RowKit
set_option linter.unusedVariables false

def mergeL : List Nat → List Nat → List Nat
  | [], q => q
  | x :: p, [] => x :: p
  | x :: p, y :: q => if x < y then x :: mergeL p (y :: q) else if y < x then y :: mergeL (x :: p) q else mergeL p (y :: q)
theorem mergeL_nil (q : List Nat) : mergeL [] q = q := by rw [mergeL]
theorem mergeL_nil' : ∀ (p : List Nat), mergeL p [] = p
  | [] => by rw [mergeL]
  | x :: p => by rw [mergeL]
theorem mergeL_mem : ∀ (p q : List Nat) (z : Nat), z ∈ mergeL p q ↔ z ∈ p ∨ z ∈ q
  | [], q, z => by rw [mergeL]; simp
  | x :: p, [], z => by rw [mergeL]; simp
  | x :: p, y :: q, z => by
    rw [mergeL]
    split
    · rw [List.mem_cons, mergeL_mem p (y :: q)]; simp only [List.mem_cons]; exact or_assoc.symm
    · split
      · rw [List.mem_cons, mergeL_mem (x :: p) q]; simp only [List.mem_cons]
        constructor
        · rintro (h | h | h)
          · exact .inr (.inl h)
          · exact .inl h
          · exact .inr (.inr h)
        · rintro (h | h | h)
          · exact .inr (.inl h)
          · exact .inl h
          · exact .inr (.inr h)
      · rw [mergeL_mem p (y :: q)]; simp only [List.mem_cons]
        have e : x = y := by omega
        subst e
        constructor
        · rintro (h | h)
          · exact .inl (.inr h)
          · exact .inr h
        · rintro ((h | h) | h)
          · exact .inr (.inl h)
          · exact .inl h
          · exact .inr h
theorem mergeL_ris : ∀ {L : Nat} (p q : List Nat), Ris L p → Ris L q → Ris L (mergeL p q) := by
  intro L p q hp hq
  refine ⟨?_, fun z hz => ((mergeL_mem p q z).1 hz).elim (hp.2 z) (hq.2 z)⟩
  have key : ∀ (p q : List Nat), p.Pairwise (· < ·) → q.Pairwise (· < ·) → (mergeL p q).Pairwise (· < ·) := by
    intro p q
    induction p, q using mergeL.induct with
    | case1 q => intro _ h; rw [mergeL]; exact h
    | case2 x p => intro h _; rw [mergeL]; exact h
    | case3 x p y q hlt ih =>
      intro h1 h2
      rw [mergeL, if_pos hlt, List.pairwise_cons]
      rw [List.pairwise_cons] at h1
      refine ⟨fun z hz => ?_, ih h1.2 h2⟩
      rcases (mergeL_mem _ _ _).1 hz with h | h
      · exact h1.1 z h
      · rcases List.mem_cons.1 h with rfl | h
        · exact hlt
        · exact Nat.lt_trans hlt ((List.pairwise_cons.1 h2).1 z h)
    | case4 x p y q hnl hlt ih =>
      intro h1 h2
      rw [mergeL, if_neg hnl, if_pos hlt, List.pairwise_cons]
      rw [List.pairwise_cons] at h2
      refine ⟨fun z hz => ?_, ih h1 h2.2⟩
      rcases (mergeL_mem _ _ _).1 hz with h | h
      · rcases List.mem_cons.1 h with rfl | h
        · exact hlt
        · exact Nat.lt_trans hlt ((List.pairwise_cons.1 h1).1 z h)
      · exact h2.1 z h
    | case5 x p y q hnl hnl2 ih =>
      intro h1 h2
      rw [mergeL, if_neg hnl, if_neg hnl2]
      exact ih (List.pairwise_cons.1 h1).2 h2
  exact key p q hp.1 hq.1

/-- One more where there is room. -/
theorem own_push {w : World} {base e G n C : Nat} {xs : List Value} (h : w.ownsRow base e 1 (.slice (some ⟨G, 0, none⟩) n C) n xs) (hn : n < C) (u : Value) :
    (w.setCell ⟨G, n, none⟩ u).ownsRow base e 1 (.slice (some ⟨G, 0, none⟩) (n + 1) C) (n + 1) (xs ++ [u]) := by
  have hl := h.1
  rcases h.2 with ⟨e0, _⟩ | ⟨g', cap', cur, e0, hb, hg, hc, hm, hs, ht⟩
  · cases e0
  · obtain ⟨rfl, rfl⟩ : G = g' ∧ C = cap' := by simpa using e0
    refine ⟨by simp; omega, .inr ⟨G, C, cur.setIfInBounds n u, rfl, hb, ?_, by omega, hm, by simpa using hs, ?_⟩⟩
    · simp [World.setCell, Array.getElem?_modify, hg]
    · have hsz : n < cur.toList.length := by simp; omega
      rw [show (cur.setIfInBounds n u).toList = cur.toList.set n u by simp]
      simp only [Nat.mul_one] at ht ⊢
      rw [List.take_set, List.take_add_one, ht, List.getElem?_eq_getElem hsz]
      have hxl : xs.length = n := by simpa using hl
      rw [List.set_append_right _ _ (by omega)]
      simp [hxl]
theorem own_spare {w : World} {base e G n C : Nat} {xs : List Value} (h : w.ownsRow base e 1 (.slice (some ⟨G, 0, none⟩) n C) n xs) (hn : n < C) : (w.cell? ⟨G, n, none⟩).isSome = true ∧ w.frozen? ⟨G, n, none⟩ = false := by
  rcases h.2 with ⟨e0, _⟩ | ⟨g', cap', cur, e0, hb, hg, hc, hm, hs, ht⟩
  · cases e0
  · obtain ⟨rfl, rfl⟩ : G = g' ∧ C = cap' := by simpa using e0
    refine ⟨?_, by simp [World.frozen?, hg]⟩
    rw [cell_in hg, Array.getElem?_eq_getElem (by omega)]
    rfl
theorem lt_of_own {w : World} {base e G n C : Nat} {xs : List Value} (h : w.ownsRow base e 1 (.slice (some ⟨G, 0, none⟩) n C) n xs) : G < w.heap.size := by
  rcases h.2 with ⟨e0, _⟩ | ⟨g', cap', cur, e0, hb, hg, hc, hm, hs, ht⟩
  · cases e0
  · obtain ⟨rfl, rfl⟩ : G = g' ∧ C = cap' := by simpa using e0
    exact lt_of_heap hg
theorem PlcAt.slice {b0 B : Nat} {w : World} {v : Value} {l : List Nat} (h : PlcAt b0 B w v l) : ∃ a cap, v = .slice a l.length cap ∧ l.length ≤ cap := by
  obtain ⟨a, cap, rfl, hc, _⟩ := h
  exact ⟨a, cap, rfl, hc⟩
theorem PlcAt.cons {b0 B : Nat} {w : World} {v : Value} {x : Nat} {l : List Nat} (h : PlcAt b0 B w v (x :: l)) : ∃ g off cap, v = .slice (some ⟨g, off, none⟩) (l.length + 1) cap ∧ l.length + 1 ≤ cap ∧ (g < b0 ∨ B ≤ g) ∧ g < w.heap.size ∧ w.cell? ⟨g, off, none⟩ = some (.int .i64 (x : Int)) ∧ PlcAt b0 B w (.slice (if cap = 1 then some ⟨g, off, none⟩ else some ⟨g, off + 1, none⟩) l.length (cap - 1)) l := by
  obtain ⟨a, cap, rfl, hc, hn, hi⟩ := h
  obtain ⟨g, off, rfl, h1, h2, h3⟩ := hi 0 (by simp)
  simp only [List.length_cons] at hc
  refine ⟨g, off, cap, rfl, hc, h1, h2, h3, _, cap - 1, rfl, by omega, fun e => (by split at e <;> cases e), fun i hi2 => ?_⟩
  rw [if_neg (by omega)]
  obtain ⟨g', off', e, h1', h2', h3'⟩ := hi (i + 1) (by simpa using hi2)
  cases e
  refine ⟨g, off + 1, rfl, h1, h2, ?_⟩
  rw [show off + 1 + i = off + (i + 1) by omega]
  exact h3'

def slen : Value → Nat | .slice _ n _ => n | _ => 0
set_option maxRecDepth 100000 in
set_option maxHeartbeats 8000000 in
theorem join_any (p q : List Nat) (v u : Value) (w : World) (b0 B L : Nat) (hv : PlcAt b0 B w v p) (hu : PlcAt b0 B w u q) (hp : Ris L p) (hq : Ris L q) (hL : L < 64) (hB : B ≤ w.heap.size) :
    Calls Tryz.prog 76 #[v, u] w fun e w' => ∃ v', e = .returned v' ∧ PlcAt b0 B w' v' (mergeL p q) ∧ Below w.heap.size w w' := by
  obtain ⟨i0, hi0, hz0, hz1, hz2⟩ := info_parts Tryz.infoInt
  have hpl := hp.len
  have hql := hq.len
  cases p with
  | nil =>
    obtain ⟨a, cap, rfl, hcap⟩ := hv.slice
    rw [mergeL_nil]
    have HU : Hid (PlcAt b0 B w u q) := hu
    obtain ⟨b, cap2, rfl, hcap2⟩ := hu.slice
    clear hu hv
    obtain ⟨len, hle⟩ : ∃ len, len = q.length := ⟨_, rfl⟩
    rw [← hle] at HU ⊢
    go_enter Tryz.func76, Tryz.ntmps76
    go_wp2
    go_ret
    exact ⟨_, rfl, HU.out, Below.refl _ _⟩
  | cons x0 p0 =>
    have HV : Hid (PlcAt b0 B w v (x0 :: p0)) := hv
    have HU : Hid (PlcAt b0 B w u q) := hu
    obtain ⟨a, cap, rfl, hcap⟩ := hv.slice
    obtain ⟨b, cap2, rfl, hcap2⟩ := hu.slice
    obtain ⟨len, hle⟩ : ∃ len, len = (x0 :: p0).length := ⟨_, rfl⟩
    obtain ⟨len2, hle2⟩ : ∃ len, len = q.length := ⟨_, rfl⟩
    obtain ⟨P, hP⟩ : ∃ P, P = x0 :: p0 := ⟨_, rfl⟩
    rw [← hP] at HV hle hp ⊢
    rw [← hP] at hcap hpl
    rw [← hle] at hcap hpl HV ⊢
    rw [← hle2] at hcap2 hql HU ⊢
    have HLE : Hid (len = P.length) := hle
    have HLE2 : Hid (len2 = q.length) := hle2
    have hl0 : 0 < len := by rw [hle, hP]; simp
    have hl0' : ((len : Int) == 0) = false := by simp; omega
    have HRP : Hid (Ris L P) := hp
    have HRQ : Hid (Ris L q) := hq
    clear hv hu hle hle2 hP hp hq
    go_enter Tryz.func76, Tryz.ntmps76
    go_wp2_with (at_make; go_must (refine wpList_make_own w rfl _ _ 77 rfl w.heap.size 3 i0 (.int .i64 0) 1 Tryz.underlying77 hi0 hz0 hz1 .i64 .i64 _ (len + len2) rfl rfl (by simp) (by rw [hz2]; omega) (by unfold maxLen; omega) (Nat.le_refl _) ?_); intro w1 ho1 hg1; have hB1 : Below w.heap.size w w1 := (Below.refl _ _).grown hg1 (Nat.le_refl _) (fun k e => by cases e))
    obtain ⟨C, hC⟩ : ∃ C, C = len + len2 := ⟨_, rfl⟩
    rw [← hC] at ho1 ⊢
    have HC : Hid (C = len + len2) := hC
    have HO1 : Hid (w1.ownsRow w.heap.size 3 1 (.slice (some ⟨w.heap.size, 0, none⟩) 0 C) 0 []) := ho1
    have HB1 : Hid (Below w.heap.size w w1) := hB1
    clear hC ho1 hg1 hB1
    go_wp2
    go_loopw [0, 1, 5] (fun x0 x1 x5 wr => ∃ (ps qs bs : List Nat), Hid (PlcAt b0 B w x0 ps) ∧ Hid (PlcAt b0 B w x1 qs) ∧ slen x0 = ps.length ∧ slen x1 = qs.length ∧ x5 = .slice (some ⟨w.heap.size, 0, none⟩) bs.length C ∧ Hid (wr.ownsRow w.heap.size 3 1 (.slice (some ⟨w.heap.size, 0, none⟩) bs.length C) bs.length (cellP bs)) ∧ bs.length + ps.length + qs.length ≤ C ∧ Hid (bs ++ mergeL ps qs = mergeL P q) ∧ Hid (Below w.heap.size w wr)) (fun x0 x1 _ _ => slen x0 + slen x1)
    case atStart =>
      refine ⟨P, q, [], HV, HU, HLE.out, HLE2.out, rfl, ?_, by have := HLE.out; have := HLE2.out; have := HC.out; simp; omega, by rfl, HB1⟩
      exact HO1
    case round =>
      obtain ⟨ps, qs, bs, HPV, HQV, hs0, hs1, rfl, HOW, hroom, HEQ, HBW⟩ := hrel
      have hws : w.heap.size ≤ wr.heap.size := HBW.out.size
      have hC64 : C ≤ 128 := by have := HC.out; omega
      cases ps with
      | nil =>
        obtain ⟨pa, pc, rfl, hpc⟩ := HPV.out.slice
        obtain ⟨qa, qc, rfl, hqc⟩ := HQV.out.slice
        obtain ⟨n, hn⟩ : ∃ n, n = bs.length := ⟨_, rfl⟩
        obtain ⟨np, hnp⟩ : ∃ n, n = ([] : List Nat).length := ⟨_, rfl⟩
        obtain ⟨nq', hnq⟩ : ∃ n, n = qs.length := ⟨_, rfl⟩
        rw [← hn] at HOW hroom ⊢
        rw [← hnp] at HPV hroom hpc ⊢
        rw [← hnq] at HQV hroom hqc ⊢
        have HN : Hid (n = bs.length) := hn
        have HNP : Hid (np = ([] : List Nat).length) := hnp
        have HNQ : Hid (nq' = qs.length) := hnq
        have HSP : Hid (SrcIs wr (.slice pa np pc) np 1 (cellP (([] : List Nat)))) := by
          have := (HPV.out.below HBW.out).src
          rw [← hnp] at this; exact this
        have HSQ : Hid (∀ W, Below w.heap.size w W → SrcIs W (.slice qa nq' qc) nq' 1 (cellP (qs))) := fun W hb => by
          have := (HQV.out.below hb).src
          rw [← hnq] at this; exact this
        clear hn hnq hs0 hs1 
        obtain rfl : np = 0 := hnp
        go_wp2_with (first | (at_builtin; (refine wpList_append_src _ rfl (.tmp 58) (.tmp 59) 77 rfl w.heap.size 3 i0 (.int .i64 0) 1 8 Tryz.underlying77 hi0 hz0 hz1 hz2 rfl (by decide) _ _ _ rfl HOW.out _ rfl 0 _ HSP.out (by unfold maxLen; omega) (by omega) (by omega) ?_); intro v1 w1 ho1 hg1; have HO2 : Hid (w1.ownsRow w.heap.size 3 1 v1 (n + 0) (cellP bs ++ cellP (([] : List Nat)))) := ho1; have HB2 : Hid (Below w.heap.size w w1) := HBW.out.grown hg1 (by omega) (fun k e => (HOW.out.lt k e).1); clear ho1 hg1) | (at_builtin; refine wpList_append_src _ rfl (.tmp 60) (.tmp 61) 77 rfl w.heap.size 3 i0 (.int .i64 0) 1 8 Tryz.underlying77 hi0 hz0 hz1 hz2 rfl (by decide) _ _ _ rfl HO2.out _ rfl nq' _ (HSQ.out _ HB2.out) (by unfold maxLen; omega) (by omega) (by have := HB2.out.size; omega) ?_; intro v2 w2 ho2 hg2; have HO3 : Hid (w2.ownsRow w.heap.size 3 1 v2 (n + 0 + nq') (cellP bs ++ cellP (([] : List Nat)) ++ cellP (qs))) := ho2; have HB3 : Hid (Below w.heap.size w w2) := HB2.out.grown hg2 (by have := HB2.out.size; omega) (fun k e => (HO2.out.lt k e).1); clear ho2 hg2) | fail)
        go_ret
        have e : mergeL P q = bs ++ ([] : List Nat) ++ qs := by
          rw [← HEQ.out]
          rw [mergeL_nil]; simp
        rw [e]
        refine ⟨_, rfl, plc_of_row ?_ hB, HB3.out⟩
        have := HO3.out
        rw [cellP_append, cellP_append, List.length_append, List.length_append, ← HN.out, ← HNP.out, ← HNQ.out]
        exact this
      | cons x ps =>
        cases qs with
        | nil =>
          obtain ⟨pa, pc, rfl, hpc⟩ := HPV.out.slice
          obtain ⟨qa, qc, rfl, hqc⟩ := HQV.out.slice
          obtain ⟨n, hn⟩ : ∃ n, n = bs.length := ⟨_, rfl⟩
          obtain ⟨np, hnp⟩ : ∃ n, n = (x :: ps).length := ⟨_, rfl⟩
          obtain ⟨nq', hnq⟩ : ∃ n, n = ([] : List Nat).length := ⟨_, rfl⟩
          rw [← hn] at HOW hroom ⊢
          rw [← hnp] at HPV hroom hpc ⊢
          rw [← hnq] at HQV hroom hqc ⊢
          have HN : Hid (n = bs.length) := hn
          have HNP : Hid (np = (x :: ps).length) := hnp
          have HNQ : Hid (nq' = ([] : List Nat).length) := hnq
          have HSP : Hid (SrcIs wr (.slice pa np pc) np 1 (cellP ((x :: ps)))) := by
            have := (HPV.out.below HBW.out).src
            rw [← hnp] at this; exact this
          have HSQ : Hid (∀ W, Below w.heap.size w W → SrcIs W (.slice qa nq' qc) nq' 1 (cellP (([] : List Nat)))) := fun W hb => by
            have := (HQV.out.below hb).src
            rw [← hnq] at this; exact this
          have h0 : 0 < np := by rw [hnp]; simp
          clear hn hnp hs0 hs1
          obtain rfl : nq' = 0 := hnq
          go_wp2_with (first | (at_builtin; (refine wpList_append_src _ rfl (.tmp 58) (.tmp 59) 77 rfl w.heap.size 3 i0 (.int .i64 0) 1 8 Tryz.underlying77 hi0 hz0 hz1 hz2 rfl (by decide) _ _ _ rfl HOW.out _ rfl np _ HSP.out (by unfold maxLen; omega) (by omega) (by omega) ?_); intro v1 w1 ho1 hg1; have HO2 : Hid (w1.ownsRow w.heap.size 3 1 v1 (n + np) (cellP bs ++ cellP ((x :: ps)))) := ho1; have HB2 : Hid (Below w.heap.size w w1) := HBW.out.grown hg1 (by omega) (fun k e => (HOW.out.lt k e).1); clear ho1 hg1) | (at_builtin; refine wpList_append_src _ rfl (.tmp 60) (.tmp 61) 77 rfl w.heap.size 3 i0 (.int .i64 0) 1 8 Tryz.underlying77 hi0 hz0 hz1 hz2 rfl (by decide) _ _ _ rfl HO2.out _ rfl 0 _ (HSQ.out _ HB2.out) (by unfold maxLen; omega) (by omega) (by have := HB2.out.size; omega) ?_; intro v2 w2 ho2 hg2; have HO3 : Hid (w2.ownsRow w.heap.size 3 1 v2 (n + np + 0) (cellP bs ++ cellP ((x :: ps)) ++ cellP (([] : List Nat)))) := ho2; have HB3 : Hid (Below w.heap.size w w2) := HB2.out.grown hg2 (by have := HB2.out.size; omega) (fun k e => (HO2.out.lt k e).1); clear ho2 hg2) | fail)
          go_ret
          have e : mergeL P q = bs ++ (x :: ps) ++ ([] : List Nat) := by
            rw [← HEQ.out]
            rw [mergeL_nil']; simp
          rw [e]
          refine ⟨_, rfl, plc_of_row ?_ hB, HB3.out⟩
          have := HO3.out
          rw [cellP_append, cellP_append, List.length_append, List.length_append, ← HN.out, ← HNP.out, ← HNQ.out]
          exact this
        | cons y qs =>
          obtain ⟨gp, op, pc, rfl, hpc, hBp, hgp, cp, hpt⟩ := HPV.out.cons
          obtain ⟨gq, oq, qc, rfl, hqc, hBq, hgq, cq, hqt⟩ := HQV.out.cons
          obtain ⟨n, hn⟩ : ∃ n, n = bs.length := ⟨_, rfl⟩
          obtain ⟨np, hnp⟩ : ∃ n, n = ps.length := ⟨_, rfl⟩
          obtain ⟨nq', hnq⟩ : ∃ n, n = qs.length := ⟨_, rfl⟩
          rw [← hn] at HOW hroom ⊢
          rw [← hnp] at hpc hpt HPV ⊢
          rw [← hnq] at hqc hqt HQV ⊢
          have HN : Hid (n = bs.length) := hn
          have HNP : Hid (np = ps.length) := hnp
          have HNQ : Hid (nq' = qs.length) := hnq
          have hroom2 : n + np + nq' + 2 ≤ C := by simp only [List.length_cons, ← hnp, ← hnq] at hroom; omega
          have hnp1 : (1 : Int) ≤ (np : Int) + 1 := by omega
          have hnq1 : (1 : Int) ≤ (nq' : Int) + 1 := by omega
          have cpr : wr.cell? ⟨gp, op, none⟩ = some (.int .i64 (x : Int)) := (HBW.out.cell (p := ⟨gp, _, none⟩) hgp).trans cp
          have cqr : wr.cell? ⟨gq, oq, none⟩ = some (.int .i64 (y : Int)) := (HBW.out.cell (p := ⟨gq, _, none⟩) hgq).trans cq
          have HPT : Hid (PlcAt b0 B w (.slice (if pc = 1 then some ⟨gp, op, none⟩ else some ⟨gp, op + 1, none⟩) np (pc - 1)) ps) := hpt
          have HQT : Hid (PlcAt b0 B w (.slice (if qc = 1 then some ⟨gq, oq, none⟩ else some ⟨gq, oq + 1, none⟩) nq' (qc - 1)) qs) := hqt
          clear hn hnp hnq hs0 hs1 hroom hpt hqt cp cq
          by_cases hxy : x < y
          · have h1 : decide ((x : Int) < (y : Int)) = true := by simp; omega
            have HEQ2 : Hid ((bs ++ [x]) ++ mergeL ps (y :: qs) = mergeL P q) := by
              show _ = _
              have := HEQ.out
              rw [mergeL, if_pos hxy] at this; rw [← this]; simp
            go_wp2
            go_quiet (fail)
            obtain ⟨W, hW⟩ : ∃ W, W = wr.drewN nq := ⟨_, rfl⟩
            have HBD : Hid (Below wr.heap.size wr W) := by rw [hW]; exact below_drewN' (Below.refl _ _) nq
            have HOD : Hid (W.ownsRow w.heap.size 3 1 (.slice (some ⟨w.heap.size, 0, none⟩) n C) n (cellP bs)) := ownsRow_below HOW.out HBD.out
            have hWs : wr.heap.size ≤ W.heap.size := HBD.out.size
            have cpW : W.cell? ⟨gp, op, none⟩ = some (.int .i64 (x : Int)) := (HBD.out.cell (p := ⟨gp, _, none⟩) (by exact Nat.lt_of_lt_of_le hgp hws)).trans cpr
            have cqW : W.cell? ⟨gq, oq, none⟩ = some (.int .i64 (y : Int)) := (HBD.out.cell (p := ⟨gq, _, none⟩) (by exact Nat.lt_of_lt_of_le hgq hws)).trans cqr
            have hlt : w.heap.size < W.heap.size := lt_of_own HOD.out
            have HSX : Hid (∀ W2 : World, Below W.heap.size W W2 → ∀ (v : Value) j, j < [v].length → (W2.cell? ⟨w.heap.size, 0 + n * 1 + j, none⟩).isSome = true ∧ W2.frozen? ⟨w.heap.size, 0 + n * 1 + j, none⟩ = false) := fun W2 hb v j hj => by
              obtain rfl : j = 0 := by simpa using hj
              have := own_spare HOD.out (show n < C by omega)
              rw [show 0 + n * 1 + 0 = n by omega, hb.cell (p := ⟨w.heap.size, _, none⟩) hlt, hb.frozen (p := ⟨w.heap.size, _, none⟩) hlt]
              exact this
            rw [← hW]
            clear hW
            go_wp2
            go_region_law (refine step_append_room rfl _ _ 77 rfl 3 i0 1 Tryz.underlying77 hi0 hz1 w.heap.size 0 n C rfl ⟨W.heap.size, 0, none⟩ 1 1 [.int .i64 (x : Int)] rfl rfl (World.news_of_block (heap_new' _ _)) (by simp [Value.oneCell']) (by omega) (HSX.out _ (((Below.refl _ _).drew).alloc (Nat.le_refl _) _) _) ?_)
            go_simp
            generalize (if pc = 1 then some (⟨gp, op, none⟩ : Addr) else some ⟨gp, op + 1, none⟩) = ta at HPT ⊢
            obtain ⟨X, hX⟩ : ∃ X, X = (W.alloc (Obj.cells #[Value.int .i64 (x : Int)] 3)).drew.setCells w.heap.size n [Value.int .i64 (x : Int)] := ⟨_, rfl⟩
            rw [← hX]
            have HOX : Hid (X.ownsRow w.heap.size 3 1 (.slice (some ⟨w.heap.size, 0, none⟩) (bs ++ [x]).length C) (bs ++ [x]).length (cellP (bs ++ [x]))) := by
              show X.ownsRow _ _ _ _ _ _
              rw [cellP_snoc, List.length_append, ← HN.out, hX]
              exact own_push (ownsRow_below HOD.out (((Below.refl _ _).alloc (Nat.le_refl _) _).drew)) (by omega) _
            have HBX : Hid (Below w.heap.size W X) := by
              rw [hX]
              exact (((Below.refl _ _).alloc (by omega) _).drew).setCell (by exact Nat.le_refl _) _
            clear hX
            go_wp2
            go_roundw
            case rel => exact ⟨ps, y :: qs, bs ++ [x], HPT, HQV, HNP.out, by simp [slen, HNQ.out], by rw [List.length_append, ← HN.out]; rfl, HOX, by simp [← HN.out, ← HNP.out, ← HNQ.out]; omega, HEQ2, (HBW.out.trans (HBD.out.mono hws)).trans HBX.out⟩
            case measure => simp [slen]
          · have h1 : decide ((x : Int) < (y : Int)) = false := by simp; omega
            by_cases hyx : y < x
            · have h2 : decide ((y : Int) < (x : Int)) = true := by simp; omega
              have HEQ2 : Hid ((bs ++ [y]) ++ mergeL (x :: ps) qs = mergeL P q) := by
                show _ = _
                have := HEQ.out
                rw [mergeL, if_neg hxy, if_pos hyx] at this; rw [← this]; simp
              go_wp2
              go_quiet (fail)
              obtain ⟨W0, hW0⟩ : ∃ W, W = wr.drewN nq := ⟨_, rfl⟩
              have HBD0 : Hid (Below wr.heap.size wr W0) := by rw [hW0]; exact below_drewN' (Below.refl _ _) nq
              have cp0 : W0.cell? ⟨gp, op, none⟩ = some (.int .i64 (x : Int)) := (HBD0.out.cell (p := ⟨gp, _, none⟩) (by exact Nat.lt_of_lt_of_le hgp hws)).trans cpr
              have cq0 : W0.cell? ⟨gq, oq, none⟩ = some (.int .i64 (y : Int)) := (HBD0.out.cell (p := ⟨gq, _, none⟩) (by exact Nat.lt_of_lt_of_le hgq hws)).trans cqr
              rw [← hW0]
              clear hW0
              go_wp2
              go_quiet (fail)
              obtain ⟨W, hW⟩ : ∃ W, W = W0.drewN nq := ⟨_, rfl⟩
              have HBD : Hid (Below wr.heap.size wr W) := by rw [hW]; exact below_drewN' HBD0.out nq
              have HOD : Hid (W.ownsRow w.heap.size 3 1 (.slice (some ⟨w.heap.size, 0, none⟩) n C) n (cellP bs)) := ownsRow_below HOW.out HBD.out
              have hWs : wr.heap.size ≤ W.heap.size := HBD.out.size
              have cpW : W.cell? ⟨gp, op, none⟩ = some (.int .i64 (x : Int)) := (HBD.out.cell (p := ⟨gp, _, none⟩) (by exact Nat.lt_of_lt_of_le hgp hws)).trans cpr
              have cqW : W.cell? ⟨gq, oq, none⟩ = some (.int .i64 (y : Int)) := (HBD.out.cell (p := ⟨gq, _, none⟩) (by exact Nat.lt_of_lt_of_le hgq hws)).trans cqr
              have hlt : w.heap.size < W.heap.size := lt_of_own HOD.out
              have HSX : Hid (∀ W2 : World, Below W.heap.size W W2 → ∀ (v : Value) j, j < [v].length → (W2.cell? ⟨w.heap.size, 0 + n * 1 + j, none⟩).isSome = true ∧ W2.frozen? ⟨w.heap.size, 0 + n * 1 + j, none⟩ = false) := fun W2 hb v j hj => by
                obtain rfl : j = 0 := by simpa using hj
                have := own_spare HOD.out (show n < C by omega)
                rw [show 0 + n * 1 + 0 = n by omega, hb.cell (p := ⟨w.heap.size, _, none⟩) hlt, hb.frozen (p := ⟨w.heap.size, _, none⟩) hlt]
                exact this
              rw [← hW]
              clear hW
              go_wp2
              go_region_law (refine step_append_room rfl _ _ 77 rfl 3 i0 1 Tryz.underlying77 hi0 hz1 w.heap.size 0 n C rfl ⟨W.heap.size, 0, none⟩ 1 1 [.int .i64 (y : Int)] rfl rfl (World.news_of_block (heap_new' _ _)) (by simp [Value.oneCell']) (by omega) (HSX.out _ (((Below.refl _ _).drew).alloc (Nat.le_refl _) _) _) ?_)
              go_simp
              generalize (if qc = 1 then some (⟨gq, oq, none⟩ : Addr) else some ⟨gq, oq + 1, none⟩) = ta at HQT ⊢
              obtain ⟨X, hX⟩ : ∃ X, X = (W.alloc (Obj.cells #[Value.int .i64 (y : Int)] 3)).drew.setCells w.heap.size n [Value.int .i64 (y : Int)] := ⟨_, rfl⟩
              rw [← hX]
              have HOX : Hid (X.ownsRow w.heap.size 3 1 (.slice (some ⟨w.heap.size, 0, none⟩) (bs ++ [y]).length C) (bs ++ [y]).length (cellP (bs ++ [y]))) := by
                show X.ownsRow _ _ _ _ _ _
                rw [cellP_snoc, List.length_append, ← HN.out, hX]
                exact own_push (ownsRow_below HOD.out (((Below.refl _ _).alloc (Nat.le_refl _) _).drew)) (by omega) _
              have HBX : Hid (Below w.heap.size W X) := by
                rw [hX]
                exact (((Below.refl _ _).alloc (by omega) _).drew).setCell (by exact Nat.le_refl _) _
              clear hX
              go_wp2
              go_roundw
              case rel => exact ⟨x :: ps, qs, bs ++ [y], HPV, HQT, by simp [slen, HNP.out], HNQ.out, by rw [List.length_append, ← HN.out]; rfl, HOX, by simp [← HN.out, ← HNP.out, ← HNQ.out]; omega, HEQ2, (HBW.out.trans (HBD.out.mono hws)).trans HBX.out⟩
              case measure => simp [slen]
            · have h2 : decide ((y : Int) < (x : Int)) = false := by simp; omega
              have HEQ2 : Hid (bs ++ mergeL ps (y :: qs) = mergeL P q) := by
                show _ = _
                have := HEQ.out
                rw [mergeL, if_neg hxy, if_neg hyx] at this; exact this
              go_wp2
              go_quiet (fail)
              obtain ⟨W0, hW0⟩ : ∃ W, W = wr.drewN nq := ⟨_, rfl⟩
              have HBD0 : Hid (Below wr.heap.size wr W0) := by rw [hW0]; exact below_drewN' (Below.refl _ _) nq
              have cp0 : W0.cell? ⟨gp, op, none⟩ = some (.int .i64 (x : Int)) := (HBD0.out.cell (p := ⟨gp, _, none⟩) (by exact Nat.lt_of_lt_of_le hgp hws)).trans cpr
              have cq0 : W0.cell? ⟨gq, oq, none⟩ = some (.int .i64 (y : Int)) := (HBD0.out.cell (p := ⟨gq, _, none⟩) (by exact Nat.lt_of_lt_of_le hgq hws)).trans cqr
              rw [← hW0]
              clear hW0
              go_wp2
              go_quiet (fail)
              obtain ⟨W, hW⟩ : ∃ W, W = W0.drewN nq := ⟨_, rfl⟩
              have HBD : Hid (Below wr.heap.size wr W) := by rw [hW]; exact below_drewN' HBD0.out nq
              have HOD : Hid (W.ownsRow w.heap.size 3 1 (.slice (some ⟨w.heap.size, 0, none⟩) bs.length C) bs.length (cellP bs)) := by
                show W.ownsRow _ _ _ _ _ _
                rw [← HN.out]
                exact ownsRow_below HOW.out HBD.out
              rw [← hW]
              clear hW
              go_wp2
              generalize (if pc = 1 then some (⟨gp, op, none⟩ : Addr) else some ⟨gp, op + 1, none⟩) = ta at HPT ⊢
              go_roundw
              case rel => exact ⟨ps, y :: qs, bs, HPT, HQV, HNP.out, by simp [slen, HNQ.out], by rw [← HN.out], HOD, by simp [← HN.out, ← HNP.out, ← HNQ.out]; omega, HEQ2, (HBW.out.trans (HBD.out.mono hws))⟩
              case measure => simp [slen]
end Go.Proofs.YtklhjjgnhigbiaaGreatDoor
