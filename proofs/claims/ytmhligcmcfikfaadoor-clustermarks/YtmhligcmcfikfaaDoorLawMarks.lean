/-
  The law ClusterMarks: true, for all numbers, and one more.
-/
import Derived.Test.YtmhligcmcfikfaaDoorApp5
namespace Go.Proofs.YtmhligcmcfikfaaDoor
open Go.RowKit
set_option linter.unusedVariables false

theorem own_some {w : World} {base e size : Nat} {v : Value} {n : Nat} {xs : List Value} (h : w.ownsRow base e size v n xs) (h0 : 0 < n) : ∃ g cap, v = .slice (some ⟨g, 0, none⟩) n cap := by
  obtain ⟨m, rfl⟩ : ∃ m, n = m + 1 := ⟨n - 1, by omega⟩
  exact ownsRow_succ h
theorem cl_rng (r : Int) : clV r = 0 ∨ clV r = 1 ∨ clV r = 2 ∨ clV r = 3 ∨ (4 ≤ clV r ∧ clV r ≤ 13) := by
  have h := cl_small r
  unfold clV
  split
  · split <;> omega
  · omega
theorem all_one (r : Int) : allL [r] = [0, 1] := by
  rw [all_snoc]
  show below [r] 1 ++ [1] = [0, 1]
  rw [below_succ, if_pos (brk_zero _)]
  rfl
theorem len_more (l : List Int) (r : Int) : (allL (l ++ [r])).length = (allL l).length ∨ (allL (l ++ [r])).length = (allL l).length + 1 := by
  rw [all_more, all_snoc]
  split <;> simp
theorem set_more {l : List Int} {r : Int} (h : brk (l ++ [r]) l.length = false) {p : Nat} (hp : p + 1 = (allL l).length) : (cellsP5 (allL l)).set p (.int .i64 ((l.length + 1 : Nat) : Int)) = cellsP5 (allL (l ++ [r])) ∧ (allL (l ++ [r])).length = (allL l).length := by
  have e : p = (cellsP5 (below l l.length)).length := by
    rw [all_snoc, List.length_append, List.length_singleton] at hp
    simp [cellsP5, intsP]
    omega
  rw [all_more, h, if_neg (by simp), List.append_nil, all_snoc, cellsP5_snoc, cellsP5_snoc, e]
  constructor
  · simp
  · simp

set_option maxRecDepth 100000 in
set_option maxHeartbeats 16000000 in
theorem clusterMarks_any (l : List Int) (v : Value) (r : Int) (w : World) (hv : IntsAt w.heap.size w v l) (hs : Scripts w) (h0 : 0 < w.heap.size) :
    Calls Tryd.prog 7 #[v, .int .i64 r] w fun e w' => e = .returned (.bool true) ∧ Below w.heap.size w w' := by
  obtain ⟨iI, hiI, hzI0, hzI1, hzI2⟩ := info_parts Tryd.infoInt
  have HS : Hid (Scripts w) := hs
  have HH0 : Hid (0 < w.heap.size) := h0
  have HV : Hid (IntsAt w.heap.size w v l) := hv
  obtain ⟨a, cap, rfl, hcap, hc⟩ := hv
  have HC : Hid (∀ i, (h : i < l.length) → ∃ g off, a = some ⟨g, off, none⟩ ∧ g < w.heap.size ∧ w.cell? ⟨g, off + i, none⟩ = some (.int .i64 l[i])) := hc
  clear hs h0 hc
  go_enter Tryd.func7, Tryd.ntmps7
  go_wp2_with fail
  refine (awake_c w HS.out HH0.out).mono ?_
  rintro e w0 ⟨rfl, hB0⟩
  have HB0 : Hid (Below w.heap.size w w0) := hB0
  have HS0 : Hid (Scripts w0 ∧ 0 < w0.heap.size) := ⟨HS.out.below HH0.out hB0, by have := HH0.out; have := hB0.size; omega⟩
  clear hB0
  go_wp2_with fail
  refine (new_ship w0 HS0.out.1 HS0.out.2).mono ?_
  rintro e w1 ⟨g, rfl, hd, hB1⟩
  obtain ⟨HD1, HB1⟩ : Hid (Ship w1 g) ∧ Hid (Below w.heap.size w w1) := ⟨hd, HB0.out.trans (hB1.mono HB0.out.size)⟩
  clear hd hB1 HB0 HS0
  by_cases hn : 200 < l.length
  · have hn' : (200 : Int) < (l.length : Int) := by omega
    go_wp2
    go_ret
    exact ⟨rfl, HB1.out⟩
  have hn' : decide ((200 : Int) < (l.length : Int)) = false := decide_eq_false (by omega)
  have hn2 : decide (200 < l.length) = false := decide_eq_false (by omega)
  have HN : Hid (l.length ≤ 200) := by show _ ≤ _; omega
  clear hn
  go_wp2_with fail
  have hBa : Below w1.heap.size w1 (w1.alloc (.cells #[.int .i64 r] 3)) := (Below.refl _ _).alloc (Nat.le_refl _) _
  refine (all_any g _ [r] (by simp) _ (HD1.out.below hBa) (ints_new w1 [r] #[.int .i64 r] rfl)).mono ?_
  rintro e w2 ⟨v2, rfl, ho2, hB2⟩
  have HB2 : Hid (Below w.heap.size w w2) := HB1.out.trans ((hBa.trans (hB2.mono hBa.size)).mono HB1.out.size)
  have HD2 : Hid (Ship w2 g) := HD1.out.below (hBa.trans (hB2.mono hBa.size))
  have hI2 := all_row ho2
  rw [all_one] at hI2
  have HI2 : Hid (IntsAt w2.heap.size w2 v2 [0, 1]) := hI2
  clear ho2 hB2 hI2 hBa
  go_wp2_with fail
  have hBb : Below w2.heap.size w2 (w2.alloc (.cells #[.int .i64 0, .int .i64 1] 3)) := (Below.refl _ _).alloc (Nat.le_refl _) _
  refine (sameInts_any [0, 1] (by decide) v2 _ _ (HI2.out.on hBb) (ints_new w2 [0, 1] #[.int .i64 0, .int .i64 1] rfl)).mono ?_
  rintro e w3 ⟨rfl, hB3⟩
  have HB3 : Hid (Below w.heap.size w w3) := HB2.out.trans ((hBb.trans (hB3.mono hBb.size)).mono HB2.out.size)
  have HD3 : Hid (Ship w3 g) := HD2.out.below (hBb.trans (hB3.mono hBb.size))
  clear hB3 hBb
  by_cases zl : l.length = 0
  · have z2 : l = [] := List.length_eq_zero_iff.1 zl
    subst z2
    clear zl
    go_wp2
    go_ret
    exact ⟨rfl, HB3.out⟩
  have el : ((l.length : Int) == 0) = false := by rw [beq_eq_false_iff_ne]; omega
  have HL0 : Hid (0 < l.length) := by show _ < _; omega
  obtain ⟨j, hj⟩ : ∃ j, l.length = j + 1 := ⟨l.length - 1, by omega⟩
  have hjl : j < l.length := by omega
  obtain ⟨gi, off, rfl, hg, c0⟩ := HC.out j hjl
  have hl : l ≠ [] := fun e => zl (by rw [e]; rfl)
  obtain ⟨x, hx⟩ : ∃ x, x = l[j] := ⟨_, rfl⟩
  have HXL : Hid (x = l.getLast hl) := by
    show x = _
    rw [hx, List.getLast_eq_getElem]
    congr 1
    omega
  rw [← hx] at c0
  have hx3 : w3.cell? ⟨gi, off + j, none⟩ = some (.int .i64 x) := (HB3.out.cell (p := ⟨gi, _, none⟩) hg).trans c0
  have hwj : IntKind.i64.wrap ((l.length : Int) - 1) = (j : Int) := (IntWalk.i64_in _ (by have := HN.out; omega)).trans (by omega)
  have hj1 : (j : Int) < (l.length : Int) := by omega
  obtain ⟨L1, hL1⟩ : ∃ L1, L1 = l.length + 1 := ⟨_, rfl⟩
  have HL1 : Hid (L1 = l.length + 1) := hL1
  have hwL : IntKind.i64.wrap ((l.length : Int) + 1) = (L1 : Int) := (IntWalk.i64_in _ (by have := HN.out; omega)).trans (by omega)
  clear c0 hx zl hj hjl hg HC hL1
  go_wp2_with fail
  refine (ship_cluster w3 g x HD3.out).mono ?_
  rintro e w4 ⟨rfl, hB4⟩
  have HD4 : Hid (Ship w4 g) := HD3.out.below hB4
  have HBW4 : Hid (Below w.heap.size w w4) := HB3.out.trans (hB4.mono HB3.out.size)
  clear hB4 hx3
  go_wp2_with fail
  refine (ship_cluster w4 g r HD4.out).mono ?_
  rintro e w5 ⟨rfl, hB5⟩
  have HD5 : Hid (Ship w5 g) := HD4.out.below hB5
  have HBW5 : Hid (Below w.heap.size w w5) := HBW4.out.trans (hB5.mono HBW4.out.size)
  clear hB5
  have hkr := cl_rng x
  obtain ⟨kk, hkk⟩ : ∃ kk, kk = clV x := ⟨_, rfl⟩
  obtain ⟨mm, hmm⟩ : ∃ mm, mm = clV r := ⟨_, rfl⟩
  rw [← hkk] at hkr
  have HKR : Hid (kk = 0 ∨ kk = 1 ∨ kk = 2 ∨ kk = 3 ∨ (4 ≤ kk ∧ kk ≤ 13)) := hkr
  have HMK : Hid (markK mm = true → ¬ (1 ≤ kk ∧ kk ≤ 3) → brk (l ++ [r]) l.length = false) := fun h1 h2 => by
    refine mark_more hl (by rw [← hmm]; exact h1) ?_
    rw [← HXL.out, ← hkk]
    unfold aloneK
    simp only [Bool.or_eq_false_iff, beq_eq_false_iff_ne]
    omega
  rw [← hkk, ← hmm]
  clear hkk hmm hkr
  go_wp2_with fail
  refine (all_any g _ l (by have := HN.out; omega) w5 HD5.out (HV.out.on HBW5.out)).mono ?_
  rintro e w6 ⟨v6, rfl, ho6, hB6⟩
  have hs6 := hB6.size
  have HD6 : Hid (Ship w6 g) := HD5.out.below hB6
  have HBW6 : Hid (Below w.heap.size w w6) := HBW5.out.trans (hB6.mono HBW5.out.size)
  obtain ⟨gb, cb, hv6⟩ : ∃ gb cb, v6 = .slice (some ⟨gb, 0, none⟩) (allL l).length cb := own_some ho6 (by rw [all_snoc]; simp)
  subst hv6
  have HGB : Hid (w5.heap.size ≤ gb ∧ gb < w6.heap.size) := ho6.lt gb rfl
  obtain ⟨P, hP⟩ : ∃ P, P = (allL l).length := ⟨_, rfl⟩
  have hP0 : 0 < P := by rw [hP, all_snoc]; simp
  obtain ⟨P1, hP1⟩ : ∃ P1, P = P1 + 1 := ⟨P - 1, by omega⟩
  have HP : Hid (P = (allL l).length ∧ P = P1 + 1 ∧ P ≤ 201) := ⟨hP, hP1, by have := allL_len l; have := HN.out; omega⟩
  rw [← hP] at ho6
  have HO6 : Hid (w6.ownsRow w5.heap.size 3 1 (.slice (some ⟨gb, 0, none⟩) P cb) P (cellsP5 (allL l))) := ho6
  rw [← hP]
  have hwP : IntKind.i64.wrap ((P : Int) - 1) = (P1 : Int) := (IntWalk.i64_in _ (by have := HP.out; omega)).trans (by omega)
  have hP1' : (P1 : Int) < (P : Int) := by omega
  have HO0 : Hid ((w6.alloc (.cells #[] 3)).ownsRow w6.heap.size 3 1 (.slice (some ⟨w6.heap.size, 0, none⟩) 0 0) 0 []) := owns_empty w6 _ _ _ (Nat.le_refl _)
  have HBA : Hid (Below w6.heap.size w6 (w6.alloc (.cells #[] 3))) := (Below.refl _ _).alloc (Nat.le_refl _) _
  have HSA : Hid (SrcIs (w6.alloc (.cells #[] 3)) (.slice (some ⟨gi, off, none⟩) l.length cap) l.length 1 (cellI l)) := (src_of_ints (HV.out.on HBW6.out) HL0.out).below HBA.out
  clear ho6 hB6 hP hP1 hP0
  go_wp2_with (first | (at_builtin; refine wpList_append_src _ rfl (.tmp 55) (.tmp 56) 22 rfl w6.heap.size 3 iI (.int .i64 0) 1 8 Tryd.underlying22 hiI hzI0 hzI1 hzI2 rfl (by decide) _ _ _ rfl HO0.out _ rfl l.length _ HSA.out (by unfold maxLen; have := HN.out; omega) (by have := HN.out; omega) (by simp) ?_; intro v7 w7 ho7 hg7; have HB7 : Hid (Below w6.heap.size w6 w7) := HBA.out.grown hg7 (by simp) (fun j e => (HO0.out.lt j e).1); have HO7 : Hid (w7.ownsRow w6.heap.size 3 1 v7 (0 + l.length) ([] ++ cellI l)) := ho7; have HS7 : Hid (w6.heap.size ≤ w7.heap.size) := HB7.out.size; clear ho7 hg7) | (at_builtin; refine wpList_append_own _ rfl _ _ 22 rfl w6.heap.size 3 iI (.int .i64 0) 1 8 Tryd.underlying22 hiI hzI0 hzI1 hzI2 rfl (by decide) _ _ _ rfl (HO7.out.alloc _) ⟨w7.heap.size, 0, none⟩ 1 1 [.int .i64 r] rfl rfl (World.news_of_block (World.alloc_heap_new _ _)) (by simp [Value.oneCell']) (by unfold maxLen; have := HN.out; have := HS7.out; omega) (by have := HN.out; have := HS7.out; omega) (by simp; have := HN.out; have := HS7.out; omega) ?_; intro v8 w8 ho8 hg8 _) | fail)
  have HB8 : Hid (Below w6.heap.size w6 w8) := (HB7.out.alloc HS7.out _).grown hg8 (by simp; have := HS7.out; omega) (fun j e => (HO7.out.lt j e).1)
  have hI8 : IntsAt w8.heap.size w8 v8 (l ++ [r]) := by
    refine row_ints (base := w6.heap.size) ?_
    rw [cellI_append, List.length_append]
    have := ho8
    rw [List.nil_append, Nat.zero_add] at this
    exact this
  have HBW8 : Hid (Below w.heap.size w w8) := HBW6.out.trans (HB8.out.mono HBW6.out.size)
  have hN8 : (l ++ [r]).length ≤ 10000 := by rw [List.length_append, List.length_singleton]; have := HN.out; omega
  have hs8 := HB8.out.size
  clear ho8 hg8
  refine (all_any g v8 (l ++ [r]) hN8 w8 (HD6.out.below HB8.out) hI8).mono ?_
  rintro e w9 ⟨v9, rfl, ho9, hB9⟩
  have HO9 : Hid (w9.ownsRow w8.heap.size 3 1 v9 (allL (l ++ [r])).length (cellsP5 (allL (l ++ [r])))) := ho9
  have HBW9 : Hid (Below w.heap.size w w9) := HBW8.out.trans (hB9.mono HBW8.out.size)
  have HO69 : Hid (w9.ownsRow w5.heap.size 3 1 (.slice (some ⟨gb, 0, none⟩) P cb) P (cellsP5 (allL l))) := ownsRow_below (ownsRow_below HO6.out HB8.out) hB9
  have c10 : ∃ z, w9.cell? ⟨gb, P1, none⟩ = some z := by
    have hlt : P1 < (cellsP5 (allL l)).length := by simp [cellsP5, intsP]; have := HP.out; omega
    exact ⟨_, (HO69.out.cellAt P1 (by have := HP.out; omega)).trans (List.getElem?_eq_getElem hlt)⟩
  obtain ⟨z, c10⟩ := c10
  have f10 := HO69.out.frozenAt P1
  clear ho9 hB9 hI8 hN8
  by_cases m4 : mm = 4
  · subst m4
    rcases HKR.out with hk | hk | hk | hk | ⟨hk4, hk13⟩
    · subst hk
      have hk4 : True := trivial
      have hk13 : True := trivial
      have HBK : Hid (brk (l ++ [r]) l.length = false) := HMK.out (by decide) (by omega)
      have HSET : Hid ((cellsP5 (allL l)).set P1 (.int .i64 (L1 : Int)) = cellsP5 (allL (l ++ [r])) ∧ (allL (l ++ [r])).length = (allL l).length) := by
        have h := set_more HBK.out (p := P1) (by have := HP.out; omega)
        rw [← HL1.out] at h
        exact h
      clear hk4 hk13
      go_wp2_with fail
      obtain ⟨ho10, hg10⟩ := HO69.out.stored P1 (.int .i64 (L1 : Int))
      have hne : v9.ownBlock = none ∨ v9.ownBlock ≠ some gb := by
        cases h3 : v9.ownBlock with
        | none => exact .inl rfl
        | some bb =>
          refine .inr (fun e => ?_)
          have h4 := (HO9.out.lt bb h3).1
          have h5 := HGB.out
          have e' : bb = gb := Option.some.inj e
          omega
      have hI9 := all_row (HO9.out.kept hg10 hne)
      rw [HSET.out.1] at ho10
      have hI6 : IntsAt (w9.setCell ⟨gb, P1, none⟩ (.int .i64 (L1 : Int))).heap.size (w9.setCell ⟨gb, P1, none⟩ (.int .i64 (L1 : Int))) (.slice (some ⟨gb, 0, none⟩) P cb) (intsP (allL (l ++ [r]))) := by
        refine all_row (base := w5.heap.size) ?_
        rw [HSET.out.2, ← HP.out.1]
        exact ho10
      have HB10 : Hid (Below w.heap.size w (w9.setCell ⟨gb, P1, none⟩ (.int .i64 (L1 : Int)))) := HBW9.out.setCell (p := ⟨gb, P1, none⟩) (show w.heap.size ≤ gb by have := HGB.out; have := HBW5.out.size; omega) _
      refine (sameInts_any _ (by rw [intsP_length]; have := allL_len (l ++ [r]); rw [List.length_append] at this; simp only [List.length_singleton] at this; have := HN.out; omega) v9 _ _ hI9 hI6).mono ?_
      rintro e w11 ⟨rfl, hB11⟩
      have HB11 : Hid (Below w.heap.size w w11) := HB10.out.trans (hB11.mono HB10.out.size)
      clear hB11 hI9 hI6 ho10 hg10 hne
      go_wp2
      go_ret
      exact ⟨rfl, HB11.out⟩
    · subst hk
      obtain ⟨gc, cc, hv9⟩ : ∃ gc cc, v9 = .slice (some ⟨gc, 0, none⟩) (allL (l ++ [r])).length cc := own_some HO9.out (by rw [all_snoc]; simp)
      subst hv9
      obtain ⟨Q, hQ⟩ : ∃ Q, Q = (allL (l ++ [r])).length := ⟨_, rfl⟩
      have hPQ : Q = P ∨ Q = P + 1 := by rw [hQ, HP.out.1]; exact len_more l r
      rw [← hQ]
      clear hQ
      rcases hPQ with hPQ | hPQ
      · subst hPQ
        go_wp2
        go_ret
        exact ⟨rfl, HBW9.out⟩
      · have hq1 : ((Q : Int) == (P : Int)) = false := by rw [beq_eq_false_iff_ne]; omega
        have hq2 : (Q == P) = false := by rw [beq_eq_false_iff_ne]; omega
        have hwq : IntKind.i64.wrap ((P : Int) + 1) = (Q : Int) := (IntWalk.i64_in _ (by have := HP.out; omega)).trans (by omega)
        have hqq : ((Q : Int) == (Q : Int)) = true := by simp
        clear hPQ
        go_wp2
        go_ret
        exact ⟨rfl, HBW9.out⟩
    · subst hk
      obtain ⟨gc, cc, hv9⟩ : ∃ gc cc, v9 = .slice (some ⟨gc, 0, none⟩) (allL (l ++ [r])).length cc := own_some HO9.out (by rw [all_snoc]; simp)
      subst hv9
      obtain ⟨Q, hQ⟩ : ∃ Q, Q = (allL (l ++ [r])).length := ⟨_, rfl⟩
      have hPQ : Q = P ∨ Q = P + 1 := by rw [hQ, HP.out.1]; exact len_more l r
      rw [← hQ]
      clear hQ
      rcases hPQ with hPQ | hPQ
      · subst hPQ
        go_wp2
        go_ret
        exact ⟨rfl, HBW9.out⟩
      · have hq1 : ((Q : Int) == (P : Int)) = false := by rw [beq_eq_false_iff_ne]; omega
        have hq2 : (Q == P) = false := by rw [beq_eq_false_iff_ne]; omega
        have hwq : IntKind.i64.wrap ((P : Int) + 1) = (Q : Int) := (IntWalk.i64_in _ (by have := HP.out; omega)).trans (by omega)
        have hqq : ((Q : Int) == (Q : Int)) = true := by simp
        clear hPQ
        go_wp2
        go_ret
        exact ⟨rfl, HBW9.out⟩
    · subst hk
      obtain ⟨gc, cc, hv9⟩ : ∃ gc cc, v9 = .slice (some ⟨gc, 0, none⟩) (allL (l ++ [r])).length cc := own_some HO9.out (by rw [all_snoc]; simp)
      subst hv9
      obtain ⟨Q, hQ⟩ : ∃ Q, Q = (allL (l ++ [r])).length := ⟨_, rfl⟩
      have hPQ : Q = P ∨ Q = P + 1 := by rw [hQ, HP.out.1]; exact len_more l r
      rw [← hQ]
      clear hQ
      rcases hPQ with hPQ | hPQ
      · subst hPQ
        go_wp2
        go_ret
        exact ⟨rfl, HBW9.out⟩
      · have hq1 : ((Q : Int) == (P : Int)) = false := by rw [beq_eq_false_iff_ne]; omega
        have hq2 : (Q == P) = false := by rw [beq_eq_false_iff_ne]; omega
        have hwq : IntKind.i64.wrap ((P : Int) + 1) = (Q : Int) := (IntWalk.i64_in _ (by have := HP.out; omega)).trans (by omega)
        have hqq : ((Q : Int) == (Q : Int)) = true := by simp
        clear hPQ
        go_wp2
        go_ret
        exact ⟨rfl, HBW9.out⟩
    · have k1 : decide (kk < 1) = false := decide_eq_false (by omega)
      have k3 : (3 : Int) < kk := by omega
      have HBK : Hid (brk (l ++ [r]) l.length = false) := HMK.out (by decide) (by omega)
      have HSET : Hid ((cellsP5 (allL l)).set P1 (.int .i64 (L1 : Int)) = cellsP5 (allL (l ++ [r])) ∧ (allL (l ++ [r])).length = (allL l).length) := by
        have h := set_more HBK.out (p := P1) (by have := HP.out; omega)
        rw [← HL1.out] at h
        exact h
      clear hk4 hk13
      go_wp2_with fail
      obtain ⟨ho10, hg10⟩ := HO69.out.stored P1 (.int .i64 (L1 : Int))
      have hne : v9.ownBlock = none ∨ v9.ownBlock ≠ some gb := by
        cases h3 : v9.ownBlock with
        | none => exact .inl rfl
        | some bb =>
          refine .inr (fun e => ?_)
          have h4 := (HO9.out.lt bb h3).1
          have h5 := HGB.out
          have e' : bb = gb := Option.some.inj e
          omega
      have hI9 := all_row (HO9.out.kept hg10 hne)
      rw [HSET.out.1] at ho10
      have hI6 : IntsAt (w9.setCell ⟨gb, P1, none⟩ (.int .i64 (L1 : Int))).heap.size (w9.setCell ⟨gb, P1, none⟩ (.int .i64 (L1 : Int))) (.slice (some ⟨gb, 0, none⟩) P cb) (intsP (allL (l ++ [r]))) := by
        refine all_row (base := w5.heap.size) ?_
        rw [HSET.out.2, ← HP.out.1]
        exact ho10
      have HB10 : Hid (Below w.heap.size w (w9.setCell ⟨gb, P1, none⟩ (.int .i64 (L1 : Int)))) := HBW9.out.setCell (p := ⟨gb, P1, none⟩) (show w.heap.size ≤ gb by have := HGB.out; have := HBW5.out.size; omega) _
      refine (sameInts_any _ (by rw [intsP_length]; have := allL_len (l ++ [r]); rw [List.length_append] at this; simp only [List.length_singleton] at this; have := HN.out; omega) v9 _ _ hI9 hI6).mono ?_
      rintro e w11 ⟨rfl, hB11⟩
      have HB11 : Hid (Below w.heap.size w w11) := HB10.out.trans (hB11.mono HB10.out.size)
      clear hB11 hI9 hI6 ho10 hg10 hne
      go_wp2
      go_ret
      exact ⟨rfl, HB11.out⟩
  by_cases m5 : mm = 5
  · subst m5
    clear m4
    rcases HKR.out with hk | hk | hk | hk | ⟨hk4, hk13⟩
    · subst hk
      have hk4 : True := trivial
      have hk13 : True := trivial
      have HBK : Hid (brk (l ++ [r]) l.length = false) := HMK.out (by decide) (by omega)
      have HSET : Hid ((cellsP5 (allL l)).set P1 (.int .i64 (L1 : Int)) = cellsP5 (allL (l ++ [r])) ∧ (allL (l ++ [r])).length = (allL l).length) := by
        have h := set_more HBK.out (p := P1) (by have := HP.out; omega)
        rw [← HL1.out] at h
        exact h
      clear hk4 hk13
      go_wp2_with fail
      obtain ⟨ho10, hg10⟩ := HO69.out.stored P1 (.int .i64 (L1 : Int))
      have hne : v9.ownBlock = none ∨ v9.ownBlock ≠ some gb := by
        cases h3 : v9.ownBlock with
        | none => exact .inl rfl
        | some bb =>
          refine .inr (fun e => ?_)
          have h4 := (HO9.out.lt bb h3).1
          have h5 := HGB.out
          have e' : bb = gb := Option.some.inj e
          omega
      have hI9 := all_row (HO9.out.kept hg10 hne)
      rw [HSET.out.1] at ho10
      have hI6 : IntsAt (w9.setCell ⟨gb, P1, none⟩ (.int .i64 (L1 : Int))).heap.size (w9.setCell ⟨gb, P1, none⟩ (.int .i64 (L1 : Int))) (.slice (some ⟨gb, 0, none⟩) P cb) (intsP (allL (l ++ [r]))) := by
        refine all_row (base := w5.heap.size) ?_
        rw [HSET.out.2, ← HP.out.1]
        exact ho10
      have HB10 : Hid (Below w.heap.size w (w9.setCell ⟨gb, P1, none⟩ (.int .i64 (L1 : Int)))) := HBW9.out.setCell (p := ⟨gb, P1, none⟩) (show w.heap.size ≤ gb by have := HGB.out; have := HBW5.out.size; omega) _
      refine (sameInts_any _ (by rw [intsP_length]; have := allL_len (l ++ [r]); rw [List.length_append] at this; simp only [List.length_singleton] at this; have := HN.out; omega) v9 _ _ hI9 hI6).mono ?_
      rintro e w11 ⟨rfl, hB11⟩
      have HB11 : Hid (Below w.heap.size w w11) := HB10.out.trans (hB11.mono HB10.out.size)
      clear hB11 hI9 hI6 ho10 hg10 hne
      go_wp2
      go_ret
      exact ⟨rfl, HB11.out⟩
    · subst hk
      obtain ⟨gc, cc, hv9⟩ : ∃ gc cc, v9 = .slice (some ⟨gc, 0, none⟩) (allL (l ++ [r])).length cc := own_some HO9.out (by rw [all_snoc]; simp)
      subst hv9
      obtain ⟨Q, hQ⟩ : ∃ Q, Q = (allL (l ++ [r])).length := ⟨_, rfl⟩
      have hPQ : Q = P ∨ Q = P + 1 := by rw [hQ, HP.out.1]; exact len_more l r
      rw [← hQ]
      clear hQ
      rcases hPQ with hPQ | hPQ
      · subst hPQ
        go_wp2
        go_ret
        exact ⟨rfl, HBW9.out⟩
      · have hq1 : ((Q : Int) == (P : Int)) = false := by rw [beq_eq_false_iff_ne]; omega
        have hq2 : (Q == P) = false := by rw [beq_eq_false_iff_ne]; omega
        have hwq : IntKind.i64.wrap ((P : Int) + 1) = (Q : Int) := (IntWalk.i64_in _ (by have := HP.out; omega)).trans (by omega)
        have hqq : ((Q : Int) == (Q : Int)) = true := by simp
        clear hPQ
        go_wp2
        go_ret
        exact ⟨rfl, HBW9.out⟩
    · subst hk
      obtain ⟨gc, cc, hv9⟩ : ∃ gc cc, v9 = .slice (some ⟨gc, 0, none⟩) (allL (l ++ [r])).length cc := own_some HO9.out (by rw [all_snoc]; simp)
      subst hv9
      obtain ⟨Q, hQ⟩ : ∃ Q, Q = (allL (l ++ [r])).length := ⟨_, rfl⟩
      have hPQ : Q = P ∨ Q = P + 1 := by rw [hQ, HP.out.1]; exact len_more l r
      rw [← hQ]
      clear hQ
      rcases hPQ with hPQ | hPQ
      · subst hPQ
        go_wp2
        go_ret
        exact ⟨rfl, HBW9.out⟩
      · have hq1 : ((Q : Int) == (P : Int)) = false := by rw [beq_eq_false_iff_ne]; omega
        have hq2 : (Q == P) = false := by rw [beq_eq_false_iff_ne]; omega
        have hwq : IntKind.i64.wrap ((P : Int) + 1) = (Q : Int) := (IntWalk.i64_in _ (by have := HP.out; omega)).trans (by omega)
        have hqq : ((Q : Int) == (Q : Int)) = true := by simp
        clear hPQ
        go_wp2
        go_ret
        exact ⟨rfl, HBW9.out⟩
    · subst hk
      obtain ⟨gc, cc, hv9⟩ : ∃ gc cc, v9 = .slice (some ⟨gc, 0, none⟩) (allL (l ++ [r])).length cc := own_some HO9.out (by rw [all_snoc]; simp)
      subst hv9
      obtain ⟨Q, hQ⟩ : ∃ Q, Q = (allL (l ++ [r])).length := ⟨_, rfl⟩
      have hPQ : Q = P ∨ Q = P + 1 := by rw [hQ, HP.out.1]; exact len_more l r
      rw [← hQ]
      clear hQ
      rcases hPQ with hPQ | hPQ
      · subst hPQ
        go_wp2
        go_ret
        exact ⟨rfl, HBW9.out⟩
      · have hq1 : ((Q : Int) == (P : Int)) = false := by rw [beq_eq_false_iff_ne]; omega
        have hq2 : (Q == P) = false := by rw [beq_eq_false_iff_ne]; omega
        have hwq : IntKind.i64.wrap ((P : Int) + 1) = (Q : Int) := (IntWalk.i64_in _ (by have := HP.out; omega)).trans (by omega)
        have hqq : ((Q : Int) == (Q : Int)) = true := by simp
        clear hPQ
        go_wp2
        go_ret
        exact ⟨rfl, HBW9.out⟩
    · have k1 : decide (kk < 1) = false := decide_eq_false (by omega)
      have k3 : (3 : Int) < kk := by omega
      have HBK : Hid (brk (l ++ [r]) l.length = false) := HMK.out (by decide) (by omega)
      have HSET : Hid ((cellsP5 (allL l)).set P1 (.int .i64 (L1 : Int)) = cellsP5 (allL (l ++ [r])) ∧ (allL (l ++ [r])).length = (allL l).length) := by
        have h := set_more HBK.out (p := P1) (by have := HP.out; omega)
        rw [← HL1.out] at h
        exact h
      clear hk4 hk13
      go_wp2_with fail
      obtain ⟨ho10, hg10⟩ := HO69.out.stored P1 (.int .i64 (L1 : Int))
      have hne : v9.ownBlock = none ∨ v9.ownBlock ≠ some gb := by
        cases h3 : v9.ownBlock with
        | none => exact .inl rfl
        | some bb =>
          refine .inr (fun e => ?_)
          have h4 := (HO9.out.lt bb h3).1
          have h5 := HGB.out
          have e' : bb = gb := Option.some.inj e
          omega
      have hI9 := all_row (HO9.out.kept hg10 hne)
      rw [HSET.out.1] at ho10
      have hI6 : IntsAt (w9.setCell ⟨gb, P1, none⟩ (.int .i64 (L1 : Int))).heap.size (w9.setCell ⟨gb, P1, none⟩ (.int .i64 (L1 : Int))) (.slice (some ⟨gb, 0, none⟩) P cb) (intsP (allL (l ++ [r]))) := by
        refine all_row (base := w5.heap.size) ?_
        rw [HSET.out.2, ← HP.out.1]
        exact ho10
      have HB10 : Hid (Below w.heap.size w (w9.setCell ⟨gb, P1, none⟩ (.int .i64 (L1 : Int)))) := HBW9.out.setCell (p := ⟨gb, P1, none⟩) (show w.heap.size ≤ gb by have := HGB.out; have := HBW5.out.size; omega) _
      refine (sameInts_any _ (by rw [intsP_length]; have := allL_len (l ++ [r]); rw [List.length_append] at this; simp only [List.length_singleton] at this; have := HN.out; omega) v9 _ _ hI9 hI6).mono ?_
      rintro e w11 ⟨rfl, hB11⟩
      have HB11 : Hid (Below w.heap.size w w11) := HB10.out.trans (hB11.mono HB10.out.size)
      clear hB11 hI9 hI6 ho10 hg10 hne
      go_wp2
      go_ret
      exact ⟨rfl, HB11.out⟩
  by_cases m8 : mm = 8
  · subst m8
    clear m4 m5
    rcases HKR.out with hk | hk | hk | hk | ⟨hk4, hk13⟩
    · subst hk
      have hk4 : True := trivial
      have hk13 : True := trivial
      have HBK : Hid (brk (l ++ [r]) l.length = false) := HMK.out (by decide) (by omega)
      have HSET : Hid ((cellsP5 (allL l)).set P1 (.int .i64 (L1 : Int)) = cellsP5 (allL (l ++ [r])) ∧ (allL (l ++ [r])).length = (allL l).length) := by
        have h := set_more HBK.out (p := P1) (by have := HP.out; omega)
        rw [← HL1.out] at h
        exact h
      clear hk4 hk13
      go_wp2_with fail
      obtain ⟨ho10, hg10⟩ := HO69.out.stored P1 (.int .i64 (L1 : Int))
      have hne : v9.ownBlock = none ∨ v9.ownBlock ≠ some gb := by
        cases h3 : v9.ownBlock with
        | none => exact .inl rfl
        | some bb =>
          refine .inr (fun e => ?_)
          have h4 := (HO9.out.lt bb h3).1
          have h5 := HGB.out
          have e' : bb = gb := Option.some.inj e
          omega
      have hI9 := all_row (HO9.out.kept hg10 hne)
      rw [HSET.out.1] at ho10
      have hI6 : IntsAt (w9.setCell ⟨gb, P1, none⟩ (.int .i64 (L1 : Int))).heap.size (w9.setCell ⟨gb, P1, none⟩ (.int .i64 (L1 : Int))) (.slice (some ⟨gb, 0, none⟩) P cb) (intsP (allL (l ++ [r]))) := by
        refine all_row (base := w5.heap.size) ?_
        rw [HSET.out.2, ← HP.out.1]
        exact ho10
      have HB10 : Hid (Below w.heap.size w (w9.setCell ⟨gb, P1, none⟩ (.int .i64 (L1 : Int)))) := HBW9.out.setCell (p := ⟨gb, P1, none⟩) (show w.heap.size ≤ gb by have := HGB.out; have := HBW5.out.size; omega) _
      refine (sameInts_any _ (by rw [intsP_length]; have := allL_len (l ++ [r]); rw [List.length_append] at this; simp only [List.length_singleton] at this; have := HN.out; omega) v9 _ _ hI9 hI6).mono ?_
      rintro e w11 ⟨rfl, hB11⟩
      have HB11 : Hid (Below w.heap.size w w11) := HB10.out.trans (hB11.mono HB10.out.size)
      clear hB11 hI9 hI6 ho10 hg10 hne
      go_wp2
      go_ret
      exact ⟨rfl, HB11.out⟩
    · subst hk
      obtain ⟨gc, cc, hv9⟩ : ∃ gc cc, v9 = .slice (some ⟨gc, 0, none⟩) (allL (l ++ [r])).length cc := own_some HO9.out (by rw [all_snoc]; simp)
      subst hv9
      obtain ⟨Q, hQ⟩ : ∃ Q, Q = (allL (l ++ [r])).length := ⟨_, rfl⟩
      have hPQ : Q = P ∨ Q = P + 1 := by rw [hQ, HP.out.1]; exact len_more l r
      rw [← hQ]
      clear hQ
      rcases hPQ with hPQ | hPQ
      · subst hPQ
        go_wp2
        go_ret
        exact ⟨rfl, HBW9.out⟩
      · have hq1 : ((Q : Int) == (P : Int)) = false := by rw [beq_eq_false_iff_ne]; omega
        have hq2 : (Q == P) = false := by rw [beq_eq_false_iff_ne]; omega
        have hwq : IntKind.i64.wrap ((P : Int) + 1) = (Q : Int) := (IntWalk.i64_in _ (by have := HP.out; omega)).trans (by omega)
        have hqq : ((Q : Int) == (Q : Int)) = true := by simp
        clear hPQ
        go_wp2
        go_ret
        exact ⟨rfl, HBW9.out⟩
    · subst hk
      obtain ⟨gc, cc, hv9⟩ : ∃ gc cc, v9 = .slice (some ⟨gc, 0, none⟩) (allL (l ++ [r])).length cc := own_some HO9.out (by rw [all_snoc]; simp)
      subst hv9
      obtain ⟨Q, hQ⟩ : ∃ Q, Q = (allL (l ++ [r])).length := ⟨_, rfl⟩
      have hPQ : Q = P ∨ Q = P + 1 := by rw [hQ, HP.out.1]; exact len_more l r
      rw [← hQ]
      clear hQ
      rcases hPQ with hPQ | hPQ
      · subst hPQ
        go_wp2
        go_ret
        exact ⟨rfl, HBW9.out⟩
      · have hq1 : ((Q : Int) == (P : Int)) = false := by rw [beq_eq_false_iff_ne]; omega
        have hq2 : (Q == P) = false := by rw [beq_eq_false_iff_ne]; omega
        have hwq : IntKind.i64.wrap ((P : Int) + 1) = (Q : Int) := (IntWalk.i64_in _ (by have := HP.out; omega)).trans (by omega)
        have hqq : ((Q : Int) == (Q : Int)) = true := by simp
        clear hPQ
        go_wp2
        go_ret
        exact ⟨rfl, HBW9.out⟩
    · subst hk
      obtain ⟨gc, cc, hv9⟩ : ∃ gc cc, v9 = .slice (some ⟨gc, 0, none⟩) (allL (l ++ [r])).length cc := own_some HO9.out (by rw [all_snoc]; simp)
      subst hv9
      obtain ⟨Q, hQ⟩ : ∃ Q, Q = (allL (l ++ [r])).length := ⟨_, rfl⟩
      have hPQ : Q = P ∨ Q = P + 1 := by rw [hQ, HP.out.1]; exact len_more l r
      rw [← hQ]
      clear hQ
      rcases hPQ with hPQ | hPQ
      · subst hPQ
        go_wp2
        go_ret
        exact ⟨rfl, HBW9.out⟩
      · have hq1 : ((Q : Int) == (P : Int)) = false := by rw [beq_eq_false_iff_ne]; omega
        have hq2 : (Q == P) = false := by rw [beq_eq_false_iff_ne]; omega
        have hwq : IntKind.i64.wrap ((P : Int) + 1) = (Q : Int) := (IntWalk.i64_in _ (by have := HP.out; omega)).trans (by omega)
        have hqq : ((Q : Int) == (Q : Int)) = true := by simp
        clear hPQ
        go_wp2
        go_ret
        exact ⟨rfl, HBW9.out⟩
    · have k1 : decide (kk < 1) = false := decide_eq_false (by omega)
      have k3 : (3 : Int) < kk := by omega
      have HBK : Hid (brk (l ++ [r]) l.length = false) := HMK.out (by decide) (by omega)
      have HSET : Hid ((cellsP5 (allL l)).set P1 (.int .i64 (L1 : Int)) = cellsP5 (allL (l ++ [r])) ∧ (allL (l ++ [r])).length = (allL l).length) := by
        have h := set_more HBK.out (p := P1) (by have := HP.out; omega)
        rw [← HL1.out] at h
        exact h
      clear hk4 hk13
      go_wp2_with fail
      obtain ⟨ho10, hg10⟩ := HO69.out.stored P1 (.int .i64 (L1 : Int))
      have hne : v9.ownBlock = none ∨ v9.ownBlock ≠ some gb := by
        cases h3 : v9.ownBlock with
        | none => exact .inl rfl
        | some bb =>
          refine .inr (fun e => ?_)
          have h4 := (HO9.out.lt bb h3).1
          have h5 := HGB.out
          have e' : bb = gb := Option.some.inj e
          omega
      have hI9 := all_row (HO9.out.kept hg10 hne)
      rw [HSET.out.1] at ho10
      have hI6 : IntsAt (w9.setCell ⟨gb, P1, none⟩ (.int .i64 (L1 : Int))).heap.size (w9.setCell ⟨gb, P1, none⟩ (.int .i64 (L1 : Int))) (.slice (some ⟨gb, 0, none⟩) P cb) (intsP (allL (l ++ [r]))) := by
        refine all_row (base := w5.heap.size) ?_
        rw [HSET.out.2, ← HP.out.1]
        exact ho10
      have HB10 : Hid (Below w.heap.size w (w9.setCell ⟨gb, P1, none⟩ (.int .i64 (L1 : Int)))) := HBW9.out.setCell (p := ⟨gb, P1, none⟩) (show w.heap.size ≤ gb by have := HGB.out; have := HBW5.out.size; omega) _
      refine (sameInts_any _ (by rw [intsP_length]; have := allL_len (l ++ [r]); rw [List.length_append] at this; simp only [List.length_singleton] at this; have := HN.out; omega) v9 _ _ hI9 hI6).mono ?_
      rintro e w11 ⟨rfl, hB11⟩
      have HB11 : Hid (Below w.heap.size w w11) := HB10.out.trans (hB11.mono HB10.out.size)
      clear hB11 hI9 hI6 ho10 hg10 hne
      go_wp2
      go_ret
      exact ⟨rfl, HB11.out⟩
  have e4 : (mm == 4) = false := by simpa using m4
  have e5 : (mm == 5) = false := by simpa using m5
  have e8 : (mm == 8) = false := by simpa using m8
  clear m4 m5 m8
  obtain ⟨gc, cc, hv9⟩ : ∃ gc cc, v9 = .slice (some ⟨gc, 0, none⟩) (allL (l ++ [r])).length cc := own_some HO9.out (by rw [all_snoc]; simp)
  subst hv9
  obtain ⟨Q, hQ⟩ : ∃ Q, Q = (allL (l ++ [r])).length := ⟨_, rfl⟩
  have hPQ : Q = P ∨ Q = P + 1 := by rw [hQ, HP.out.1]; exact len_more l r
  rw [← hQ]
  clear hQ
  rcases hPQ with hPQ | hPQ
  · subst hPQ
    go_wp2
    go_ret
    exact ⟨rfl, HBW9.out⟩
  · have hq1 : ((Q : Int) == (P : Int)) = false := by rw [beq_eq_false_iff_ne]; omega
    have hq2 : (Q == P) = false := by rw [beq_eq_false_iff_ne]; omega
    have hwq : IntKind.i64.wrap ((P : Int) + 1) = (Q : Int) := (IntWalk.i64_in _ (by have := HP.out; omega)).trans (by omega)
    have hqq : ((Q : Int) == (Q : Int)) = true := by simp
    clear hPQ
    go_wp2
    go_ret
    exact ⟨rfl, HBW9.out⟩
end Go.Proofs.YtmhligcmcfikfaaDoor
