/-
  scansionref13.both and met; steps in memory.
-/
import Derived.Test.YtleafbbcgebmpaaDoorLsRLeast
import Derived.BigQuiet
namespace Go.Proofs.YtleafbbcgebmpaaDoor
open Go.RowKit Go.Shelf
set_option linter.unusedVariables false

/-- May two be held against one another? -/
def bothB (N : List (List Int)) (F : List Bool) (N' : List (List Int)) (F' : List Bool) : Bool := rightD N F && rightD N' F' && decide ((N.getD 0 []).length = (N'.getD 0 []).length)
theorem row0_at {w : World} {na : Option Addr} {N : List (List Int)} {F : List Bool} (hr : rightD N F = true) (hx : ∀ i, (h : i < N.length) → ∃ g off x, na = some ⟨g, off, none⟩ ∧ g < w.heap.size ∧ w.cell? ⟨g, off + i, none⟩ = some x ∧ IntsAt w x N[i]) : ∃ g off y yc, na = some ⟨g, off, none⟩ ∧ g < w.heap.size ∧ w.cell? ⟨g, off, none⟩ = some (.slice y (N.getD 0 []).length yc) := by
  have h0 : 0 < N.length := (rightD_iff.1 hr).1
  obtain ⟨g, off, x, h1, h2, h3, h4⟩ := hx 0 h0
  obtain ⟨y, yc, rfl, _⟩ := h4.slice
  have e : (N.getD 0 []).length = N[0].length := by rw [List.getD_eq_getElem?_getD, List.getElem?_eq_getElem h0]; rfl
  rw [Nat.add_zero] at h3
  rw [e]
  exact ⟨g, off, y, yc, h1, h2, h3⟩

set_option maxRecDepth 100000 in
set_option maxHeartbeats 8000000 in
theorem rboth_any (N : List (List Int)) (F : List Bool) (dv : Value) (N' : List (List Int)) (F' : List Bool) (dv' : Value) (w : World) (hd : DfaAt w dv N F) (hd' : DfaAt w dv' N' F') : Calls Tryd.prog 26 #[dv, dv'] w fun e w' => e = .returned (.bool (bothB N F N' F')) ∧ Below w.heap.size w w' := by
  have HD : Hid (DfaAt w dv N F) := hd
  have HD' : Hid (DfaAt w dv' N' F') := hd'
  obtain ⟨na, nc, fa, fc, rfl, hnc, hfc, hx, hfx⟩ := dfa_parts hd
  obtain ⟨na', nc', fa', fc', rfl, hnc', hfc', hx', hfx'⟩ := dfa_parts hd'
  obtain ⟨W0, hW0⟩ : ∃ W, W = (w.alloc (.cells #[.slice na N.length nc, .slice fa F.length fc] 25)).alloc (.cells #[.slice na' N'.length nc', .slice fa' F'.length fc'] 25) := ⟨_, rfl⟩
  obtain ⟨h0, h1, hB0, hs0⟩ := alloc2 hW0
  have HRA : Hid (∀ W, Below w.heap.size w W → Calls Tryd.prog 19 #[.agg #[.slice na N.length nc, .slice fa F.length fc]] W fun e w' => e = .returned (.bool (rightD N F)) ∧ Below W.heap.size W w') := fun W hb => rright_any12 N F _ W (hd.below hb)
  have HRB : Hid (∀ W, Below w.heap.size w W → Calls Tryd.prog 19 #[.agg #[.slice na' N'.length nc', .slice fa' F'.length fc']] W fun e w' => e = .returned (.bool (rightD N' F')) ∧ Below W.heap.size W w') := fun W hb => rright_any12 N' F' _ W (hd'.below hb)
  have HX : Hid (rightD N F = true → ∃ g off y yc, na = some ⟨g, off, none⟩ ∧ g < w.heap.size ∧ w.cell? ⟨g, off, none⟩ = some (.slice y (N.getD 0 []).length yc)) := fun h => row0_at h hx
  have HX' : Hid (rightD N' F' = true → ∃ g off y yc, na' = some ⟨g, off, none⟩ ∧ g < w.heap.size ∧ w.cell? ⟨g, off, none⟩ = some (.slice y (N'.getD 0 []).length yc)) := fun h => row0_at h hx'
  obtain ⟨n, hn⟩ : ∃ x, x = N.length := ⟨_, rfl⟩
  obtain ⟨n', hn'⟩ : ∃ x, x = N'.length := ⟨_, rfl⟩
  obtain ⟨m, hm⟩ : ∃ x, x = F.length := ⟨_, rfl⟩
  obtain ⟨m', hm'⟩ : ∃ x, x = F'.length := ⟨_, rfl⟩
  have HN : Hid (n = N.length ∧ n' = N'.length) := ⟨hn, hn'⟩
  obtain ⟨R, hR⟩ : ∃ x, x = rightD N F := ⟨_, rfl⟩
  obtain ⟨R', hR'⟩ : ∃ x, x = rightD N' F' := ⟨_, rfl⟩
  have HR : Hid (R = rightD N F ∧ R' = rightD N' F') := ⟨hR, hR'⟩
  obtain ⟨C, hC⟩ : ∃ x, x = (N.getD 0 []).length := ⟨_, rfl⟩
  obtain ⟨C', hC'⟩ : ∃ x, x = (N'.getD 0 []).length := ⟨_, rfl⟩
  have HA0 : Hid (DBox W0 w.heap.size (.slice na N.length nc) (.slice fa F.length fc)) := h0
  have HA1 : Hid (DBox W0 (w.heap.size + 1) (.slice na' N'.length nc') (.slice fa' F'.length fc')) := h1
  have HB0 : Hid (Below w.heap.size w W0) := hB0
  have e : bothB N F N' F' = (R && R' && decide (C = C')) := by unfold bothB; rw [hR, hR', hC, hC']
  rw [e]
  rw [← hC, ← hR] at HX
  rw [← hC', ← hR'] at HX'
  rw [← hn, ← hm] at HA0 HRA
  rw [← hn', ← hm'] at HA1 HRB
  rw [← hR] at HRA
  rw [← hR'] at HRB
  rw [← hn, ← hm, ← hn', ← hm'] at hW0 ⊢
  have HW0 : Hid (W0 = _) := hW0
  have a0 := HA0.out.c0
  have a1 := HA0.out.c1
  have al := HA0.out.lt
  have hr1 := HRA.out W0 hB0
  have hnp : R = true → 0 < n := fun h => by rw [hn]; exact (rightD_iff.1 (by rw [← hR]; exact h)).1
  have hnp' : R' = true → 0 < n' := fun h => by rw [hn']; exact (rightD_iff.1 (by rw [← hR']; exact h)).1
  have HNP : Hid ((R = true → 0 < n) ∧ (R' = true → 0 < n')) := ⟨hnp, hnp'⟩
  clear hd hd' hx hfx hx' hfx' h0 h1 hB0 hs0 hW0 hn hn' hm hm' hR hR' hC hC' e hnp hnp' hnc hfc hnc' hfc'
  go_enter Tryd.func26, Tryd.ntmps26
  go_upto_region 1 with fail
  rw [← HW0.out]
  go_wp2_with fail
  refine hr1.mono ?_
  rintro e w1 ⟨rfl, hB1⟩
  have HB1 : Hid (Below W0.heap.size W0 w1) := hB1
  have b0 := (HA1.out.below hB1).c0
  have b1 := (HA1.out.below hB1).c1
  have bl := (HA1.out.below hB1).lt
  have hr2 := HRB.out w1 (below_after HB0.out hB1)
  clear hr1 hB1 a0 a1 al
  go_wp2_with fail
  refine hr2.mono ?_
  rintro e w2 ⟨rfl, hB2⟩
  have HB2 : Hid (Below W0.heap.size W0 w2) := below_after HB1.out hB2
  have HBW : Hid (Below w.heap.size w w2) := below_after HB0.out HB2.out
  have a0 := (HA0.out.below HB2.out).c0
  have al := (HA0.out.below HB2.out).lt
  have c0 := (HA1.out.below HB2.out).c0
  have cl := (HA1.out.below HB2.out).lt
  clear hr2 hB2 b0 b1 bl
  cases R with
  | false =>
    go_wp2
    go_quiet (fail)
    go_wp2
    go_ret
    exact ⟨by first | rfl | simp, by first | exact HBW.out | exact below_drewN' HBW.out _ | exact HBW.out.drew⟩
  | true =>
  cases R' with
  | false =>
    go_wp2
    go_quiet (fail)
    go_wp2
    go_ret
    exact ⟨by first | rfl | simp, by first | exact HBW.out | exact below_drewN' HBW.out _ | exact HBW.out.drew⟩
  | true =>
  obtain ⟨g, o, y, yc, rfl, l1, z1⟩ := HX.out rfl
  obtain ⟨g', o', y', yc', rfl, l2, z2⟩ := HX'.out rfl
  have z1' : w2.cell? ⟨g, o, none⟩ = some (.slice y C yc) := (HBW.out.cell (p := ⟨g, _, none⟩) l1).trans z1
  have z2' : w2.cell? ⟨g', o', none⟩ = some (.slice y' C' yc') := (HBW.out.cell (p := ⟨g', _, none⟩) l2).trans z2
  have hn0 : (0 : Int) < (n : Int) := by have := HNP.out.1 rfl; omega
  have hn0' : (0 : Int) < (n' : Int) := by have := HNP.out.2 rfl; omega
  obtain ⟨q, hq⟩ : ∃ q, q = decide (C = C') := ⟨_, rfl⟩
  have hqq : ((C : Int) == (C' : Int)) = q := by
    rw [hq]
    by_cases h : C = C'
    · simp [h]
    · have : ((C : Int) == (C' : Int)) = false := by simp; omega
      rw [this, decide_eq_false h]
  have HQ : Hid (q = decide (C = C')) := hq
  clear z1 z2 l1 l2 hq
  go_wp2
  go_quiet (fail)
  go_wp2
  go_ret
  exact ⟨by rw [← HQ.out]; simp, by first | exact HBW.out | exact below_drewN' HBW.out _ | exact HBW.out.drew⟩

/-- A pair of states, which one led to it, and by which class. -/
structure St where
  a : Nat
  b : Nat
  fr : Int
  c : Nat
def stC (x : St) : List Value := [.int .i64 (x.a : Int), .int .i64 (x.b : Int), .int .i64 x.fr, .int .i64 (x.c : Int)]
def stCs (l : List St) : List Value := l.flatMap stC
theorem stCs_len (l : List St) : (stCs l).length = l.length * 4 := by
  induction l with
  | nil => rfl
  | cons x l ih =>
    show (stC x ++ stCs l).length = _
    rw [List.length_append, ih]
    simp [stC]
    omega
theorem stCs_snoc (l : List St) (x : St) : stCs (l ++ [x]) = stCs l ++ stC x := by simp [stCs]
theorem stCs_at : ∀ (l : List St) (i f : Nat), (h : i < l.length) → f < 4 → (stCs l)[i * 4 + f]? = (stC l[i])[f]?
  | x :: l, 0, f, h, hf => by
    show (stC x ++ stCs l)[0 * 4 + f]? = _
    rw [List.getElem?_append_left (by simp [stC]; omega)]
    simp
  | x :: l, i + 1, f, h, hf => by
    show (stC x ++ stCs l)[(i + 1) * 4 + f]? = _
    rw [List.getElem?_append_right (by simp [stC]; omega)]
    have e : (i + 1) * 4 + f - (stC x).length = i * 4 + f := by simp [stC]; omega
    rw [e, stCs_at l i f (by simpa using h) hf]
    rfl
/-- The fields of a step in memory. -/
theorem st_cells {w : World} {base : Nat} {sv : Value} {l : List St} (h : w.ownsRow base 51 4 sv l.length (stCs l)) {i : Nat} (hi : i < l.length) : ∃ g c, sv = .slice (some ⟨g, 0, none⟩) l.length c ∧ l.length ≤ c ∧ g < w.heap.size ∧ w.cell? ⟨g, i * 4, none⟩ = some (.int .i64 (l[i].a : Int)) ∧ w.cell? ⟨g, i * 4 + 1, none⟩ = some (.int .i64 (l[i].b : Int)) ∧ w.cell? ⟨g, i * 4 + 2, none⟩ = some (.int .i64 l[i].fr) ∧ w.cell? ⟨g, i * 4 + 3, none⟩ = some (.int .i64 (l[i].c : Int)) := by
  have hr := h
  rcases hr.2 with ⟨rfl, h0⟩ | ⟨g, cap, cur, rfl, hb, hg, hc, hm, hs, ht⟩
  · omega
  · have key : ∀ f v, f < 4 → (stC l[i])[f]? = some v → w.cell? ⟨g, i * 4 + f, none⟩ = some v := fun f v hf e => by
      have := hr.cells (g := g) rfl (i * 4 + f) v (by rw [stCs_at l i f hi hf, e])
      rw [add_lit', Nat.zero_add] at this
      exact this
    refine ⟨g, cap, rfl, hc, lt_of_heap hg, ?_, key 1 _ (by omega) rfl, key 2 _ (by omega) rfl, key 3 _ (by omega) rfl⟩
    have := key 0 _ (by omega) rfl
    rwa [Nat.add_zero] at this
def metS (l : List St) (a b : Nat) : Bool := l.any fun x => x.a == a && x.b == b

set_option maxRecDepth 100000 in
set_option maxHeartbeats 8000000 in
theorem rmet_any (l : List St) (base : Nat) (sv : Value) (a b : Nat) (w : World) (hr : w.ownsRow base 51 4 sv l.length (stCs l)) (hl : l.length ≤ 1000000) : Calls Tryd.prog 27 #[sv, .int .i64 (a : Int), .int .i64 (b : Int)] w fun e w' => e = .returned (.bool (metS l a b)) ∧ w' = w := by
  have HRO : Hid (w.ownsRow base 51 4 sv l.length (stCs l)) := hr
  obtain ⟨sa, sc, rfl⟩ : ∃ a c, sv = .slice a l.length c := by
    rcases hr.2 with ⟨rfl, h0⟩ | ⟨g, cap, cur, rfl, _⟩
    · exact ⟨none, 0, by rw [h0]⟩
    · exact ⟨_, _, rfl⟩
  obtain ⟨L, hL⟩ : ∃ x, x = l.length := ⟨_, rfl⟩
  have HL : Hid (L = l.length) := hL
  obtain ⟨R, hR⟩ : ∃ x, x = metS l a b := ⟨_, rfl⟩
  have HR : Hid (R = metS l a b) := hR
  have HAT : Hid (∀ i, (hi : i < l.length) → ∃ g c, Value.slice sa L sc = .slice (some ⟨g, 0, none⟩) L c ∧ L ≤ c ∧ g < w.heap.size ∧ w.cell? ⟨g, i * 4, none⟩ = some (.int .i64 (l[i].a : Int)) ∧ w.cell? ⟨g, i * 4 + 1, none⟩ = some (.int .i64 (l[i].b : Int))) := fun i hi => by
    obtain ⟨g, c, h1, h2, h3, h4, h5, _⟩ := st_cells hr hi
    rw [hL]
    exact ⟨g, c, h1, h2, h3, h4, h5⟩
  rw [← hL] at hl ⊢
  rw [← hR]
  clear hr hL hR
  go_enter Tryd.func27, Tryd.ntmps27
  go_wp2
  go_loopw [7] (fun x wr => ∃ k : Nat, k ≤ L ∧ x = .int .i64 k ∧ Hid (∀ q, (h : q < l.length) → q < k → ¬ (l[q].a = a ∧ l[q].b = b)) ∧ wr = w) (fun x _ => L - (intOf x).toNat)
  case atStart => exact ⟨0, Nat.zero_le _, rfl, fun q _ h => absurd h (by omega), rfl⟩
  case round =>
    obtain ⟨k, hk, rfl, HK, hwr⟩ := hrel
    obtain rfl := hwr.symm
    by_cases hkl : k < L
    · have hki : k < l.length := by rw [← HL.out]; exact hkl
      obtain ⟨g, c, he, hc, hg, z0, z1⟩ := HAT.out k hki
      obtain ⟨rfl, rfl⟩ : sa = some ⟨g, 0, none⟩ ∧ sc = c := by
        injection he with h1 _ h3
        exact ⟨h1, h3⟩
      obtain ⟨X, hX⟩ : ∃ x, x = l[k].a := ⟨_, rfl⟩
      obtain ⟨Y, hY⟩ : ∃ x, x = l[k].b := ⟨_, rfl⟩
      have HXY : Hid (X = l[k].a ∧ Y = l[k].b) := ⟨hX, hY⟩
      rw [← hX] at z0
      rw [← hY] at z1
      have hk0 : (0 : Int) ≤ (k : Int) := by omega
      have hk1 : (k : Int) < (L : Int) := by omega
      clear hX hY he
      by_cases h1 : X = a
      · have e1 : ((X : Int) == (a : Int)) = true := by simp [h1]
        by_cases h2 : Y = b
        · have e2 : ((Y : Int) == (b : Int)) = true := by simp [h2]
          have ht : R = true := by
            rw [HR.out]
            exact List.any_eq_true.2 ⟨l[k], List.getElem_mem hki, by simp [← HXY.out.1, ← HXY.out.2, h1, h2]⟩
          subst ht
          clear h1 h2
          go_wp2
          go_ret
          exact ⟨rfl, rfl⟩
        · have e2 : ((Y : Int) == (b : Int)) = false := by simp; omega
          have HNE : Hid (¬ (l[k].a = a ∧ l[k].b = b)) := fun q => h2 (by rw [HXY.out.2]; exact q.2)
          clear h1 h2
          go_wp2
          go_roundw
          case rel =>
            refine ⟨k + 1, by omega, by go_num, fun q hq1 hq2 => ?_, by first | rfl | trivial⟩
            by_cases e : q < k
            · exact HK.out q hq1 e
            · obtain rfl : q = k := by omega
              exact HNE.out
          case measure => simp [intOf]; omega
      · have e1 : ((X : Int) == (a : Int)) = false := by simp; omega
        have HNE : Hid (¬ (l[k].a = a ∧ l[k].b = b)) := fun q => h1 (by rw [HXY.out.1]; exact q.1)
        clear h1
        go_wp2
        go_roundw
        case rel =>
          refine ⟨k + 1, by omega, by go_num, fun q hq1 hq2 => ?_, by first | rfl | trivial⟩
          by_cases e : q < k
          · exact HK.out q hq1 e
          · obtain rfl : q = k := by omega
            exact HNE.out
        case measure => simp [intOf]; omega
    · obtain rfl : k = L := by omega
      have ht : R = false := by
        rw [HR.out, Bool.eq_false_iff]
        intro h
        obtain ⟨x, hx, hq⟩ := List.any_eq_true.1 h
        obtain ⟨q, hq1, rfl⟩ := List.mem_iff_getElem.1 hx
        exact HK.out q hq1 (by have := HL.out; omega) (by simpa using hq)
      subst ht
      go_wp2
      go_ret
      exact ⟨rfl, rfl⟩
end Go.Proofs.YtleafbbcgebmpaaDoor
