/-
  scansionref12.Same, in full.
-/
import Derived.Test.YtleafbbcgebmpaaDoorFlSame
import Derived.Test.YtleafbbcgebmpaaDoorLsDfa
namespace Go.Proofs.YtleafbbcgebmpaaDoor
open Go.RowKit Go.Shelf
set_option linter.unusedVariables false

set_option maxRecDepth 100000 in
set_option maxHeartbeats 16000000 in
theorem rsame_any13 (N : List (List Int)) (F : List Bool) (N' : List (List Int)) (F' : List Bool) (va vb : Value) (w : World) (ha : DfaAt w va N F) (hb : DfaAt w vb N' F') (hN : N.length ≤ 5000) (hN' : N'.length ≤ 5000) (hF : F.length ≤ 5000) (hF' : F'.length ≤ 5000) (hR : ∀ x ∈ N, x.length ≤ 5000) :
    Calls Tryd.prog 13 #[va, vb] w fun e w' => e = .returned (.bool (decide (N = N' ∧ F = F'))) ∧ Below w.heap.size w w' := by
  obtain ⟨na, nc, fa, fc, rfl, hnc, hfc, hx, hfx⟩ := dfa_parts ha
  obtain ⟨na2, nc2, fa2, fc2, rfl, hnc2, hfc2, hx2, hfx2⟩ := dfa_parts hb
  obtain ⟨n, hn⟩ : ∃ x, x = N.length := ⟨_, rfl⟩
  obtain ⟨m, hm⟩ : ∃ x, x = F.length := ⟨_, rfl⟩
  obtain ⟨n', hn'⟩ : ∃ x, x = N'.length := ⟨_, rfl⟩
  obtain ⟨m', hm'⟩ : ∃ x, x = F'.length := ⟨_, rfl⟩
  have HN : Hid (n = N.length ∧ m = F.length) := ⟨hn, hm⟩
  have HN' : Hid (n' = N'.length ∧ m' = F'.length) := ⟨hn', hm'⟩
  have HRL : Hid (∀ x ∈ N, x.length ≤ 5000) := hR
  have HX : Hid (∀ i, (h : i < N.length) → ∃ g off x, na = some ⟨g, off, none⟩ ∧ g < w.heap.size ∧ w.cell? ⟨g, off + i, none⟩ = some x ∧ IntsAt w x N[i]) := hx
  have HX2 : Hid (∀ i, (h : i < N'.length) → ∃ g off x, na2 = some ⟨g, off, none⟩ ∧ g < w.heap.size ∧ w.cell? ⟨g, off + i, none⟩ = some x ∧ IntsAt w x N'[i]) := hx2
  have HF : Hid (∀ i, (h : i < F.length) → ∃ g off, fa = some ⟨g, off, none⟩ ∧ g < w.heap.size ∧ w.cell? ⟨g, off + i, none⟩ = some (.bool F[i])) := hfx
  have HF2 : Hid (∀ i, (h : i < F'.length) → ∃ g off, fa2 = some ⟨g, off, none⟩ ∧ g < w.heap.size ∧ w.cell? ⟨g, off + i, none⟩ = some (.bool F'[i])) := hfx2
  obtain ⟨W0, hW0⟩ : ∃ W, W = (w.alloc (.cells #[.slice na N.length nc, .slice fa F.length fc] 25)).alloc (.cells #[.slice na2 N'.length nc2, .slice fa2 F'.length fc2] 25) := ⟨_, rfl⟩
  obtain ⟨h0, h1, hB0, hs0⟩ := alloc2 hW0
  have HA0 : Hid (DBox W0 w.heap.size (.slice na N.length nc) (.slice fa F.length fc)) := h0
  have HA1 : Hid (DBox W0 (w.heap.size + 1) (.slice na2 N'.length nc2) (.slice fa2 F'.length fc2)) := h1
  have HB0 : Hid (Below w.heap.size w W0) := hB0
  obtain ⟨R, hRR⟩ : ∃ R, R = decide (N = N' ∧ F = F') := ⟨_, rfl⟩
  have HR : Hid (R = decide (N = N' ∧ F = F')) := hRR
  rw [← hRR]
  rw [← hn, ← hm] at HA0 hW0 ⊢
  rw [← hn', ← hm'] at HA1 hW0 ⊢
  rw [← hn] at hnc hN
  rw [← hm] at hfc hF
  rw [← hn'] at hnc2 hN'
  rw [← hm'] at hfc2 hF'
  have HW0 : Hid (W0 = _) := hW0
  have a0 := HA0.out.c0
  have a1 := HA0.out.c1
  have b0 := HA1.out.c0
  have b1 := HA1.out.c1
  have la := HA0.out.lt
  have lb := HA1.out.lt
  clear hn hm hn' hm' hR hx hx2 hfx hfx2 h0 h1 hB0 hs0 hW0 ha hb hRR
  go_enter Tryd.func13, Tryd.ntmps13
  go_upto_region 1 with fail
  rw [← HW0.out]
  by_cases hnn : n = n'
  case neg =>
    have hf : R = false := by rw [HR.out]; exact decide_eq_false (fun e => hnn (by rw [HN.out.1, HN'.out.1, e.1]))
    have hne : ((n : Int) != (n' : Int)) = true := by simp; omega
    subst hf
    go_wp2
    go_ret
    exact ⟨rfl, HB0.out⟩
  subst hnn
  have hnn : ((n : Int) != (n : Int)) = false := by simp
  by_cases hmm : m = m'
  case neg =>
    have hf : R = false := by rw [HR.out]; exact decide_eq_false (fun e => hmm (by rw [HN.out.2, HN'.out.2, e.2]))
    have hne : ((m : Int) != (m' : Int)) = true := by simp; omega
    subst hf
    go_wp2
    go_ret
    exact ⟨rfl, HB0.out⟩
  subst hmm
  have hmm : ((m : Int) != (m : Int)) = false := by simp
  go_wp2
  go_loopw [5] (fun x5 wr => ∃ (i nd : Nat), i ≤ n ∧ x5 = .int .i64 (i : Int) ∧ Hid (∀ q, (h1 : q < N.length) → (h2 : q < N'.length) → q < i → N[q] = N'[q]) ∧ wr = W0.drewN nd) (fun x5 _ => n - (intOf x5).toNat)
  case atStart => exact ⟨0, 0, Nat.zero_le _, rfl, fun q _ _ h => absurd h (by omega), rfl⟩
  case round =>
    obtain ⟨i, nd, hi, rfl, HK, rfl⟩ := hrel
    by_cases hil : i < n
    · have hid : i < N.length := by rw [← HN.out.1]; exact hil
      have hid' : i < N'.length := by rw [← HN'.out.1]; exact hil
      obtain ⟨g1, o1, v1, rfl, hg1, e1, p1⟩ := HX.out i hid
      obtain ⟨g2, o2, v2, rfl, hg2, e2, p2⟩ := HX2.out i hid'
      obtain ⟨y1, yc, rfl, _⟩ := p1.slice
      obtain ⟨y2, zc, rfl, _⟩ := p2.slice
      obtain ⟨N1, hN1⟩ : ∃ x, x = N[i].length := ⟨_, rfl⟩
      obtain ⟨N2, hN2⟩ : ∃ x, x = N'[i].length := ⟨_, rfl⟩
      obtain ⟨bb, hbb⟩ : ∃ x, x = decide (N[i] = N'[i]) := ⟨_, rfl⟩
      have HBB : Hid (bb = decide (N[i] = N'[i])) := hbb
      have HCQ : Hid (∀ k, Calls Tryd.prog 17 #[.slice y1 N1 yc, .slice y2 N2 zc] (W0.drewN (nd + k)) fun e w' => e = .returned (.bool bb) ∧ ∃ q, w' = W0.drewN (nd + q)) := fun k => by
        have hb := below_drewN' HB0.out (nd + k)
        rw [hN1, hN2, hbb]
        exact (sameIntsB_any N[i] N'[i] (by have := HRL.out _ (List.getElem_mem hid); omega) _ _ _ (p1.below hb) (p2.below hb)).mono fun e w'' ⟨he, q, hq⟩ => ⟨he, k + q, by rw [hq, World.drewN_drewN, Nat.add_assoc]⟩
      rw [← hN1] at e1
      rw [← hN2] at e2
      have e1' : W0.cell? ⟨g1, o1 + i, none⟩ = some (.slice y1 N1 yc) := (HB0.out.cell (p := ⟨g1, _, none⟩) hg1).trans e1
      have e2' : W0.cell? ⟨g2, o2 + i, none⟩ = some (.slice y2 N2 zc) := (HB0.out.cell (p := ⟨g2, _, none⟩) hg2).trans e2
      have hi0 : (0 : Int) ≤ (i : Int) := by omega
      have hi1 : (i : Int) < (n : Int) := by omega
      clear hN1 hN2 p1 p2 e1 e2 hbb
      cases bb with
      | true =>
        go_wp2
        go_quiet ((go_at_call 17; exact HCQ.out _))
        go_wp2
        go_roundw
        case rel =>
          refine ⟨i + 1, _, by omega, by go_num, fun q h1 h2 h3 => ?_, rfl⟩
          by_cases e : q < i
          · exact HK.out q h1 h2 e
          · obtain rfl : q = i := by omega
            exact of_decide_eq_true HBB.out.symm
        case measure => simp [intOf]; omega
      | false =>
        have hf : R = false := by
          rw [HR.out]
          refine decide_eq_false (fun e => ?_)
          have e2 := of_decide_eq_false HBB.out.symm
          obtain ⟨e3, _⟩ := e
          subst e3
          exact e2 rfl
        subst hf
        go_wp2
        go_quiet ((go_at_call 17; exact HCQ.out _))
        go_wp2
        go_ret
        exact ⟨rfl, below_after HB0.out (below_drewN' (Below.refl _ _) _)⟩
    · obtain rfl : i = n := by omega
      have HNE : Hid (N = N') := List.ext_getElem (by rw [← HN.out.1, ← HN'.out.1]) (fun q h1 h2 => HK.out q h1 h2 (by rw [HN.out.1]; exact h1))
      clear HK
      go_wp2
      go_loopw [7] (fun x7 wr => ∃ (k nd : Nat), k ≤ m ∧ x7 = .int .i64 (k : Int) ∧ Hid (∀ q, (h1 : q < F.length) → (h2 : q < F'.length) → q < k → F[q] = F'[q]) ∧ wr = W0.drewN nd) (fun x7 _ => m - (intOf x7).toNat)
      case atStart => exact ⟨0, nd, Nat.zero_le _, rfl, fun q _ _ h => absurd h (by omega), rfl⟩
      case round =>
        obtain ⟨k, nd2, hk, rfl, HK, rfl⟩ := hrel
        by_cases hkl : k < m
        · have hkd : k < F.length := by rw [← HN.out.2]; exact hkl
          have hkd' : k < F'.length := by rw [← HN'.out.2]; exact hkl
          obtain ⟨g1, o1, rfl, hg1, e1⟩ := HF.out k hkd
          obtain ⟨g2, o2, rfl, hg2, e2⟩ := HF2.out k hkd'
          obtain ⟨x, hxx⟩ : ∃ b, b = F[k] := ⟨_, rfl⟩
          obtain ⟨y, hyy⟩ : ∃ b, b = F'[k] := ⟨_, rfl⟩
          have HXX : Hid (x = F[k]) := hxx
          have HYY : Hid (y = F'[k]) := hyy
          rw [← hxx] at e1
          rw [← hyy] at e2
          have e1' : W0.cell? ⟨g1, o1 + k, none⟩ = some (.bool x) := (HB0.out.cell (p := ⟨g1, _, none⟩) hg1).trans e1
          have e2' : W0.cell? ⟨g2, o2 + k, none⟩ = some (.bool y) := (HB0.out.cell (p := ⟨g2, _, none⟩) hg2).trans e2
          have hk0 : (0 : Int) ≤ (k : Int) := by omega
          have hk1 : (k : Int) < (m : Int) := by omega
          clear hxx hyy e1 e2
          by_cases hxy : x = y
          · subst hxy
            have hne : (x != x) = false := by simp
            go_wp2
            go_quiet (fail)
            go_wp2
            go_roundw
            case rel =>
              refine ⟨k + 1, _, by omega, by go_num, fun q h1 h2 h3 => ?_, by first | rfl | exact drewN_add' _ _ _⟩
              by_cases e : q < k
              · exact HK.out q h1 h2 e
              · obtain rfl : q = k := by omega
                rw [← HXX.out, ← HYY.out]
            case measure => simp [intOf]; omega
          · have hne : (x != y) = true := by simp [hxy]
            have hf : R = false := by
              rw [HR.out]
              refine decide_eq_false (fun e => hxy ?_)
              rw [HXX.out, HYY.out]
              obtain ⟨_, e3⟩ := e
              subst e3
              rfl
            subst hf
            obtain rfl : y = !x := by cases x <;> cases y <;> simp_all
            have hne2 : (x != !x) = true := by cases x <;> rfl
            clear hxy
            go_wp2
            go_quiet (fail)
            go_wp2
            go_ret
            exact ⟨rfl, below_after HB0.out (by first | exact below_drewN' (Below.refl _ _) _ | exact below_drewN' (below_drewN' (Below.refl _ _) _) _)⟩
        · obtain rfl : k = m := by omega
          have ht : R = true := by
            rw [HR.out]
            exact decide_eq_true ⟨HNE.out, List.ext_getElem (by rw [← HN.out.2, ← HN'.out.2]) (fun q h1 h2 => HK.out q h1 h2 (by rw [HN.out.2]; exact h1))⟩
          subst ht
          go_wp2
          go_ret
          exact ⟨rfl, below_after HB0.out (below_drewN' (Below.refl _ _) _)⟩
end Go.Proofs.YtleafbbcgebmpaaDoor
