/-
  scansionref12.Same, of two that are the same; how great states are.
-/
import Derived.Test.YtehkaiohmcenbaaDoorSbRFind
import Derived.Test.YtehkaiohmcenbaaDoorSbStates
namespace Go.Proofs.YtehkaiohmcenbaaDoor
open Go.RowKit Go.Shelf
set_option linter.unusedVariables false

theorem dfa_small (d : AutD) (free : Bool) (ms : List Nat) (lim : Int) (hm : ms.length ≤ 200) : (intsL (dfaD d free ms lim).1).length ≤ 5000 ∧ (dfaD d free ms lim).2.length ≤ 5000 ∧ ∀ x ∈ intsL (dfaD d free ms lim).1, x.length ≤ 200 := by
  by_cases h : ms.length < 1 ∨ 200 < ms.length ∨ lim < 1 ∨ 5000 < lim
  · rw [(errD_arg h).2]
    exact ⟨by simp [intsL], by simp, fun x hx => (by cases hx)⟩
  · cases hq : ansB d free ms lim.toNat with
    | none =>
      rw [(errD_none h hq).2]
      exact ⟨by simp [intsL], by simp, fun x hx => (by cases hx)⟩
    | some b =>
      rw [(errD_some h hq).2]
      obtain ⟨ho, hl⟩ := ans_ok12 hq (by omega)
      refine ⟨by simp [intsL, ho.lenN]; omega, by simp [ho.lenF]; omega, fun x hx => ?_⟩
      obtain ⟨y, hy, rfl⟩ := List.mem_map.1 hx
      obtain ⟨i, hi, rfl⟩ := List.mem_iff_getElem.1 hy
      simp [upI, ho.rowl i hi]
      exact hm
theorem dfa_parts {w : World} {dv : Value} {N : List (List Int)} {F : List Bool} (h : DfaAt w dv N F) : ∃ na nc fa fc, dv = .agg #[.slice na N.length nc, .slice fa F.length fc] ∧ N.length ≤ nc ∧ F.length ≤ fc ∧
    (∀ i, (h : i < N.length) → ∃ g off x, na = some ⟨g, off, none⟩ ∧ g < w.heap.size ∧ w.cell? ⟨g, off + i, none⟩ = some x ∧ IntsAt w x N[i]) ∧ (∀ i, (h : i < F.length) → ∃ g off, fa = some ⟨g, off, none⟩ ∧ g < w.heap.size ∧ w.cell? ⟨g, off + i, none⟩ = some (.bool F[i])) := by
  obtain ⟨nv, fv, rfl, ⟨a, cap, rfl, hc, hn, hx⟩, fa, fc, rfl, hfc, hf0, hfx⟩ := h
  exact ⟨a, cap, fa, fc, rfl, hc, hfc, hx, hfx⟩

set_option maxRecDepth 100000 in
set_option maxHeartbeats 8000000 in
theorem rsame_any12 (N : List (List Int)) (F : List Bool) (va vb : Value) (w : World) (ha : DfaAt w va N F) (hb : DfaAt w vb N F) (hN : N.length ≤ 5000) (hF : F.length ≤ 5000) (hR : ∀ x ∈ N, x.length ≤ 200) :
    Calls Tryd.prog 25 #[va, vb] w fun e w' => e = .returned (.bool true) ∧ Below w.heap.size w w' := by
  obtain ⟨na, nc, fa, fc, rfl, hnc, hfc, hx, hfx⟩ := dfa_parts ha
  obtain ⟨na2, nc2, fa2, fc2, rfl, hnc2, hfc2, hx2, hfx2⟩ := dfa_parts hb
  obtain ⟨n, hn⟩ : ∃ x, x = N.length := ⟨_, rfl⟩
  obtain ⟨m, hm⟩ : ∃ x, x = F.length := ⟨_, rfl⟩
  have HN : Hid (n = N.length ∧ m = F.length) := ⟨hn, hm⟩
  have HRL : Hid (∀ x ∈ N, x.length ≤ 200) := hR
  have HX : Hid (∀ i, (h : i < N.length) → ∃ g off x, na = some ⟨g, off, none⟩ ∧ g < w.heap.size ∧ w.cell? ⟨g, off + i, none⟩ = some x ∧ IntsAt w x N[i]) := hx
  have HX2 : Hid (∀ i, (h : i < N.length) → ∃ g off x, na2 = some ⟨g, off, none⟩ ∧ g < w.heap.size ∧ w.cell? ⟨g, off + i, none⟩ = some x ∧ IntsAt w x N[i]) := hx2
  have HF : Hid (∀ i, (h : i < F.length) → ∃ g off, fa = some ⟨g, off, none⟩ ∧ g < w.heap.size ∧ w.cell? ⟨g, off + i, none⟩ = some (.bool F[i])) := hfx
  have HF2 : Hid (∀ i, (h : i < F.length) → ∃ g off, fa2 = some ⟨g, off, none⟩ ∧ g < w.heap.size ∧ w.cell? ⟨g, off + i, none⟩ = some (.bool F[i])) := hfx2
  obtain ⟨W0, hW0⟩ : ∃ W, W = (w.alloc (.cells #[.slice na N.length nc, .slice fa F.length fc] 46)).alloc (.cells #[.slice na2 N.length nc2, .slice fa2 F.length fc2] 46) := ⟨_, rfl⟩
  obtain ⟨h0, h1, hB0, hs0⟩ := alloc2 hW0
  have HA0 : Hid (DBox W0 w.heap.size (.slice na N.length nc) (.slice fa F.length fc)) := h0
  have HA1 : Hid (DBox W0 (w.heap.size + 1) (.slice na2 N.length nc2) (.slice fa2 F.length fc2)) := h1
  have HB0 : Hid (Below w.heap.size w W0) := hB0
  rw [← hn, ← hm] at HA0 HA1 hW0 ⊢
  rw [← hn] at hnc hnc2 hN
  rw [← hm] at hfc hfc2 hF
  have HW0 : Hid (W0 = _) := hW0
  have a0 := HA0.out.c0
  have a1 := HA0.out.c1
  have b0 := HA1.out.c0
  have b1 := HA1.out.c1
  have la := HA0.out.lt
  have lb := HA1.out.lt
  have hnn : ((n : Int) != (n : Int)) = false := by simp
  have hmm : ((m : Int) != (m : Int)) = false := by simp
  clear hn hm hR hx hx2 hfx hfx2 h0 h1 hB0 hs0 hW0 ha hb
  go_enter Tryd.func25, Tryd.ntmps25
  go_upto_region 1 with fail
  rw [← HW0.out]
  go_wp2
  go_loopw [5] (fun x5 wr => ∃ (i nd : Nat), i ≤ n ∧ x5 = .int .i64 (i : Int) ∧ wr = W0.drewN nd) (fun x5 _ => n - (intOf x5).toNat)
  case atStart => exact ⟨0, 0, Nat.zero_le _, rfl, rfl⟩
  case round =>
    obtain ⟨i, nd, hi, rfl, rfl⟩ := hrel
    by_cases hil : i < n
    · have hid : i < N.length := by rw [← HN.out.1]; exact hil
      obtain ⟨g1, o1, v1, rfl, hg1, e1, p1⟩ := HX.out i hid
      obtain ⟨g2, o2, v2, rfl, hg2, e2, p2⟩ := HX2.out i hid
      obtain ⟨y1, yc, rfl, _⟩ := p1.slice
      obtain ⟨y2, zc, rfl, _⟩ := p2.slice
      obtain ⟨N1, hN1⟩ : ∃ x, x = N[i].length := ⟨_, rfl⟩
      have HCQ : Hid (∀ k, Calls Tryd.prog 16 #[.slice y1 N1 yc, .slice y2 N1 zc] (W0.drewN (nd + k)) fun e w' => e = .returned (.bool true) ∧ ∃ q, w' = W0.drewN (nd + q)) := fun k => by
        have hb := below_drewN' HB0.out (nd + k)
        rw [hN1]
        exact (sameInts_q N[i] (by have := HRL.out _ (List.getElem_mem hid); omega) _ _ _ (p1.below hb) (p2.below hb)).mono fun e w'' ⟨he, q, hq⟩ => ⟨he, k + q, by rw [hq, World.drewN_drewN, Nat.add_assoc]⟩
      rw [← hN1] at e1 e2
      have e1' : W0.cell? ⟨g1, o1 + i, none⟩ = some (.slice y1 N1 yc) := (HB0.out.cell (p := ⟨g1, _, none⟩) hg1).trans e1
      have e2' : W0.cell? ⟨g2, o2 + i, none⟩ = some (.slice y2 N1 zc) := (HB0.out.cell (p := ⟨g2, _, none⟩) hg2).trans e2
      have hi0 : (0 : Int) ≤ (i : Int) := by omega
      have hi1 : (i : Int) < (n : Int) := by omega
      clear hN1 p1 p2 e1 e2
      go_wp2
      go_quiet ((go_at_call 16; exact HCQ.out _))
      go_wp2
      go_roundw
      case rel => exact ⟨i + 1, _, by omega, by go_num, rfl⟩
      case measure => simp [intOf]; omega
    · obtain rfl : i = n := by omega
      go_wp2
      go_loopw [7] (fun x7 wr => ∃ (k nd : Nat), k ≤ m ∧ x7 = .int .i64 (k : Int) ∧ wr = W0.drewN nd) (fun x7 _ => m - (intOf x7).toNat)
      case atStart => exact ⟨0, nd, Nat.zero_le _, rfl, rfl⟩
      case round =>
        obtain ⟨k, nd2, hk, rfl, rfl⟩ := hrel
        by_cases hkl : k < m
        · have hkd : k < F.length := by rw [← HN.out.2]; exact hkl
          obtain ⟨g1, o1, rfl, hg1, e1⟩ := HF.out k hkd
          obtain ⟨g2, o2, rfl, hg2, e2⟩ := HF2.out k hkd
          obtain ⟨bb, hbb⟩ : ∃ b, b = F[k] := ⟨_, rfl⟩
          rw [← hbb] at e1 e2
          have e1' : W0.cell? ⟨g1, o1 + k, none⟩ = some (.bool bb) := (HB0.out.cell (p := ⟨g1, _, none⟩) hg1).trans e1
          have e2' : W0.cell? ⟨g2, o2 + k, none⟩ = some (.bool bb) := (HB0.out.cell (p := ⟨g2, _, none⟩) hg2).trans e2
          have hk0 : (0 : Int) ≤ (k : Int) := by omega
          have hk1 : (k : Int) < (m : Int) := by omega
          have hne : (bb != bb) = false := by simp
          clear hbb e1 e2
          go_wp2
          go_quiet (fail)
          go_wp2
          go_roundw
          case rel => exact ⟨k + 1, _, by omega, by go_num, by first | rfl | exact drewN_add' _ _ _⟩
          case measure => simp [intOf]; omega
        · obtain rfl : k = m := by omega
          go_wp2
          go_ret
          exact ⟨rfl, below_after HB0.out (below_drewN' (Below.refl _ _) _)⟩
end Go.Proofs.YtehkaiohmcenbaaDoor
