/-
  scansionref01.SameInts. (In the place of stage 11's text of this name.)
-/
import Derived.Test.YtleafbbcgebmpaaDoorLsMem
namespace Go.Proofs.YtleafbbcgebmpaaDoor
open Go.RowKit
set_option linter.unusedVariables false

set_option maxRecDepth 100000 in
set_option maxHeartbeats 4000000 in
theorem sameInts_q (zs : List Int) (hlen : zs.length ≤ 100000) (va vb : Value) (w : World) (ha : IntsAt w va zs) (hb : IntsAt w vb zs) :
    Calls Tryd.prog 17 #[va, vb] w fun e w' => e = .returned (.bool true) ∧ ∃ nd, w' = w.drewN nd := by
  have HA : Hid (IntsAt w va zs) := ha
  have HB : Hid (IntsAt w vb zs) := hb
  obtain ⟨a, ca, rfl, hca⟩ := ha.slice
  obtain ⟨b, cb, rfl, hcb⟩ := hb.slice
  obtain ⟨len, hle⟩ : ∃ n, n = zs.length := ⟨_, rfl⟩
  have HLE : Hid (len = zs.length) := hle
  rw [← hle] at hca hcb hlen HA HB ⊢
  clear hle ha hb
  have hneq : ((len : Int) != (len : Int)) = false := by simp
  go_enter Tryd.func17, Tryd.ntmps17
  go_wp2
  go_loopw [5] (fun i wr => ∃ k : Nat, k ≤ len ∧ i = .int .i64 k ∧ ∃ nd, wr = w.drewN nd) (fun i _ => len - (intOf i).toNat)
  case atStart => exact ⟨0, Nat.zero_le _, rfl, 0, rfl⟩
  case round =>
    obtain ⟨k, hk, rfl, nd, rfl⟩ := hrel
    by_cases hlt : k < len
    · have hkz : k < zs.length := by rw [← HLE.out]; exact hlt
      obtain ⟨ga, oa, rfl, hga, a0⟩ := HA.out.at hkz
      obtain ⟨gb, ob, rfl, hgb, b0⟩ := HB.out.at hkz
      obtain ⟨z, hz⟩ : ∃ z : Int, z = zs[k] := ⟨_, rfl⟩
      rw [← hz] at a0 b0
      clear hz
      have hk0 : (0 : Int) ≤ (k : Int) := by omega
      have hk1 : (k : Int) < (len : Int) := by omega
      have hzz : (z != z) = false := by simp
      go_wp2
      go_quiet (fail)
      go_wp2
      go_roundw
      case rel => exact ⟨k + 1, by omega, by go_num, _, rfl⟩
      case measure => simp [intOf]; omega
    · obtain rfl : k = len := by omega
      go_wp2
      go_ret
      exact ⟨rfl, _, rfl⟩
set_option maxRecDepth 100000 in
set_option maxHeartbeats 8000000 in
theorem sameIntsB_any (xs ys : List Int) (hlen : xs.length ≤ 100000) (va vb : Value) (w : World) (ha : IntsAt w va xs) (hb : IntsAt w vb ys) :
    Calls Tryd.prog 17 #[va, vb] w fun e w' => e = .returned (.bool (decide (xs = ys))) ∧ ∃ nd, w' = w.drewN nd := by
  have HA : Hid (IntsAt w va xs) := ha
  have HB : Hid (IntsAt w vb ys) := hb
  obtain ⟨a, ca, rfl, hca⟩ := ha.slice
  obtain ⟨b, cb, rfl, hcb⟩ := hb.slice
  obtain ⟨n, hn⟩ : ∃ n, n = xs.length := ⟨_, rfl⟩
  obtain ⟨m, hm⟩ : ∃ n, n = ys.length := ⟨_, rfl⟩
  have HN : Hid (n = xs.length) := hn
  have HM : Hid (m = ys.length) := hm
  obtain ⟨R, hR⟩ : ∃ R, R = decide (xs = ys) := ⟨_, rfl⟩
  have HR : Hid (R = decide (xs = ys)) := hR
  rw [← hn] at hca hlen HA ⊢
  rw [← hm] at hcb HB ⊢
  rw [← hR]
  clear hn hm ha hb hR
  go_enter Tryd.func17, Tryd.ntmps17
  by_cases hnm : n = m
  case neg =>
    have hne : ((n : Int) != (m : Int)) = true := by simp; omega
    have hf : R = false := by
      rw [HR.out]
      exact decide_eq_false (fun e => hnm (by rw [HN.out, HM.out, e]))
    subst hf
    go_wp2
    go_ret
    exact ⟨rfl, 0, rfl⟩
  subst hnm
  have hneq : ((n : Int) != (n : Int)) = false := by simp
  go_wp2
  go_loopw [5] (fun i wr => ∃ k : Nat, k ≤ n ∧ i = .int .i64 k ∧ Hid (∀ q, (h1 : q < xs.length) → (h2 : q < ys.length) → q < k → xs[q] = ys[q]) ∧ ∃ nd, wr = w.drewN nd) (fun i _ => n - (intOf i).toNat)
  case atStart => exact ⟨0, Nat.zero_le _, rfl, fun q _ _ h => absurd h (by omega), 0, rfl⟩
  case round =>
    obtain ⟨k, hk, rfl, HK, nd, rfl⟩ := hrel
    by_cases hlt : k < n
    · have hkx : k < xs.length := by rw [← HN.out]; exact hlt
      have hky : k < ys.length := by rw [← HM.out]; exact hlt
      obtain ⟨ga, oa, rfl, hga, a0⟩ := HA.out.at hkx
      obtain ⟨gb, ob, rfl, hgb, b0⟩ := HB.out.at hky
      obtain ⟨x, hx⟩ : ∃ z : Int, z = xs[k] := ⟨_, rfl⟩
      obtain ⟨y, hy⟩ : ∃ z : Int, z = ys[k] := ⟨_, rfl⟩
      have HX : Hid (x = xs[k]) := hx
      have HY : Hid (y = ys[k]) := hy
      rw [← hx] at a0
      rw [← hy] at b0
      clear hx hy
      have hk0 : (0 : Int) ≤ (k : Int) := by omega
      have hk1 : (k : Int) < (n : Int) := by omega
      by_cases hxy : x = y
      · subst hxy
        have hzz : (x != x) = false := by simp
        go_wp2
        go_quiet (fail)
        go_wp2
        go_roundw
        case rel =>
          refine ⟨k + 1, by omega, by go_num, fun q h1 h2 h3 => ?_, _, rfl⟩
          by_cases e : q < k
          · exact HK.out q h1 h2 e
          · obtain rfl : q = k := by omega
            rw [← HX.out, ← HY.out]
        case measure => simp [intOf]; omega
      · have hzz : (x != y) = true := by simp [hxy]
        have hf : R = false := by
          rw [HR.out]
          refine decide_eq_false (fun e => hxy ?_)
          rw [HX.out, HY.out]
          simp [e]
        subst hf
        clear hxy
        go_wp2
        go_quiet (fail)
        go_wp2
        go_ret
        exact ⟨rfl, _, (by first | rfl | exact drewN_add' _ _ _)⟩
    · obtain rfl : k = n := by omega
      have ht : R = true := by
        rw [HR.out]
        refine decide_eq_true (List.ext_getElem (by have := HN.out; have := HM.out; omega) (fun q h1 h2 => HK.out q h1 h2 (by have := HN.out; omega)))
      subst ht
      go_wp2
      go_ret
      exact ⟨rfl, _, rfl⟩
end Go.Proofs.YtleafbbcgebmpaaDoor
