/-
  scansionlaw12.inside and word: the masks of classes.
-/
import Derived.Test.YtehkaiohmcenbabDoorSbTell
import Derived.Test.YtehkaiohmcenbabDoorSbLaw
namespace Go.Proofs.YtehkaiohmcenbabDoor
open Go.RowKit Go.Shelf
set_option linter.unusedVariables false

set_option maxRecDepth 100000 in
set_option maxHeartbeats 8000000 in
theorem inside_any (cs : List Int) (cv : Value) (m : Int) (w : World) (hcv : IntsAt w cv cs) (hl : cs.length ≤ 140737488355328) :
    Calls Tryd.prog 10 #[cv, .int .i64 m] w fun e w' => e = .returned (.bool (cs.all (inB m) && decide (cs.length ≤ 20))) ∧ w' = w := by
  have HCV : Hid (IntsAt w cv cs) := hcv
  obtain ⟨ca, cc, rfl, hcc⟩ := hcv.slice
  obtain ⟨L, hL⟩ : ∃ x, x = cs.length := ⟨_, rfl⟩
  have HL : Hid (L = cs.length) := hL
  obtain ⟨R, hR⟩ : ∃ x, x = (cs.all (inB m) && decide (cs.length ≤ 20)) := ⟨_, rfl⟩
  have HR : Hid (R = (cs.all (inB m) && decide (L ≤ 20))) := by rw [hL]; exact hR
  rw [← hR, ← hL]
  rw [← hL] at hcc hl
  clear hcv hL hR
  go_enter Tryd.func10, Tryd.ntmps10
  go_wp2
  go_loopw [5] (fun x wr => ∃ (k : Nat), k ≤ L ∧ x = .int .i64 (k : Int) ∧ Hid (∀ i, (h : i < cs.length) → i < k → inB m cs[i] = true) ∧ wr = w) (fun x _ => L - (intOf x).toNat)
  case atStart => exact ⟨0, Nat.zero_le _, rfl, fun i _ h => absurd h (by omega), rfl⟩
  case round =>
    obtain ⟨k, hk, rfl, HK, hwr⟩ := hrel
    obtain rfl := hwr.symm
    by_cases hkl : k < L
    · have hkz : k < cs.length := by rw [← HL.out]; exact hkl
      obtain ⟨gc, oc, rfl, hgc, z0⟩ := HCV.out.at hkz
      obtain ⟨z, hz⟩ : ∃ z : Int, z = cs[k] := ⟨_, rfl⟩
      have HZ : Hid (z = cs[k]) := hz
      rw [← hz] at z0
      have hk0 : (0 : Int) ≤ (k : Int) := by omega
      have hk1 : (k : Int) < (L : Int) := by omega
      have HBAD : Hid (inB m z = false → R = false) := fun h => by
        rw [HR.out]
        have : cs.all (inB m) = false := by
          rw [Bool.eq_false_iff]
          intro q
          have := List.all_eq_true.1 q _ (List.getElem_mem hkz)
          rw [← HZ.out, h] at this
          exact absurd this (by decide)
        rw [this]; rfl
      clear hz
      by_cases hz0 : z < 0
      · have hz0' : decide (z < 0) = true := by simp; omega
        obtain rfl : R = false := HBAD.out (by unfold inB; simp; omega)
        go_wp2
        go_ret
        exact ⟨rfl, rfl⟩
      · have hz0' : decide (z < 0) = false := by simp; omega
        by_cases hz1 : m ≤ z
        · have hz1' : decide (m ≤ z) = true := by simp; omega
          obtain rfl : R = false := HBAD.out (by unfold inB; simp; omega)
          go_wp2
          go_ret
          exact ⟨rfl, rfl⟩
        · have hz1' : decide (m ≤ z) = false := by simp; omega
          have HZI : Hid (inB m z = true) := inB_iff.2 ⟨by omega, by omega⟩
          go_wp2
          go_roundw
          case rel =>
            refine ⟨k + 1, by omega, by go_num, fun i h1 h2 => ?_, by first | rfl | trivial⟩
            by_cases e : i < k
            · exact HK.out i h1 e
            · obtain rfl : i = k := by omega
              rw [← HZ.out]; exact HZI.out
          case measure => simp [intOf]; omega
    · obtain rfl : k = L := by omega
      have hal : cs.all (inB m) = true := List.all_eq_true.2 (fun x hx => by
        obtain ⟨i, hi, rfl⟩ := List.mem_iff_getElem.1 hx
        exact HK.out i hi (by have := HL.out; omega))
      have hq : R = decide ((k : Int) ≤ 20) := by
        rw [HR.out, hal, Bool.true_and]
        by_cases h : k ≤ 20
        · rw [decide_eq_true h, decide_eq_true (by omega)]
        · rw [decide_eq_false h, decide_eq_false (by omega)]
      have HQ : Hid (R = decide ((k : Int) ≤ 20)) := hq
      obtain ⟨B, hB⟩ : ∃ B, B = decide ((k : Int) ≤ 20) := ⟨_, rfl⟩
      have hB' := hB.symm
      rw [← hB] at HQ
      obtain rfl := HQ.out
      clear hal hq hB
      go_wp2
      go_ret
      exact ⟨by first | rfl | simp_all, rfl⟩

end Go.Proofs.YtehkaiohmcenbabDoor
