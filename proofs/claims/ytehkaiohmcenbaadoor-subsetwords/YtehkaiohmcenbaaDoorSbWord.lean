/-
  scansionlaw12.inside and word: the masks of classes.
-/
import Derived.Test.YtehkaiohmcenbaaDoorSbTell
import Derived.Test.YtehkaiohmcenbaaDoorSbLaw
namespace Go.Proofs.YtehkaiohmcenbaaDoor
open Go.RowKit Go.Shelf
set_option linter.unusedVariables false

set_option maxRecDepth 100000 in
set_option maxHeartbeats 8000000 in
theorem inside_any (cs : List Int) (cv : Value) (m : Int) (w : World) (hcv : IntsAt w cv cs) (hl : cs.length ≤ 140737488355328) :
    Calls Tryd.prog 31 #[cv, .int .i64 m] w fun e w' => e = .returned (.bool (cs.all (inB m) && decide (cs.length ≤ 20))) ∧ w' = w := by
  have HCV : Hid (IntsAt w cv cs) := hcv
  obtain ⟨ca, cc, rfl, hcc⟩ := hcv.slice
  obtain ⟨L, hL⟩ : ∃ x, x = cs.length := ⟨_, rfl⟩
  have HL : Hid (L = cs.length) := hL
  obtain ⟨R, hR⟩ : ∃ x, x = (cs.all (inB m) && decide (cs.length ≤ 20)) := ⟨_, rfl⟩
  have HR : Hid (R = (cs.all (inB m) && decide (L ≤ 20))) := by rw [hL]; exact hR
  rw [← hR, ← hL]
  rw [← hL] at hcc hl
  clear hcv hL hR
  go_enter Tryd.func31, Tryd.ntmps31
  go_wp2
  go_loopw [5] (fun x wr => ∃ (k : Nat), k ≤ L ∧ x = .int .i64 (k : Int) ∧ Hid (∀ i, (h : i < cs.length) → i < k → inB m cs[i] = true) ∧ wr = w) (fun x _ => L - (intOf x).toNat)
  case atStart => exact ⟨0, Nat.zero_le _, rfl, fun i _ h => absurd h (by omega), rfl⟩
  case round =>
    obtain ⟨k, hk, rfl, HK, hwr⟩ := hrel
    obtain rfl := hwr.symm
    by_cases hkl : k < L
    · have hkz : k < cs.length := by rw [← HL.out]; exact hkl
      obtain ⟨gc, oc, rfl, hgc, z0⟩ := HCV.out.at hkz
      obtain ⟨z, hz⟩ : ∃ z : Int, z = cs[k] := ⟨_, rfl⟩
      have HZ : Hid (z = cs[k]) := hz
      rw [← hz] at z0
      have hk0 : (0 : Int) ≤ (k : Int) := by omega
      have hk1 : (k : Int) < (L : Int) := by omega
      have HBAD : Hid (inB m z = false → R = false) := fun h => by
        rw [HR.out]
        have : cs.all (inB m) = false := by
          rw [Bool.eq_false_iff]
          intro q
          have := List.all_eq_true.1 q _ (List.getElem_mem hkz)
          rw [← HZ.out, h] at this
          exact absurd this (by decide)
        rw [this]; rfl
      clear hz
      by_cases hz0 : z < 0
      · have hz0' : decide (z < 0) = true := by simp; omega
        obtain rfl : R = false := HBAD.out (by unfold inB; simp; omega)
        go_wp2
        go_ret
        exact ⟨rfl, rfl⟩
      · have hz0' : decide (z < 0) = false := by simp; omega
        by_cases hz1 : m ≤ z
        · have hz1' : decide (m ≤ z) = true := by simp; omega
          obtain rfl : R = false := HBAD.out (by unfold inB; simp; omega)
          go_wp2
          go_ret
          exact ⟨rfl, rfl⟩
        · have hz1' : decide (m ≤ z) = false := by simp; omega
          have HZI : Hid (inB m z = true) := inB_iff.2 ⟨by omega, by omega⟩
          go_wp2
          go_roundw
          case rel =>
            refine ⟨k + 1, by omega, by go_num, fun i h1 h2 => ?_, by first | rfl | trivial⟩
            by_cases e : i < k
            · exact HK.out i h1 e
            · obtain rfl : i = k := by omega
              rw [← HZ.out]; exact HZI.out
          case measure => simp [intOf]; omega
    · obtain rfl : k = L := by omega
      have hal : cs.all (inB m) = true := List.all_eq_true.2 (fun x hx => by
        obtain ⟨i, hi, rfl⟩ := List.mem_iff_getElem.1 hx
        exact HK.out i hi (by have := HL.out; omega))
      have hq : R = decide ((k : Int) ≤ 20) := by
        rw [HR.out, hal, Bool.true_and]
        by_cases h : k ≤ 20
        · rw [decide_eq_true h, decide_eq_true (by omega)]
        · rw [decide_eq_false h, decide_eq_false (by omega)]
      have HQ : Hid (R = decide ((k : Int) ≤ 20)) := hq
      obtain ⟨B, hB⟩ : ∃ B, B = decide ((k : Int) ≤ 20) := ⟨_, rfl⟩
      have hB' := hB.symm
      rw [← hB] at HQ
      obtain rfl := HQ.out
      clear hal hq hB
      go_wp2
      go_ret
      exact ⟨by first | rfl | simp_all, rfl⟩

theorem cellU_snoc (l : List Nat) (x : Nat) : cellU (l ++ [x]) = cellU l ++ [.int .u64 (x : Int)] := by simp [cellU]
theorem wrd_of_own {w : World} {base : Nat} {v : Value} {l : List Nat} (h : w.ownsRow base 42 1 v l.length (cellU l)) (h64 : ∀ x ∈ l, x < 18446744073709551616) : WrdAt w.heap.size w v l := by
  rcases h.2 with ⟨rfl, h0⟩ | ⟨g, cap, cur, rfl, hb, hg, hc, hm, hs, ht⟩
  · have hl : l = [] := List.eq_nil_of_length_eq_zero (by omega)
    subst hl
    exact ⟨none, 0, rfl, Nat.le_refl _, fun i h => (by cases h)⟩
  · refine ⟨some ⟨g, 0, none⟩, cap, rfl, hc, fun i hi => ⟨h64 _ (List.getElem_mem hi), g, 0, rfl, lt_of_heap hg, ?_⟩⟩
    have := h.cells (g := g) rfl i (.int .u64 (l[i] : Int)) (by simp [cellU, hi])
    rw [add_lit'] at this
    exact this
theorem WrdAt.at {w : World} {B : Nat} {a : Option Addr} {n c : Nat} {ms : List Nat} (h : WrdAt B w (.slice a n c) ms) {i : Nat} (hi : i < ms.length) : ms[i] < 18446744073709551616 ∧ ∃ g off, a = some ⟨g, off, none⟩ ∧ g < B ∧ w.cell? ⟨g, off + i, none⟩ = some (.int .u64 (ms[i] : Int)) := by
  obtain ⟨a', c', e, hc, hx⟩ := h
  injection e with e1 e2 e3
  subst e1
  exact hx i hi

set_option maxRecDepth 100000 in
set_option maxHeartbeats 8000000 in
theorem word_any12 (ms : List Nat) (mv : Value) (cs : List Int) (cv : Value) (w : World) (hmv : WrdAt w.heap.size w mv ms) (hcv : IntsAt w cv cs) (hall : cs.all (inB ms.length) = true) (hl : cs.length ≤ 100000) :
    Calls Tryd.prog 32 #[mv, cv] w fun e w' => ∃ v, e = .returned v ∧ w'.ownsRow w.heap.size 42 1 v cs.length (cellU (wordL ms cs)) ∧ Below w.heap.size w w' := by
  obtain ⟨i0, hi0, hz0, hz1, hz2⟩ := info_parts Tryd.infoU64
  have HMV : Hid (WrdAt w.heap.size w mv ms) := hmv
  have HCV : Hid (IntsAt w cv cs) := hcv
  have HAL : Hid (cs.all (inB ms.length) = true) := hall
  obtain ⟨ca, cc, rfl, hcc⟩ := hcv.slice
  obtain ⟨ma, mc, rfl, hmc⟩ : ∃ a c, mv = .slice a ms.length c ∧ ms.length ≤ c := by
    obtain ⟨a, c, e, h, _⟩ := hmv
    exact ⟨a, c, e, h⟩
  obtain ⟨L, hL⟩ : ∃ x, x = cs.length := ⟨_, rfl⟩
  have HL : Hid (L = cs.length) := hL
  obtain ⟨M, hM⟩ : ∃ x, x = ms.length := ⟨_, rfl⟩
  have HM : Hid (M = ms.length) := hM
  rw [← hL]
  rw [← hM]
  rw [← hM] at hmc HMV
  rw [← hL] at hcc hl HCV
  clear hcv hL hM hmv hall
  go_enter Tryd.func32, Tryd.ntmps32
  go_wp2
  go_loopw [5, 6] (fun x5 x6 wr => ∃ (k : Nat), k ≤ L ∧ x6 = .int .i64 (k : Int) ∧ Hid (wr.ownsRow w.heap.size 42 1 x5 k (cellU (wordL ms (cs.take k)))) ∧ Hid (Below w.heap.size w wr)) (fun _ x6 _ => L - (intOf x6).toNat)
  case atStart => exact ⟨0, Nat.zero_le _, rfl, World.ownsRow_nil _ _ _ _, Below.refl _ _⟩
  case round =>
    obtain ⟨k, hk, rfl, HO, HB⟩ := hrel
    obtain ⟨ua, un, uc, rfl⟩ := own_slice' HO.out
    have hws : w.heap.size ≤ wr.heap.size := HB.out.size
    by_cases hkl : k < L
    · have hkz : k < cs.length := by rw [← HL.out]; exact hkl
      obtain ⟨gc, oc, rfl, hgc, z0⟩ := HCV.out.at hkz
      have hin := List.all_eq_true.1 HAL.out _ (List.getElem_mem hkz)
      obtain ⟨Z, hZ⟩ : ∃ Z : Nat, cs[k] = (Z : Int) := ⟨(cs[k]).toNat, by have := (inB_iff.1 hin).1; omega⟩
      rw [hZ] at z0 hin
      have hZm : Z < ms.length := by have := (inB_iff.1 hin).2; omega
      obtain ⟨h64, gm, om, rfl, hgm, y0⟩ := HMV.out.at hZm
      obtain ⟨X, hX⟩ : ∃ X, X = ms[Z] := ⟨_, rfl⟩
      have HNX : Hid (cellU (wordL ms (cs.take (k + 1))) = cellU (wordL ms (cs.take k)) ++ [.int .u64 (X : Int)]) := by
        show _ = _
        rw [← cellU_snoc]
        congr 1
        unfold wordL
        rw [List.take_add_one, List.getElem?_eq_getElem hkz, List.map_append, hZ, hX]
        simp [List.getElem?_eq_getElem hZm]
      rw [← hX] at y0
      have z1 : wr.cell? ⟨gc, oc + k, none⟩ = some (.int .i64 (Z : Int)) := (HB.out.cell (p := ⟨gc, _, none⟩) hgc).trans z0
      have y1 : wr.cell? ⟨gm, om + Z, none⟩ = some (.int .u64 (X : Int)) := (HB.out.cell (p := ⟨gm, _, none⟩) hgm).trans y0
      have hk0 : (0 : Int) ≤ (k : Int) := by omega
      have hk1 : (k : Int) < (L : Int) := by omega
      have hZ0 : (0 : Int) ≤ (Z : Int) := by omega
      have hZ1 : (Z : Int) < (M : Int) := by have := HM.out; omega
      clear z0 y0 hX hZ hin h64
      go_wp2_with (at_builtin; go_must (refine wpList_append_own _ rfl _ _ 36 rfl w.heap.size 42 i0 (.int .u64 0) 1 8 Tryd.underlying36 hi0 hz0 hz1 hz2 rfl (by decide) _ _ _ rfl (HO.out.alloc _) ⟨wr.heap.size, 0, none⟩ 1 1 [.int .u64 (X : Int)] rfl rfl (World.news_of_block (by exact heap_new' _ _)) (by simp [Value.oneCell']) (by unfold maxLen; omega) (by omega) (by simp; omega) ?_); intro v3 w3 ho3 hg3 _)
      have HO3 : Hid (w3.ownsRow w.heap.size 42 1 v3 (k + 1) (cellU (wordL ms (cs.take (k + 1))))) := by
        show World.ownsRow _ _ _ _ _ _ _
        rw [HNX.out]
        exact ho3
      have HB3 : Hid (Below w.heap.size w w3) := (HB.out.alloc hws _).grown hg3 (by simp; omega) (fun z e => (HO.out.lt z e).1)
      clear ho3 hg3
      go_wp2
      go_roundw
      case rel => exact ⟨k + 1, by omega, by go_num, HO3, HB3⟩
      case measure => simp [intOf]; omega
    · obtain rfl : k = L := by omega
      have HEQ : Hid (cs.take k = cs) := List.take_of_length_le (by rw [← HL.out]; exact Nat.le_refl _)
      rw [HEQ.out] at HO
      go_wp2
      go_ret
      exact ⟨_, rfl, HO.out, HB.out⟩
end Go.Proofs.YtehkaiohmcenbaaDoor
