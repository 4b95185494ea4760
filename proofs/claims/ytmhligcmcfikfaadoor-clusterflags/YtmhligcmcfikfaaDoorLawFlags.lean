/-
  The law ClusterFlags: true, for every number.
-/
import Derived.Test.YtmhligcmcfikfaaDoorAw
namespace Go.Proofs.YtmhligcmcfikfaaDoor
open Go.RowKit
set_option linter.unusedVariables false

/-- Regional indicators, so many. -/
def flagL (k : Nat) : List Int := (List.range k).map fun i : Nat => 127462 + ((i % 26 : Nat) : Int)
theorem flagL_length (k : Nat) : (flagL k).length = k := by simp [flagL]
theorem flagL_snoc (k : Nat) : flagL (k + 1) = flagL k ++ [127462 + ((k % 26 : Nat) : Int)] := by simp [flagL, List.range_succ]
set_option maxRecDepth 100000 in
theorem flag_is : ∀ j, j < 26 → clV (127462 + ((j : Nat) : Int)) = 6 := by
  have h : ((List.range 26).all fun j : Nat => clV (127462 + (j : Int)) == 6) = true := by kernel_rfl
  intro j hj
  have := List.all_eq_true.1 h j (List.mem_range.2 hj)
  simpa using this
theorem flag_all (k : Nat) : ∀ x ∈ flagL k, clV x = 6 := fun x hx => by
  obtain ⟨j, _, rfl⟩ := List.mem_map.1 hx
  exact flag_is _ (Nat.mod_lt _ (by omega))
def cellsI (l : List Int) : List Value := l.map (Value.int .i64)
theorem cellsI_snoc (l : List Int) (x : Int) : cellsI (l ++ [x]) = cellsI l ++ [.int .i64 x] := by simp [cellsI]
theorem evens_step {k : Nat} (h : k % 2 = 0) : evens (k + 2) = evens k ++ [k] := by
  rw [evens_two (k + 1), if_neg (by omega), evens_two k, if_pos h]
theorem evens_end {k n : Nat} (h : k % 2 = 0) (h1 : n ≤ k) (h2 : k ≤ n + 1) : evens k = evens n := by
  rcases Nat.eq_or_lt_of_le h1 with rfl | h3
  · rfl
  · obtain rfl : k = n + 1 := by omega
    rw [evens_two n, if_neg (by omega)]
theorem tmod_26 (n : Nat) : ((n : Int).tmod 26) = ((n % 26 : Nat) : Int) := by rw [Int.tmod_eq_emod_of_nonneg (by omega)]; omega
theorem meas_two {N i : Nat} (h : i < N) (hb : i < 1000) : N + 1 - (intOf (.int .i64 (((i + 2 : Nat) : Int)))).toNat < N + 1 - (intOf (.int .i64 (i : Int))).toNat := by
  simp only [intOf]; omega

set_option maxRecDepth 100000 in
set_option maxHeartbeats 8000000 in
theorem clusterFlags_any (n : Int) (w : World) (hs : Scripts w) (h0 : 0 < w.heap.size) :
    Calls Tryd.prog 8 #[.int .i64 n] w fun e w' => e = .returned (.bool true) ∧ Below w.heap.size w w' := by
  obtain ⟨iI, hiI, hzI0, hzI1, hzI2⟩ := info_parts Tryd.infoInt
  have HS : Hid (Scripts w) := hs
  have HH0 : Hid (0 < w.heap.size) := h0
  clear hs h0
  go_enter Tryd.func8, Tryd.ntmps8
  go_wp2_with fail
  refine (awake_c w HS.out HH0.out).mono ?_
  rintro e w0 ⟨rfl, hB0⟩
  have HB0 : Hid (Below w.heap.size w w0) := hB0
  have HS0 : Hid (Scripts w0 ∧ 0 < w0.heap.size) := ⟨HS.out.below HH0.out hB0, by have := HH0.out; have := hB0.size; omega⟩
  clear hB0
  go_wp2_with fail
  refine (new_ship w0 HS0.out.1 HS0.out.2).mono ?_
  rintro e w1 ⟨g, rfl, hd, hB1⟩
  obtain ⟨HD1, HB1⟩ : Hid (Ship w1 g) ∧ Hid (Below w.heap.size w w1) := ⟨hd, HB0.out.trans (hB1.mono HB0.out.size)⟩
  clear hd hB1 HB0 HS0
  by_cases hn : n < 0
  · go_wp2
    go_ret
    exact ⟨rfl, HB1.out⟩
  by_cases hn2 : 100 < n
  · have hn3 : decide (n < 0) = false := decide_eq_false hn
    clear hn
    go_wp2
    go_ret
    exact ⟨rfl, HB1.out⟩
  obtain ⟨N, rfl⟩ : ∃ N : Nat, n = (N : Int) := ⟨n.toNat, by omega⟩
  have HN : Hid (N ≤ 100) := by show _ ≤ _; omega
  have hn3 : decide ((N : Int) < 0) = false := decide_eq_false hn
  have hn4 : decide ((100 : Int) < (N : Int)) = false := decide_eq_false hn2
  clear hn hn2
  go_wp2
  go_loopw [5, 6] (fun y x wr => ∃ k : Nat, k ≤ N ∧ x = .int .i64 (k : Int) ∧ wr.ownsRow w1.heap.size 3 1 y k (cellsI (flagL k)) ∧ Below w1.heap.size w1 wr) (fun _ x _ => N - (intOf x).toNat)
  case atStart => exact ⟨0, Nat.zero_le _, rfl, World.ownsRow_nil _ _ _ _, Below.refl _ _⟩
  case round =>
    obtain ⟨k, hk, rfl, ho, hB⟩ := hrel
    have hsi := hB.size
    obtain ⟨HO, HB⟩ : Hid (wr.ownsRow w1.heap.size 3 1 u5 k (cellsI (flagL k))) ∧ Hid (Below w1.heap.size w1 wr) := ⟨ho, hB⟩
    clear ho hB
    by_cases hlt : k < N
    · have hlt' : (k : Int) < (N : Int) := by omega
      have ht := tmod_26 k
      obtain ⟨q, hq⟩ : ∃ q, q = k % 26 := ⟨_, rfl⟩
      have HQ : Hid (q = k % 26 ∧ q < 26) := ⟨hq, by omega⟩
      rw [← hq] at ht
      have hwq : IntKind.i64.wrap (q : Int) = (q : Int) := IntWalk.i64_in _ (by omega)
      have hwr : IntKind.i64.wrap (127462 + (q : Int)) = 127462 + (q : Int) := IntWalk.i64_in _ (by omega)
      clear hq
      go_wp2_with (first | (at_builtin; refine wpList_append_own _ rfl _ _ 22 rfl w1.heap.size 3 iI (.int .i64 0) 1 8 Tryd.underlying22 hiI hzI0 hzI1 hzI2 rfl (by decide) _ _ _ rfl (HO.out.alloc _) ⟨wr.heap.size, 0, none⟩ 1 1 [.int .i64 (127462 + (q : Int))] rfl rfl (World.news_of_block (World.alloc_heap_new _ _)) (by simp [Value.oneCell']) (by unfold maxLen; have := HN.out; omega) (by have := HN.out; omega) (by simp; have := HN.out; omega) ?_; intro v2 w2 ho2 hg2 _) | fail)
      have HO2 : Hid (w2.ownsRow w1.heap.size 3 1 v2 (k + 1) (cellsI (flagL (k + 1)))) := (by rw [flagL_snoc, cellsI_snoc, ← HQ.out.1]; exact ho2)
      have HG2 : Hid (Below w1.heap.size w1 w2) := (HB.out.alloc hsi _).grown hg2 (by simp; omega) (fun j e => (HO.out.lt j e).1)
      clear ho2 hg2
      go_roundw
      case rel => exact ⟨k + 1, by omega, by rw [wrap_next (by have := HN.out; omega)], HO2.out, HG2.out⟩
      case measure => exact meas_up hlt (by have := HN.out; omega)
    · obtain ⟨wA, rfl⟩ : ∃ wA, wA = wr := ⟨_, rfl⟩
      obtain rfl : k = N := by omega
      have hlt' : decide ((k : Int) < (k : Int)) = false := by simp
      have HI : Hid (IntsAt wA.heap.size wA u5 (flagL k)) := by
        refine ints_of_row (base := w1.heap.size) ?_
        rw [flagL_length]; exact HO.out
      clear hlt hk
      go_wp2
      go_loopw [7, 8] (fun y x ws => ∃ j : Nat, j ≤ k + 1 ∧ x = .int .i64 (j : Int) ∧ Hid (j % 2 = 0) ∧ ws.ownsRow wA.heap.size 3 1 y (evens j).length (cellsP5 (evens j)) ∧ Below wA.heap.size wA ws) (fun _ x _ => k + 1 - (intOf x).toNat)
      case atStart => exact ⟨0, Nat.zero_le _, rfl, rfl, World.ownsRow_nil _ _ _ _, Below.refl _ _⟩
      case round =>
        obtain ⟨j, hj, rfl, HJ, ho, hB⟩ := hrel
        have hsj := hB.size
        obtain ⟨HP, HC⟩ : Hid (wr.ownsRow wA.heap.size 3 1 u7 (evens j).length (cellsP5 (evens j))) ∧ Hid (Below wA.heap.size wA wr) := ⟨ho, hB⟩
        have HEL : Hid ((evens j).length ≤ 101) := by show _ ≤ _; have := evens_len j; have := HN.out; omega
        clear ho hB
        by_cases hjk : j < k
        · have hjk' : (j : Int) < (k : Int) := by omega
          have hw2 : IntKind.i64.wrap ((j : Int) + 2) = ((j + 2 : Nat) : Int) := (IntWalk.i64_in _ (by have := HN.out; omega)).trans (by omega)
          go_wp2_with (first | (at_builtin; refine wpList_append_own _ rfl _ _ 22 rfl wA.heap.size 3 iI (.int .i64 0) 1 8 Tryd.underlying22 hiI hzI0 hzI1 hzI2 rfl (by decide) _ _ _ rfl (HP.out.alloc _) ⟨wr.heap.size, 0, none⟩ 1 1 [.int .i64 (j : Int)] rfl rfl (World.news_of_block (World.alloc_heap_new _ _)) (by simp [Value.oneCell']) (by unfold maxLen; have := HEL.out; omega) (by have := HEL.out; omega) (by simp; have := HEL.out; omega) ?_; intro v2 w2 ho2 hg2 _) | fail)
          have HO2 : Hid (w2.ownsRow wA.heap.size 3 1 v2 (evens (j + 2)).length (cellsP5 (evens (j + 2)))) := (by rw [evens_step HJ.out, cellsP5_snoc, List.length_append]; exact ho2)
          have HG2 : Hid (Below wA.heap.size wA w2) := (HC.out.alloc hsj _).grown hg2 (by simp; omega) (fun j e => (HP.out.lt j e).1)
          clear ho2 hg2
          go_roundw
          case rel => exact ⟨j + 2, by omega, by first | rfl | go_num, by show _ = _; have := HJ.out; omega, HO2.out, HG2.out⟩
          case measure => exact meas_two hjk (by have := HN.out; omega)
        · have hjk' : decide ((j : Int) < (k : Int)) = false := decide_eq_false (by omega)
          have hjk2 : decide (j < k) = false := decide_eq_false (by omega)
          have hjk3 : ¬ (j < k) := by omega
          have HEV : Hid (evens j = evens k) := evens_end HJ.out (by omega) hj
          have HBW : Hid (Below w.heap.size w wr) := HB1.out.trans ((HB.out.trans (HC.out.mono hsi)).mono HB1.out.size)
          have HDS : Hid (Ship wr g) := (HD1.out.below HB.out).below HC.out
          have HIS : Hid (IntsAt wr.heap.size wr u5 (flagL k)) := HI.out.on HC.out
          clear hj
          go_wp2_with fail
          refine (all_any g u5 (flagL k) (by rw [flagL_length]; have := HN.out; omega) wr HDS.out HIS.out).mono ?_
          rintro e w3 ⟨v3, rfl, ho3, hB3⟩
          have hs3 := hB3.size
          rw [all_flags (flag_all k), flagL_length] at ho3
          have HO3 : Hid (w3.ownsRow wr.heap.size 3 1 v3 (evens k ++ [k]).length (cellsP5 (evens k ++ [k]))) := ho3
          have hP3 := ownsRow_below HP.out hB3
          rw [HEV.out] at hP3
          have HP3 : Hid (w3.ownsRow wA.heap.size 3 1 u7 (evens k).length (cellsP5 (evens k))) := hP3
          have HB3 : Hid (Below w.heap.size w w3) := HBW.out.trans (hB3.mono HBW.out.size)
          have HEK : Hid ((evens k).length ≤ 101) := by show _ ≤ _; rw [← HEV.out]; exact HEL.out
          have hs4 : wA.heap.size ≤ w3.heap.size := by omega
          clear hB3 ho3 hP3
          go_wp2_with (first | (at_builtin; refine wpList_append_own _ rfl _ _ 22 rfl wA.heap.size 3 iI (.int .i64 0) 1 8 Tryd.underlying22 hiI hzI0 hzI1 hzI2 rfl (by decide) _ _ _ rfl (HP3.out.alloc _) ⟨w3.heap.size, 0, none⟩ 1 1 [.int .i64 (k : Int)] rfl rfl (World.news_of_block (World.alloc_heap_new _ _)) (by simp [Value.oneCell']) (by unfold maxLen; have := HEK.out; omega) (by have := HEK.out; omega) (by simp; have := HEK.out; omega) ?_; intro v4 w4 ho4 hg4 _) | fail)
          have hne : v3.ownBlock = none ∨ v3.ownBlock ≠ u7.ownBlock := by
            cases h3 : v3.ownBlock with
            | none => exact .inl rfl
            | some b =>
              refine .inr (fun e => ?_)
              have h4 := (HO3.out.lt b h3).1
              have h5 := (HP.out.lt b e.symm).2
              omega
          have hI4 : IntsAt w4.heap.size w4 v4 (intsP (evens k ++ [k])) := all_row (base := wA.heap.size) (by rw [cellsP5_snoc, List.length_append]; exact ho4)
          have hI5 : IntsAt w4.heap.size w4 v3 (intsP (evens k ++ [k])) := all_row ((HO3.out.alloc _).kept hg4 hne)
          have hsw := HB1.out.size
          have HB4 : Hid (Below w.heap.size w w4) := (HB3.out.alloc (by omega) _).grown hg4 (by simp; omega) (fun j e => by have := (HP3.out.lt j e).1; omega)
          refine (sameInts_any _ (by rw [intsP_length, List.length_append]; have := HEK.out; simp; omega) v3 v4 w4 hI5 hI4).mono ?_
          rintro e w5 ⟨rfl, hB5⟩
          have HB5 : Hid (Below w.heap.size w w5) := HB4.out.trans (hB5.mono HB4.out.size)
          clear hB5 hI4 hI5 hne ho4 hg4
          go_wp2
          go_ret
          exact ⟨rfl, HB5.out⟩
end Go.Proofs.YtmhligcmcfikfaaDoor
