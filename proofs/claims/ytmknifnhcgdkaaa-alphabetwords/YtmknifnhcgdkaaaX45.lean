/-
  What the laws share: awake, few, sets; an alphabet's Masks.
-/
import Derived.Test.YtmknifnhcgdkaaaX44
namespace Go.Proofs.Ytmknifnhcgdkaaa
open Go.RowKit Go.Shelf
set_option linter.unusedVariables false

/-- The two sets of awake. -/
def S0 : List (List Rg) := [[⟨97, 99⟩], [⟨98, 122⟩]]
theorem S0_edges : edgS S0 = [0, 97, 98, 100, 123] := by decide
theorem S0_cls : clsS S0 = [0, 1, 3, 2] := by decide
theorem S0_err : errN S0 = 0 := by
  have hall : S0.all isSB = true := by decide
  have hS : AllS S0 := allS_iff.1 hall
  have hl : (entsS S0).length = 5 := by unfold entsS; rw [ents_length, S0_edges]; rfl
  unfold errN
  rw [if_neg (by decide), if_neg (by rw [hall]; simp), if_neg (by rw [S0_cls]; decide), S3.errB_small (by omega), if_pos]
  exact List.all_eq_true.2 (fun p hp => S3.good1_iff.2 (ents_good hS p hp))
theorem S0_of : ofC S0 99 = 2 := by
  unfold ofC
  rw [S0_cls, if_pos (by decide)]
  decide
theorem S0_msk : mskC S0 2 = 3 := by
  unfold mskC
  rw [S0_cls]
  decide
theorem S0_any : anyC S0 2 = 98 := by
  unfold anyC
  rw [S0_cls]
  decide

set_option maxRecDepth 100000 in
set_option maxHeartbeats 4000000 in
theorem awake9_any (w : World) : Calls Try.prog 8 #[] w fun e w' => e = .returned (.bool true) ∧ Below w.heap.size w w' := by
  obtain ⟨w1, hw1⟩ : ∃ w1, w1 = ((w.alloc (.cells #[.int .i64 97, .int .i64 99] 51)).alloc (.cells #[.int .i64 98, .int .i64 122] 51)).alloc (.cells #[.slice (some ⟨w.heap.size, 0, none⟩) 1 1, .slice (some ⟨w.heap.size + 1, 0, none⟩) 1 1] 46) := ⟨_, rfl⟩
  have hB : Below w.heap.size w w1 := by rw [hw1]; exact (((Below.refl _ _).alloc (Nat.le_refl _) _).alloc (by simp) _).alloc (by simp; omega) _
  have hs : w1.heap.size = w.heap.size + 3 := by rw [hw1]; simp
  have hsts : StsIn w1 (.slice (some ⟨w.heap.size + 2, 0, none⟩) 2 2) S0 := by
    have g2 : w1.heap[w.heap.size + 2]? = some (.cells #[.slice (some ⟨w.heap.size, 0, none⟩) 1 1, .slice (some ⟨w.heap.size + 1, 0, none⟩) 1 1] 46 (0, 0)) := by
      have := heap_new' ((w.alloc (.cells #[.int .i64 97, .int .i64 99] 51)).alloc (.cells #[.int .i64 98, .int .i64 122] 51)) (.cells #[.slice (some ⟨w.heap.size, 0, none⟩) 1 1, .slice (some ⟨w.heap.size + 1, 0, none⟩) 1 1] 46)
      rw [World.size_alloc, World.size_alloc] at this
      rw [hw1]; exact this
    have g1 : w1.heap[w.heap.size + 1]? = some (.cells #[.int .i64 98, .int .i64 122] 51 (0, 0)) := by
      rw [hw1, Below.heap_alloc _ _ _ (by simp)]
      exact heap_new2 w _ _
    have g0 : w1.heap[w.heap.size]? = some (.cells #[.int .i64 97, .int .i64 99] 51 (0, 0)) := by
      rw [hw1, Below.heap_alloc _ _ _ (by simp; omega), Below.heap_alloc _ _ _ (by simp)]
      exact heap_new' w _
    have hr : ∀ (g : Nat) (a b : Int), g < w1.heap.size → w1.heap[g]? = some (.cells #[.int .i64 a, .int .i64 b] 51 (0, 0)) → RngSrc w1 (.slice (some ⟨g, 0, none⟩) 1 1) [⟨a, b⟩] := fun g a b hg hh => by
      refine ⟨⟨_, 1, rfl, Nat.le_refl _, fun i hi => ?_⟩, .inr ⟨_, 1, rfl, rfl, World.news_of_block hh, by simp [cellsRs, cellsR, Value.oneCell']⟩⟩
      obtain rfl : i = 0 := by simpa using hi
      exact ⟨g, 0, rfl, hg, cell_of_row _ _ 0 _ _ _ hh, cell_of_row _ _ 1 _ _ _ hh⟩
    refine ⟨_, 2, rfl, Nat.le_refl _, fun i hi => ?_⟩
    have hi2 : i = 0 ∨ i = 1 := by have : i < 2 := hi; omega
    rcases hi2 with rfl | rfl
    · exact ⟨_, 0, _, rfl, by omega, cell_of_row _ _ 0 _ _ _ g2, hr _ _ _ (by omega) g0⟩
    · exact ⟨_, 0, _, rfl, by omega, cell_of_row _ _ 1 _ _ _ g2, hr _ _ _ (by omega) g1⟩
  have HN := new9_any S0 _ w1 (by decide) (by decide) (by decide) hsts
  unfold NewT at HN
  rw [S0_err] at HN
  have HW : Hid (w1 = ((w.alloc (.cells #[.int .i64 97, .int .i64 99] 51)).alloc (.cells #[.int .i64 98, .int .i64 122] 51)).alloc (.cells #[.slice (some ⟨w.heap.size, 0, none⟩) 1 1, .slice (some ⟨w.heap.size + 1, 0, none⟩) 1 1] 46)) := hw1
  have HB : Hid (Below w.heap.size w w1) := hB
  have hws := hB.size
  clear hw1 hB hsts hs
  go_enter Try.func8, Try.ntmps8
  go_wp2_with fail
  rw [← HW.out]
  refine HN.mono ?_
  rintro e w2 ⟨pv, rfl, _, ha, hB2⟩
  have ha : AlpAt w2 pv S0 := by first | exact ha rfl | exact ha trivial
  clear HN
  have hok := (errN_ok S0_err).1
  obtain ⟨HA, HOK, HB2⟩ : Hid (AlpAt w2 pv S0) ∧ Hid (OkA S0) ∧ Hid (Below w.heap.size w w2) := ⟨ha, hok, HB.out.trans (hB2.mono hws)⟩
  obtain ⟨g, rfl⟩ := ha.ptr
  have H1 := count9_any S0 _ w2 HA.out
  rw [S0_cls] at H1
  have H2 := of9_any S0 _ 99 w2 HOK.out HA.out
  rw [S0_of] at H2
  have hs2 := HB2.out.size
  clear ha hok hB2
  go_wp2_with fail
  refine H1.mono ?_
  rintro e w3 ⟨rfl, rfl⟩
  clear H1
  go_wp2_with fail
  refine H2.mono ?_
  rintro e w4 ⟨rfl, hB4⟩
  clear H2
  have HA4 := HA.out.below hB4
  have H3 := mask9_any S0 _ 2 w4 HA4
  rw [S0_msk] at H3
  have H4 := any9_any S0 _ 2 w4 HA4
  rw [S0_any] at H4
  have HB4 : Hid (Below w.heap.size w w4) := HB2.out.trans (hB4.mono hs2)
  clear hB4 HA4
  go_wp2_with fail
  refine H3.mono ?_
  rintro e w5 ⟨rfl, rfl⟩
  clear H3
  go_wp2_with fail
  refine H4.mono ?_
  rintro e w6 ⟨rfl, rfl⟩
  clear H4
  go_wp2
  go_ret
  exact ⟨rfl, HB4.out⟩

/-- Lists that are no more than a test should have. -/
def FewS (S : List (List Rg)) : Prop := S.length ≤ 101 ∧ (∀ s ∈ S, s.length ≤ 300) ∧ S.flatten.length ≤ 1200
theorem flat_take {S : List (List Rg)} {k : Nat} (h : k < S.length) : (S.take (k + 1)).flatten.length = (S.take k).flatten.length + S[k].length := by
  rw [List.take_succ_eq_append_getElem h, List.flatten_append, List.length_append]
  simp
/-- What few tells. -/
def FewT (S : List (List Rg)) (w : World) (e : Ending) (w' : World) : Prop := ∃ b, e = .returned (.bool b) ∧ (b = true → FewS S) ∧ w' = w
set_option maxRecDepth 100000 in
set_option maxHeartbeats 4000000 in
theorem few9_any (S : List (List Rg)) (v : Value) (w : World) (hv : StsIn w v S) :
    Calls Try.prog 9 #[v] w fun e w' => FewT S w e w' := by
  obtain ⟨a, cap, rfl, hc, hcell⟩ := hv
  have HC : Hid (∀ i, (h : i < S.length) → ∃ g off x, a = some ⟨g, off, none⟩ ∧ g < w.heap.size ∧ w.cell? ⟨g, off + i, none⟩ = some x ∧ RngSrc w x S[i]) := hcell
  clear hcell
  go_enter Try.func9, Try.ntmps9
  go_wp2
  go_loopw [3, 4] (fun y x wr => ∃ k : Nat, k ≤ S.length ∧ k ≤ 101 ∧ x = .int .i64 k ∧ y = .int .i64 ((S.take k).flatten.length : Nat) ∧ (S.take k).flatten.length ≤ 300 * k ∧ (∀ i, (h : i < S.length) → i < k → S[i].length ≤ 300) ∧ wr = w) (fun _ x _ => S.length - (intOf x).toNat)
  case atStart => exact ⟨0, Nat.zero_le _, by omega, rfl, rfl, by simp, (fun i h q => by omega), rfl⟩
  case round =>
    obtain ⟨k, hk, hk1, rfl, rfl, hn, hle, rfl⟩ := hrel
    have HLE : Hid (∀ i, (h : i < S.length) → i < k → S[i].length ≤ 300) := hle
    clear hle
    by_cases hlt : k < S.length
    · have hlt' : (k : Int) < (S.length : Int) := by omega
      by_cases q1 : 100 < k
      · have q1' : (100 : Int) < (k : Int) := by omega
        go_wp2
        go_ret
        exact ⟨false, rfl, (fun h => (by cases h)), rfl⟩
      · have q1' : decide ((100 : Int) < (k : Int)) = false := by simp; omega
        obtain ⟨g, off, x, rfl, hg, hcx, hrx⟩ := HC.out k hlt
        obtain ⟨ax, cx, rfl, _, _⟩ := hrx.1
        obtain ⟨n, hn0⟩ : ∃ n, n = S[k].length := ⟨_, rfl⟩
        have hft := flat_take hlt
        rw [← hn0] at hcx hft
        have HN : Hid (n = S[k].length) := hn0
        clear hrx hn0
        by_cases q2 : 300 < n
        · have q2' : (300 : Int) < (n : Int) := by omega
          clear hft
          go_wp2
          go_ret
          exact ⟨false, rfl, (fun h => (by cases h)), rfl⟩
        · have q2' : ¬ ((300 : Int) < (n : Int)) := by omega
          obtain ⟨m, hm⟩ : ∃ m, m = (S.take k).flatten.length := ⟨_, rfl⟩
          rw [← hm] at hft hn ⊢
          have HF : Hid ((S.take (k + 1)).flatten.length = m + n) := hft
          clear hft hm
          go_wp2
          go_roundw
          case rel =>
            refine ⟨k + 1, by omega, by omega, by go_num, by rw [HF.out]; rfl, by rw [HF.out]; omega, (fun i h q => ?_), trivial⟩
            by_cases e : i = k
            · subst e; rw [← HN.out]; omega
            · exact HLE.out i h (by omega)
          case measure => simp [intOf]; omega
    · have hlt' : ¬ ((k : Int) < (S.length : Int)) := by omega
      obtain rfl : k = S.length := by omega
      rw [List.take_length] at hn ⊢
      have HN1 : Hid (S.length ≤ 101) := hk1
      obtain ⟨m, hm⟩ : ∃ m, m = S.flatten.length := ⟨_, rfl⟩
      rw [← hm] at hn ⊢
      have HM : Hid (m = S.flatten.length) := hm
      clear hm
      go_wp2
      go_ret
      refine ⟨decide ((m : Int) ≤ 1200), rfl, (fun h => ⟨HN1.out, (fun s hs => ?_), ?_⟩), rfl⟩
      · obtain ⟨i, hi, rfl⟩ := List.getElem_of_mem hs
        exact HLE.out i hi hi
      · have := of_decide_eq_true h
        have := HM.out
        omega
end Go.Proofs.Ytmknifnhcgdkaaa
