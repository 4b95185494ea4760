/-
  scansionlaw09.AlphabetLeast walked: each class has a number, the least one of which Any tells.
-/
import Derived.Test.YtmknifnhcgdkaaaX53
namespace Go.Proofs.Ytmknifnhcgdkaaa
open Go.RowKit Go.Shelf
set_option linter.unusedVariables false

theorem two_flat (n m : Nat) : (2 : Int) * (n : Int) + (1 + 2 * (m : Int)) = 1 + 2 * ((m + n : Nat) : Int) := by omega
set_option maxRecDepth 100000 in
set_option maxHeartbeats 8000000 in
theorem least_any (l : List (List Rg)) (v : Value) (r : Int) (w : World) (hv : StsIn w v l) :
    Calls Try.prog 6 #[v, .int .i64 r] w fun e w' => e = .returned (.bool true) ∧ Below w.heap.size w w' := by
  have HV : Hid (StsIn w v l) := hv
  obtain ⟨a, cap, rfl, _, _⟩ := hv
  go_enter Try.func6, Try.ntmps6
  go_wp2_with fail
  refine (awake9_any w).mono ?_
  rintro e w1 ⟨rfl, hB1⟩
  have HB1 : Hid (Below w.heap.size w w1) := hB1
  have hs1 := hB1.size
  clear hB1
  go_wp2_with fail
  refine (few9_any l _ w1 (HV.out.below HB1.out)).mono ?_
  rintro e w2 ⟨b, rfl, hfew, rfl⟩
  cases b with
  | false =>
    clear hfew
    go_wp2
    go_ret
    exact ⟨rfl, HB1.out⟩
  | true =>
    have HF : Hid (FewS l) := hfew rfl
    clear hfew
    go_wp2_with fail
    refine (sets9_any l _ w2 HF.out (HV.out.below HB1.out)).mono ?_
    rintro e w3 ⟨vT, T, rfl, hown, hmk, hB3⟩
    have hfl := hmk.flat HF.out
    have HN := new9_any T vT w3 (by omega) (fun s hs => by have := hfl.2.1 s hs; omega) (by omega) hown.sts
    obtain ⟨HT, HALL, HB3⟩ : Hid (StsIn w3 vT T) ∧ Hid (AllS T) ∧ Hid (Below w.heap.size w w3) := ⟨hown.sts, hmk.all, HB1.out.trans (hB3.mono hs1)⟩
    have herr := errN_all hmk.all
    have hTl : T.length ≤ 101 := hfl.2.2
    have HT6 : Hid (∀ s ∈ T, s.length ≤ 601) := hfl.2.1
    have HTF : Hid (T.flatten.length ≤ 2501) := hfl.1
    have hs3 := HB3.out.size
    obtain ⟨xs, hrow, _⟩ := hown
    obtain ⟨aT, capT, rfl⟩ := S3.slice_of_row hrow
    clear hrow hmk hB3 hfl
    unfold NewT at HN
    go_wp2_with fail
    refine HN.mono ?_
    rintro e w4 ⟨pv, rfl, hp1, hp2, hB4⟩
    clear HN
    rcases herr with he | he
    · have hal := hp2 he
      have hokk := errN_ok he
      rw [he]
      obtain ⟨g, rfl⟩ := hal.ptr
      obtain ⟨HA, HOK, HB4, HT4⟩ : Hid (AlpAt w4 (.pointer (some ⟨g, 0, none⟩)) T) ∧ Hid (OkA T) ∧ Hid (Below w.heap.size w w4) ∧ Hid (StsIn w4 (.slice aT T.length capT) T) := ⟨hal, hokk.1, HB3.out.trans (hB4.mono hs3), HT.out.below hB4⟩
      have hT60 : T.length ≤ 60 := hokk.2
      clear hal hokk hp1 hp2 hB4 he HT
      have hcl : (clsS T).length ≤ 200 := HOK.out.2.1
      go_wp2
      go_loopw [10, 11] (fun n i wr => ∃ k : Nat, k ≤ T.length ∧ i = .int .i64 k ∧ n = .int .i64 (1 + 2 * (((T.take k).flatten.length : Nat) : Int)) ∧ wr = w4) (fun _ i _ => T.length - (intOf i).toNat)
      case atStart => exact ⟨0, Nat.zero_le _, rfl, rfl, rfl⟩
      case round =>
        obtain ⟨k, hk, rfl, rfl, rfl⟩ := hrel
        by_cases hlt : k < T.length
        · have hlt' : (k : Int) < (T.length : Int) := by omega
          obtain ⟨a', cap', e, _, hcell⟩ := HT4.out
          obtain ⟨rfl, rfl⟩ : aT = a' ∧ capT = cap' := by simpa using e
          obtain ⟨gx, ox, z, rfl, hg, hcz, hrz⟩ := hcell k hlt
          have hft := flat_take hlt
          have hle : (T.take (k + 1)).flatten.length ≤ T.flatten.length := by
            have e2 := congrArg (fun q => q.flatten.length) (List.take_append_drop (k + 1) T)
            simp only [List.flatten_append, List.length_append] at e2
            omega
          obtain ⟨az, cz, rfl, _, _⟩ := hrz.1
          obtain ⟨n, hn⟩ : ∃ n, n = T[k].length := ⟨_, rfl⟩
          obtain ⟨m, hm⟩ : ∃ m, m = (T.take k).flatten.length := ⟨_, rfl⟩
          rw [← hn] at hcz hft
          rw [← hm] at hft ⊢
          have HFT : Hid ((T.take (k + 1)).flatten.length = m + n) := hft
          have hb : m + n ≤ 2501 := by have := HTF.out; omega
          clear hn hm hft hcell hrz e hle
          go_wp2
          go_roundw
          case rel => exact ⟨k + 1, by omega, by go_num, by rw [HFT.out]; congr 1; omega, trivial⟩
          case measure => simp [intOf]; omega
        · have hlt' : ¬ ((k : Int) < (T.length : Int)) := by omega
          obtain rfl : k = T.length := by omega
          rw [List.take_length]
          obtain ⟨w4, rfl⟩ : ∃ w4, w4 = wr := ⟨_, rfl⟩
          have hfl := HTF.out
          obtain ⟨m, hm⟩ : ∃ m, m = T.flatten.length := ⟨_, rfl⟩
          rw [← hm] at hfl ⊢
          have HLM : Hid ((clsS T).length ≤ 1 + 2 * m) := by
            have h1 := clsS_le T
            have h2 := edges_length T.flatten [0]
            show _ ≤ _
            unfold edgS edgesL at h1
            simp only [List.length_cons, List.length_nil] at h2
            omega
          clear hm
          go_wp2
          go_loopw [12] (fun i wr => ∃ k : Nat, k ≤ (clsS T).length ∧ i = .int .i64 k ∧ Below w4.heap.size w4 wr) (fun i _ => (clsS T).length - (intOf i).toNat)
          case atStart => exact ⟨0, Nat.zero_le _, rfl, Below.refl _ _⟩
          case round =>
            obtain ⟨k, hk2, rfl, hB⟩ := hrel
            have HB : Hid (Below w4.heap.size w4 wr) := hB
            have hbs := hB.size
            have HAr : Hid (AlpAt wr (.pointer (some ⟨g, 0, none⟩)) T) := HA.out.below hB
            have HC := count9_any T _ wr HAr.out
            clear hB
            by_cases hlt2 : k < (clsS T).length
            · have HY := any9_any T _ (k : Int) wr HAr.out
              have HO := of9_any T _ (anyC T (k : Int)) wr HOK.out HAr.out
              rw [of_any_is HALL.out hlt2] at HO
              have hlt3 : (k : Int) < ((clsS T).length : Int) := by omega
              have HYk : Hid (∀ W, Below w4.heap.size w4 W → ∀ j : Int, Calls Try.prog 16 #[.pointer (some ⟨g, 0, none⟩), .int .i64 j] W fun e w' => e = .returned (.int .i64 (anyC T j)) ∧ w' = W) := fun W hW j => any9_any T _ j W (HA.out.below hW)
              rcases Nat.eq_zero_or_pos k with rfl | hpos
              · simp only [Int.natCast_zero] at HY HO hlt3 ⊢
                obtain ⟨y, hy⟩ : ∃ y, y = anyC T 0 := ⟨_, rfl⟩
                rw [← hy] at HY HO
                clear hy HYk
                go_wp2_with fail
                refine HC.mono ?_
                rintro e w5 ⟨rfl, rfl⟩
                clear HC
                go_wp2_with fail
                refine HY.mono ?_
                rintro e w6 ⟨rfl, rfl⟩
                clear HY
                go_wp2_with fail
                refine HO.mono ?_
                rintro e w7 ⟨rfl, hB7⟩
                clear HO
                have HB7 : Hid (Below w4.heap.size w4 w7) := HB.out.trans (hB7.mono hbs)
                clear hB7
                go_wp2
                go_roundw
                case rel => exact ⟨1, by omega, rfl, HB7.out⟩
                case measure => simp [intOf]; omega
              · obtain ⟨j, rfl⟩ : ∃ j, k = j + 1 := ⟨k - 1, by omega⟩
                have hri := any_rises hlt2
                have ej : ((j + 1 : Nat) : Int) = (j : Int) + 1 := by omega
                rw [ej] at HY HO hlt3 ⊢
                obtain ⟨y, hy⟩ : ∃ y, y = anyC T ((j : Int) + 1) := ⟨_, rfl⟩
                obtain ⟨z, hz⟩ : ∃ z, z = anyC T (j : Int) := ⟨_, rfl⟩
                rw [← hy] at HY HO hri
                rw [← hz] at hri
                obtain ⟨HYE, HZE⟩ : Hid (y = anyC T ((j : Int) + 1)) ∧ Hid (z = anyC T (j : Int)) := ⟨hy, hz⟩
                have hri' : ¬ (y ≤ z) := by omega
                have hjp : (0 : Int) < (j : Int) + 1 := by omega
                have hjl : j + 1 ≤ 200 := by omega
                clear hy hz hri ej hpos
                go_wp2_with fail
                refine HC.mono ?_
                rintro e w5 ⟨rfl, rfl⟩
                clear HC
                go_wp2_with fail
                refine HY.mono ?_
                rintro e w6 ⟨rfl, rfl⟩
                clear HY
                go_wp2_with fail
                refine HO.mono ?_
                rintro e w7 ⟨rfl, hB7⟩
                clear HO
                have hB7' : Below w4.heap.size w4 w7 := HB.out.trans (hB7.mono hbs)
                have HB7 : Hid (Below w4.heap.size w4 w7) := hB7'
                have HY1 := HYk.out w7 hB7' ((j : Int) + 1)
                have HY2 := HYk.out w7 hB7' (j : Int)
                rw [← HYE.out] at HY1
                rw [← HZE.out] at HY2
                clear hB7 hB7' HYk
                go_wp2_with fail
                refine HY1.mono ?_
                rintro e w8 ⟨rfl, rfl⟩
                clear HY1
                go_wp2_with fail
                refine HY2.mono ?_
                rintro e w9 ⟨rfl, rfl⟩
                clear HY2
                go_wp2
                go_roundw
                case rel => exact ⟨j + 2, by omega, by go_num, HB7.out⟩
                case measure => simp [intOf]; omega
            · have hlt3 : ¬ ((k : Int) < ((clsS T).length : Int)) := by omega
              have hpos : 1 ≤ (clsS T).length := cls_pos T
              have HO := of9_any T _ r wr HOK.out HAr.out
              obtain ⟨n, hn⟩ : ∃ n, n = (clsS T).length := ⟨_, rfl⟩
              have hlm := HLM.out
              rw [← hn] at HC hlt3 hpos hlm hcl
              have hn1 : (1 : Int) ≤ (n : Int) := by omega
              have hn2 : (n : Int) ≤ 1 + 2 * (m : Int) := by omega
              have HRP : Hid (0 ≤ r → r ≤ 1114111 → 0 ≤ ofC T r ∧ anyC T (ofC T r) ≤ r) := fun h0 h1 => ⟨by rw [ofC_in h0 h1]; omega, any_le HALL.out h0 h1⟩
              have HRN : Hid (¬ (0 ≤ r ∧ r ≤ 1114111) → ofC T r = -1) := fun h => ofC_out (by omega)
              have HYk : Hid (∀ W, Below w4.heap.size w4 W → ∀ j : Int, Calls Try.prog 16 #[.pointer (some ⟨g, 0, none⟩), .int .i64 j] W fun e w' => e = .returned (.int .i64 (anyC T j)) ∧ w' = W) := fun W hW j => any9_any T _ j W (HA.out.below hW)
              have HCk : Hid (∀ W, Below w4.heap.size w4 W → Calls Try.prog 18 #[.pointer (some ⟨g, 0, none⟩)] W fun e w' => e = .returned (.int .i64 (n : Int)) ∧ w' = W) := fun W hW => by rw [hn]; exact count9_any T _ W (HA.out.below hW)
              have HZ : Hid (anyC T 0 = 0) := any_zero HALL.out
              clear hn hlm hpos
              go_wp2_with fail
              refine HC.mono ?_
              rintro e w5 ⟨rfl, rfl⟩
              clear HC
              go_wp2_with fail
              refine HO.mono ?_
              rintro e w6 ⟨rfl, hB6⟩
              clear HO
              have hB6' : Below w4.heap.size w4 w6 := HB.out.trans (hB6.mono hbs)
              have HB6 : Hid (Below w.heap.size w w6) := HB4.out.trans (hB6'.mono HB4.out.size)
              have HC := HCk.out w6 hB6'
              have HC2 := HCk.out w6 hB6'
              have HY0 := HYk.out w6 hB6' 0
              rw [HZ.out] at HY0
              by_cases hr : 0 ≤ r ∧ r ≤ 1114111
              · have HYc := HYk.out w6 hB6' (ofC T r)
                obtain ⟨hc0, hc1⟩ := HRP.out hr.1 hr.2
                obtain ⟨c, hc⟩ : ∃ c, c = ofC T r := ⟨_, rfl⟩
                rw [← hc] at HYc hc0 hc1 ⊢
                obtain ⟨y, hy⟩ : ∃ y, y = anyC T c := ⟨_, rfl⟩
                rw [← hy] at HYc hc1
                have hr0 : 0 ≤ r := hr.1
                have hr1 : r ≤ 1114111 := hr.2
                clear hc hy hr hB6 hB6' HYk HCk HRP HRN
                go_wp2_with fail
                refine HC.mono ?_
                rintro e w7 ⟨rfl, rfl⟩
                clear HC
                go_wp2_with fail
                refine HC2.mono ?_
                rintro e w8 ⟨rfl, rfl⟩
                clear HC2
                go_wp2_with fail
                refine HYc.mono ?_
                rintro e w9 ⟨rfl, rfl⟩
                clear HYc
                go_wp2_with fail
                refine HY0.mono ?_
                rintro e w10 ⟨rfl, rfl⟩
                clear HY0
                go_wp2
                go_ret
                exact ⟨rfl, HB6.out⟩
              · rw [HRN.out hr]
                clear hB6 hB6' HYk HCk HRP HRN
                by_cases hr0 : 0 ≤ r
                · have hr1 : ¬ (r ≤ 1114111) := fun h => hr ⟨hr0, h⟩
                  have hr1d : decide (r ≤ 1114111) = false := decide_eq_false hr1
                  clear hr
                  go_wp2_with fail
                  refine HC.mono ?_
                  rintro e w7 ⟨rfl, rfl⟩
                  clear HC
                  go_wp2_with fail
                  refine HC2.mono ?_
                  rintro e w8 ⟨rfl, rfl⟩
                  clear HC2
                  go_wp2_with fail
                  refine HY0.mono ?_
                  rintro e w10 ⟨rfl, rfl⟩
                  clear HY0
                  go_wp2
                  go_ret
                  exact ⟨rfl, HB6.out⟩
                · clear hr
                  go_wp2_with fail
                  refine HC.mono ?_
                  rintro e w7 ⟨rfl, rfl⟩
                  clear HC
                  go_wp2_with fail
                  refine HC2.mono ?_
                  rintro e w8 ⟨rfl, rfl⟩
                  clear HC2
                  go_wp2_with fail
                  refine HY0.mono ?_
                  rintro e w10 ⟨rfl, rfl⟩
                  clear HY0
                  go_wp2
                  go_ret
                  exact ⟨rfl, HB6.out⟩
    · rw [he]
      obtain rfl := hp1 (by omega)
      have HB4 : Hid (Below w.heap.size w w4) := HB3.out.trans (hB4.mono hs3)
      clear hp1 hp2 hB4 he
      go_wp2
      go_ret
      exact ⟨rfl, HB4.out⟩
end Go.Proofs.Ytmknifnhcgdkaaa
