/-
  scansionlaw09.AlphabetApart walked: two numbers are of one class just if they are in the same sets.
-/
import Derived.Test.YtmknifnhcgdkaaaX53
import Derived.Laws.Bits64b
namespace Go.Proofs.Ytmknifnhcgdkaaa
open Go.RowKit Go.Shelf
set_option linter.unusedVariables false

/-- The bit k of a mask. -/
theorem and_bit (m k : Nat) (h : m < 18446744073709551616) : bits .and .u64 ((m : Int) / (2 : Int) ^ k) 1 = ((m / 2 ^ k % 2 : Nat) : Int) := by
  have e : (m : Int) / (2 : Int) ^ k = ((m / 2 ^ k : Nat) : Int) := by simp
  have hlt : m / 2 ^ k ≤ m := Nat.div_le_self _ _
  rw [e]
  have := bits_and_u64_nat (m / 2 ^ k) 1 (by omega) (by omega)
  rw [Nat.and_one_is_mod] at this
  exact this
set_option maxRecDepth 100000 in
set_option maxHeartbeats 8000000 in
theorem apart_any (l : List (List Rg)) (v : Value) (x y : Int) (w : World) (hv : StsIn w v l) :
    Calls Try.prog 5 #[v, .int .i64 x, .int .i64 y] w fun e w' => e = .returned (.bool true) ∧ Below w.heap.size w w' := by
  have HV : Hid (StsIn w v l) := hv
  obtain ⟨a, cap, rfl, _, _⟩ := hv
  go_enter Try.func5, Try.ntmps5
  go_wp2_with fail
  refine (awake9_any w).mono ?_
  rintro e w1 ⟨rfl, hB1⟩
  have HB1 : Hid (Below w.heap.size w w1) := hB1
  have hs1 := hB1.size
  clear hB1
  go_wp2_with fail
  refine (few9_any l _ w1 (HV.out.below HB1.out)).mono ?_
  rintro e w2 ⟨b, rfl, hfew, rfl⟩
  cases b with
  | false =>
    clear hfew
    go_wp2
    go_ret
    exact ⟨rfl, HB1.out⟩
  | true =>
    have HF : Hid (FewS l) := hfew rfl
    clear hfew
    by_cases x0 : x < 0
    · go_wp2
      go_ret
      exact ⟨rfl, HB1.out⟩
    by_cases x1 : 1114111 < x
    · go_wp2
      go_ret
      exact ⟨rfl, HB1.out⟩
    by_cases y0 : y < 0
    · go_wp2
      go_ret
      exact ⟨rfl, HB1.out⟩
    by_cases y1 : 1114111 < y
    · go_wp2
      go_ret
      exact ⟨rfl, HB1.out⟩
    go_wp2_with fail
    refine (sets9_any l _ w2 HF.out (HV.out.below HB1.out)).mono ?_
    rintro e w3 ⟨vT, T, rfl, hown, hmk, hB3⟩
    have hfl := hmk.flat HF.out
    have HN := new9_any T vT w3 (by omega) (fun s hs => by have := hfl.2.1 s hs; omega) (by omega) hown.sts
    obtain ⟨HT, HALL, HB3⟩ : Hid (StsIn w3 vT T) ∧ Hid (AllS T) ∧ Hid (Below w.heap.size w w3) := ⟨hown.sts, hmk.all, HB1.out.trans (hB3.mono hs1)⟩
    have herr := errN_all hmk.all
    have hTl : T.length ≤ 101 := hfl.2.2
    have HT6 : Hid (∀ s ∈ T, s.length ≤ 601) := hfl.2.1
    have hs3 := HB3.out.size
    obtain ⟨xs, hrow, _⟩ := hown
    obtain ⟨aT, capT, rfl⟩ := S3.slice_of_row hrow
    clear hrow hmk hB3 hfl
    unfold NewT at HN
    go_wp2_with fail
    refine HN.mono ?_
    rintro e w4 ⟨pv, rfl, hp1, hp2, hB4⟩
    clear HN
    rcases herr with he | he
    · have hal := hp2 he
      have hokk := errN_ok he
      rw [he]
      obtain ⟨g, rfl⟩ := hal.ptr
      obtain ⟨HA, HOK, HB4, HT4⟩ : Hid (AlpAt w4 (.pointer (some ⟨g, 0, none⟩)) T) ∧ Hid (OkA T) ∧ Hid (Below w.heap.size w w4) ∧ Hid (StsIn w4 (.slice aT T.length capT) T) := ⟨hal, hokk.1, HB3.out.trans (hB4.mono hs3), HT.out.below hB4⟩
      have hT60 : T.length ≤ 60 := hokk.2
      clear hal hokk hp1 hp2 hB4 he HT
      go_wp2
      go_loopw [12, 13] (fun s i wr => ∃ k : Nat, k ≤ T.length ∧ i = .int .i64 k ∧ s = .bool (sameK T x y k) ∧ Below w4.heap.size w4 wr) (fun _ i _ => T.length - (intOf i).toNat)
      case atStart => exact ⟨0, Nat.zero_le _, rfl, rfl, Below.refl _ _⟩
      case round =>
        obtain ⟨k, hk, rfl, rfl, hB⟩ := hrel
        have HB : Hid (Below w4.heap.size w4 wr) := hB
        have hbs := hB.size
        clear hB
        have HAr := HA.out.below HB.out
        have HTr := HT4.out.below HB.out
        by_cases hlt : k < T.length
        · have hlt' : (k : Int) < (T.length : Int) := by omega
          have hk60 : (k : Int) < 60 := by omega
          obtain ⟨a', cap', e, _, hcell⟩ := HTr
          obtain ⟨rfl, rfl⟩ : aT = a' ∧ capT = cap' := by simpa using e
          obtain ⟨gx, ox, z, rfl, hg, hcz, hrz⟩ := hcell k hlt
          have HX := refHas_any T[k] (by have := HT6.out _ (List.getElem_mem hlt); omega) x z wr hrz.1
          have HY := refHas_any T[k] (by have := HT6.out _ (List.getElem_mem hlt); omega) y z wr hrz.1
          have HO := of9_any T _ x wr HOK.out HAr
          have hst := sameK_step (x := x) (y := y) hlt
          have hbit := mask_bit T x k hlt
          have hmsk := msk_of HALL.out (x := x) (by omega) (by omega)
          have hml := mask_small T x hT60
          obtain ⟨az, cz, rfl, _, _⟩ := hrz.1
          obtain ⟨p, hp⟩ : ∃ p, p = hasR T[k] x := ⟨_, rfl⟩
          obtain ⟨q, hq⟩ : ∃ q, q = hasR T[k] y := ⟨_, rfl⟩
          obtain ⟨sk, hsk⟩ : ∃ sk, sk = sameK T x y k := ⟨_, rfl⟩
          obtain ⟨c, hc⟩ : ∃ c, c = ofC T x := ⟨_, rfl⟩
          obtain ⟨m, hm⟩ : ∃ m, m = maskN T x := ⟨_, rfl⟩
          rw [← hp, ← hm] at hbit
          rw [← hp, ← hq, ← hsk] at hst
          rw [← hp] at HX
          rw [← hq] at HY
          rw [← hc] at HO hmsk
          rw [← hm] at hmsk hml
          rw [← hsk]
          have hab := and_bit m k (by omega)
          rw [hbit] at hab
          have hand : (bits .and .u64 ((m : Int) / (2 : Int) ^ k) 1 == 1) = p := by rw [hab]; cases p <;> rfl
          obtain ⟨HST, HMSK⟩ : Hid (sameK T x y (k + 1) = (sk && (p == q))) ∧ Hid (mskC T c = m) := ⟨hst, hmsk⟩
          clear hp hq hsk hc hm hst hbit hmsk hcell hrz e HAr hab
          cases sk <;> cases p <;> cases q
          all_goals
            go_wp2_with fail
            refine HX.mono ?_
            rintro e w5 ⟨rfl, rfl⟩
            clear HX
            go_wp2_with fail
            refine HY.mono ?_
            rintro e w6 ⟨rfl, rfl⟩
            clear HY
            go_wp2_with fail
            refine HO.mono ?_
            rintro e w7 ⟨rfl, hB7⟩
            clear HO
            have hB7' : Below w4.heap.size w4 w7 := HB.out.trans (hB7.mono hbs)
            have HM := mask9_any T _ c w7 (HA.out.below hB7')
            rw [HMSK.out] at HM
            have HB7 : Hid (Below w4.heap.size w4 w7) := hB7'
            clear hB7 hB7'
            go_wp2_with fail
            refine HM.mono ?_
            rintro e w8 ⟨rfl, rfl⟩
            clear HM
            go_wp2
            go_roundw
            case rel => exact ⟨k + 1, by omega, by go_num, by rw [HST.out]; rfl, HB7.out⟩
            case measure => simp [intOf]; omega
        · have hlt' : ¬ ((k : Int) < (T.length : Int)) := by omega
          obtain rfl : k = T.length := by omega
          have hse := sameK_end HALL.out (x := x) (y := y) (by omega) (by omega) (by omega) (by omega)
          have HO := of9_any T _ x wr HOK.out HAr
          have HOy : Hid (∀ W, Below w4.heap.size w4 W → Calls Try.prog 12 #[.pointer (some ⟨g, 0, none⟩), .int .i64 y] W fun e w' => e = .returned (.int .i64 (ofC T y)) ∧ Below W.heap.size W w') := fun W hW => of9_any T _ y W HOK.out (HA.out.below hW)
          obtain ⟨c, hc⟩ : ∃ c, c = ofC T x := ⟨_, rfl⟩
          obtain ⟨d, hd⟩ : ∃ d, d = ofC T y := ⟨_, rfl⟩
          rw [← hc] at HO hse
          rw [← hd] at HOy hse
          rw [← hse]
          clear hc hd hse HAr HTr
          go_wp2_with fail
          refine HO.mono ?_
          rintro e w5 ⟨rfl, hB5⟩
          clear HO
          have hB5' : Below w4.heap.size w4 w5 := HB.out.trans (hB5.mono hbs)
          have hs5 := hB5'.size
          have HB5 : Hid (Below w4.heap.size w4 w5) := hB5'
          have HY := HOy.out w5 hB5'
          clear hB5 hB5' HOy
          go_wp2_with fail
          refine HY.mono ?_
          rintro e w6 ⟨rfl, hB6⟩
          clear HY
          have hB6' : Below w4.heap.size w4 w6 := HB5.out.trans (hB6.mono hs5)
          have HB6 : Hid (Below w.heap.size w w6) := HB4.out.trans (hB6'.mono HB4.out.size)
          clear hB6 hB6'
          go_wp2
          go_ret
          exact ⟨by simp, HB6.out⟩
    · rw [he]
      obtain rfl := hp1 (by omega)
      have HB4 : Hid (Below w.heap.size w w4) := HB3.out.trans (hB4.mono hs3)
      clear hp1 hp2 hB4 he
      go_wp2
      go_ret
      exact ⟨rfl, HB4.out⟩
end Go.Proofs.Ytmknifnhcgdkaaa
