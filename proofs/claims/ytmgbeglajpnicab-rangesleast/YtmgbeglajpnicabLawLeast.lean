/-
  The law RangesLeast: true, for all ranges.
-/
import Derived.Test.YtmgbeglajpnicabLaw
namespace Go.Proofs.Ytmgbeglajpnicab
open Go.RowKit
set_option linter.unusedVariables false

set_option maxRecDepth 100000 in
set_option maxHeartbeats 8000000 in
theorem rangesLeast_any (l : List Rg) (v : Value) (w : World) (hv : RngSrc w v l) (hbig : l.length * 16 ≤ 140737488355328) :
    Calls Try.prog 3 #[v] w fun e w' => e = .returned (.bool true) ∧ Below w.heap.size w w' := by
  have HV : Hid (RngSrc w v l) := hv
  obtain ⟨a, cap, rfl, hc, hcl⟩ := hv.1
  have HC : Hid (∀ i, (h : i < l.length) → ∃ g off, a = some ⟨g, off, none⟩ ∧ g < w.heap.size ∧ w.cell? ⟨g, off + i * 2, none⟩ = some (.int .i64 l[i].lo) ∧ w.cell? ⟨g, off + i * 2 + 1, none⟩ = some (.int .i64 l[i].hi)) := hcl
  clear hv hcl
  go_enter Try.func3, Try.ntmps3
  go_wp2_with fail
  refine (awake_any w).mono ?_
  rintro e w1 ⟨rfl, hB1⟩
  have hs1 := hB1.size
  go_wp2_with fail
  refine (make_any l _ w1 hbig (HV.out.1.below hB1)).mono ?_
  rintro e w2 ⟨h, hB2⟩
  have hW2 : Below w.heap.size w w2 := hB1.trans (hB2.mono hs1)
  have hs2 := hW2.size
  rcases h with ⟨_, rfl⟩ | ⟨hf, sa, va, hu, hsl, rfl, ho⟩
  · go_wp2
    go_ret
    exact ⟨rfl, hW2⟩
  · have U : Hid (Upto (hasR l) sa 1114112) := hu
    have R2 : Hid (RngIn w2 va sa) := rng_of_row ho
    have F : Hid (Fits l) := hf
    clear hf hu ho hB1 hB2 HV hs1
    by_cases hlen : l.length ≤ 60
    · have h6 : ¬ (60 : Int) < (l.length : Int) := by omega
      have h6' : decide ((60 : Int) < (l.length : Int)) = false := by simpa using h6
      have hle := U.out.isSet.len
      obtain ⟨ad, c2, rfl, _, hcell⟩ := R2.out
      have HA : Hid (∀ i, (h : i < sa.length) → ∃ g off, ad = some ⟨g, off, none⟩ ∧ g < w2.heap.size ∧ w2.cell? ⟨g, off + i * 2, none⟩ = some (.int .i64 sa[i].lo) ∧ w2.cell? ⟨g, off + i * 2 + 1, none⟩ = some (.int .i64 sa[i].hi)) := hcell
      clear hcell
      go_wp2
      go_loopw [6] (fun x wr => ∃ k : Nat, k ≤ sa.length ∧ x = .int .i64 k ∧ ∃ nd, wr = w2.drewN nd) (fun x _ => sa.length - (intOf x).toNat)
      case atStart => exact ⟨0, Nat.zero_le _, rfl, 0, rfl⟩
      case round =>
        obtain ⟨k, hk, rfl, nd, rfl⟩ := hrel
        by_cases hlt : k < sa.length
        · obtain ⟨g, off, rfl, hg, c0, c1⟩ := HA.out k hlt
          obtain ⟨r, hr⟩ : ∃ r, r = sa[k] := ⟨_, rfl⟩
          have hrb := U.out.hi r (by rw [hr]; exact List.getElem_mem hlt)
          have hq : decide (r.hi < r.lo) = false := by simp; omega
          have hk1 : (k : Int) < (sa.length : Int) := by omega
          cases k with
          | zero =>
            rw [← hr] at c0 c1
            clear hr
            simp only [Nat.zero_mul, Nat.add_zero] at c0 c1
            have hz : decide ((0 : Int) < 0) = false := rfl
            go_wp2
            go_quiet (fail)
            go_wp2
            go_roundw
            case rel => exact ⟨1, by omega, by go_num, _, rfl⟩
            case measure => simp [intOf]; omega
          | succ j =>
            have hj : j < sa.length := by omega
            obtain ⟨g', off', e2, _, _, d1⟩ := HA.out j hj
            obtain ⟨rfl, rfl⟩ : g = g' ∧ off = off' := by simpa using e2
            have hap := NormFrom.apart j (j + 1) hj hlt U.out.1 (by omega)
            obtain ⟨s, hs⟩ : ∃ s, s = sa[j] := ⟨_, rfl⟩
            have hsb := U.out.hi s (by rw [hs]; exact List.getElem_mem hj)
            rw [← hr] at c0 c1 hap
            rw [← hs] at d1 hap
            have hq2 : decide (r.lo - 1 ≤ s.hi) = false := by simp; omega
            have hk0 : (0 : Int) < (j : Int) + 1 := by omega
            clear hr hs e2 hap
            go_wp2
            go_quiet (fail)
            go_wp2
            go_roundw
            case rel => exact ⟨j + 2, by omega, by go_num, _, rfl⟩
            case measure => simp [intOf]; omega
        · obtain rfl : k = sa.length := by omega
          have hB0 : Below w2.heap.size w2 (w2.drewN nd) := below_drewN' (Below.refl _ _) nd
          have HB0 : Hid (Below w2.heap.size w2 (w2.drewN nd)) := hB0
          clear hB0
          go_wp2
          go_loopw [7] (fun x wr => ∃ k : Nat, k ≤ l.length ∧ x = .int .i64 k ∧ Below w2.heap.size w2 wr) (fun x _ => l.length - (intOf x).toNat)
          case atStart => exact ⟨0, Nat.zero_le _, rfl, HB0.out⟩
          case round =>
            obtain ⟨k, hk2, rfl, hB⟩ := hrel
            have hbs := hB.size
            have hW : Below w.heap.size w wr := hW2.trans (hB.mono hs2)
            by_cases hlt2 : k < l.length
            · obtain ⟨g, off, rfl, hg, c0, c1⟩ := HC.out k hlt2
              obtain ⟨r, hr⟩ : ∃ r, r = l[k] := ⟨_, rfl⟩
              rw [← hr] at c0 c1
              have hrm : r ∈ l := by rw [hr]; exact List.getElem_mem hlt2
              have hrf := F.out r hrm
              have HL : Hid (hasR sa r.lo = true) := by
                show _ = true
                rw [U.out.2 r.lo]
                exact decide_eq_true ⟨by omega, by omega, hasR_iff.2 ⟨r, hrm, Int.le_refl _, hrf.2.1⟩⟩
              have HH : Hid (hasR sa r.hi = true) := by
                show _ = true
                rw [U.out.2 r.hi]
                exact decide_eq_true ⟨by omega, by omega, hasR_iff.2 ⟨r, hrm, hrf.2.1, Int.le_refl _⟩⟩
              have d0 : wr.cell? ⟨g, off + k * 2, none⟩ = some (.int .i64 r.lo) := (hW.cell (p := ⟨g, _, none⟩) hg).trans c0
              have N1 := has_any 0 sa (by omega) U.out.1 r.lo _ wr (R2.out.below hB)
              rw [HL.out] at N1
              clear c0 hr hrm
              go_wp2_with fail
              refine N1.mono ?_
              rintro e w3 ⟨rfl, hB3⟩
              have hB23 : Below w2.heap.size w2 w3 := hB.trans (hB3.mono hbs)
              have hW3 : Below w.heap.size w w3 := hW2.trans (hB23.mono hs2)
              have d1 : w3.cell? ⟨g, off + k * 2 + 1, none⟩ = some (.int .i64 r.hi) := (hW3.cell (p := ⟨g, _, none⟩) hg).trans c1
              have hbs3 := hB23.size
              have N2 := has_any 0 sa (by omega) U.out.1 r.hi _ w3 (R2.out.below hB23)
              rw [HH.out] at N2
              clear N1 d0 c1
              go_wp2_with fail
              refine N2.mono ?_
              rintro e w4 ⟨rfl, hB4⟩
              have hB24 : Below w2.heap.size w2 w4 := hB23.trans (hB4.mono hbs3)
              clear N2 d1
              go_wp2
              go_roundw
              case rel => exact ⟨k + 1, by omega, by go_num, hB24⟩
              case measure => simp [intOf]; omega
            · obtain rfl : k = l.length := by omega
              have hll : (sa.length : Int) ≤ (l.length : Int) := by omega
              go_wp2
              go_ret
              exact ⟨rfl, hW⟩
    · have h6 : (60 : Int) < (l.length : Int) := by omega
      clear R2
      go_wp2
      go_ret
      exact ⟨rfl, hW2⟩
end Go.Proofs.Ytmgbeglajpnicab
