/-
  The law RangesSteps: true, for all ranges.
-/
import Derived.Test.YtmgbeglajpnicabLaw
namespace Go.Proofs.Ytmgbeglajpnicab
open Go.RowKit
set_option linter.unusedVariables false

theorem has_ahead {a : List Rg} {b : Int} (hn : NormFrom b a) {k : Nat} (hk : k < a.length) : hasR a (a[k].lo - 1) = false ∧ hasR a (a[k].hi + 1) = false := by
  have ho := (NormFrom.ord hn a[k] (List.getElem_mem hk)).2
  constructor
  · cases q : hasR a (a[k].lo - 1) with
    | false => rfl
    | true =>
      obtain ⟨r, hr, z1, z2⟩ := hasR_iff.1 q
      obtain ⟨j, hj, rfl⟩ := List.getElem_of_mem hr
      have hoj := (NormFrom.ord hn a[j] hr).2
      rcases Nat.lt_trichotomy j k with t | t | t
      · have := NormFrom.apart j k hj hk hn t; omega
      · subst t; omega
      · have := NormFrom.apart k j hk hj hn t; omega
  · cases q : hasR a (a[k].hi + 1) with
    | false => rfl
    | true =>
      obtain ⟨r, hr, z1, z2⟩ := hasR_iff.1 q
      obtain ⟨j, hj, rfl⟩ := List.getElem_of_mem hr
      have hoj := (NormFrom.ord hn a[j] hr).2
      rcases Nat.lt_trichotomy j k with t | t | t
      · have := NormFrom.apart j k hj hk hn t; omega
      · subst t; omega
      · have := NormFrom.apart k j hk hj hn t; omega

set_option maxRecDepth 100000 in
set_option maxHeartbeats 8000000 in
theorem rangesSteps_any (l : List Rg) (v : Value) (w : World) (hv : RngSrc w v l) (hbig : l.length * 16 ≤ 140737488355328) :
    Calls Try.prog 4 #[v] w fun e w' => e = .returned (.bool true) ∧ Below w.heap.size w w' := by
  have HV : Hid (RngSrc w v l) := hv
  obtain ⟨a, cap, rfl, hc, _⟩ := hv.1
  clear hv
  go_enter Try.func4, Try.ntmps4
  go_wp2_with fail
  refine (awake_any w).mono ?_
  rintro e w1 ⟨rfl, hB1⟩
  have hs1 := hB1.size
  go_wp2_with fail
  refine (set_any l _ w1 (HV.out.below hB1)).mono ?_
  rintro e w2 ⟨h, hB2⟩
  have hW2 : Below w.heap.size w w2 := hB1.trans (hB2.mono hs1)
  have hs2 := hW2.size
  rcases h with ⟨v1, rfl⟩ | ⟨sa, va, sA, lA, rfl, rA⟩
  · go_wp2
    go_ret
    exact ⟨rfl, hW2⟩
  · have S : Hid (IsSet sa) := sA
    have R2 : Hid (RngIn w2 va sa) := rA.1
    obtain ⟨ad, c2, rfl, _, hcell⟩ := rA.1
    have HA : Hid (∀ i, (h : i < sa.length) → ∃ g off, ad = some ⟨g, off, none⟩ ∧ g < w2.heap.size ∧ w2.cell? ⟨g, off + i * 2, none⟩ = some (.int .i64 sa[i].lo) ∧ w2.cell? ⟨g, off + i * 2 + 1, none⟩ = some (.int .i64 sa[i].hi)) := hcell
    clear sA rA hB1 hB2 HV hcell hs1
    go_wp2
    go_loopw [6, 7] (fun y x wr => ∃ k : Nat, k ≤ sa.length ∧ x = .int .i64 k ∧ y = .int .i64 (sumR (sa.take k)) ∧ Below w2.heap.size w2 wr) (fun _ x _ => sa.length - (intOf x).toNat)
    case atStart => exact ⟨0, Nat.zero_le _, rfl, rfl, Below.refl _ _⟩
    case round =>
      obtain ⟨k, hk, rfl, rfl, hB⟩ := hrel
      have hbs := hB.size
      obtain ⟨t, ht⟩ : ∃ t, sumR (sa.take k) = t := ⟨_, rfl⟩
      have htb := sumR_bound S.out.upto k
      rw [ht] at htb ⊢
      have HT : Hid (sumR (sa.take k) = t) := ht
      clear ht
      by_cases hlt : k < sa.length
      · obtain ⟨g, off, rfl, hg, c0, c1⟩ := HA.out k hlt
        have hah := has_ahead S.out.1 hlt
        have hnt := nthL_at k hlt S.out.1
        rw [HT.out] at hnt
        have HS : Hid (sumR (sa.take (k + 1)) = t + sa[k].hi - sa[k].lo + 1) := by
          show _ = _
          rw [List.take_succ_eq_append_getElem hlt, sumR_append, HT.out]
          show _ + (sa[k].hi - sa[k].lo + 1 + 0) = _
          omega
        obtain ⟨r, hr⟩ : ∃ r, r = sa[k] := ⟨_, rfl⟩
        have hrb := S.out.upto.hi r (by rw [hr]; exact List.getElem_mem hlt)
        rw [← hr] at c0 c1 hah hnt HS
        have d0 : wr.cell? ⟨g, off + k * 2, none⟩ = some (.int .i64 r.lo) := (hB.cell (p := ⟨g, _, none⟩) hg).trans c0
        have N1 := has_any 0 sa (by omega) S.out.1 (r.lo - 1) _ wr (R2.out.below hB)
        have N2 := fun W (hW : Below w2.heap.size w2 W) => has_any 0 sa (by omega) S.out.1 (r.hi + 1) _ W (R2.out.below hW)
        rw [hah.1] at N1
        rw [hah.2] at N2
        have N3 := fun W (hW : Below w2.heap.size w2 W) => nth_any (hasR sa) sa S.out.upto t (by omega) _ W (R2.out.below hW)
        have env : nthV sa t = (r.lo, 0) := by
          have : ¬ t < 0 := by omega
          simp [nthV, this, hnt, optV]
        rw [env] at N3
        have HN2 : Hid _ := N2
        have HN3 : Hid _ := N3
        clear hr hah hnt env N2 N3
        go_wp2_with fail
        refine N1.mono ?_
        rintro e w3 ⟨rfl, hB3⟩
        have hB23 : Below w2.heap.size w2 w3 := hB.trans (hB3.mono hbs)
        have hbs3 := hB23.size
        have d1 : w3.cell? ⟨g, off + k * 2 + 1, none⟩ = some (.int .i64 r.hi) := (hB23.cell (p := ⟨g, _, none⟩) hg).trans c1
        clear N1 d0
        go_wp2_with fail
        refine (HN2.out w3 hB23).mono ?_
        rintro e w4 ⟨rfl, hB4⟩
        have hB24 : Below w2.heap.size w2 w4 := hB23.trans (hB4.mono hbs3)
        have hbs4 := hB24.size
        clear d1 HN2
        go_wp2_with fail
        refine (HN3.out w4 hB24).mono ?_
        rintro e w5 ⟨rfl, hB5⟩
        have hB25 : Below w2.heap.size w2 w5 := hB24.trans (hB5.mono hbs4)
        have f0 : w5.cell? ⟨g, off + k * 2, none⟩ = some (.int .i64 r.lo) := (hB25.cell (p := ⟨g, _, none⟩) hg).trans c0
        have f1 : w5.cell? ⟨g, off + k * 2 + 1, none⟩ = some (.int .i64 r.hi) := (hB25.cell (p := ⟨g, _, none⟩) hg).trans c1
        have hrr : (r.lo != r.lo) = false := by simp
        have hk1 : (k : Int) < (sa.length : Int) := by omega
        clear HN3 c0 c1
        go_wp2
        go_quiet (fail)
        go_wp2
        go_roundw
        case rel => exact ⟨k + 1, by omega, by go_num, by rw [HS.out], below_drewN' hB25 _⟩
        case measure => simp [intOf]; omega
      · obtain rfl : k = sa.length := by omega
        rw [List.take_length] at HT
        have hW : Below w.heap.size w wr := hW2.trans (hB.mono hs2)
        have N1 := count_any (hasR sa) sa S.out.upto _ wr (R2.out.below hB)
        rw [HT.out] at N1
        have htt : (t == t) = true := by simp
        go_wp2_with fail
        refine N1.mono ?_
        rintro e w3 ⟨rfl, hB3⟩
        have hW3 : Below w.heap.size w w3 := hW.trans (hB3.mono (by omega))
        clear N1 hB3
        go_wp2
        go_ret
        exact ⟨rfl, hW3⟩
end Go.Proofs.Ytmgbeglajpnicab
