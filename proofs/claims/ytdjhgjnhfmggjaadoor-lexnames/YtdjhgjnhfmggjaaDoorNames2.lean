/-
  What the document's Name answers.
-/
import Derived.Test.YtdjhgjnhfmggjaaDoorNames
namespace Go.Proofs.YtdjhgjnhfmggjaaDoor
open Go.RowKit Go.Shelf S1
set_option linter.unusedVariables false

theorem refLower_any (r : Int) (w : World) : Calls Tryd.prog 18 #[.int .i64 r] w fun e w' => e = .returned (.bool (nameB r)) ∧ w' = w := by
  by_cases h1 : 97 ≤ r
  · have e : nameB r = decide (r ≤ 122) := by simp [nameB, h1]
    rw [e]
    go_enter Tryd.func18, Tryd.ntmps18
    go_wp2
    go_ret
    exact ⟨rfl, rfl⟩
  · have e : nameB r = false := by simp [nameB, h1]
    rw [e]
    have h1' : decide (97 ≤ r) = false := by simpa using h1
    go_enter Tryd.func18, Tryd.ntmps18
    go_wp2
    go_ret
    exact ⟨rfl, rfl⟩
theorem refGoes_any (r : Int) (w : World) : Calls Tryd.prog 19 #[.int .i64 r] w fun e w' => e = .returned (.bool (nameR r)) ∧ w' = w := by
  have c1 := refLower_any r w
  cases h1 : nameB r with
  | true =>
    have e : nameR r = true := by simp [nameR, h1]
    rw [e]
    rw [h1] at c1
    go_enter Tryd.func19, Tryd.ntmps19
    go_wp2_with (go_at_call 18; refine c1.mono ?_; rintro e w' ⟨rfl, rfl⟩)
    go_ret
    exact ⟨rfl, rfl⟩
  | false =>
    rw [h1] at c1
    by_cases h2 : 48 ≤ r
    · by_cases h3 : r ≤ 57
      · have e : nameR r = true := by simp [nameR, decB, h2, h3]
        rw [e]
        go_enter Tryd.func19, Tryd.ntmps19
        go_wp2_with (go_at_call 18; refine c1.mono ?_; rintro e w' ⟨rfl, rfl⟩)
        go_ret
        exact ⟨rfl, rfl⟩
      · have e : nameR r = (r == 95) := by simp [nameR, decB, h1, h2, h3]
        rw [e]
        have h3' : decide (r ≤ 57) = false := by simpa using h3
        go_enter Tryd.func19, Tryd.ntmps19
        go_wp2_with (go_at_call 18; refine c1.mono ?_; rintro e w' ⟨rfl, rfl⟩)
        go_ret
        exact ⟨rfl, rfl⟩
    · have e : nameR r = (r == 95) := by simp [nameR, decB, h1, h2]
      rw [e]
      have h2' : decide (48 ≤ r) = false := by simpa using h2
      go_enter Tryd.func19, Tryd.ntmps19
      go_wp2_with (go_at_call 18; refine c1.mono ?_; rintro e w' ⟨rfl, rfl⟩)
      go_ret
      exact ⟨rfl, rfl⟩

set_option maxRecDepth 100000 in
set_option maxHeartbeats 600000 in
theorem refName_any (s : ByteArray) (hs : s.size ≤ 2000) (w : World) :
    Calls Tryd.prog 10 #[.string s] w fun e w' => e = .returned (.bool (nameZ (numsOf s))) ∧ w' = w := by
  obtain ⟨fin, hfin⟩ : ∃ fin, fin = nameZ (numsOf s) := ⟨_, rfl⟩
  rw [← hfin]
  have HF : Hid (fin = nameZ (numsOf s)) := hfin
  clear hfin
  by_cases h0 : s.size = 0
  · have HE : Hid (fin = false) := by
      show _ = _
      rw [HF.out]
      have : (numsOf s) = [] := List.length_eq_zero_iff.1 (by rw [numsOf_length]; exact h0)
      rw [this]; rfl
    go_enter Tryd.func10, Tryd.ntmps10
    go_wp2
    go_ret
    exact ⟨by rw [HE.out]; rfl, rfl⟩
  · have hp : 0 < s.size := by omega
    have hg := numsOf_get s 0 hp (by rw [numsOf_length]; exact hp)
    have hl : Calls Tryd.prog 18 #[.int .i64 ((s[0]'hp).toNat : Int)] w fun e w' => e = .returned (.bool (nameB ((s[0]'hp).toNat : Int))) ∧ w = w' := (refLower_any _ w).mono fun _ _ h => ⟨h.1, h.2.symm⟩
    have hz0 : ((s.size : Int) == 0) = false := beq_eq_false_iff_ne.2 (by omega)
    have hb0 : ((s[0]'hp).toNat : Int) < 256 := by have := (s[0]'hp).toNat_lt; omega
    have hw0 : IntKind.i64.wrap ((s[0]'hp).toNat : Int) = ((s[0]'hp).toNat : Int) := by rw [IntKind.wrap_i64]; omega
    cases hq : nameB ((s[0]'hp).toNat : Int) with
    | false =>
      have HE : Hid (fin = false) := HF.out.trans (nameZ_false (i := 0) (by rw [numsOf_length]; exact hp) (by rw [if_pos rfl, hg]; exact hq))
      rw [hq] at hl
      clear hq hg
      go_enter Tryd.func10, Tryd.ntmps10
      go_wp2_with fail
      refine hl.mono ?_
      rintro e w' ⟨rfl, rfl⟩
      go_wp2
      go_ret
      exact ⟨by rw [HE.out]; rfl, rfl⟩
    | true =>
      rw [hq] at hl
      have HN1 : Hid (nameTo (numsOf s) 1) := fun i h hi => by
        obtain rfl : i = 0 := by omega
        rw [if_pos rfl, hg]; exact hq
      clear hq hg
      go_enter Tryd.func10, Tryd.ntmps10
      go_wp2_with fail
      refine hl.mono ?_
      rintro e w' ⟨rfl, rfl⟩
      go_wp2
      go_loopw [3] (fun v wr => ∃ k : Nat, 1 ≤ k ∧ k ≤ s.size ∧ v = .int .i64 k ∧ nameTo (numsOf s) k ∧ wr = w) (fun v _ => s.size - (intOf v).toNat)
      case atStart => exact ⟨1, Nat.le_refl _, by omega, rfl, HN1.out, rfl⟩
      case round =>
        obtain ⟨k, hk1, hk2, rfl, hnt, rfl⟩ := hrel
        have HNT : Hid (nameTo (numsOf s) k) := hnt
        clear hnt
        by_cases hlt : k < s.size
        · have hzl : k < (numsOf s).length := by rw [numsOf_length]; exact hlt
          have hgk := numsOf_get s k hlt hzl
          have hc : Calls Tryd.prog 19 #[.int .i64 ((s[k]'hlt).toNat : Int)] wr fun e w' => e = .returned (.bool (nameR ((s[k]'hlt).toNat : Int))) ∧ wr = w' := (refGoes_any _ wr).mono fun _ _ h => ⟨h.1, h.2.symm⟩
          have hbk : ((s[k]'hlt).toNat : Int) < 256 := by have := (s[k]'hlt).toNat_lt; omega
          have hwk : IntKind.i64.wrap ((s[k]'hlt).toNat : Int) = ((s[k]'hlt).toNat : Int) := by rw [IntKind.wrap_i64]; omega
          cases hq2 : nameR ((s[k]'hlt).toNat : Int) with
          | true =>
            rw [hq2] at hc
            have HNT2 : Hid (nameTo (numsOf s) (k + 1)) := fun i h hi => by
              by_cases e : i = k
              · subst e; rw [if_neg (by omega), hgk]; exact hq2
              · exact HNT.out i h (by omega)
            clear hgk hq2
            go_wp2_with (go_at_call 19; refine hc.mono ?_; rintro e w' ⟨rfl, rfl⟩)
            go_roundw
            case rel => exact ⟨k + 1, by omega, by omega, by go_num, HNT2.out, trivial⟩
            case measure => simp [intOf]; omega
          | false =>
            rw [hq2] at hc
            have HE : Hid (fin = false) := HF.out.trans (nameZ_false (i := k) hzl (by rw [if_neg (by omega), hgk]; exact hq2))
            clear hgk hq2
            go_wp2_with (go_at_call 19; refine hc.mono ?_; rintro e w' ⟨rfl, rfl⟩)
            go_ret
            exact ⟨by rw [HE.out]; rfl, rfl⟩
        · obtain rfl : k = s.size := by omega
          have HE : Hid (fin = true) := by
            show _ = _
            rw [HF.out]
            exact nameZ_true (by rw [numsOf_length]; exact HNT.out) (by rw [numsOf_length]; omega)
          go_wp2
          go_ret
          exact ⟨by rw [HE.out]; rfl, rfl⟩
end Go.Proofs.YtdjhgjnhfmggjaaDoor
