/-
  scansionlaw07.LexTokens, walked: it answers true.
-/
import Derived.Test.YtdjhgjnhfmggjaaGreatDoorRefToks
namespace Go.Proofs.YtdjhgjnhfmggjaaGreatDoor
open Go.RowKit Go.Shelf S1
set_option linter.unusedVariables false

theorem tokens_long (a : Option Addr) (n cap : Nat) (w : World) (h : 65536 < n) : Calls Tryz.prog 6 #[.slice a n cap] w fun e w' => e = .returned (.tuple #[.slice none 0 0, .int .i64 0, .int .i64 3]) ∧ w' = w := by
  have hbig : decide (65536 < (n : Int)) = true := by simp; omega
  go_enter Tryz.func6, Tryz.ntmps6
  go_wp2
  go_ret3
  exact ⟨rfl, rfl⟩
theorem refTokens_long (a : Option Addr) (n cap : Nat) (w : World) (h : 65536 < n) : Calls Tryz.prog 7 #[.slice a n cap] w fun e w' => e = .returned (.tuple #[.slice none 0 0, .int .i64 0, .int .i64 3]) ∧ w' = w := by
  have hbig : decide (65536 < (n : Int)) = true := by simp; omega
  go_enter Tryz.func7, Tryz.ntmps7
  go_wp2
  go_ret3
  exact ⟨rfl, rfl⟩
theorem same_none (w : World) : Calls Tryz.prog 8 #[.slice none 0 0, .slice none 0 0] w fun e w' => e = .returned (.bool true) ∧ ∃ nd, w' = w.drewN nd :=
  sameT_any [] [] (by simp) rfl _ _ w (toks_of_row (World.ownsRow_nil w w.heap.size 35 4)) (toks_of_row (World.ownsRow_nil w w.heap.size 35 4)) (fun i h => (by cases h))

set_option maxRecDepth 100000 in
set_option maxHeartbeats 4000000 in
theorem lexTokens_any (zs : List Int) (hby : Byt zs) (ta : Option Addr) (cap : Nat) (w : World) (hsv : SynV w) (hI : BytesAt w.heap.size w (.slice ta zs.length cap) zs) :
    Calls Tryz.prog 3 #[.slice ta zs.length cap] w fun e w' => e = .returned (.bool true) ∧ Below w.heap.size w w' := by
  have haw := awake_any w hsv
  by_cases hz : 2000 < zs.length
  · have hz' : decide (2000 < (zs.length : Int)) = true := by simp; omega
    by_cases hy : zs.length ≤ 65536
    · have hy' : decide ((zs.length : Int) ≤ 65536) = true := by simp; omega
      clear hz hy
      go_enter Tryz.func3, Tryz.ntmps3
      go_wp2_with fail
      refine haw.mono ?_
      rintro e w1 ⟨rfl, hB1⟩
      go_wp2
      go_ret
      exact ⟨rfl, hB1⟩
    · have hy' : decide ((zs.length : Int) ≤ 65536) = false := by simp; omega
      have h1 := fun W => tokens_long ta zs.length cap W (by omega)
      have h2 := fun W => refTokens_long ta zs.length cap W (by omega)
      clear hz hy
      go_enter Tryz.func3, Tryz.ntmps3
      go_wp2_with fail
      refine haw.mono ?_
      rintro e w1 ⟨rfl, hB1⟩
      clear haw
      go_wp2_with fail
      refine (h1 _).mono ?_
      rintro e w' ⟨rfl, rfl⟩
      go_wp2_with fail
      refine (h2 _).mono ?_
      rintro e w' ⟨rfl, rfl⟩
      go_wp2_with fail
      refine (same_none _).mono ?_
      rintro e w' ⟨rfl, nd, rfl⟩
      go_wp2
      go_ret
      exact ⟨rfl, below_drewN' hB1 nd⟩
  · have hz' : decide (2000 < (zs.length : Int)) = false := by simp; omega
    obtain ⟨us, hus⟩ := Run.exists zs zs.length 0 (by omega) (Nat.zero_le _)
    have HUS : Hid (Run zs 0 us zs.length) := hus
    have HI : Hid (BytesAt w.heap.size w (.slice ta zs.length cap) zs) := hI
    have hzl : zs.length ≤ 2000 := by omega
    clear hus hI hz
    go_enter Tryz.func3, Tryz.ntmps3
    go_wp2_with fail
    refine haw.mono ?_
    rintro e w1 ⟨rfl, hB1⟩
    have hs1 := hB1.size
    have htk := tokens_any zs hby (by omega) us HUS.out ta cap w1 (hsv.grown (grownR_below hB1 none) (by simp)) ((HI.out.below hB1).mono hs1)
    obtain ⟨tr, htr⟩ : ∃ tr, tr = toksL zs.length us := ⟨_, rfl⟩
    rw [← htr] at htk
    have HTR : Hid (tr = toksL zs.length us) := htr
    clear htr haw
    go_wp2_with fail
    refine htk.mono ?_
    rintro e w2 (⟨a, x, htr, rfl, hx, hB2⟩ | ⟨l, v, htr, hll, rfl, hown, hso, hB2⟩)
    · have hs2 := hB2.size
      have hB02 : Below w.heap.size w w2 := hB1.trans (hB2.mono hs1)
      have hrt := refTokens_any zs hby (by omega) us HUS.out ta cap w2 ((HI.out.below hB02).mono (by omega))
      rw [← HTR.out, htr] at hrt
      clear htk htr
      go_wp2_with fail
      refine hrt.mono ?_
      rintro e w3 (⟨a', x', he, rfl, hx', hB3⟩ | ⟨l', v', he, _⟩)
      · obtain ⟨rfl, rfl⟩ : a = a' ∧ x = x' := Prod.mk.inj (Sum.inl.inj he)
        have hB03 : Below w.heap.size w w3 := hB02.trans (hB3.mono (by omega))
        clear hrt hx hx' he
        have hxx : (x == x) = true := by simp
        have haa : ((a : Int) == (a : Int)) = true := by simp
        go_wp2_with fail
        refine (same_none _).mono ?_
        rintro e w' ⟨rfl, nd, rfl⟩
        go_wp2
        go_ret
        exact ⟨rfl, below_drewN' hB03 nd⟩
      · cases he
    · have hs2 := hB2.size
      have hB02 : Below w.heap.size w w2 := hB1.trans (hB2.mono hs1)
      have hrt := refTokens_any zs hby (by omega) us HUS.out ta cap w2 ((HI.out.below hB02).mono (by omega))
      rw [← HTR.out, htr] at hrt
      have HTI : Hid (ToksIn w2 v l) := toks_of_row hown
      have HSO : Hid (SetsOwn w2 w1.heap.size l) := hso
      obtain ⟨va, vc, rfl, _, _⟩ := toks_of_row hown
      clear htk htr hown hso
      go_wp2_with fail
      refine hrt.mono ?_
      rintro e w3 (⟨a', x', he, _⟩ | ⟨l', v', he, rfl, hown', hso', hB3⟩)
      · cases he
      · have hm : l.map Prod.fst = l'.map Prod.fst := Sum.inr.inj he
        have hB03 : Below w.heap.size w w3 := hB02.trans (hB3.mono (by omega))
        have hlen : l'.length = l.length := by have := congrArg List.length hm; simpa using this.symm
        have hsm := sameT_any l l' (by omega) hlen (.slice va l.length vc) v' w3 (HTI.out.below hB3) (toks_of_row hown') (fun i h h' => by
          have e1 : l[i].1 = l'[i].1 := by
            have h1 := List.getElem_map (f := Prod.fst) (l := l) (i := i) (h := by simpa using h)
            have h2 := List.getElem_map (f := Prod.fst) (l := l') (i := i) (h := by simpa using h')
            rw [← h1, ← h2]
            simp only [hm]
          obtain ⟨s, u1, u2, u3⟩ := HSO.out.at i h
          obtain ⟨s', k1, k2⟩ := hso' l'[i] (List.getElem_mem h')
          rw [← e1] at k1
          obtain rfl := u1.unique k1
          exact ⟨by rw [e1], by rw [e1], by rw [e1], s, by omega, u3.below hB3, rng_of_row k2⟩)
        obtain ⟨va', vc', rfl, _, _⟩ := toks_of_row hown'
        clear hrt he hown' hso' hm hlen
        go_wp2_with fail
        refine hsm.mono ?_
        rintro e w' ⟨rfl, nd, rfl⟩
        go_wp2
        go_ret
        exact ⟨rfl, below_drewN' hB03 nd⟩
end Go.Proofs.YtdjhgjnhfmggjaaGreatDoor
