/-
  The law UtfDecodes: true, for all bytes.
-/
import Derived.Test.YtahgjhpcfmjjkaaDoorArgs
namespace Go.Proofs.YtahgjhpcfmjjkaaDoor
open Go.RowKit
set_option linter.unusedVariables false

theorem decode_any (zs : List Int) (hby : Byt zs) (hlen : zs.length ≤ 10000) (a : Option Addr) (len cap : Nat) (w : World) (hI : BytesAt w.heap.size w (.slice a len cap) zs) :
    Calls Tryd.prog 13 #[.slice a len cap] w fun e w' => ∃ v us, e = .returned v ∧ Run zs 0 us zs.length ∧ w'.ownsRow w.heap.size 40 4 v us.length (cellsUs us) ∧ Below w.heap.size w w' :=
  callsIn_wide.1 (decode_in 3 (Nat.le_refl _) _ a len cap rfl zs hby hlen w hI)

set_option maxRecDepth 100000 in
set_option maxHeartbeats 1000000 in
theorem refDecode_nil (a : Option Addr) (cap : Nat) (w : World) :
    Calls Tryd.prog 14 #[.slice a 0 cap] w fun e w' => e = .returned (.slice none 0 0) ∧ w' = w := by
  go_enter Tryd.func14, Tryd.ntmps14
  go_wp2
  refine wp_loop_rounds 1 ?_
  rw [rounds_succ]
  go_wp2
  go_ret
  exact ⟨rfl, rfl⟩

theorem refDecode_any (zs : List Int) (hby : Byt zs) (hlen : zs.length ≤ 10000) (a : Option Addr) (len cap : Nat) (w : World) (hI : BytesAt w.heap.size w (.slice a len cap) zs) :
    Calls Tryd.prog 14 #[.slice a len cap] w fun e w' => ∃ v us, e = .returned v ∧ Run zs 0 us zs.length ∧ w'.ownsRow w.heap.size 40 4 v us.length (cellsUs us) ∧ Below w.heap.size w w' := by
  rcases hI with ⟨a', cap', h1, rfl⟩ | ⟨b, off, cap', h1, h2, h3, h4⟩
  · obtain ⟨rfl, rfl, rfl⟩ : a = a' ∧ len = 0 ∧ cap = cap' := by simpa using h1
    exact (refDecode_nil a cap w).mono fun e w' h => ⟨_, [], h.1, rfl, by rw [h.2]; exact World.ownsRow_nil _ _ _ _, by rw [h.2]; exact Below.refl _ _⟩
  · rw [h1]
    exact refDecode_core zs hby hlen b off cap' h2 w h3 h4

set_option maxHeartbeats 1000000 in
theorem utfDecodes_any (a : Option Addr) (len cap : Nat) (zs : List Int) (w : World) (hz : IsRow .u8 w a len cap zs) (hm : Marks w) (h1 : 1 ≤ w.heap.size) :
    Calls Tryd.prog 4 #[.slice a len cap] w fun e w' => e = .returned (.bool true) ∧ Below w.heap.size w w' := by
  obtain ⟨l, hl, hby, hI⟩ := hz.bytes
  by_cases hlen : len ≤ 5000
  · have h5 : (len : Int) ≤ 5000 := by omega
    go_enter Tryd.func4, Tryd.ntmps4
    go_wp2_with fail
    refine (awake_any w hm h1).mono ?_
    rintro e w1 ⟨rfl, hB1⟩
    have hs1 := hB1.size
    go_wp2_with fail
    refine (decode_any l hby (by omega) a len cap w1 ((hI.below hB1).mono hs1)).mono ?_
    rintro e w2 ⟨v2, us, rfl, hr2, ho2, hB2⟩
    have hs2 := hB2.size
    go_wp2_with fail
    refine (refDecode_any l hby (by omega) a len cap w2 (((hI.below hB1).mono hs1 |>.below hB2).mono hs2)).mono ?_
    rintro e w3 ⟨v3, vs, rfl, hr3, ho3, hB3⟩
    have hs3 := hB3.size
    obtain rfl : us = vs := Run.unique hr2 hr3
    have hB : Below w.heap.size w w3 := (hB1.trans (hB2.mono hs1)).trans (hB3.mono (by omega))
    go_wp2_with fail
    refine (same_any us (by have := Run.le hr2 (Nat.zero_le _); omega) v2 v3 w3 ((units_of_row ho2).below hB3) (units_of_row ho3)).mono ?_
    rintro e w4 ⟨rfl, hB4⟩
    have hBz : Below w.heap.size w w4 := hB.trans (hB4.mono (by omega))
    clear ho2 ho3 hB1 hB2 hB3 hB4 hm hB hI hr2 hr3
    go_wp2
    go_ret
    exact ⟨rfl, hBz⟩
  · have h5 : ¬ (len : Int) ≤ 5000 := by omega
    go_enter Tryd.func4, Tryd.ntmps4
    go_wp2_with fail
    refine (awake_any w hm h1).mono ?_
    rintro e w1 ⟨rfl, hB1⟩
    clear hI
    go_wp2
    go_ret
    exact ⟨rfl, hB1⟩
end Go.Proofs.YtahgjhpcfmjjkaaDoor
