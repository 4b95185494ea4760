/-
  What the document's alphabet answers: Count, Of, Mask, Any; Same. The trie's Of, and the alphabet's, turn nothing.
-/
import Derived.Test.YtmknifnhcgdkaaaX49
import Derived.BigQuiet
namespace Go.Proofs.Ytmknifnhcgdkaaa
open Go.RowKit Go.Shelf
set_option linter.unusedVariables false

/-- The document's alphabet of the sets S, in memory. -/
def RAlS (w : World) (pv : Value) (S : List (List Rg)) : Prop := ∃ g v vm vl, pv = .pointer (some ⟨g, 0, none⟩) ∧ RAlp w g v vm vl (clsS S) ((clsS S).map (fstS S)) ∧ StsIn w v S
theorem RAlS.below {w w' : World} {pv : Value} {S : List (List Rg)} (h : RAlS w pv S) (hb : Below w.heap.size w w') : RAlS w' pv S := by
  obtain ⟨g, v, vm, vl, rfl, h1, h2⟩ := h
  exact ⟨g, v, vm, vl, rfl, h1.below hb, h2.below hb⟩
theorem RAlS.ptr {w : World} {pv : Value} {S : List (List Rg)} (h : RAlS w pv S) : ∃ g, pv = .pointer (some ⟨g, 0, none⟩) := by
  obtain ⟨g, v, vm, vl, rfl, _⟩ := h
  exact ⟨g, rfl⟩
theorem rcount_any (S : List (List Rg)) (pv : Value) (w : World) (h : RAlS w pv S) :
    Calls Try.prog 19 #[pv] w fun e w' => e = .returned (.int .i64 ((clsS S).length : Int)) ∧ w' = w := by
  obtain ⟨g, v, vm, vl, rfl, ⟨hg, ⟨a, cap, rfl, _, _⟩, h2⟩, h3⟩ := h
  have hc : w.cell? ⟨g, 1, none⟩ = some (.slice a (clsS S).length cap) := S3.cell_row hg rfl
  clear h2 h3 hg
  go_enter Try.func19, Try.ntmps19
  go_wp2
  go_ret
  exact ⟨rfl, rfl⟩
theorem rmaskc_any (S : List (List Rg)) (pv : Value) (c : Int) (w : World) (h : RAlS w pv S) :
    Calls Try.prog 15 #[pv, .int .i64 c] w fun e w' => e = .returned (.int .u64 (mskC S c : Nat)) ∧ w' = w := by
  obtain ⟨g, v, vm, vl, rfl, ⟨hg, ⟨a, cap, rfl, hcap, hi⟩, h2⟩, h3⟩ := h
  have hc : w.cell? ⟨g, 1, none⟩ = some (.slice a (clsS S).length cap) := S3.cell_row hg rfl
  by_cases q0 : c < 0
  · have e : mskC S c = 0 := by unfold mskC; rw [if_neg (by omega)]
    rw [e]
    clear e h2 h3 hg hi
    go_enter Try.func15, Try.ntmps15
    go_wp2
    go_ret
    exact ⟨rfl, rfl⟩
  by_cases q1 : c < ((clsS S).length : Int)
  · obtain ⟨k, rfl⟩ : ∃ k : Nat, c = (k : Int) := ⟨c.toNat, by omega⟩
    have hk : k < (clsS S).length := by omega
    obtain ⟨g2, off, rfl, hg2, hck⟩ := hi k hk
    have e : mskC S (k : Int) = (clsS S)[k] := by unfold mskC; rw [if_pos (by omega), Int.toNat_natCast, List.getElem?_eq_getElem hk]; rfl
    rw [e]
    obtain ⟨x, hx⟩ : ∃ x, x = (clsS S)[k] := ⟨_, rfl⟩
    rw [← hx] at hck ⊢
    have q2 : ¬ (((clsS S).length : Int) ≤ (k : Int)) := by omega
    clear hx e h2 h3 hg hi
    go_enter Try.func15, Try.ntmps15
    go_wp2
    go_ret
    exact ⟨rfl, rfl⟩
  · have e : mskC S c = 0 := by unfold mskC; rw [if_pos (by omega), List.getElem?_eq_none (by omega)]; rfl
    rw [e]
    have q2 : (((clsS S).length : Int) ≤ c) := by omega
    clear e h2 h3 hg hi
    go_enter Try.func15, Try.ntmps15
    go_wp2
    go_ret
    exact ⟨rfl, rfl⟩
theorem rany_any (S : List (List Rg)) (pv : Value) (c : Int) (w : World) (h : RAlS w pv S) :
    Calls Try.prog 17 #[pv, .int .i64 c] w fun e w' => e = .returned (.int .i64 (anyC S c)) ∧ w' = w := by
  obtain ⟨g, v, vm, vl, rfl, ⟨hg, ⟨am, capm, rfl, _, _⟩, ⟨a, cap, rfl, hcap, hi⟩⟩, h3⟩ := h
  rw [List.length_map] at hcap hg
  have hcm : w.cell? ⟨g, 1, none⟩ = some (.slice am (clsS S).length capm) := S3.cell_row hg rfl
  have hc : w.cell? ⟨g, 2, none⟩ = some (.slice a (clsS S).length cap) := S3.cell_row hg rfl
  by_cases q0 : c < 0
  · have e : anyC S c = -1 := by unfold anyC; rw [if_neg (by omega)]
    rw [e]
    clear e h3 hg hi
    go_enter Try.func17, Try.ntmps17
    go_wp2
    go_ret
    exact ⟨rfl, rfl⟩
  by_cases q1 : c < ((clsS S).length : Int)
  · obtain ⟨k, rfl⟩ : ∃ k : Nat, c = (k : Int) := ⟨c.toNat, by omega⟩
    have hk : k < (clsS S).length := by omega
    obtain ⟨g2, off, rfl, hg2, hck⟩ := hi k (by simpa using hk)
    have e : anyC S (k : Int) = ((clsS S).map (fstS S))[k]'(by simpa using hk) := by unfold anyC; rw [if_pos (by omega), Int.toNat_natCast, List.getElem?_eq_getElem (by simpa using hk)]; rfl
    rw [e]
    obtain ⟨x, hx⟩ : ∃ x, x = ((clsS S).map (fstS S))[k]'(by simpa using hk) := ⟨_, rfl⟩
    rw [← hx] at hck ⊢
    have q2 : ¬ (((clsS S).length : Int) ≤ (k : Int)) := by omega
    clear hx e h3 hg hi
    go_enter Try.func17, Try.ntmps17
    go_wp2
    go_ret
    exact ⟨rfl, rfl⟩
  · have e : anyC S c = -1 := by unfold anyC; rw [if_pos (by omega), List.getElem?_eq_none (by simp; omega)]; rfl
    rw [e]
    have q2 : (((clsS S).length : Int) ≤ c) := by omega
    clear e h3 hg hi
    go_enter Try.func17, Try.ntmps17
    go_wp2
    go_ret
    exact ⟨rfl, rfl⟩
theorem rof_any (S : List (List Rg)) (pv : Value) (r : Int) (w : World) (hok : OkA S) (hS : S.length ≤ 60) (hl : ∀ s ∈ S, s.length ≤ 600000) (h : RAlS w pv S) :
    Calls Try.prog 13 #[pv, .int .i64 r] w fun e w' => e = .returned (.int .i64 (ofC S r)) ∧ w' = w := by
  obtain ⟨g, v, vm, vl, rfl, h1, h3⟩ := h
  by_cases q0 : r < 0
  · have e : ofC S r = -1 := by unfold ofC; rw [if_neg (by omega)]
    rw [e]
    clear e h1 h3
    go_enter Try.func13, Try.ntmps13
    go_wp2
    go_ret
    exact ⟨rfl, rfl⟩
  by_cases q1 : 1114111 < r
  · have e : ofC S r = -1 := by unfold ofC; rw [if_neg (by omega)]
    rw [e]
    clear e h1 h3
    go_enter Try.func13, Try.ntmps13
    go_wp2
    go_ret
    exact ⟨rfl, rfl⟩
  have hc0 : w.cell? ⟨g, 0, none⟩ = some v := S3.cell_row h1.1 rfl
  have HM := rmask_any S v r w hS hl h3
  have HF := rfind_any g _ _ _ _ _ (maskN S r) w (by have := hok.2.1; omega) h1
  rw [findR_cls (mask_met hok.1 (by omega) (by omega)), ← ofC_in (by omega) (by omega)] at HF
  obtain ⟨a, cap, rfl, _, _⟩ := h3
  clear h1 hok hl
  go_enter Try.func13, Try.ntmps13
  go_wp2_with fail
  refine HM.mono ?_
  rintro e w1 ⟨rfl, rfl⟩
  clear HM
  go_wp2_with fail
  refine HF.mono ?_
  rintro e w2 ⟨rfl, rfl⟩
  clear HF
  go_wp2
  go_ret
  exact ⟨rfl, rfl⟩
set_option maxRecDepth 100000 in
set_option maxHeartbeats 2000000 in
theorem same64_any (us : List Nat) (hlen : us.length ≤ 600000) (va vb : Value) (w : World) (ha : U64In w va us) (hb : U64In w vb us) :
    Calls Try.prog 20 #[va, vb] w fun e w' => e = .returned (.bool true) ∧ ∃ m, w' = w.drewN m := by
  obtain ⟨a, ca, rfl, hca, hia⟩ := ha
  obtain ⟨b, cb, rfl, hcb, hib⟩ := hb
  have HA : Hid (∀ i, (h : i < us.length) → ∃ g off, a = some ⟨g, off, none⟩ ∧ g < w.heap.size ∧ w.cell? ⟨g, off + i, none⟩ = some (.int .u64 (us[i] : Nat))) := hia
  have HB : Hid (∀ i, (h : i < us.length) → ∃ g off, b = some ⟨g, off, none⟩ ∧ g < w.heap.size ∧ w.cell? ⟨g, off + i, none⟩ = some (.int .u64 (us[i] : Nat))) := hib
  clear hia hib
  have hneq : ((us.length : Int) != (us.length : Int)) = false := by simp
  go_enter Try.func20, Try.ntmps20
  go_wp2
  go_loopw [5] (fun i wr => ∃ k : Nat, k ≤ us.length ∧ i = .int .i64 k ∧ ∃ nd, wr = w.drewN nd) (fun i _ => us.length - (intOf i).toNat)
  case atStart => exact ⟨0, Nat.zero_le _, rfl, 0, rfl⟩
  case round =>
    obtain ⟨k, hk, rfl, nd, rfl⟩ := hrel
    by_cases hlt : k < us.length
    · obtain ⟨ga, oa, rfl, hga, a0⟩ := HA.out k hlt
      obtain ⟨gb, ob, rfl, hgb, b0⟩ := HB.out k hlt
      obtain ⟨u, hu⟩ : ∃ u, u = us[k] := ⟨_, rfl⟩
      rw [← hu] at a0 b0
      clear hu
      have hk0 : (0 : Int) ≤ (k : Int) := by omega
      have hk1 : (k : Int) < (us.length : Int) := by omega
      go_wp2
      go_quiet (fail)
      go_wp2
      go_roundw
      case rel => exact ⟨k + 1, by omega, by go_num, _, rfl⟩
      case measure => simp [intOf]; omega
    · obtain rfl : k = us.length := by omega
      go_wp2
      go_ret
      exact ⟨rfl, _, rfl⟩
end Go.Proofs.Ytmknifnhcgdkaaa

namespace Go.Proofs.Ytmknifnhcgdkaaa.S3
open Go.RowKit
set_option linter.unusedVariables false
set_option maxRecDepth 100000 in
set_option maxHeartbeats 4000000 in
theorem of_quiet (like : List Int) (F : List (List Int)) (pv : Value) (r : Int) (w : World) (ht : TrieAt w.heap.size w pv like F) (hf : Fine like F) :
    Calls Try.prog 36 #[pv, .int .i64 r] w fun e w' => e = .returned (.int .u8 (ofT like F r)) ∧ ∃ m, w' = w.drewN m := by
  obtain ⟨g, gb, cap, rfl, hg, hgb, hgc, hrg, hcap⟩ := ht
  obtain ⟨u, hu⟩ : ∃ u, u = ofT like F r := ⟨_, rfl⟩
  rw [← hu]
  have HU : Hid (u = ofT like F r) := hu
  clear hu
  by_cases n1 : r < 0
  · have e0 : u = 0 := by rw [HU.out]; unfold ofT; rw [if_neg (by omega)]
    subst e0
    go_enter Try.func36, Try.ntmps36
    go_wp2
    go_ret
    exact ⟨rfl, 0, rfl⟩
  by_cases n2 : 1114111 < r
  · have e0 : u = 0 := by rw [HU.out]; unfold ofT; rw [if_neg (by omega)]
    subst e0
    go_enter Try.func36, Try.ntmps36
    go_wp2
    go_ret
    exact ⟨rfl, 0, rfl⟩
  · obtain ⟨r, rfl⟩ : ∃ r' : Nat, r = (r' : Int) := ⟨r.toNat, by omega⟩
    obtain ⟨k, hk⟩ : ∃ k, k = r / 256 := ⟨_, rfl⟩
    obtain ⟨j, hj⟩ : ∃ j, j = r % 256 := ⟨_, rfl⟩
    have hkl : k < like.length := by rw [hf.len]; omega
    have hm0 := hf.lt like[k] (List.getElem_mem hkl)
    obtain ⟨m, hm⟩ : ∃ m : Nat, (m : Int) = like[k] := ⟨like[k].toNat, by omega⟩
    have hmF : m < F.length := by omega
    have hcl := trCells_like (v := .slice (some ⟨gb, 0, none⟩) F.length cap) hkl
    rw [← hm] at hcl
    have hfl : F.flatten[m * 256 + j]? = some u := by
      have hb := hf.isB F[m] (List.getElem_mem hmF)
      have hjb : j < (F[m]).length := by rw [hb.1]; omega
      rw [flat_at (isB_even hf.isB) hmF (by omega), List.getElem?_eq_getElem hjb]
      congr 1
      rw [HU.out]
      unfold ofT
      rw [if_pos (by omega)]
      have e1 : ((r : Int) / 256).toNat = k := by omega
      have e2 : ((r : Int) % 256).toNat = j := by omega
      rw [e1, e2, List.getElem?_eq_getElem hkl]
      simp only [Option.getD_some]
      rw [← hm, Int.toNat_natCast, flat_at (isB_even hf.isB) hmF (by omega), List.getElem?_eq_getElem hjb]
      rfl
    have HCF : Hid (∀ w', Below w.heap.size w w' → w'.cell? ⟨g, 4352, none⟩ = some (.slice (some ⟨gb, 0, none⟩) F.length cap)) := fun w' hw' => (hw'.cell (p := ⟨g, 4352, none⟩) hg).trans (cell_row hgc (trCells_at hf.len))
    have HCK : Hid (∀ w', Below w.heap.size w w' → w'.cell? ⟨g, k, none⟩ = some (.int .u8 (m : Int))) := fun w' hw' => (hw'.cell (p := ⟨g, k, none⟩) hg).trans (cell_row hgc hcl)
    have HCU : Hid (∀ w', Below w.heap.size w w' → w'.cell? ⟨gb, m * 256 + j, none⟩ = some (.int .u8 u)) := fun w' hw' => (hw'.cell (p := ⟨gb, m * 256 + j, none⟩) hgb).trans (by
      have := hrg (m * 256 + j) (.int .u8 u) (by unfold cellsBl i8; rw [List.getElem?_map, hfl]; rfl)
      rwa [Nat.zero_add] at this)
    have hq : (r : Int).tdiv 256 = (k : Int) := by rw [Int.tdiv_eq_ediv_of_nonneg (by omega)]; omega
    have hr : (r : Int).tmod 256 = (j : Int) := by rw [Int.tmod_eq_emod_of_nonneg (by omega)]; omega
    have hk4 : (k : Int) < 4352 := by omega
    have hwk : IntKind.i64.wrap (k : Int) = (k : Int) := IntWalk.i64_in _ (by omega)
    have hwj : IntKind.i64.wrap (j : Int) = (j : Int) := IntWalk.i64_in _ (by omega)
    have hj2 : (j : Int) < 256 := by omega
    have hmi : (m : Int) < (F.length : Int) := by omega
    have hm256 : (m : Int) < 256 := by have := hf.le; omega
    clear hk hj hkl hm hcl hfl hrg hgc hm0
    have hCF := HCF.out w (Below.refl _ _)
    have hCK := HCK.out w (Below.refl _ _)
    have hCU := HCU.out w (Below.refl _ _)
    have hk0 : (0 : Int) ≤ (k : Int) := by omega
    have hj0 : (0 : Int) ≤ (j : Int) := by omega
    have hm0 : (0 : Int) ≤ (m : Int) := by omega
    go_enter Try.func36, Try.ntmps36
    go_wp2
    go_quiet (fail)
    go_wp2
    go_ret
    exact ⟨rfl, _, rfl⟩
end Go.Proofs.Ytmknifnhcgdkaaa.S3
namespace Go.Proofs.Ytmknifnhcgdkaaa
open Go.RowKit Go.Shelf
set_option linter.unusedVariables false
theorem of9_quiet (S : List (List Rg)) (pv : Value) (r : Int) (w : World) (hok : OkA S) (h : AlpAt w pv S) :
    Calls Try.prog 12 #[pv, .int .i64 r] w fun e w' => e = .returned (.int .i64 (ofC S r)) ∧ ∃ m, w' = w.drewN m := by
  obtain ⟨g, vm, vl, pt, rfl, hg, h1, h2, h3⟩ := h
  by_cases q0 : r < 0
  · have e : ofC S r = -1 := by unfold ofC; rw [if_neg (by omega)]
    rw [e]
    clear e h1 h2 h3 hg
    go_enter Try.func12, Try.ntmps12
    go_wp2
    go_ret
    exact ⟨rfl, 0, rfl⟩
  by_cases q1 : 1114111 < r
  · have e : ofC S r = -1 := by unfold ofC; rw [if_neg (by omega)]
    rw [e]
    clear e h1 h2 h3 hg
    go_enter Try.func12, Try.ntmps12
    go_wp2
    go_ret
    exact ⟨rfl, 0, rfl⟩
  have hc : w.cell? ⟨g, 2, none⟩ = some pt := cell_of_row _ _ 2 _ _ _ hg
  have HO := S3.of_quiet _ _ pt r w h3 hok.fine
  rw [S3.of_val (by omega) (by omega), val_ents hok.1 (by omega) (by omega)] at HO
  have e : ofC S r = (((clsS S).idxOf (maskN S r) : Nat) : Int) := by unfold ofC; rw [if_pos (by omega)]
  have hlt : (clsS S).idxOf (maskN S r) < (clsS S).length := List.idxOf_lt_length_of_mem (mask_met hok.1 (by omega) (by omega))
  have hlt2 := hok.2.1
  rw [e]
  obtain ⟨x, hx⟩ : ∃ x, x = (clsS S).idxOf (maskN S r) := ⟨_, rfl⟩
  rw [← hx] at HO hlt ⊢
  have hx2 : (x : Int) ≤ 200 := by omega
  obtain ⟨gt, rfl⟩ := S3.TrieAt.ptr h3
  clear hx e h1 h2 h3 hg hok hlt hlt2
  go_enter Try.func12, Try.ntmps12
  go_wp2_with fail
  refine HO.mono ?_
  rintro e w1 ⟨rfl, m, rfl⟩
  clear HO
  go_wp2
  go_ret
  exact ⟨rfl, m, rfl⟩
end Go.Proofs.Ytmknifnhcgdkaaa
