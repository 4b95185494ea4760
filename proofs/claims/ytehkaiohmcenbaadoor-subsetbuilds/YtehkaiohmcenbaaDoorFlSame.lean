/-
  scansionref11.Same, where both are the same.
-/
import Derived.Test.YtehkaiohmcenbaaDoorFlLaw
namespace Go.Proofs.YtehkaiohmcenbaaDoor
open Go.RowKit Go.Shelf
set_option linter.unusedVariables false

theorem drewN_heap (w : World) : ∀ k, (w.drewN k).heap = w.heap
  | 0 => rfl
  | k + 1 => drewN_heap w.drew k
theorem IntsAt.drewN {w : World} {v : Value} {l : List Int} (h : IntsAt w v l) (k : Nat) : IntsAt (w.drewN k) v l := h.below (below_drewN' (Below.refl _ _) k)

set_option maxRecDepth 100000 in
set_option maxHeartbeats 4000000 in
theorem sameInts_q (zs : List Int) (hlen : zs.length ≤ 100000) (va vb : Value) (w : World) (ha : IntsAt w va zs) (hb : IntsAt w vb zs) :
    Calls Tryd.prog 16 #[va, vb] w fun e w' => e = .returned (.bool true) ∧ ∃ nd, w' = w.drewN nd := by
  have HA : Hid (IntsAt w va zs) := ha
  have HB : Hid (IntsAt w vb zs) := hb
  obtain ⟨a, ca, rfl, hca⟩ := ha.slice
  obtain ⟨b, cb, rfl, hcb⟩ := hb.slice
  obtain ⟨len, hle⟩ : ∃ n, n = zs.length := ⟨_, rfl⟩
  have HLE : Hid (len = zs.length) := hle
  rw [← hle] at hca hcb hlen HA HB ⊢
  clear hle ha hb
  have hneq : ((len : Int) != (len : Int)) = false := by simp
  go_enter Tryd.func16, Tryd.ntmps16
  go_wp2
  go_loopw [5] (fun i wr => ∃ k : Nat, k ≤ len ∧ i = .int .i64 k ∧ ∃ nd, wr = w.drewN nd) (fun i _ => len - (intOf i).toNat)
  case atStart => exact ⟨0, Nat.zero_le _, rfl, 0, rfl⟩
  case round =>
    obtain ⟨k, hk, rfl, nd, rfl⟩ := hrel
    by_cases hlt : k < len
    · have hkz : k < zs.length := by rw [← HLE.out]; exact hlt
      obtain ⟨ga, oa, rfl, hga, a0⟩ := HA.out.at hkz
      obtain ⟨gb, ob, rfl, hgb, b0⟩ := HB.out.at hkz
      obtain ⟨z, hz⟩ : ∃ z : Int, z = zs[k] := ⟨_, rfl⟩
      rw [← hz] at a0 b0
      clear hz
      have hk0 : (0 : Int) ≤ (k : Int) := by omega
      have hk1 : (k : Int) < (len : Int) := by omega
      have hzz : (z != z) = false := by simp
      go_wp2
      go_quiet (fail)
      go_wp2
      go_roundw
      case rel => exact ⟨k + 1, by omega, by go_num, _, rfl⟩
      case measure => simp [intOf]; omega
    · obtain rfl : k = len := by omega
      go_wp2
      go_ret
      exact ⟨rfl, _, rfl⟩

set_option maxRecDepth 100000 in
set_option maxHeartbeats 16000000 in
theorem same_any (d : AutD) (av bv : Value) (w : World) (ha : AutAt w av d) (hb : AutAt w bv d) (hl : d.sets.length ≤ 1000 ∧ d.first.length ≤ 1000 ∧ d.last.length ≤ 1000 ∧ d.fol.length ≤ 1000 ∧ ∀ x ∈ d.fol, x.length ≤ 1000) :
    Calls Tryd.prog 13 #[av, bv] w fun e w' => e = .returned (.bool true) ∧ Below w.heap.size w w' := by
  obtain ⟨sv, fv, lv, wv, rfl, hs, hf, hl1, hw⟩ := ha
  obtain ⟨sv2, fv2, lv2, wv2, rfl, hs2, hf2, hl2, hw2⟩ := hb
  obtain ⟨sa, sc, hes, _⟩ := hs.slice
  obtain ⟨fa, fc, hef, _⟩ := hf.slice
  obtain ⟨la, lc, hel, _⟩ := hl1.slice
  obtain ⟨xa, xc, hex, hxc⟩ := hw.slice
  obtain ⟨sa2, sc2, hes2, _⟩ := hs2.slice
  obtain ⟨fa2, fc2, hef2, _⟩ := hf2.slice
  obtain ⟨la2, lc2, hel2, _⟩ := hl2.slice
  obtain ⟨xa2, xc2, hex2, hxc2⟩ := hw2.slice
  subst hes hef hel hex hes2 hef2 hel2 hex2
  obtain ⟨W0, hW0⟩ : ∃ W, W = (w.alloc (.cells #[.bool d.null, .slice sa d.sets.length sc, .slice fa d.first.length fc, .slice la d.last.length lc, .slice xa d.fol.length xc] 30)).alloc (.cells #[.bool d.null, .slice sa2 d.sets.length sc2, .slice fa2 d.first.length fc2, .slice la2 d.last.length lc2, .slice xa2 d.fol.length xc2] 30) := ⟨_, rfl⟩
  obtain ⟨h0, h1, hB0, hs0⟩ := alloc2 hW0
  have HS1 : Hid (∀ W, Below W0.heap.size W0 W → Calls Tryd.prog 16 #[.slice sa d.sets.length sc, .slice sa2 d.sets.length sc2] W fun e w' => e = .returned (.bool true) ∧ ∃ nd, w' = W.drewN nd) := fun W hb => sameInts_q _ (by omega) _ _ W (hs.below (below_after hB0 hb)) (hs2.below (below_after hB0 hb))
  have HS2 : Hid (∀ W, Below W0.heap.size W0 W → Calls Tryd.prog 16 #[.slice fa d.first.length fc, .slice fa2 d.first.length fc2] W fun e w' => e = .returned (.bool true) ∧ ∃ nd, w' = W.drewN nd) := fun W hb => sameInts_q (upI d.first) (by simp [upI]; omega) _ _ W (hf.ints.below (below_after hB0 hb)) (hf2.ints.below (below_after hB0 hb))
  have HS3 : Hid (∀ W, Below W0.heap.size W0 W → Calls Tryd.prog 16 #[.slice la d.last.length lc, .slice la2 d.last.length lc2] W fun e w' => e = .returned (.bool true) ∧ ∃ nd, w' = W.drewN nd) := fun W hb => sameInts_q (upI d.last) (by simp [upI]; omega) _ _ W (hl1.ints.below (below_after hB0 hb)) (hl2.ints.below (below_after hB0 hb))
  have HFA : Hid (∀ W, Below W0.heap.size W0 W → FolAt W (.slice xa d.fol.length xc) d.fol) := fun W hb => hw.below (below_after hB0 hb)
  have HFB : Hid (∀ W, Below W0.heap.size W0 W → FolAt W (.slice xa2 d.fol.length xc2) d.fol) := fun W hb => hw2.below (below_after hB0 hb)
  have HA0 : Hid (ABox W0 w.heap.size d.null (.slice sa d.sets.length sc) (.slice fa d.first.length fc) (.slice la d.last.length lc) (.slice xa d.fol.length xc)) := h0
  have HA1 : Hid (ABox W0 (w.heap.size + 1) d.null (.slice sa2 d.sets.length sc2) (.slice fa2 d.first.length fc2) (.slice la2 d.last.length lc2) (.slice xa2 d.fol.length xc2)) := h1
  have HB0 : Hid (Below w.heap.size w W0) := hB0
  have HLM : Hid (∀ x ∈ d.fol, x.length ≤ 1000) := hl.2.2.2.2
  obtain ⟨nn, hnn⟩ : ∃ x, x = d.null := ⟨_, rfl⟩
  obtain ⟨sl, hsl⟩ : ∃ x, x = d.sets.length := ⟨_, rfl⟩
  obtain ⟨fl, hfl⟩ : ∃ x, x = d.first.length := ⟨_, rfl⟩
  obtain ⟨ll, hll⟩ : ∃ x, x = d.last.length := ⟨_, rfl⟩
  obtain ⟨xl, hxl⟩ : ∃ x, x = d.fol.length := ⟨_, rfl⟩
  have HXL : Hid (xl = d.fol.length) := hxl
  have hx1000 : xl ≤ 1000 := by omega
  rw [← hnn, ← hsl, ← hfl, ← hll, ← hxl] at HA0 HA1 hW0 ⊢
  rw [← hsl] at HS1
  rw [← hfl] at HS2
  rw [← hll] at HS3
  rw [← hxl] at HFA HFB hxc hxc2
  have HW0 : Hid (W0 = _) := hW0
  have c1' := HS1.out W0 (Below.refl _ _)
  rw [hW0] at c1'
  have hbb : ((nn : Bool) != nn) = false := by simp
  have hxx : ((xl : Int) != (xl : Int)) = false := by simp
  clear h0 h1 hB0 hs0 hs hf hl1 hw hs2 hf2 hl2 hw2 hl hnn hsl hfl hll hxl
  go_enter Tryd.func13, Tryd.ntmps13
  go_wp2_with fail
  refine c1'.mono ?_
  rintro e w1 ⟨rfl, nd1, hw1⟩
  have hb1 : Below W0.heap.size W0 w1 := by rw [hw1, ← hW0]; exact below_drewN' (Below.refl _ _) _
  have a2 := (HA0.out.below hb1).c2
  have b2 := (HA1.out.below hb1).c2
  have c2' := HS2.out w1 hb1
  clear c1' hW0 hw1
  go_wp2_with fail
  refine c2'.mono ?_
  rintro e w2 ⟨rfl, nd2, hw2⟩
  have hb2 : Below W0.heap.size W0 w2 := by rw [hw2]; exact below_drewN' hb1 _
  have a3 := (HA0.out.below hb2).c3
  have b3 := (HA1.out.below hb2).c3
  have c3' := HS3.out w2 hb2
  clear c2' a2 b2 hw2
  go_wp2_with fail
  refine c3'.mono ?_
  rintro e w3 ⟨rfl, nd3, hw3⟩
  have hb3 : Below W0.heap.size W0 w3 := by rw [hw3]; exact below_drewN' hb2 _
  have HB3 : Hid (Below W0.heap.size W0 w3) := hb3
  have a0 := (HA0.out.below hb3).c0
  have b0 := (HA1.out.below hb3).c0
  have a4 := (HA0.out.below hb3).c4
  have b4 := (HA1.out.below hb3).c4
  have la3 := (HA0.out.below hb3).lt
  have lb3 := (HA1.out.below hb3).lt
  clear c3' a3 b3 hb1 hb2 hw3
  go_wp2
  go_loopw [8] (fun x8 wr => ∃ (i : Nat), i ≤ xl ∧ x8 = .int .i64 (i : Int) ∧ ∃ nd, wr = w3.drewN nd) (fun x8 _ => xl - (intOf x8).toNat)
  case atStart => exact ⟨0, Nat.zero_le _, rfl, 0, rfl⟩
  case round =>
    obtain ⟨i, hi, rfl, nd, rfl⟩ := hrel
    by_cases hil : i < xl
    · have hid : i < d.fol.length := by rw [← HXL.out]; exact hil
      obtain ⟨ga, oa, va, rfl, hga, e1, p1⟩ := (HFA.out w3 hb3).at hid
      obtain ⟨gb, ob, vb, rfl, hgb, e2, p2⟩ := (HFB.out w3 hb3).at hid
      obtain ⟨ya, yc, hey, _⟩ := p1.slice
      obtain ⟨za, zc, hez, _⟩ := p2.slice
      subst hey hez
      obtain ⟨N1, hN1⟩ : ∃ x, x = d.fol[i].length := ⟨_, rfl⟩
      have HC : Hid (∀ W, Below w3.heap.size w3 W → Calls Tryd.prog 16 #[.slice ya N1 yc, .slice za N1 zc] W fun e w' => e = .returned (.bool true) ∧ ∃ nd, w' = W.drewN nd) := fun W hb => by
        rw [hN1]
        exact sameInts_q (upI d.fol[i]) (by have := HLM.out _ (List.getElem_mem hid); simp [upI]; omega) _ _ W (p1.ints.below hb) (p2.ints.below hb)
      rw [← hN1] at e1 e2
      have hi0 : (0 : Int) ≤ (i : Int) := by omega
      have hi1 : (i : Int) < (xl : Int) := by omega
      have HCQ : Hid (∀ n, Calls Tryd.prog 16 #[.slice ya N1 yc, .slice za N1 zc] (w3.drewN (nd + n)) fun e w' => e = .returned (.bool true) ∧ ∃ m, w' = w3.drewN (nd + m)) := fun n => (HC.out _ (below_drewN' (Below.refl _ _) (nd + n))).mono fun e w'' ⟨he, m, hm⟩ => ⟨he, n + m, by rw [hm, World.drewN_drewN, Nat.add_assoc]⟩
      clear hN1 p1 p2
      go_wp2
      go_quiet ((go_at_call 16; exact HCQ.out _))
      go_wp2
      go_roundw
      case rel => exact ⟨i + 1, by omega, by go_num, _, rfl⟩
      case measure => simp [intOf]; omega
    · obtain rfl : i = xl := by omega
      go_wp2
      go_ret
      exact ⟨rfl, below_after HB0.out (below_drewN' HB3.out _)⟩
end Go.Proofs.YtehkaiohmcenbaaDoor
