/-
  scansionref01.SameInts of any two lists; scansionref12.find.
-/
import Derived.Test.YtehkaiohmcenbaaDoorGF
import Derived.Test.YtehkaiohmcenbaaDoorGK
import Derived.Test.YtehkaiohmcenbaaDoorFlSame
namespace Go.Proofs.YtehkaiohmcenbaaDoor
open Go.RowKit Go.Shelf
set_option linter.unusedVariables false

theorem drewN_add' (b a : Nat) (w : World) : (w.drewN a).drewN b = w.drewN (a + b) := by simp [World.drewN, Nat.add_assoc]
set_option maxRecDepth 100000 in
set_option maxHeartbeats 8000000 in
theorem sameIntsB_any (xs ys : List Int) (hlen : xs.length ≤ 100000) (va vb : Value) (w : World) (ha : IntsAt w va xs) (hb : IntsAt w vb ys) :
    Calls Tryd.prog 16 #[va, vb] w fun e w' => e = .returned (.bool (decide (xs = ys))) ∧ ∃ nd, w' = w.drewN nd := by
  have HA : Hid (IntsAt w va xs) := ha
  have HB : Hid (IntsAt w vb ys) := hb
  obtain ⟨a, ca, rfl, hca⟩ := ha.slice
  obtain ⟨b, cb, rfl, hcb⟩ := hb.slice
  obtain ⟨n, hn⟩ : ∃ n, n = xs.length := ⟨_, rfl⟩
  obtain ⟨m, hm⟩ : ∃ n, n = ys.length := ⟨_, rfl⟩
  have HN : Hid (n = xs.length) := hn
  have HM : Hid (m = ys.length) := hm
  obtain ⟨R, hR⟩ : ∃ R, R = decide (xs = ys) := ⟨_, rfl⟩
  have HR : Hid (R = decide (xs = ys)) := hR
  rw [← hn] at hca hlen HA ⊢
  rw [← hm] at hcb HB ⊢
  rw [← hR]
  clear hn hm ha hb hR
  go_enter Tryd.func16, Tryd.ntmps16
  by_cases hnm : n = m
  case neg =>
    have hne : ((n : Int) != (m : Int)) = true := by simp; omega
    have hf : R = false := by
      rw [HR.out]
      exact decide_eq_false (fun e => hnm (by rw [HN.out, HM.out, e]))
    subst hf
    go_wp2
    go_ret
    exact ⟨rfl, 0, rfl⟩
  subst hnm
  have hneq : ((n : Int) != (n : Int)) = false := by simp
  go_wp2
  go_loopw [5] (fun i wr => ∃ k : Nat, k ≤ n ∧ i = .int .i64 k ∧ Hid (∀ q, (h1 : q < xs.length) → (h2 : q < ys.length) → q < k → xs[q] = ys[q]) ∧ ∃ nd, wr = w.drewN nd) (fun i _ => n - (intOf i).toNat)
  case atStart => exact ⟨0, Nat.zero_le _, rfl, fun q _ _ h => absurd h (by omega), 0, rfl⟩
  case round =>
    obtain ⟨k, hk, rfl, HK, nd, rfl⟩ := hrel
    by_cases hlt : k < n
    · have hkx : k < xs.length := by rw [← HN.out]; exact hlt
      have hky : k < ys.length := by rw [← HM.out]; exact hlt
      obtain ⟨ga, oa, rfl, hga, a0⟩ := HA.out.at hkx
      obtain ⟨gb, ob, rfl, hgb, b0⟩ := HB.out.at hky
      obtain ⟨x, hx⟩ : ∃ z : Int, z = xs[k] := ⟨_, rfl⟩
      obtain ⟨y, hy⟩ : ∃ z : Int, z = ys[k] := ⟨_, rfl⟩
      have HX : Hid (x = xs[k]) := hx
      have HY : Hid (y = ys[k]) := hy
      rw [← hx] at a0
      rw [← hy] at b0
      clear hx hy
      have hk0 : (0 : Int) ≤ (k : Int) := by omega
      have hk1 : (k : Int) < (n : Int) := by omega
      by_cases hxy : x = y
      · subst hxy
        have hzz : (x != x) = false := by simp
        go_wp2
        go_quiet (fail)
        go_wp2
        go_roundw
        case rel =>
          refine ⟨k + 1, by omega, by go_num, fun q h1 h2 h3 => ?_, _, rfl⟩
          by_cases e : q < k
          · exact HK.out q h1 h2 e
          · obtain rfl : q = k := by omega
            rw [← HX.out, ← HY.out]
        case measure => simp [intOf]; omega
      · have hzz : (x != y) = true := by simp [hxy]
        have hf : R = false := by
          rw [HR.out]
          refine decide_eq_false (fun e => hxy ?_)
          rw [HX.out, HY.out]
          simp [e]
        subst hf
        clear hxy
        go_wp2
        go_quiet (fail)
        go_wp2
        go_ret
        exact ⟨rfl, _, (by first | rfl | exact drewN_add' _ _ _)⟩
    · obtain rfl : k = n := by omega
      have ht : R = true := by
        rw [HR.out]
        refine decide_eq_true (List.ext_getElem (by have := HN.out; have := HM.out; omega) (fun q h1 h2 => HK.out q h1 h2 (by have := HN.out; omega)))
      subst ht
      go_wp2
      go_ret
      exact ⟨rfl, _, rfl⟩

theorem upI_inj {a b : List Nat} (h : upI a = upI b) : a = b := by
  unfold upI at h
  refine List.map_inj_right (fun x y e => ?_) |>.1 h
  exact Int.ofNat.inj e
theorem idx_first : ∀ {S : List (List Nat)} {l : List Nat} {k : Nat}, (hk : k < S.length) → S[k] = l → (∀ q, (h : q < S.length) → q < k → S[q] ≠ l) → S.idxOf l = k
  | x :: S, l, 0, _, h, _ => by
    have : x = l := h
    subst this
    exact List.idxOf_cons_self
  | x :: S, l, k + 1, hk, h, hq => by
    have hx : x ≠ l := hq 0 (by simp) (by omega)
    rw [List.idxOf_cons, show (x == l) = false by simpa using hx, cond_false]
    rw [idx_first (k := k) (by simpa using hk) h (fun q h1 h2 => fun e => hq (q + 1) (by simpa using h1) (by omega) (by rw [← e]; rfl))]

set_option maxRecDepth 100000 in
set_option maxHeartbeats 8000000 in
theorem rfind_any12 (S : List (List Nat)) (base : Nat) (sv : Value) (vs : List Value) (l : List Nat) (v : Value) (w : World) (hvl : vs.length = S.length) (hr : w.ownsRow base 27 1 sv S.length vs) (hx : ∀ i, (h1 : i < vs.length) → (h2 : i < S.length) → LstAt base w vs[i] S[i]) (hv : LstAt base w v l) (hS : S.length ≤ 100000) (hl : ∀ x ∈ S, x.length ≤ 100000) :
    Calls Tryd.prog 60 #[sv, v] w fun e w' => e = .returned (.int .i64 (if l ∈ S then ((S.idxOf l : Nat) : Int) else -1)) ∧ ∃ nd, w' = w.drewN nd := by
  obtain ⟨sa, sc, rfl, hcap, hX⟩ : ∃ sa sc, sv = .slice sa S.length sc ∧ S.length ≤ sc ∧ ∀ k, (h : k < S.length) → ∃ g o x, sa = some ⟨g, o, none⟩ ∧ g < w.heap.size ∧ w.cell? ⟨g, o + k, none⟩ = some x ∧ LstAt base w x S[k] := by
    rcases hr.2 with ⟨rfl, h0⟩ | ⟨g, cap, cur, rfl, hb, hg, hc, hm, hs, ht⟩
    · exact ⟨none, 0, by rw [h0], by omega, fun k h => (by omega)⟩
    · refine ⟨_, _, rfl, hc, fun k h => ⟨g, 0, vs[k]'(by omega), rfl, lt_of_heap hg, ?_, hx k (by omega) h⟩⟩
      have := hr.cells (g := g) rfl k (vs[k]'(by omega)) (by rw [List.getElem?_eq_getElem])
      rw [add_lit'] at this
      exact this
  have HX : Hid (∀ k, (h : k < S.length) → ∃ g o x, sa = some ⟨g, o, none⟩ ∧ g < w.heap.size ∧ w.cell? ⟨g, o + k, none⟩ = some x ∧ LstAt base w x S[k]) := hX
  have HV : Hid (LstAt base w v l) := hv
  have HL : Hid (∀ x ∈ S, x.length ≤ 100000) := hl
  obtain ⟨va, vn, vc, rfl⟩ := hv.any
  obtain ⟨n, hn⟩ : ∃ n, n = S.length := ⟨_, rfl⟩
  have HN : Hid (n = S.length) := hn
  obtain ⟨R, hR⟩ : ∃ R : Int, R = (if l ∈ S then ((S.idxOf l : Nat) : Int) else -1) := ⟨_, rfl⟩
  have HR : Hid (R = (if l ∈ S then ((S.idxOf l : Nat) : Int) else -1)) := hR
  rw [← hR]
  rw [← hn] at hcap hS ⊢
  clear hn hR hX hx hv hl hr hvl
  go_enter Tryd.func60, Tryd.ntmps60
  go_wp2
  go_loopw [5] (fun x wr => ∃ k : Nat, k ≤ n ∧ x = .int .i64 k ∧ Hid (∀ q, (h1 : q < S.length) → q < k → S[q] ≠ l) ∧ ∃ nd, wr = w.drewN nd) (fun x _ => n - (intOf x).toNat)
  case atStart => exact ⟨0, Nat.zero_le _, rfl, fun q _ h => absurd h (by omega), 0, rfl⟩
  case round =>
    obtain ⟨k, hk, rfl, HK, nd, rfl⟩ := hrel
    by_cases hlt : k < n
    · have hkS : k < S.length := by rw [← HN.out]; exact hlt
      obtain ⟨g, o, x, rfl, hg, a0, hxl⟩ := HX.out k hkS
      have hbw : Below w.heap.size w (w.drewN nd) := below_drewN' (Below.refl _ _) _
      have hsi := sameIntsB_any (upI S[k]) (upI l) (by have := HL.out _ (List.getElem_mem hkS); simpa [upI] using this) x (.slice va vn vc) (w.drewN nd) ((hxl.plc.ints).below hbw) ((HV.out.plc.ints).below hbw)
      obtain ⟨xa, xn, xc, rfl⟩ := hxl.any
      have hk0 : (0 : Int) ≤ (k : Int) := by omega
      have hk1 : (k : Int) < (n : Int) := by omega
      obtain ⟨b, hb⟩ : ∃ b, b = decide (upI S[k] = upI l) := ⟨_, rfl⟩
      have HB : Hid (b = decide (upI S[k] = upI l)) := hb
      rw [← hb] at hsi
      clear hb hxl hbw
      cases b with
      | true =>
        have hq : R = (k : Int) := by
          have e := upI_inj (of_decide_eq_true HB.out.symm)
          rw [HR.out, if_pos (by rw [← e]; exact List.getElem_mem hkS), idx_first hkS e HK.out]
        subst hq
        go_wp2_with fail
        refine hsi.mono ?_
        rintro e w1 ⟨rfl, nd2, rfl⟩
        clear hsi
        go_wp2
        go_ret
        exact ⟨rfl, nd + nd2, (by first | rfl | exact drewN_add' _ _ _)⟩
      | false =>
        go_wp2_with fail
        refine hsi.mono ?_
        rintro e w1 ⟨rfl, nd2, rfl⟩
        clear hsi
        go_wp2
        go_roundw
        case rel =>
          refine ⟨k + 1, by omega, by go_num, fun q h1 h2 e => ?_, nd + nd2, (by first | rfl | exact drewN_add' _ _ _)⟩
          by_cases e2 : q < k
          · exact HK.out q h1 e2 e
          · obtain rfl : q = k := by omega
            have := of_decide_eq_false HB.out.symm
            exact this (by rw [e])
        case measure => simp [intOf]; omega
    · obtain rfl : k = n := by omega
      have hq : R = -1 := by
        rw [HR.out, if_neg (fun h => by
          obtain ⟨q, h1, h2⟩ := List.mem_iff_getElem.1 h
          exact HK.out q h1 (by have := HN.out; omega) h2)]
      subst hq
      go_wp2
      go_ret
      exact ⟨rfl, nd, rfl⟩
end Go.Proofs.YtehkaiohmcenbaaDoor
