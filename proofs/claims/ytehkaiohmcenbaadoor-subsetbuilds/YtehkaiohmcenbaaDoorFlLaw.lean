/-
  What the statements of layer 11 share.
-/
import Derived.Test.YtehkaiohmcenbaaDoorFlBuild
import Derived.BigQuiet
namespace Go.Proofs.YtehkaiohmcenbaaDoor
open Go.RowKit Go.Shelf
set_option linter.unusedVariables false
set_option linter.unusedSimpArgs false

def upI (l : List Nat) : List Int := l.map fun (x : Nat) => (x : Int)
theorem PlcAt.ints {b0 B : Nat} {w : World} {v : Value} {l : List Nat} (h : PlcAt b0 B w v l) : IntsAt w v (upI l) := by
  obtain ⟨a, cap, rfl, hc, hn, hx⟩ := h
  refine ⟨a, cap, by simp [upI], by simpa [upI] using hc, hn, fun i hi => ?_⟩
  have hi' : i < l.length := by simpa [upI] using hi
  obtain ⟨g, off, h1, h2, h3, h4⟩ := hx i hi'
  exact ⟨g, off, h1, h3, by simpa [upI] using h4⟩

set_option maxRecDepth 100000 in
set_option maxHeartbeats 4000000 in
theorem sameInts_any (zs : List Int) (hlen : zs.length ≤ 100000) (va vb : Value) (w : World) (ha : IntsAt w va zs) (hb : IntsAt w vb zs) :
    Calls Tryd.prog 16 #[va, vb] w fun e w' => e = .returned (.bool true) ∧ Below w.heap.size w w' := by
  have HA : Hid (IntsAt w va zs) := ha
  have HB : Hid (IntsAt w vb zs) := hb
  obtain ⟨a, ca, rfl, hca⟩ := ha.slice
  obtain ⟨b, cb, rfl, hcb⟩ := hb.slice
  obtain ⟨len, hle⟩ : ∃ n, n = zs.length := ⟨_, rfl⟩
  have HLE : Hid (len = zs.length) := hle
  rw [← hle] at hca hcb hlen HA HB ⊢
  clear hle ha hb
  have hneq : ((len : Int) != (len : Int)) = false := by simp
  go_enter Tryd.func16, Tryd.ntmps16
  go_wp2
  go_loopw [5] (fun i wr => ∃ k : Nat, k ≤ len ∧ i = .int .i64 k ∧ ∃ nd, wr = w.drewN nd) (fun i _ => len - (intOf i).toNat)
  case atStart => exact ⟨0, Nat.zero_le _, rfl, 0, rfl⟩
  case round =>
    obtain ⟨k, hk, rfl, nd, rfl⟩ := hrel
    by_cases hlt : k < len
    · have hkz : k < zs.length := by rw [← HLE.out]; exact hlt
      obtain ⟨ga, oa, rfl, hga, a0⟩ := HA.out.at hkz
      obtain ⟨gb, ob, rfl, hgb, b0⟩ := HB.out.at hkz
      obtain ⟨z, hz⟩ : ∃ z : Int, z = zs[k] := ⟨_, rfl⟩
      rw [← hz] at a0 b0
      clear hz
      have hk0 : (0 : Int) ≤ (k : Int) := by omega
      have hk1 : (k : Int) < (len : Int) := by omega
      have hzz : (z != z) = false := by simp
      go_wp2
      go_quiet (fail)
      go_wp2
      go_roundw
      case rel => exact ⟨k + 1, by omega, by go_num, _, rfl⟩
      case measure => simp [intOf]; omega
    · obtain rfl : k = len := by omega
      go_wp2
      go_ret
      exact ⟨rfl, below_drewN' (Below.refl _ _) _⟩

/-- No more places than expressions. -/
theorem sets_sz : ∀ (d : Nat) (n : Nd), Dp d n.kids → (setsN n).length ≤ Sz d n
  | 0, n, h => by
    have h0 : n.kids = [] := h
    rw [setsN_eq, h0]
    show _ ≤ 1
    split <;> simp [setsL]
  | d + 1, n, h => by
    rw [setsN_eq]
    show _ ≤ 1 + (n.kids.map (Sz d)).sum
    have key : ∀ l : List Nd, (∀ x ∈ l, Dp d x.kids) → (setsL l).length ≤ (l.map (Sz d)).sum := fun l => by
      induction l with
      | nil => intro _; simp [setsL]
      | cons x l ih =>
        intro hl
        rw [setsL, List.length_append, List.map_cons, List.sum_cons]
        have h1 := sets_sz d x (hl x (by simp))
        have h2 := ih (fun y hy => hl y (by simp [hy]))
        omega
    have := key n.kids (fun x hx => h.2 x hx)
    split
    · simp
    · omega

set_option maxRecDepth 100000 in
set_option maxHeartbeats 4000000 in
theorem few_any (n : Nd) (z : Value) (wa : Option Addr) (wl wc : Nat) (w : World) (hz : KdX (fun k => k < w.heap.size) w z n.kids) :
    Calls Tryd.prog 14 #[ndV n z, .slice wa wl wc] w fun e w' => ∃ b, e = .returned (.bool b) ∧ (b = true → Dp 40 n.kids ∧ (setsN n).length ≤ 700 ∧ wl ≤ 30) ∧ Below w.heap.size w w' := by
  obtain ⟨a, ca, rfl, _⟩ := hz.slice
  have hB : Below w.heap.size w (w.alloc (.cells #[.int .i64 n.k, .int .i64 n.s, .slice a n.kids.length ca] 24)) := below_alloc _ _
  have hc := nodes_any 40 n (.slice a n.kids.length ca) 120 (w.alloc (.cells #[.int .i64 n.k, .int .i64 n.s, .slice a n.kids.length ca] 24)) (by omega) (by omega) (by omega) (hz.to (fun k hk => ⟨hB.block k hk, by simp; omega⟩))
  unfold ndV at hc ⊢
  obtain ⟨nk, hnk⟩ : ∃ x, x = n.k := ⟨_, rfl⟩
  obtain ⟨ns, hns⟩ : ∃ x, x = n.s := ⟨_, rfl⟩
  obtain ⟨len, hlen⟩ : ∃ x, x = n.kids.length := ⟨_, rfl⟩
  rw [← hnk, ← hns, ← hlen] at hc ⊢
  rw [← hnk, ← hns, ← hlen] at hB
  have HB : Hid (Below w.heap.size w (w.alloc (.cells #[.int .i64 nk, .int .i64 ns, .slice a len ca] 24))) := hB
  clear hz hnk hns hlen hB
  go_enter Tryd.func14, Tryd.ntmps14
  go_wp2_with fail
  refine Calls.mono hc ?_
  rintro e w1 ⟨r, rfl, hr1, hr2, hr3, hB1⟩
  have HB1 : Hid (Below w.heap.size w w1) := below_after HB.out hB1
  have HR3 : Hid (r < 120 → DpS 40 n r) := hr3
  clear hc hB1 hr3
  by_cases h1 : r < 120
  · have h1' : decide ((r : Int) < 120) = true := decide_eq_true (by omega)
    by_cases h2 : wl ≤ 30
    · have h2' : decide ((wl : Int) ≤ 30) = true := decide_eq_true (by omega)
      go_wp2
      go_ret
      refine ⟨true, by simp, fun _ => ⟨(HR3.out h1).1, ?_, h2⟩, HB1.out⟩
      have := sets_sz 40 n (HR3.out h1).1
      rw [(HR3.out h1).2] at this
      omega
    · have h2' : decide ((wl : Int) ≤ 30) = false := decide_eq_false (by omega)
      go_wp2
      go_ret
      exact ⟨false, by simp, (fun h => by cases h), HB1.out⟩
  · have h1' : decide ((r : Int) < 120) = false := decide_eq_false (by omega)
    go_wp2
    go_ret
    exact ⟨false, by simp, (fun h => by cases h), HB1.out⟩

def awN : Nd := ⟨3, 0, [⟨0, 0, [⟨1, 0, []⟩, ⟨1, 1, []⟩]⟩]⟩
theorem aw_right : rightN awN = true := by simp [awN, rightN_mk, rightL, mayK]
theorem aw_sets : setsN awN = [0, 1] := by simp [awN, setsN_mk, setsL]
theorem aw_prt : prtN awN 0 = ⟨true, [1], [2], 2, [([], [1]), ([1], [2]), ([2], [1])]⟩ := by
  simp [awN, prtN_mk, hdL_cons, catL_cons, catL, catF, catS, cat0, setP, sgnS]
theorem aw_err : errF awN = 0 := errF_ok aw_right (by rw [aw_sets]; decide)
theorem aw_fol : folN awN = [[2], [1]] := by
  unfold folN
  rw [aw_prt, aw_sets]
  decide
theorem aw_aut : autF awN = ⟨true, [0, 1], [1], [2], [[2], [1]]⟩ := by
  unfold autF autN
  rw [if_pos aw_err, aw_prt, aw_sets, aw_fol]
theorem aw_dp : Dp 2 awN.kids := ⟨by decide, fun x hx => by
  obtain rfl : x = ⟨0, 0, [⟨1, 0, []⟩, ⟨1, 1, []⟩]⟩ := by simpa [awN] using hx
  exact ⟨by decide, fun y hy => by
    rcases List.mem_cons.1 hy with rfl | hy
    · rfl
    · obtain rfl : y = ⟨1, 1, []⟩ := by simpa using hy
      rfl⟩⟩

set_option maxRecDepth 100000 in
set_option maxHeartbeats 8000000 in
theorem awake_any (w : World) (hT : TabW w) : Calls Tryd.prog 9 #[] w fun e w' => e = .returned (.bool true) ∧ Below w.heap.size w w' := by
  obtain ⟨W0, hW0⟩ : ∃ W, W = (w.alloc (.cells #[.int .i64 1, .int .i64 0, .slice none 0 0, .int .i64 1, .int .i64 1, .slice none 0 0] 24)).alloc (.cells #[.int .i64 0, .int .i64 0, .slice (some ⟨w.heap.size, 0, none⟩) 2 2] 24) := ⟨_, rfl⟩
  obtain ⟨h0, h1, hB0, hs0⟩ := alloc2 hW0
  have hk1 : KdX (fun k => k < W0.heap.size) W0 (.slice (some ⟨w.heap.size, 0, none⟩) 2 2) [⟨1, 0, []⟩, ⟨1, 1, []⟩] :=
    kids_of_block (l := [(⟨1, 0, []⟩, .slice none 0 0), (⟨1, 1, []⟩, .slice none 0 0)]) (t := 24) h0 rfl (Nat.le_refl _) (by omega) (fun x hx => by
      rcases List.mem_cons.1 hx with rfl | hx
      · exact KdX.nil _ _
      · obtain rfl : x = (⟨1, 1, []⟩, .slice none 0 0) := by simpa using hx
        exact KdX.nil _ _)
  have hk2 : KdX (fun k => k < W0.heap.size) W0 (.slice (some ⟨w.heap.size + 1, 0, none⟩) 1 1) awN.kids :=
    kids_of_block (l := [(⟨0, 0, [⟨1, 0, []⟩, ⟨1, 1, []⟩]⟩, .slice (some ⟨w.heap.size, 0, none⟩) 2 2)]) (t := 24) h1 rfl (Nat.le_refl _) (by omega) (fun x hx => by
      obtain rfl : x = (⟨0, 0, [⟨1, 0, []⟩, ⟨1, 1, []⟩]⟩, .slice (some ⟨w.heap.size, 0, none⟩) 2 2) := by simpa using hx
      exact hk1)
  have hb := build_any 2 (by omega) awN (some ⟨w.heap.size + 1, 0, none⟩) 1 W0 (hT.below hB0) aw_dp (by rw [aw_sets]; decide) hk2
  unfold BldA at hb
  rw [aw_err, aw_aut] at hb
  have HB0 : Hid (Below w.heap.size w W0) := hB0
  have HW0 : Hid (W0 = _) := hW0
  rw [hW0] at hb
  clear h0 h1 hB0 hs0 hk1 hk2 hT hW0
  go_enter Tryd.func9, Tryd.ntmps9
  go_wp2_with fail
  refine Calls.mono hb ?_
  rintro e w1 ⟨av, rfl, ⟨sv, fv, lv, wv, rfl, hs, hf, hl, hw⟩, hB1⟩
  rw [← HW0.out] at hB1
  obtain ⟨sa, sc, hes, _⟩ := hs.slice
  have hes' : sv = .slice sa 2 sc := hes
  obtain ⟨fa, fc, hef, _⟩ := hf.ints.slice
  have hef' : fv = .slice fa 1 fc := hef
  obtain ⟨la, lc, hel, _⟩ := hl.ints.slice
  have hel' : lv = .slice la 1 lc := hel
  obtain ⟨xa, xc, hew, hxc⟩ := hw.slice
  have hew' : wv = .slice xa 2 xc := hew
  subst hes' hef' hel' hew'
  have HLI : Hid (IntsAt w1 (.slice la 1 lc) [2]) := hl.ints
  obtain ⟨gx, ox, yv, rfl, hgx, hcx, hpx⟩ := hw.at (j := 1) (by decide)
  obtain ⟨ya, yc, hey, _⟩ := hpx.ints.slice
  have hey' : yv = .slice ya 1 yc := hey
  subst hey'
  have HYI : Hid (IntsAt w1 (.slice ya 1 yc) [1]) := hpx.ints
  have HB1 : Hid (Below w.heap.size w w1) := below_after HB0.out hB1
  have hxc' : 2 ≤ xc := hxc
  obtain ⟨W1, hW1⟩ : ∃ W, W = w1.alloc (.cells #[.bool true, .slice sa 2 sc, .slice fa 1 fc, .slice la 1 lc, .slice (some ⟨gx, ox, none⟩) 2 xc] 30) := ⟨_, rfl⟩
  have hBW : Below w1.heap.size w1 W1 := by rw [hW1]; exact below_alloc _ _
  have HAB : Hid (ABox W1 w1.heap.size true (.slice sa 2 sc) (.slice fa 1 fc) (.slice la 1 lc) (.slice (some ⟨gx, ox, none⟩) 2 xc)) := by rw [hW1]; exact heap_new' _ _
  have HBW : Hid (Below w1.heap.size w1 W1) := hBW
  have one_at : ∀ (W : World) (x : Int), IntsAt (W.alloc (.cells #[.int .i64 x] 3)) (.slice (some ⟨W.heap.size, 0, none⟩) 1 1) [x] := fun W x => ⟨_, 1, rfl, Nat.le_refl _, fun e => (by cases e), fun i hi => ⟨W.heap.size, 0, rfl, by simp, by
    have h0 : i = 0 := by simpa using hi
    subst h0
    exact cell_in (heap_new' _ _) 0⟩⟩
  have hc1 := sameInts_any [1] (by decide) (.slice ya 1 yc) (.slice (some ⟨W1.heap.size, 0, none⟩) 1 1) (W1.alloc (.cells #[.int .i64 1] 3)) (HYI.out.below (below_after hBW (below_alloc _ _))) (one_at _ _)
  have HC2 : Hid (∀ W, Below w1.heap.size w1 W → Calls Tryd.prog 16 #[.slice la 1 lc, .slice (some ⟨W.heap.size, 0, none⟩) 1 1] (W.alloc (.cells #[.int .i64 2] 3)) fun e w' => e = .returned (.bool true) ∧ Below (W.alloc (.cells #[.int .i64 2] 3)).heap.size (W.alloc (.cells #[.int .i64 2] 3)) w') := fun W hb => sameInts_any [2] (by decide) _ _ _ (HLI.out.below (below_after hb (below_alloc _ _))) (one_at _ _)
  have hcx' : W1.cell? ⟨gx, ox + 1, none⟩ = some (.slice ya 1 yc) := (hBW.cell (p := ⟨gx, _, none⟩) hgx).trans hcx
  have hgx' : gx < W1.heap.size := Nat.lt_of_lt_of_le hgx hBW.size
  have hlt1 : w1.heap.size < W1.heap.size := HAB.out.lt
  have a0 := HAB.out.c0
  have a3 := HAB.out.c3
  have a4 := HAB.out.c4
  have HW1 : Hid (W1 = _) := hW1
  clear hb hs hf hl hw hB1 hcx hpx hxc one_at hgx hBW hW1 hes hef hel hew hey
  go_upto_region 2 with fail
  rw [← HW1.out]
  go_wp2_with fail
  refine hc1.mono ?_
  rintro e w2 ⟨rfl, hB2⟩
  have hB2' : Below W1.heap.size W1 w2 := below_al2 hB2
  have hA2 := HAB.out.below hB2'
  have a3' := hA2.c3
  have hlt2 := hA2.lt
  have hc2 := HC2.out w2 (below_after HBW.out hB2')
  have HB2 : Hid (Below w.heap.size w w2) := below_after HB1.out (below_after HBW.out hB2')
  clear hc1 hB2 hB2' hA2 a0 a3 a4 hcx'
  go_wp2_with fail
  refine hc2.mono ?_
  rintro e w3 ⟨rfl, hB3⟩
  have HB3 : Hid (Below w.heap.size w w3) := below_after HB2.out (below_al2 hB3)
  clear hc2 hB3
  go_wp2
  go_ret
  exact ⟨rfl, HB3.out⟩
end Go.Proofs.YtehkaiohmcenbaaDoor
