/-
  What Whole, Suffix and Prefix answer.
-/
import Derived.Test.YtklhjjgnhigbiaaGreatDoorMtRight
namespace Go.Proofs.YtklhjjgnhigbiaaGreatDoor
open Go.RowKit Go.Shelf
set_option linter.unusedVariables false

theorem PlcAt.old {b B B' : Nat} {w : World} {v : Value} {l : List Nat} (h : PlcAt b B w v l) : PlcAt w.heap.size B' w v l := by
  obtain ⟨a, cap, rfl, hc, hn, hi⟩ := h
  refine ⟨a, cap, rfl, hc, hn, fun i hlt => ?_⟩
  obtain ⟨g, off, rfl, _, hg2, h0⟩ := hi i hlt
  exact ⟨g, off, rfl, .inl hg2, hg2, h0⟩
/-- Where words of the expression end that begin at l. -/
def EndA (ws : List Nat) (n : Nd) (l l' : List Nat) : Prop := (rightN n = false → l' = []) ∧ (rightN n = true → ∀ p, p ∈ l' ↔ ∃ q ∈ l, relN ws n q p)

set_option maxRecDepth 100000 in
set_option maxHeartbeats 4000000 in
theorem ends_any (d : Nat) (hd : d ≤ 60000) (ws : List Nat) (hL : ws.length < 64) (n : Nd) (z : Value) (wa : Option Addr) (wc : Nat) (v : Value) (l : List Nat) (b B : Nat) (w : World) (hdp : Dp d n.kids) (hz : KdX (fun k => k < w.heap.size) w z n.kids) (hw : WrdAt w.heap.size w (.slice wa ws.length wc) ws) (hv : PlcAt b B w v l) (hr : Ris ws.length l) :
    Calls Tryz.prog 37 #[ndV n z, .slice wa ws.length wc, v] w fun e w' => ∃ v' l', e = .returned v' ∧ PlcAt w.heap.size w.heap.size w' v' l' ∧ Ris ws.length l' ∧ Below w.heap.size w w' ∧ EndA ws n l l' := by
  obtain ⟨a, ca, rfl, _⟩ := hz.slice
  obtain ⟨W, hW⟩ : ∃ W, W = w.alloc (.cells #[.int .i64 n.k, .int .i64 n.s, .slice a n.kids.length ca] 24) := ⟨_, rfl⟩
  have hB0 : Below w.heap.size w W := by rw [hW]; exact below_alloc _ _
  have hE0 : W.heap[w.heap.size]? = some (.cells #[.int .i64 n.k, .int .i64 n.s, .slice a n.kids.length ca] 24 (0, 0)) := by rw [hW]; exact heap_new' w _
  have hz0 : KdX (fun k => k < W.heap.size) W (.slice a n.kids.length ca) n.kids := hz.to (fun k hk => ⟨hB0.block k hk, by have := hB0.size; omega⟩)
  have hrc := right_any d hd n _ W hdp hz0
  have HTH : Hid (∀ W2, Below w.heap.size w W2 → rightN n = true → Calls Tryz.prog 59 #[ndV n (.slice a n.kids.length ca), .slice wa ws.length wc] W2 (ThrA ws w.heap.size n W2)) := fun W2 hb hrn =>
    through_any ws hL wa wc w.heap.size d n _ W2 hdp hrn (hz.to (fun k hk => ⟨hb.block k hk, hk⟩)) (hw.to (fun k hk => hb.block k hk) (Nat.le_refl _)) hb.size
  unfold ndV at hrc HTH ⊢
  obtain ⟨nk, hnk⟩ : ∃ x, x = n.k := ⟨_, rfl⟩
  obtain ⟨ns, hns⟩ : ∃ x, x = n.s := ⟨_, rfl⟩
  obtain ⟨len, hlen⟩ : ∃ x, x = n.kids.length := ⟨_, rfl⟩
  obtain ⟨wl, hwl⟩ : ∃ x, x = ws.length := ⟨_, rfl⟩
  obtain ⟨c, hc⟩ : ∃ x, x = rightN n := ⟨_, rfl⟩
  rw [← hnk, ← hns, ← hlen] at hrc HTH hW hE0 ⊢
  rw [← hwl] at HTH ⊢
  rw [← hc] at hrc
  have HC : Hid (c = rightN n) := hc
  have HV : Hid (PlcAt w.heap.size w.heap.size w v l) := hv.old
  have HR : Hid (Ris ws.length l) := hr
  have HWL : Hid (wl = ws.length) := hwl
  have HW0 : Hid (Below w.heap.size w W) := hB0
  have HE0 : Hid (W.heap[w.heap.size]? = some (.cells #[.int .i64 nk, .int .i64 ns, .slice a len ca] 24 (0, 0))) := hE0
  obtain ⟨va, vc, rfl, _⟩ := hv.slice
  rw [hW] at hrc
  clear hnk hns hlen hwl hc hz hz0 hB0 hE0 hw hr hv
  cases c with
  | false =>
    go_enter Tryz.func37, Tryz.ntmps37
    go_wp2_with fail
    refine hrc.mono ?_
    rintro e w1 ⟨rfl, hB1⟩
    rw [← hW] at hB1
    clear hrc
    go_wp2
    go_ret
    refine ⟨_, [], rfl, PlcAt.nil _ _ _, Ris.nil _, below_after HW0.out hB1, fun _ => rfl, fun h => ?_⟩
    rw [← HC.out] at h; cases h
  | true =>
    go_enter Tryz.func37, Tryz.ntmps37
    go_wp2_with fail
    refine hrc.mono ?_
    rintro e w1 ⟨rfl, hB1⟩
    rw [← hW] at hB1
    have HB1 : Hid (Below w.heap.size w w1) := below_after HW0.out hB1
    have hE1 : w1.heap[w.heap.size]? = some (.cells #[.int .i64 nk, .int .i64 ns, .slice a len ca] 24 (0, 0)) := (hB1.block w.heap.size (by have := lt_of_heap HE0.out; omega)).trans HE0.out
    have e0 : w1.cell? ⟨w.heap.size, 0, none⟩ = some (.int .i64 nk) := cell_in hE1 0
    have e1 : w1.cell? ⟨w.heap.size, 1, none⟩ = some (.int .i64 ns) := cell_in hE1 1
    have e2 : w1.cell? ⟨w.heap.size, 2, none⟩ = some (.slice a len ca) := cell_in hE1 2
    have hth := HTH.out w1 HB1.out HC.out.symm
    clear hrc hB1 hE1
    go_wp2_with fail
    refine hth.mono ?_
    rintro e w2 ⟨dd, rfl, hB2, q1, q2, q3, q4, q5, q6⟩
    have HB2 : Hid (Below w.heap.size w w2) := below_after HB1.out hB2
    have hcl := q4.call w2 S0 (.slice va l.length vc) l w2.heap.size q6 q2 (Nat.le_refl _) ((HV.out.below HB2.out).to (fun _ _ _ => rfl) (Nat.le_refl _) |> fun h => by
      obtain ⟨a', c', e', h1, h2, h3⟩ := HV.out
      refine ⟨a', c', e', h1, h2, fun i hi => ?_⟩
      obtain ⟨g, off, r1, _, r3, r4⟩ := h3 i hi
      exact ⟨g, off, r1, .inl r3, Nat.lt_of_lt_of_le r3 HB2.out.size, (HB2.out.cell (p := ⟨g, _, none⟩) r3).trans r4⟩) HR.out
    have eg1 := q4.ent
    obtain ⟨fn, hfn⟩ : ∃ x, x = dd.fn := ⟨_, rfl⟩
    obtain ⟨caps, hcaps⟩ : ∃ x, x = dd.caps := ⟨_, rfl⟩
    rw [← hfn, ← hcaps] at hcl
    rw [← hfn] at eg1
    have HQ5 : Hid (dd.R = relN ws n) := q5
    unfold funV
    rw [← hfn, ← hcaps]
    have hlo : w.heap.size ≤ dd.lo := by have := HB1.out.size; omega
    clear hth q3 q4 q5 q6 hfn hcaps hB2 e0 e1 e2
    go_wp2_with fail
    refine hcl.mono ?_
    rintro e w3 ⟨v3, l3, rfl, hp3, hr3, _, hf3, ht3⟩
    have HP3 : Hid (PlcAt w.heap.size w.heap.size w3 v3 l3) := hp3.less HB2.out.size
    have HR3 : Hid (Ris ws.length l3) := hr3
    have HB3 : Hid (Below w.heap.size w w3) := HB2.out.trans (hf3.1.mono hlo)
    have HT3 : Hid (Tells (relN ws n) S0 l l3) := by rw [← HQ5.out]; exact ht3
    obtain ⟨v3a, v3c, rfl, _⟩ := hp3.slice
    clear hcl hp3 hr3 hf3 ht3
    go_wp2
    go_ret
    refine ⟨_, l3, rfl, HP3.out, by rw [HWL.out]; exact HR3.out, HB3.out, fun h => ?_, fun _ p => ⟨fun hp => HT3.out.1 p hp, fun ⟨q, hq, hR⟩ => ?_⟩⟩
    · rw [← HC.out] at h; cases h
    · rcases HT3.out.2 q hq p hR with h | ⟨q', h, _⟩
      · exact h
      · cases h

theorem whole_of {ws : List Nat} {n : Nd} {l' : List Nat} (h : EndA ws n [0] l') : decide (ws.length ∈ l') = wholeB ws n := by
  rw [Bool.eq_iff_iff, decide_eq_true_eq, wholeB_iff]
  unfold wholeP
  cases hr : rightN n with
  | false => rw [h.1 hr]; simp
  | true => rw [h.2 hr]; simp
theorem prefix_of {ws : List Nat} {n : Nd} {l' : List Nat} (h : EndA ws n [0] l') : decide (0 < l'.length) = prefB ws n := by
  rw [Bool.eq_iff_iff, decide_eq_true_eq, prefB_iff]
  unfold prefP
  cases hr : rightN n with
  | false => rw [h.1 hr]; simp
  | true =>
    rw [List.length_pos_iff_exists_mem]
    constructor
    · rintro ⟨p, hp⟩
      obtain ⟨q, hq, hR⟩ := (h.2 hr p).1 hp
      obtain rfl : q = 0 := by simpa using hq
      exact ⟨rfl, p, hR⟩
    · rintro ⟨_, p, hR⟩
      exact ⟨p, (h.2 hr p).2 ⟨0, by simp, hR⟩⟩
theorem suffix_of {ws : List Nat} {n : Nd} {l' : List Nat} (h : EndA ws n (List.range (ws.length + 1)) l') : decide (ws.length ∈ l') = suffB ws n := by
  rw [Bool.eq_iff_iff, decide_eq_true_eq, suffB_iff]
  unfold suffP
  cases hr : rightN n with
  | false => rw [h.1 hr]; simp
  | true =>
    rw [h.2 hr]
    constructor
    · rintro ⟨q, hq, hR⟩
      exact ⟨rfl, q, by simp at hq; omega, hR⟩
    · rintro ⟨_, q, hq, hR⟩
      exact ⟨q, by simp; omega, hR⟩
theorem ris_zero (L : Nat) : Ris L [0] := ⟨by simp, fun x hx => by simp at hx; omega⟩
theorem plc_zero {w : World} {b B : Nat} {t : TypeId} {g : Nat} (h : w.heap[g]? = some (.cells #[.int .i64 0] t (0, 0))) (hb : g < b) : PlcAt b B w (.slice (some ⟨g, 0, none⟩) 1 1) [0] :=
  ⟨_, 1, rfl, Nat.le_refl _, fun e => (by cases e), fun i hi => by
    obtain rfl : i = 0 := by simpa using hi
    exact ⟨g, 0, rfl, .inl hb, lt_of_heap h, cell_in h 0⟩⟩

set_option maxRecDepth 100000 in
set_option maxHeartbeats 4000000 in
theorem allPlaces_any (wa : Option Addr) (wl wc : Nat) (hl : wl < 64) (w : World) : Calls Tryz.prog 38 #[.slice wa wl wc] w fun e w' => ∃ v', e = .returned v' ∧ PlcAt w'.heap.size 0 w' v' (List.range (wl + 1)) ∧ Below w.heap.size w w' := by
  obtain ⟨i0, hi0, hz0, hz1, hz2⟩ := info_parts Tryz.infoInt
  obtain ⟨N, hN⟩ : ∃ N, N = wl + 1 := ⟨_, rfl⟩
  have HN : Hid (N = wl + 1) := hN
  have HMC : Hid ((madeCells (Value.int .i64 0).cells (N * 1)).toList = List.replicate N (.int .i64 0)) := by
    show _ = _
    rw [Nat.mul_one]
    exact toList_madeCells_one _ _
  have hN64 : N ≤ 64 := by omega
  rw [← hN]
  clear hN
  go_enter Tryz.func38, Tryz.ntmps38
  go_wp2_with (first | (at_make; go_loud (refine wpList_make_full w rfl _ _ 77 rfl w.heap.size 3 i0 (.int .i64 0) 1 Tryz.underlying77 hi0 hz0 hz1 .i64 .i64 _ _ N rfl rfl (by have := HN.out; omega) (by have := HN.out; omega) (by rw [hz2]; have := HN.out; omega) (by unfold maxLen; have := HN.out; omega) (Nat.le_refl _) ?_; intro w1 ho1 hg1; have hB1 : Below w.heap.size w w1 := (Below.refl _ _).grown hg1 (Nat.le_refl _) (fun j e => (by cases e)))) | fail)
  have HO1 : Hid (w1.ownsRow w.heap.size 3 1 (.slice (some ⟨w.heap.size, 0, none⟩) N N) N (cellP (List.range 0) ++ List.replicate (N - 0) (.int .i64 0))) := by
    rw [HMC.out] at ho1
    show w1.ownsRow _ _ _ _ _ _
    simpa [cellP] using ho1
  clear ho1 hg1
  go_loopw [11] (fun x wr => ∃ k : Nat, k ≤ N ∧ x = .int .i64 (k : Int) ∧ Hid (wr.ownsRow w.heap.size 3 1 (.slice (some ⟨w.heap.size, 0, none⟩) N N) N (cellP (List.range k) ++ List.replicate (N - k) (.int .i64 0))) ∧ Hid (Below w.heap.size w wr)) (fun x _ => N - (intOf x).toNat)
  case atStart => exact ⟨0, Nat.zero_le _, rfl, HO1, hB1⟩
  case round =>
    obtain ⟨k, hk, rfl, HO, HB⟩ := hrel
    by_cases hlt : k < N
    · have hk0 : (0 : Int) ≤ (k : Int) := by omega
      have hk1 : (k : Int) < (N : Int) := by omega
      have q1 : wr.cell? ⟨w.heap.size, k, none⟩ = some (.int .i64 0) := by
        rw [(own_at HO.out hlt).1, List.getElem?_append_right (by simp [cellP]), cellP_length, List.length_range, Nat.sub_self, List.getElem?_replicate, if_pos (by omega)]
      have q2 : wr.frozen? ⟨w.heap.size, k, none⟩ = false := (own_at HO.out hlt).2
      go_wp2
      go_roundw
      case rel =>
        refine ⟨k + 1, by omega, by go_num, ?_, HB.out.setCell (Nat.le_refl _) _⟩
        have := own_set (i := k) HO.out (.int .i64 (k : Int))
        have e : (cellP (List.range k) ++ List.replicate (N - k) (Value.int .i64 0)).set k (.int .i64 (k : Int)) = cellP (List.range (k + 1)) ++ List.replicate (N - (k + 1)) (Value.int .i64 0) := by
          rw [List.set_append_right _ _ (by simp [cellP]), cellP_length, List.length_range, Nat.sub_self, show N - k = (N - (k + 1)) + 1 by omega, List.replicate_succ, List.set_cons_zero, List.range_succ, cellP_snoc, List.append_assoc]
          rfl
        rw [e] at this
        exact this
      case measure => simp [intOf]; omega
    · obtain rfl : k = N := by omega
      go_wp2
      go_ret
      have := HO.out
      rw [Nat.sub_self, List.replicate_zero, List.append_nil] at this
      refine ⟨_, rfl, ?_, HB.out⟩
      have h2 : wr.ownsRow w.heap.size 3 1 (.slice (some ⟨w.heap.size, 0, none⟩) k k) (List.range k).length (cellP (List.range k)) := by
        rw [List.length_range]; exact this
      exact plc_of_row h2 (Nat.zero_le _)

theorem ris_range (L : Nat) : Ris L (List.range (L + 1)) := ⟨List.pairwise_lt_range, fun x hx => by simp at hx; omega⟩
set_option maxRecDepth 100000 in
set_option maxHeartbeats 4000000 in
theorem suffix_any (d : Nat) (hd : d ≤ 60000) (ws : List Nat) (hL : ws.length < 64) (n : Nd) (z : Value) (wa : Option Addr) (wc : Nat) (w : World) (hdp : Dp d n.kids) (hz : KdX (fun k => k < w.heap.size) w z n.kids) (hw : WrdAt w.heap.size w (.slice wa ws.length wc) ws) :
    Calls Tryz.prog 12 #[ndV n z, .slice wa ws.length wc] w fun e w' => e = .returned (.bool (suffB ws n)) ∧ Below w.heap.size w w' := by
  obtain ⟨a, ca, rfl, _⟩ := hz.slice
  obtain ⟨W, hW⟩ : ∃ W, W = w.alloc (.cells #[.int .i64 n.k, .int .i64 n.s, .slice a n.kids.length ca] 24) := ⟨_, rfl⟩
  have hB0 : Below w.heap.size w W := by rw [hW]; exact below_alloc _ _
  have hE0 : W.heap[w.heap.size]? = some (.cells #[.int .i64 n.k, .int .i64 n.s, .slice a n.kids.length ca] 24 (0, 0)) := by rw [hW]; exact heap_new' w _
  have hlt := lt_of_heap hE0
  have HEC : Hid (∀ W2 v1, Below w.heap.size w W2 → PlcAt W2.heap.size 0 W2 v1 (List.range (ws.length + 1)) → Calls Tryz.prog 37 #[.agg #[.int .i64 n.k, .int .i64 n.s, .slice a n.kids.length ca], .slice wa ws.length wc, v1] W2 fun e w' => ∃ v' l', e = .returned v' ∧ PlcAt W2.heap.size W2.heap.size w' v' l' ∧ Ris ws.length l' ∧ Below W2.heap.size W2 w' ∧ EndA ws n (List.range (ws.length + 1)) l') := fun W2 v1 hb hp =>
    ends_any d hd ws hL n (.slice a n.kids.length ca) wa wc v1 _ _ _ W2 hdp (hz.to (fun k hk => ⟨hb.block k hk, by have := hb.size; omega⟩)) (hw.to (fun k hk => hb.block k hk) hb.size) hp (ris_range _)
  unfold ndV
  obtain ⟨nk, hnk⟩ : ∃ x, x = n.k := ⟨_, rfl⟩
  obtain ⟨ns, hns⟩ : ∃ x, x = n.s := ⟨_, rfl⟩
  obtain ⟨len, hlen⟩ : ∃ x, x = n.kids.length := ⟨_, rfl⟩
  obtain ⟨wl, hwl⟩ : ∃ x, x = ws.length := ⟨_, rfl⟩
  rw [← hnk, ← hns, ← hlen] at HEC hW hE0 ⊢
  have hwl64 : wl < 64 := by omega
  rw [← hwl] at HEC ⊢
  have HWL : Hid (wl = ws.length) := hwl
  have HB0 : Hid (Below w.heap.size w W) := hB0
  obtain ⟨b, hb⟩ : ∃ x, x = suffB ws n := ⟨_, rfl⟩
  rw [← hb]
  have HBB : Hid (b = suffB ws n) := hb
  have c0 : W.cell? ⟨w.heap.size, 0, none⟩ = some (.int .i64 nk) := cell_in hE0 0
  have c1 : W.cell? ⟨w.heap.size, 1, none⟩ = some (.int .i64 ns) := cell_in hE0 1
  have c2 : W.cell? ⟨w.heap.size, 2, none⟩ = some (.slice a len ca) := cell_in hE0 2
  have HK : Hid (∀ W2, Below W.heap.size W W2 → W2.cell? ⟨w.heap.size, 0, none⟩ = some (.int .i64 nk) ∧ W2.cell? ⟨w.heap.size, 1, none⟩ = some (.int .i64 ns) ∧ W2.cell? ⟨w.heap.size, 2, none⟩ = some (.slice a len ca)) := fun W2 hb => ⟨(hb.cell (p := ⟨w.heap.size, _, none⟩) hlt).trans c0, (hb.cell (p := ⟨w.heap.size, _, none⟩) hlt).trans c1, (hb.cell (p := ⟨w.heap.size, _, none⟩) hlt).trans c2⟩
  have HCC : Hid (∀ W2 v1 l1 b B, PlcAt b B W2 v1 l1 → Ris ws.length l1 → EndA ws n (List.range (wl + 1)) l1 → Calls Tryz.prog 36 #[v1, .int .i64 (wl : Int)] W2 fun e w' => e = .returned (.bool (suffB ws n)) ∧ w' = W2) := fun W2 v1 l1 b B hp hr hA => by
    have := cont_any W2 b B v1 l1 wl hp (by have := hr.len; omega)
    rw [HWL.out] at this hA
    rw [suffix_of hA, ← HWL.out] at this
    exact this
  rw [← hb] at HCC
  rw [← hwl] at HCC
  clear hnk hns hlen hwl hz hw hE0 hB0 hb
  go_enter Tryz.func12, Tryz.ntmps12
  go_wp2
  rw [← hW]
  clear hW
  go_region_held3 (fun w' => w'.cell? ⟨w.heap.size, 0, none⟩ = some (.int .i64 nk) ∧ w'.cell? ⟨w.heap.size, 1, none⟩ = some (.int .i64 ns) ∧ w'.cell? ⟨w.heap.size, 2, none⟩ = some (.slice a len ca)) (first | go_keep | exact HK.out _ (below_after (below_drewN' (Below.refl _ _) 1) hq1) | exact HK.out _ (below_after (below_after (below_drewN' (Below.refl _ _) 1) hq1) hq2)) ((first | (go_at_call 38; refine (allPlaces_any wa wl wc hwl64 _).mono ?_; rintro e w1 ⟨v1, rfl, hp1, hq1⟩) | (go_at_call 37; refine (HEC.out w1 v1 (HB0.out.trans ((below_after (below_drewN' (Below.refl _ _) 1) hq1).mono (by have := HB0.out.size; omega))) hp1).mono ?_; rintro e w2 ⟨v2, l2, rfl, hp2, hr2, hq2, hA2⟩) | (go_at_call 36; refine (HCC.out w2 v2 l2 _ _ hp2 hr2 hA2).mono ?_; rintro e w3 ⟨rfl, rfl⟩)))
  have HBF : Hid (Below w.heap.size w w3) := HB0.out.trans ((below_after (below_after (below_drewN' (Below.refl _ _) 1) hq1) hq2).mono (by have := HB0.out.size; omega))
  clear hp1 hq1 hp2 hr2 hq2 hA2
  go_wp2
  go_ret
  exact ⟨rfl, HBF.out⟩
end Go.Proofs.YtklhjjgnhigbiaaGreatDoor
