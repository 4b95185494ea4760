/-
  trie.Trie.All: the ranges of numbers of one value.
-/
import Derived.Test.YtpnkljfgdbkffaaAllMath
import Derived.Deep.AppendLies
namespace Go.Proofs.Ytpnkljfgdbkffaa
open Go.RowKit Go.Shelf
set_option linter.unusedVariables false
attribute [local go_sem] Oper.semAt_some

/-- The last run's end moves. -/
theorem own_growP {w : World} {base g cap : Nat} {ini : List Pp} {s : Pp} (h : w.ownsRow base 40 3 (.slice (some ⟨g, 0, none⟩) (ini ++ [s]).length cap) (ini ++ [s]).length (cellsPs (ini ++ [s]))) (hi : Int) :
    (w.setCell ⟨g, ini.length * 3 + 1, none⟩ (.int .i64 hi)).ownsRow base 40 3 (.slice (some ⟨g, 0, none⟩) (ini ++ [s]).length cap) (ini ++ [(⟨s.lo, hi, s.v⟩ : Pp)]).length (cellsPs (ini ++ [⟨s.lo, hi, s.v⟩])) := by
  have hl : (ini ++ [(⟨s.lo, hi, s.v⟩ : Pp)]).length = (ini ++ [s]).length := by simp
  refine ⟨by rw [cellsPs_length], .inr ?_⟩
  rcases h.2 with ⟨e, _⟩ | ⟨g', cap', cur, e, hb, hg, hc, hm, hs, ht⟩
  · cases e
  · obtain ⟨rfl, rfl⟩ : g = g' ∧ cap = cap' := by simpa using e
    refine ⟨g, cap, cur.setIfInBounds (ini.length * 3 + 1) (.int .i64 hi), by rw [hl], hb, heap_setCell_same _ _ _ _ _ _ hg, by rw [hl]; exact hc, hm, by simp [hs], ?_⟩
    rw [hl]
    have e1 : (cur.setIfInBounds (ini.length * 3 + 1) (.int .i64 hi)).toList = cur.toList.set (ini.length * 3 + 1) (.int .i64 hi) := by simp
    rw [e1, List.take_set, ht, cellsPs_snoc, cellsPs_snoc, List.set_append_right _ _ (by rw [cellsPs_length]; omega), cellsPs_length]
    have e2 : ini.length * 3 + 1 - ini.length * 3 = 1 := by omega
    rw [e2]
    rfl

set_option maxRecDepth 100000 in
set_option maxHeartbeats 4000000 in
theorem all_in (n : Nat) (hn : 3 ≤ n) (like : List Int) (F : List (List Int)) (pv : Value) (w : World) (ht : TrieAt w.heap.size w pv like F) (hfi : Fine like F) :
    CallsIn Fence.wide n Try.prog 9 #[pv] w fun e W' => ∃ v, e = .returned v ∧ W'.ownsRow w.heap.size 40 3 v (runsL (valsTo like F 1114112)).length (cellsPs (runsL (valsTo like F 1114112))) ∧ Below w.heap.size w W' := by
  have h1 : 1 ≤ n := by omega
  obtain ⟨V, hV⟩ : ∃ V, V = valsTo like F 1114112 := ⟨_, rfl⟩
  have HVV : Hid (V = valsTo like F 1114112) := hV
  rw [← hV]
  clear hV
  obtain ⟨g, gb, cap, rfl, hg, hgb, hgc, hrg, hcap⟩ := ht
  obtain ⟨iP, hiP, hzP0, hzP1, hzP2⟩ := info_parts Try.infoProp
  refine callsIn_of_wp_marks Try.func9 rfl trivial ?_ rfl
  simp only [Try.ntmps9, List.size_toArray, List.length_cons, List.length_nil, Nat.reduceAdd, Nat.reduceSub, Array.replicate_succ, Array.replicate_zero, List.push_toArray, List.append_toArray, List.nil_append, List.cons_append]
  gi_wp2_with (refine ⟨trivial, ?_⟩; gi_at_call 23; refine (values_in (n - 1) _ _ ⟨_, rfl⟩).mono ?_; rintro e w' ⟨rfl, rfl⟩)
  have bO := Boxed.new w 22 (.slice none 0 0)
  have bN := Boxed.new (w.alloc (.cells #[.slice none 0 0] 22)) 24 (.pointer (some ⟨g, 0, none⟩))
  rw [World.size_alloc] at bN
  have hB0 : Below w.heap.size w ((w.alloc (.cells #[.slice none 0 0] 22)).alloc (.cells #[.pointer (some ⟨g, 0, none⟩)] 24)) := ((Below.refl _ w).alloc (Nat.le_refl _) _).alloc (by simp) _
  have hsz : ((w.alloc (.cells #[.slice none 0 0] 22)).alloc (.cells #[.pointer (some ⟨g, 0, none⟩)] 24)).heap.size = w.heap.size + 2 := by simp
  have bO2 := bO.alloc (.cells #[.pointer (some ⟨g, 0, none⟩)] 24)
  obtain ⟨W0, hW0⟩ : ∃ W0, (w.alloc (.cells #[.slice none 0 0] 22)).alloc (.cells #[.pointer (some ⟨g, 0, none⟩)] 24) = W0 := ⟨_, rfl⟩
  rw [hW0] at bO2 bN hB0 hsz ⊢
  clear hW0 bO
  have hfit : Fit1 w.heap.size W0 := ⟨bO2.lt, fun k n c h => by rw [bO2.cell] at h; simp at h⟩
  have hlies : Lies w.heap.size W0 (w.heap.size + 1) #[.pointer (some ⟨g, 0, none⟩)] 24 := ⟨bN, fun o => by
    rcases o with h | ⟨n, c, h⟩
    · omega
    · rw [bO2.cell] at h; simp at h⟩
  refine wpIn_rangeFunc_ownH rfl h1 (gf := 31) (lb := #[.pointer (some ⟨w.heap.size + 1, 0, none⟩)]) rfl trivial (enters_of Try.func31 (by kernel_rfl) rfl)
    (values_stops (n - 1) (by omega) (w.heap.size + 1) w.heap.size w.heap.size g gb cap like F hfi hg hgb W0 (by omega) hfit hlies ((hB0.block g hg).trans hgc) (fun j u hj => (hB0.cell (p := ⟨gb, _, none⟩) hgb).trans (hrg j u hj))) kp1_t (kp1_b (by omega) (by omega)) (Below.refl _ _) (fun _ => rfl)
    (fun pre W => (∃ v, Boxed W w.heap.size 22 v ∧ W.ownsRow w.heap.size 40 3 v (runsL pre).length (cellsPs (runsL pre)) ∧ True) ∧ Below w.heap.size w W)
    (fun _ _ _ => False)
    (OwnFrom.and (Own.from (holdsRow_own w.heap.size w.heap.size 22 40 3 (fun pre : List (Int × Int) => (runsL pre).length) (fun pre => cellsPs (runsL pre)) (fun _ _ => True)) _) (ownFrom_below (Nat.le_refl _) (by omega)))
    (fun _ _ _ _ _ hs _ _ => hs)
    ⟨⟨_, bO2, World.ownsRow_nil _ _ _ _, trivial⟩, hB0⟩
    (fun x a' W => a' = { tmps := #[.pointer (some ⟨g, 0, none⟩), undef, .slice none 0 0, .pointer (some ⟨w.heap.size, 0, none⟩), .int .i64 x.1, .int .u8 x.2, undef, .pointer (some ⟨g, 0, none⟩), .func (.func 31) #[] #[.pointer (some ⟨w.heap.size + 1, 0, none⟩)], .int .i64 x.1, .int .u8 x.2, undef, undef, undef, undef, undef, undef, undef, undef, undef, undef, undef, undef, undef, undef, undef, undef, undef, undef, undef, undef, undef, undef, undef, undef, undef, undef, undef, undef, undef, undef, undef, undef, undef, undef, undef, undef, undef, undef, undef, undef, undef], defers := [] })
    (fun x a' _ X Y row hs hg hr => hs)
    ?assign ?body ?done ?stop
  case assign =>
    rintro l pre x W K ⟨⟨v, hv, hrow, _⟩, hB⟩ hK
    unfold encV
    gi_wp2
    exact hK _ _ ((KeepsOthers.refl _).from _) (kp1_refl _ _ _) ⟨⟨v, hv, hrow, trivial⟩, hB⟩ rfl
  case body =>
    rintro l pre x a' W hl _ ⟨⟨v, hv, hrow, _⟩, hB⟩ rfl hlt
    have hc := hv.cell
    have hbs := hB.size
    have hrl := runsL_len pre
    obtain ⟨R, hR⟩ : ∃ R, R = runsL pre := ⟨_, rfl⟩
    rw [← hR] at hrow hrl
    have HSN : Hid (runsL (pre ++ [x]) = stepR R x) := by show _ = _; rw [runsL_snoc, hR]
    have HROW : Hid (W.ownsRow w.heap.size 40 3 v R.length (cellsPs R)) := hrow
    have HL : Hid (R.length + 1 ≤ 1114112) := by show _ ≤ _; omega
    clear hR hrl hlt
    obtain ⟨xr, xv⟩ := x
    by_cases h0 : xv = 0
    · subst h0
      have HE : Hid (stepR R (xr, 0) = R) := stepR_zero _ _ rfl
      clear hrow
      gi_wp2
      exact ⟨(KeepsOthers.refl _).from _, kp1_refl _ _ _, ⟨v, hv, by rw [HSN.out, HE.out]; exact HROW.out, trivial⟩, hB⟩
    · have h0' : ¬ (xv = 0) := h0
      cases hl? : R.getLast? with
      | none =>
        have eR := List.getLast?_eq_none_iff.1 hl?
        subst eR
        have HE : Hid (stepR [] (xr, xv) = [⟨xr, xr, xv⟩]) := stepR_first rfl h0
        obtain ⟨a1, c1, rfl⟩ := slice_of_row hrow
        have HROW0 : Hid (W.ownsRow w.heap.size 40 3 (.slice a1 0 c1) 0 []) := HROW.out
        have hv : Boxed W w.heap.size 22 (.slice a1 0 c1) := hv
        have hc : W.cell? ⟨w.heap.size, 0, none⟩ = some (.slice a1 0 c1) := hc
        clear hrow hl? HROW
        gi_wp2_with (gi_at_builtin; go_must (refine wpListIn_append_own_at _ rfl _ _ 22 rfl w.heap.size 40 iP (.agg #[.int .i64 0, .int .i64 0, .int .u8 0]) 3 24 Try.undPs hiP hzP0 hzP1 hzP2 rfl (by decide) _ _ _ rfl (HROW0.out.alloc _) ⟨W.heap.size, 0, none⟩ 1 1 (cellsP ⟨xr, xr, xv⟩) rfl rfl (World.news_of_block (heap_new _ _)) (by simp [cellsP, Value.oneCell']) (by unfold maxLen; have := HL.out; omega) (by have := HL.out; omega) (by simp; omega) ?_); intro v' w1 hown' hgrow hnil hat; obtain ⟨g', cap', rfl⟩ := ownsRow_succ hown'; have hkp := kp1_appended hv (by decide) HROW0.out hbs (Nat.le_refl _) hown' hgrow hat; obtain ⟨hv1, hv2, hr2, hk2, hb2⟩ := hv.appended (by decide) HROW0.out hbs (Nat.le_refl _) hown' hgrow; have hc1 := hv1.cell; have hf1 := hv1.frozen)
        exact ⟨hk2.from _, hkp, ⟨_, hv2, by rw [HSN.out, HE.out]; simpa [cellsPs] using hr2, trivial⟩, hB.trans hb2⟩
      | some p =>
        obtain ⟨ini, ei⟩ := List.getLast?_eq_some_iff.1 hl?
        subst ei
        have hlen : (ini ++ [p]).length = ini.length + 1 := by simp
        obtain ⟨k, c1, hk, rfl⟩ : ∃ k c1, w.heap.size ≤ k ∧ v = .slice (some ⟨k, 0, none⟩) (ini ++ [p]).length c1 := by
          rcases hrow.2 with ⟨_, h0⟩ | ⟨g', cap', cur, e, hb, _⟩
          · rw [hlen] at h0; omega
          · exact ⟨g', cap', hb, e⟩
        have hkB : k ≠ w.heap.size := fun e => by
          have := hv.not_row (by decide) hrow
          simp [Value.ownBlock, e] at this
        have d1 : W.cell? ⟨k, ini.length * 3 + 1, none⟩ = some (.int .i64 p.hi) := by
          have := hrow.cells (g := k) rfl (ini.length * 3 + 1) (.int .i64 p.hi) (by rw [cellsPs_at _ ini.length 1 (by simp) (by omega)]; simp [cellsP])
          rw [Addr.add_mid, Nat.zero_add] at this
          exact this
        have d2 : W.cell? ⟨k, ini.length * 3 + 2, none⟩ = some (.int .u8 p.v) := by
          have := hrow.cells (g := k) rfl (ini.length * 3 + 2) (.int .u8 p.v) (by rw [cellsPs_at _ ini.length 2 (by simp) (by omega)]; simp [cellsP])
          rw [Addr.add_mid, Nat.zero_add] at this
          exact this
        have df : W.frozen? ⟨k, ini.length * 3 + 1, none⟩ = false := by
          rcases hrow.2 with ⟨e, _⟩ | ⟨g', cap', cur, e, _, hgg, _⟩
          · cases e
          · obtain ⟨rfl, _⟩ : k = g' ∧ c1 = cap' := by simpa using e
            exact frozen_of_row _ _ _ _ _ hgg
        obtain ⟨N, hN⟩ : ∃ N, N = (ini ++ [p]).length := ⟨_, rfl⟩
        have hNi : N = ini.length + 1 := by rw [hN, hlen]
        rw [← hN] at hv hc
        have HRW : Hid (W.ownsRow w.heap.size 40 3 (.slice (some ⟨k, 0, none⟩) N c1) N (cellsPs (ini ++ [p]))) := by rw [hN]; exact hrow
        have HRO : Hid (W.ownsRow w.heap.size 40 3 (.slice (some ⟨k, 0, none⟩) (ini ++ [p]).length c1) (ini ++ [p]).length (cellsPs (ini ++ [p]))) := hrow
        have HNN : Hid (N = (ini ++ [p]).length) := hN
        have HLN : Hid (N + 1 ≤ 1114112) := by show _ ≤ _; rw [hN]; exact HL.out
        have hN0 : (0 : Int) < (N : Int) := by omega
        have hN1 : ((N : Int) - 1).toNat = ini.length := by omega
        have hN2 : (N : Int) - 1 < (N : Int) := by omega
        have hN3 : (0 : Int) ≤ (N : Int) - 1 := by omega
        have HNI : Hid (N = ini.length + 1) := hNi
        have hNw : wrap64 ((N : Int) - 1) = (ini.length : Int) := by rw [wrap_small _ (by omega) (by have := HLN.out; omega)]; omega
        have hNl : (ini.length : Int) < (N : Int) := by omega
        clear hrow hN hNi hlen hl? HROW HL
        by_cases e1 : p.hi = wrap64 (xr - 1)
        · by_cases e2 : p.v = xv
          · have HE : Hid (stepR (ini ++ [p]) (xr, xv) = ini ++ [⟨p.lo, xr, p.v⟩]) := stepR_grow rfl h0 e1 e2
            gi_wp2
            have hsc : W.grownBy (W.setCell ⟨k, ini.length * 3 + 1, none⟩ (.int .i64 xr)) (some k) := ⟨rfl, rfl, rfl, by simp [World.setCell], fun j hj hne => heap_setCell_other _ _ _ _ (fun e => hne (by rw [e]))⟩
            exact ⟨(KeepsOthers.setCell W _ _).from _, kp1_row hv hk hkB, ⟨_, hv.kept hsc (fun e => hkB (by simpa using e.symm)), by rw [HSN.out, HE.out, HNN.out]; exact own_growP HRO.out xr, trivial⟩, hB.setCell hk _⟩
          · have HE : Hid (stepR (ini ++ [p]) (xr, xv) = (ini ++ [p]) ++ [⟨xr, xr, xv⟩]) := stepR_new rfl h0 (fun z => e2 z.2)
            gi_wp2_with (gi_at_builtin; go_must (refine wpListIn_append_own_at _ rfl _ _ 22 rfl w.heap.size 40 iP (.agg #[.int .i64 0, .int .i64 0, .int .u8 0]) 3 24 Try.undPs hiP hzP0 hzP1 hzP2 rfl (by decide) _ _ _ rfl (HRW.out.alloc _) ⟨W.heap.size, 0, none⟩ 1 1 (cellsP ⟨xr, xr, xv⟩) rfl rfl (World.news_of_block (heap_new _ _)) (by simp [cellsP, Value.oneCell']) (by unfold maxLen; have := HLN.out; omega) (by have := HLN.out; omega) (by simp; omega) ?_); intro v' w1 hown' hgrow hnil hat; obtain ⟨g', cap', rfl⟩ := ownsRow_succ hown'; have hkp := kp1_appended hv (by decide) HRW.out hbs (Nat.le_refl _) hown' hgrow hat; obtain ⟨hv1, hv2, hr2, hk2, hb2⟩ := hv.appended (by decide) HRW.out hbs (Nat.le_refl _) hown' hgrow; have hc1 := hv1.cell; have hf1 := hv1.frozen)
            exact ⟨hk2.from _, hkp, ⟨_, hv2, by rw [HSN.out, HE.out, cellsPs_snoc, List.length_append, ← HNN.out]; exact hr2, trivial⟩, hB.trans hb2⟩
        · have HE : Hid (stepR (ini ++ [p]) (xr, xv) = (ini ++ [p]) ++ [⟨xr, xr, xv⟩]) := stepR_new rfl h0 (fun z => e1 z.1)
          gi_wp2_with (gi_at_builtin; go_must (refine wpListIn_append_own_at _ rfl _ _ 22 rfl w.heap.size 40 iP (.agg #[.int .i64 0, .int .i64 0, .int .u8 0]) 3 24 Try.undPs hiP hzP0 hzP1 hzP2 rfl (by decide) _ _ _ rfl (HRW.out.alloc _) ⟨W.heap.size, 0, none⟩ 1 1 (cellsP ⟨xr, xr, xv⟩) rfl rfl (World.news_of_block (heap_new _ _)) (by simp [cellsP, Value.oneCell']) (by unfold maxLen; have := HLN.out; omega) (by have := HLN.out; omega) (by simp; omega) ?_); intro v' w1 hown' hgrow hnil hat; obtain ⟨g', cap', rfl⟩ := ownsRow_succ hown'; have hkp := kp1_appended hv (by decide) HRW.out hbs (Nat.le_refl _) hown' hgrow hat; obtain ⟨hv1, hv2, hr2, hk2, hb2⟩ := hv.appended (by decide) HRW.out hbs (Nat.le_refl _) hown' hgrow; have hc1 := hv1.cell; have hf1 := hv1.frozen)
          exact ⟨hk2.from _, hkp, ⟨_, hv2, by rw [HSN.out, HE.out, cellsPs_snoc, List.length_append, ← HNN.out]; exact hr2, trivial⟩, hB.trans hb2⟩
  case done =>
    rintro D ys W hD hys ⟨⟨v, hv, hrow, _⟩, hB⟩ hK
    have HYS : Hid (ys = valsTo like F 1114112) := hys
    clear hys
    have hc := hv.cell
    gi_wp2
    refine ⟨by simp, .inl ⟨_, _, rfl, run_takeDeferred hK, ?_⟩⟩
    exact ⟨_, results_tmp rfl _ _ _, v, rfl, by rw [HVV.out, ← HYS.out]; exact ownsRow_putObj hrow _ hK rfl, hB.trans (belowK_b (w := w) (Nat.le_refl _) W D _ _ (by omega) hK rfl rfl)⟩
  case stop =>
    rintro D c pre W _ _ h _
    exact h.elim
end Go.Proofs.Ytpnkljfgdbkffaa
