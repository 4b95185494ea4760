/-
  The document's answer: whether a word is one of an expression's.
-/
import Derived.Test.YtehkaiohmcenbaaDoorFlRef3
namespace Go.Proofs.YtehkaiohmcenbaaDoor
open Go.RowKit Go.Shelf
set_option linter.unusedVariables false

theorem whole_leads {ws : List Nat} {n : Nd} {o : List Bool} (hr : rightN n = true) (h : Leads (relN ws n) (true :: List.replicate ws.length false) o) (b : Bool) (hb : o[ws.length]? = some b) : b = wholeB ws n := by
  rw [Bool.eq_iff_iff, wholeB_iff]
  have h1 := h.2 ws.length
  unfold hB at h1
  rw [hb, Option.some.injEq] at h1
  rw [h1]
  constructor
  · rintro ⟨q, h2, h3⟩
    cases q with
    | zero => exact ⟨hr, h3⟩
    | succ q =>
      rw [List.getElem?_cons_succ, List.getElem?_replicate] at h2
      split at h2 <;> cases h2
  · rintro ⟨_, h3⟩
    exact ⟨0, rfl, h3⟩

set_option maxRecDepth 100000 in
set_option maxHeartbeats 8000000 in
theorem refWhole_any (d : Nat) (ws : List Nat) (hL : ws.length < 64) (n : Nd) (z : Value) (wa : Option Addr) (wc : Nat) (w : World) (hdp : Dp d n.kids) (hz : KdX (fun k => k < w.heap.size) w z n.kids) (hw : WrdAt w.heap.size w (.slice wa ws.length wc) ws) :
    Calls Tryd.prog 33 #[ndV n z, .slice wa ws.length wc] w fun e w' => e = .returned (.bool (wholeB ws n)) ∧ Below w.heap.size w w' := by
  obtain ⟨i0, hi0, hz0, hz1, hz2⟩ := info_parts Tryd.infoBool
  obtain ⟨a, ca, rfl, _⟩ := hz.slice
  obtain ⟨W, hW⟩ : ∃ W, W = w.alloc (.cells #[.int .i64 n.k, .int .i64 n.s, .slice a n.kids.length ca] 24) := ⟨_, rfl⟩
  have hB0 : Below w.heap.size w W := by rw [hW]; exact below_alloc _ _
  have hbA : Box W w.heap.size n.k n.s (.slice a n.kids.length ca) := by rw [hW]; exact box_new _ _ _ _
  have hec := refRight_any d n (.slice a n.kids.length ca) W hdp (kdx_below hz hB0)
  have HEND : Hid (∀ v bs W, Below w.heap.size w W → rightN n = true → BlsIn W v bs → bs.length = ws.length + 1 → Calls Tryd.prog 63 #[ndV n (.slice a n.kids.length ca), .slice wa ws.length wc, v] W (RefA ws n bs W)) := fun v bs W hB hr hv hl => refEnds_any ws hL wa wc d n _ v bs W hdp hr (kdx_below hz hB) (wrd_below hw hB) hv hl
  unfold ndV at hec HEND ⊢
  obtain ⟨nk, hnk⟩ : ∃ x, x = n.k := ⟨_, rfl⟩
  obtain ⟨ns, hns⟩ : ∃ x, x = n.s := ⟨_, rfl⟩
  obtain ⟨len, hlen⟩ : ∃ x, x = n.kids.length := ⟨_, rfl⟩
  obtain ⟨wl, hwl⟩ : ∃ x, x = ws.length := ⟨_, rfl⟩
  rw [← hnk, ← hns, ← hlen] at hec hW hbA HEND ⊢
  have hwlen : wl < 64 := by omega
  have HEN : Hid (∀ v bs W, Below w.heap.size w W → rightN n = true → BlsIn W v bs → bs.length = wl + 1 → Calls Tryd.prog 63 #[.agg #[.int .i64 nk, .int .i64 ns, .slice a len ca], .slice wa wl wc, v] W (RefA ws n bs W)) := by rw [hwl]; exact HEND
  rw [← hwl]
  have HWL : Hid (wl = ws.length) := hwl
  have HB0 : Hid (Below w.heap.size w W) := hB0
  have HBA : Hid (Box W w.heap.size nk ns (.slice a len ca)) := hbA
  have hW' := hW
  rw [hW] at hec
  obtain ⟨b, hb⟩ : ∃ x, x = wholeB ws n := ⟨_, rfl⟩
  obtain ⟨r, hr⟩ : ∃ x, x = rightN n := ⟨_, rfl⟩
  rw [← hb]
  rw [← hr] at hec
  have HBB : Hid (b = wholeB ws n) := hb
  have HRR : Hid (r = rightN n) := hr
  have HMC : Hid ((madeCells (Value.bool false).cells ((wl + 1) * 1)).toList = List.replicate (wl + 1) (.bool false)) := by
    show _ = _
    rw [Nat.mul_one]
    exact toList_madeCells_one _ _
  clear hnk hns hlen hwl hz hw hB0 hb hr hbA HEND hL
  go_enter Tryd.func33, Tryd.ntmps33
  go_wp2_with fail
  refine hec.mono ?_
  rintro e w1 ⟨rfl, hB1⟩
  rw [← hW'] at hB1
  have HB1 : Hid (Below W.heap.size W w1) := hB1
  have HBW1 : Hid (Below w.heap.size w w1) := below_after HB0.out hB1
  clear hec hW hW' hB1
  cases r with
  | false =>
    have hbf : b = false := by
      rw [HBB.out]
      cases hq : wholeB ws n with
      | false => rfl
      | true => have := (wholeB_iff.1 hq).1; rw [← HRR.out] at this; cases this
    subst hbf
    go_wp2
    go_ret
    exact ⟨rfl, HBW1.out⟩
  | true =>
    go_upto_region 5 with (first | (at_make; go_loud (refine wpList_make_full _ rfl _ _ 44 rfl w1.heap.size 4 i0 (.bool false) 1 Tryd.underlying44 hi0 hz0 hz1 .i64 .i64 _ _ (wl + 1) rfl rfl (by simp) (by simp) (by rw [hz2]; omega) (by unfold maxLen; omega) (by simp) ?_; intro w2 ho1 hg1)) | fail)
    have HB2 : Hid (Below w1.heap.size w1 w2) := by
      have h0 : Below w1.heap.size w1 w1 := Below.refl _ _
      exact h0.grown hg1 (by simp) (fun k e => by cases e)
    have HO1 : Hid (w2.ownsRow w1.heap.size 4 1 (.slice (some ⟨w1.heap.size, 0, none⟩) (wl + 1) (wl + 1)) (wl + 1) (List.replicate (wl + 1) (.bool false))) := by
      have := ho1
      rw [HMC.out] at this
      exact this
    have q1 : w2.cell? ⟨w1.heap.size, 0, none⟩ = some (.bool false) := by
      rw [(own_at HO1.out (i := 0) (by omega)).1, List.getElem?_replicate, if_pos (by omega)]
    have q2 : w2.frozen? ⟨w1.heap.size, 0, none⟩ = false := (own_at HO1.out (i := 0) (by omega)).2
    have hlt0 : w.heap.size < w1.heap.size := (HBA.out.below HB1.out).lt
    obtain ⟨W3, hW3⟩ : ∃ x, x = w2.setCell ⟨w1.heap.size, 0, none⟩ (.bool true) := ⟨_, rfl⟩
    have HB3 : Hid (Below w1.heap.size w1 W3) := by
      rw [hW3]
      exact HB2.out.setCell (by show w1.heap.size ≤ w1.heap.size; omega) _
    have HBW3 : Hid (Below w.heap.size w W3) := below_after HBW1.out HB3.out
    have HP3 : Hid (BlsIn W3 (.slice (some ⟨w1.heap.size, 0, none⟩) (wl + 1) (wl + 1)) (true :: List.replicate wl false)) := by
      refine bls_of_row (base := w1.heap.size) ?_
      have := own_set (i := 0) HO1.out (.bool true)
      rw [← hW3, List.replicate_succ, List.set_cons_zero] at this
      simpa [cellB] using this
    have hcl := HEN.out _ _ W3 HBW3.out HRR.out.symm HP3.out (by simp)
    obtain ⟨a0, a1, a2⟩ : _ ∧ _ ∧ _ := ⟨(HBA.out.below (below_after HB1.out HB3.out)).c0, (HBA.out.below (below_after HB1.out HB3.out)).c1, (HBA.out.below (below_after HB1.out HB3.out)).c2⟩
    rw [hW3] at hcl a0 a1 a2
    clear ho1 hg1
    go_wp2_with fail
    refine hcl.mono ?_
    rintro e w4 ⟨v4, o4, rfl, hp4, hl4, hB4⟩
    rw [← hW3] at hB4
    have HB4 : Hid (Below w.heap.size w w4) := below_after HBW3.out hB4
    have hol : o4.length = wl + 1 := by rw [hl4.1]; simp
    have hwo : wl < o4.length := by omega
    obtain ⟨c, hc⟩ : ∃ c, c = o4[wl] := ⟨_, rfl⟩
    have hcb : c = b := by
      have := whole_leads (b := c) HRR.out.symm (by rw [← HWL.out]; exact hl4) (by rw [← HWL.out, List.getElem?_eq_getElem hwo, hc])
      rw [this, HBB.out]
    obtain ⟨va, vc, e1, hvc, hvv⟩ := hp4
    subst e1
    obtain ⟨g, off, e2, hg, hgc⟩ := hvv wl hwo
    subst e2
    rw [← hc, hcb] at hgc
    rw [hol] at hvc ⊢
    have hi0' : (0 : Int) ≤ (wl : Int) := by omega
    have hi1 : (wl : Int) < (wl : Int) + 1 := by omega
    clear hcl a0 a1 a2 hB4 hl4 hvv hc hcb hW3 q1 q2 hol hwo HO1
    go_wp2
    go_ret
    exact ⟨rfl, HB4.out⟩
end Go.Proofs.YtehkaiohmcenbaaDoor
