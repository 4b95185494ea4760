/-
  Set7
-/
import Derived.Test.YtfdjchnckjgapaaGreatDoorX12
import Derived.Test.YtfdjchnckjgapaaGreatDoorX06
namespace Go.Proofs.YtfdjchnckjgapaaGreatDoor
open Go.RowKit Go.Shelf S1
set_option linter.unusedVariables false
theorem Rd.far {w w' : World} {R : Nat} {tv : Value} {us : List U} {row : Option Nat} (h : Rd w R tv us) (hg : w.grownBy w' row) (hr : ∀ j, row = some j → R < j) : Rd w' R tv us := by
  obtain ⟨uv, h0, h1, hf, hl, hsv, a, cap, rfl, hc, hi⟩ := h
  have hne : ∀ k, k ≤ R → some k ≠ row := fun k hk e => by have := hr k e.symm; omega
  refine ⟨_, hg.cell h0 (hne R (Nat.le_refl _)), hg.cell h1 (hne R (Nat.le_refl _)), ?_, Nat.lt_of_lt_of_le hl hg.size, ⟨hsv.1.grown hg (hne _ (by omega)), hsv.2⟩, a, cap, rfl, hc, fun j hlt => ?_⟩
  · rw [← hf]
    exact World.frozen?_of_block (a := ⟨R, 1, none⟩) (hg.block R hl (hne R (Nat.le_refl _)))
  · obtain ⟨g, off, rfl, hgl, d0, d1, d3⟩ := hi j hlt
    exact ⟨g, off, rfl, hgl, hg.cell d0 (hne g (by omega)), hg.cell d1 (hne g (by omega)), hg.cell d3 (hne g (by omega))⟩
theorem own_kept {w w' : World} {base e size n R : Nat} {v : Value} {xs : List Value} (h : w.ownsRow base e size v n xs) (hb : R < base) (hg : w.grownBy w' (some R)) : w'.ownsRow base e size v n xs := by
  refine World.ownsRow.kept h hg ?_
  cases q : v.ownBlock with
  | none => exact .inl rfl
  | some k =>
    right
    have := (World.ownsRow.lt h k q).1
    simp; omega
theorem letL_pos {zs : List Int} {us r : List U} {v : Int} (hr : Runs zs us) (h : letL us = (some v, r)) : 0 ≤ v := by
  have hsg : ∀ {p : Int → Bool} {us r : List U} {v : Int}, Runs zs us → sgn p us = (some v, r) → 0 ≤ v := fun {p us r v} hr h => by
    obtain ⟨u, rfl, _, e⟩ := sgn_some h
    obtain ⟨q, hr⟩ := hr
    have := run_range hr u (by simp)
    omega
  cases h1 : sgn (isC 92) us with
  | mk o1 a => cases o1 with
    | none => rw [letL_a h1] at h; exact hsg hr h
    | some x =>
      have hr1 := hr.sgn h1
      cases h2 : sgn (isC 120) a with
      | mk o2 b => cases o2 with
        | none => rw [letL_b h1 h2] at h; exact hsg hr1 h
        | some y =>
          cases h3 : sgn (isC 123) b with
          | mk o3 c => cases o3 with
            | none => rw [letL_c h1 h2 h3] at h; cases h
            | some z =>
              rw [letL_d h1 h2 h3] at h
              have hv := (hexV_range 6 (figsL 6 c) (figsL_fig 6 c).2 (figsL_fig 6 c).1).1
              unfold numL at h
              split at h
              · cases h
              · split at h
                · injection h with e1 e2; injection e1 with e1; omega
                · cases h
theorem entL_pos {zs : List Int} {us r : List U} {e : Rg} (hr : Runs zs us) (h : entL us = (some e, r)) : 0 ≤ e.lo := by
  cases h1 : letL us with
  | mk o1 a => cases o1 with
    | none => rw [entL_a h1] at h; cases h
    | some lo =>
      have hp := letL_pos hr h1
      cases h2 : sgn (isC 45) a with
      | mk o2 b => cases o2 with
        | none => rw [entL_b h1 h2] at h; injection h with e1 e2; injection e1 with e1; rw [← e1]; exact hp
        | some x => cases h3 : letL b with
          | mk o3 c => cases o3 with
            | none => rw [entL_c h1 h2 h3] at h; cases h
            | some hi => rw [entL_d h1 h2 h3] at h; injection h with e1 e2; injection e1 with e1; rw [← e1]; exact hp
def SetT (n R : Nat) (tv : Value) (sr : SR) (w : World) (e : Ending) (w' : World) : Prop :=
  (∃ a x, sr = SR.bad a x ∧ e = .returned (.tuple #[.slice none 0 0, .int .i64 (a : Int), .int .i64 x]) ∧ x ≠ 0 ∧ w.grownBy w' (some R)) ∨
  (∃ l r s v, sr = SR.good l r ∧ e = .returned (.tuple #[v, .int .i64 0, .int .i64 0]) ∧ Upto (hasR l) s 1114112 ∧ s.length ≤ n ∧ w'.ownsRow w.heap.size 94 2 v s.length (cellsRs s) ∧ Rd w' R tv r ∧ w.grownBy w' (some R))
set_option maxRecDepth 100000 in
set_option maxHeartbeats 8000000 in
theorem set_any (zs : List Int) (us : List U) (R : Nat) (ta : Option Addr) (cap : Nat) (w : World) (hrd : Rd w R (.slice ta zs.length cap) us) (htx : TxtAt R w (.slice ta zs.length cap) zs) (hz : zs.length ≤ 65536) (hul : us.length ≤ 65536) (hpos : 0 < zs.length) (hrun : Runs zs us) :
    Calls Tryz.prog 80 #[.pointer (some ⟨R, 0, none⟩)] w fun e w' => SetT 65536 R (.slice ta zs.length cap) (setF zs.length (us.length + 1) us []) w e w' := by
  obtain ⟨i0, hi0, hz0, hz1, hz2⟩ := info_parts Tryz.infoRange
  have hl : R < w.heap.size := hrd.text.2
  obtain ⟨sr, hsr⟩ : ∃ sr, sr = setF zs.length (us.length + 1) us [] := ⟨_, rfl⟩
  rw [← hsr]
  have HSR : Hid (sr = setF zs.length (us.length + 1) us []) := hsr
  clear hsr
  go_enter Tryz.func80, Tryz.ntmps80
  go_wp2
  go_loopw [5] (fun v wr => ∃ (k : Nat) (vs : List U) (acc : List Rg), vs.length < k ∧ acc.length + vs.length ≤ us.length ∧ Hid (setF zs.length k vs acc = sr) ∧ Rd wr R (.slice ta zs.length cap) vs ∧ Runs zs vs ∧ wr.ownsRow w.heap.size 94 2 v acc.length (cellsRs acc) ∧ Fits acc ∧ w.grownBy wr (some R)) (fun _ wr => leftN wr R)
  case atStart => exact ⟨us.length + 1, us, [], by omega, by simp, HSR.out.symm, hrd, hrun, World.ownsRow_nil _ _ _ _, (fun r h => (by cases h)), World.grownBy.refl _ _⟩
  case round =>
    obtain ⟨k, vs, acc, hk, hlen, HEQ, hr, hrn, ho, hfit, hw⟩ := hrel
    have hl0 := hr.left
    have hws := hw.size
    have HO : Hid (wr.ownsRow w.heap.size 94 2 _ acc.length (cellsRs acc)) := ho
    have HFIT : Hid (Fits acc) := hfit
    clear ho hfit
    obtain ⟨k, rfl⟩ : ∃ m, k = m + 1 := ⟨k - 1, by omega⟩
    have hra1 := hr.alloc (.cells #[.int .i64 93] 3)
    have hga1 : wr.grownBy (wr.alloc (.cells #[.int .i64 93] 3)) (some R) := World.grownBy_alloc _ _ _
    have htk1 := take1_any wr.heap.size 93 _ R _ _ hra1 (World.cell?_alloc_new _ _ _ _)
    cases h1 : sgn (isC 93) vs with
    | mk o1 r1 => cases o1 with
      | some x =>
        have HE : Hid (sr = SR.good acc r1) := HEQ.out.symm.trans (setF_end h1)
        rw [h1] at htk1
        clear h1 hra1
        go_wp2_with fail
        refine (is_any _ _).mono ?_
        rintro e w' ⟨rfl, rfl⟩
        go_wp2_with fail
        refine htk1.mono ?_
        rintro e w1 ⟨rfl, hr1, hgb1⟩
        have hg1 : wr.grownBy w1 (some R) := hga1.trans hgb1
        have hmk := make_any acc _ w1 (by omega) (rng_of_row (own_kept HO.out hl hg1))
        have HR1 : Hid (Rd w1 R (.slice ta zs.length cap) r1) := hr1
        clear htk1 hga1 hgb1 hr1
        go_wp2_with fail
        refine hmk.mono ?_
        rintro e w2 ⟨⟨hnf, _⟩ | ⟨_, s, v', hup, hsl, rfl, hown⟩, hB⟩
        · exact absurd HFIT.out hnf
        · have HUP : Hid (Upto (hasR acc) s 1114112) := hup
          have hg2 : w.grownBy w2 (some R) := (hw.trans hg1).trans (grownR_below hB _)
          have hown2 : w2.ownsRow w.heap.size 94 2 v' s.length (cellsRs s) := own_mono hown (Nat.le_trans hws hg1.size)
          have HOW : Hid (w2.ownsRow w.heap.size 94 2 v' s.length (cellsRs s)) := hown2
          clear hmk hup hown hown2
          go_wp2
          go_ret3
          exact .inr ⟨acc, r1, s, v', HE.out, rfl, HUP.out, by omega, HOW.out, HR1.out.kept (grownR_below hB _), hg2⟩
      | none =>
        have e1 := (sgn_none h1).1
        rw [h1] at htk1
        subst e1
        have H1 : Hid (sgn (isC 93) r1 = (none, r1)) := h1
        clear h1 hra1
        go_wp2_with fail
        refine (is_any _ _).mono ?_
        rintro e w' ⟨rfl, rfl⟩
        go_wp2_with fail
        refine htk1.mono ?_
        rintro e w1 ⟨rfl, hr1, hgb1⟩
        have hg1 : wr.grownBy w1 (some R) := hga1.trans hgb1
        have hg01 : w.grownBy w1 (some R) := hw.trans hg1
        have hat := at_any _ R _ _ _ w1 hr1
        have hen := entry_any zs r1 R ta cap w1 hr1 (htx.grown hg01) hz hpos hrn
        clear htk1 hga1 hgb1 hr1
        go_wp2_with fail
        refine hat.mono ?_
        rintro e w' ⟨rfl, rfl⟩
        cases h2 : entL r1 with
        | mk o2 r2 =>
          have hsf := entL_suffix r1
          rw [h2] at hen hsf
          have hrn2 := hrn.of_suffix hsf
          cases o2 with
          | none =>
            have HE : Hid (sr = SR.bad (atL zs.length r2) (stuckE r2)) := HEQ.out.symm.trans (setF_stuck H1.out h2)
            have hne0 : stuckE r2 ≠ 0 := by cases r2 <;> (simp [stuckE])
            have HNE : Hid (stuckE r2 ≠ 0) := hne0
            clear h2 hsf hne0
            go_wp2_with fail
            refine hen.mono ?_
            rintro e w3 ⟨x, y, rfl, hxy, hr3, hg3⟩
            have hst := stuck_any _ R _ _ _ (w3.alloc (.cells #[.int .i64 x, .int .i64 y] 94)) (hr3.alloc _)
            have hg03 : w.grownBy (w3.alloc (.cells #[.int .i64 x, .int .i64 y] 94)) (some R) := (hg01.trans hg3).trans (World.grownBy_alloc _ _ _)
            clear hen hat hxy
            go_wp2_with fail
            refine hst.mono ?_
            rintro e w' ⟨rfl, rfl⟩
            go_wp2
            go_ret3
            exact .inl ⟨_, _, HE.out, rfl, HNE.out, hg03⟩
          | some en =>
            have hpos2 := entL_pos hrn h2
            have hlt2 := entL_len h2
            cases h3 : (decide (en.hi < en.lo) || decide (1114111 < en.hi)) with
            | true =>
              have HE : Hid (sr = SR.bad (atL zs.length r1) 1) := HEQ.out.symm.trans (setF_arg H1.out h2 h3)
              clear h2 hsf
              go_wp2_with fail
              refine hen.mono ?_
              rintro e w3 ⟨x, y, rfl, hxy, hr3, hg3⟩
              obtain rfl := hxy _ rfl
              have hg03 : w.grownBy (w3.alloc (.cells #[.int .i64 x, .int .i64 y] 94)) (some R) := (hg01.trans hg3).trans (World.grownBy_alloc _ _ _)
              clear hen hat hxy
              by_cases q : y < x
              · clear h3
                go_wp2
                go_ret3
                exact .inl ⟨_, _, HE.out, rfl, by decide, hg03⟩
              · have q2 : 1114111 < y := by simpa [q] using h3
                clear h3
                have q' : decide (y < x) = false := by simpa using q
                go_wp2
                go_ret3
                exact .inl ⟨_, _, HE.out, rfl, by decide, hg03⟩
            | false =>
              have HE : Hid (setF zs.length k r2 (acc ++ [en]) = sr) := (setF_on H1.out h2 h3).symm.trans HEQ.out
              clear h2 hsf
              go_wp2_with fail
              refine hen.mono ?_
              rintro e w3 ⟨x, y, rfl, hxy, hr3, hg3⟩
              obtain rfl := hxy _ rfl
              simp only [Bool.or_eq_false_iff, decide_eq_false_iff_not] at h3
              obtain ⟨q1, q2⟩ := h3
              have q1' : decide (y < x) = false := by simpa using q1
              have q2' : decide (1114111 < y) = false := by simpa using q2
              have hxlo : 0 ≤ x := hpos2
              have HF2 : Hid (Fits (acc ++ [⟨x, y⟩])) := fun r h => by
                rcases List.mem_append.1 h with h | h
                · exact HFIT.out r h
                · obtain rfl : r = ⟨x, y⟩ := by simpa using h
                  exact ⟨hxlo, by show x ≤ y; omega, by show y ≤ 1114111; omega⟩
              have hg13 : wr.grownBy w3 (some R) := hg1.trans hg3
              have HO3 : Hid (((w3.alloc (.cells #[.int .i64 x, .int .i64 y] 94)).alloc (.cells #[.int .i64 x, .int .i64 y] 94)).ownsRow w.heap.size 94 2 _ acc.length (cellsRs acc)) := World.ownsRow.alloc (World.ownsRow.alloc (own_kept HO.out hl hg13) _) _
              have HN3 : Hid _ := heap_new' (w3.alloc (.cells #[.int .i64 x, .int .i64 y] 94)) (.cells #[.int .i64 x, .int .i64 y] 94)
              rw [World.size_alloc] at HN3
              have hg03 : w.grownBy ((w3.alloc (.cells #[.int .i64 x, .int .i64 y] 94)).alloc (.cells #[.int .i64 x, .int .i64 y] 94)) (some R) := (((hw.trans hg13)).trans (World.grownBy_alloc _ _ _)).trans (World.grownBy_alloc _ _ _)
              have HR3 : Hid (Rd ((w3.alloc (.cells #[.int .i64 x, .int .i64 y] 94)).alloc (.cells #[.int .i64 x, .int .i64 y] 94)) R (.slice ta zs.length cap) r2) := (hr3.alloc _).alloc _
              have hs3 := hg13.size
              have hlt2' : r2.length < r1.length := hlt2
              clear hen hat hxy hr3 q1 q2 HO hg3 hlt2 hpos2
              go_wp2_with (at_builtin; go_must (refine wpList_append_own _ rfl (.tmp 44) (.tmp 46) 43 rfl w.heap.size 94 i0 (.agg #[.int .i64 0, .int .i64 0]) 2 16 Tryz.underlying43 hi0 hz0 hz1 hz2 rfl (by decide) _ _ _ rfl HO3.out ⟨w3.heap.size + 1, 0, none⟩ 1 1 (cellsR ⟨x, y⟩) rfl rfl (World.news_of_block HN3.out) (by simp [cellsR, Value.oneCell']) (by unfold maxLen; omega) (by omega) (by simp; omega) ?_); intro v' w6 hown' hgrow hnil)
              have hfar : ∀ j, Value.ownBlock u5 = some j → w.heap.size ≤ j := fun j e => (World.ownsRow.lt HO3.out j e).1
              have hr6 := HR3.out.far hgrow (fun j e => by have := hfar j e; omega)
              have hg06 : w.grownBy w6 (some R) := hg03.andThen hgrow (fun j e => .inl (hfar j e))
              go_roundw
              case rel => exact ⟨k, r2, acc ++ [⟨x, y⟩], by omega, by simp; omega, HE, hr6, hrn2, by rw [cellsRs_snoc]; simpa using hown', HF2.out, hg06⟩
              case measure => rw [hr6.left, hl0]; exact hlt2'
end Go.Proofs.YtfdjchnckjgapaaGreatDoor
