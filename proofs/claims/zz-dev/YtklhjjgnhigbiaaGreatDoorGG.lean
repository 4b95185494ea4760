/-
  subset.below, allBelow, Right and Run: whether states may be, and to which state classes lead. subset.Right. subset.Run.
-/
import Derived.Test.YtklhjjgnhigbiaaGreatDoorSbBuild
namespace Go.Proofs.YtklhjjgnhigbiaaGreatDoor
open Go.RowKit Go.Shelf
set_option linter.unusedVariables false

def inB (c x : Int) : Bool := decide (0 ≤ x) && decide (x < c)
theorem inB_iff {c x : Int} : inB c x = true ↔ 0 ≤ x ∧ x < c := by simp [inB]
theorem below_any12 (c n : Int) (w : World) : Calls Tryz.prog 34 #[.int .i64 c, .int .i64 n] w fun e w' => e = .returned (.bool (inB c n)) ∧ w' = w := by
  go_enter Tryz.func34, Tryz.ntmps34
  by_cases h : 0 ≤ n
  · go_wp2
    go_ret
    exact ⟨by simp [inB, h], by first | rfl | trivial⟩
  · go_wp2
    go_ret
    exact ⟨by simp [inB]; intro q; omega, by first | rfl | trivial⟩

set_option maxRecDepth 100000 in
set_option maxHeartbeats 4000000 in
theorem allBelow_any (c : Int) (l : List Int) (v : Value) (w : World) (hv : IntsAt w v l) (hl : l.length ≤ 1000000) : Calls Tryz.prog 35 #[.int .i64 c, v] w fun e w' => e = .returned (.bool (l.all (inB c))) ∧ w' = w := by
  have HV : Hid (IntsAt w v l) := hv
  obtain ⟨a, ca, rfl, hca⟩ := hv.slice
  obtain ⟨len, hle⟩ : ∃ n, n = l.length := ⟨_, rfl⟩
  have HLE : Hid (len = l.length) := hle
  rw [← hle] at hca hl HV ⊢
  clear hle hv
  go_enter Tryz.func35, Tryz.ntmps35
  go_wp2
  go_loopw [9] (fun x wr => ∃ k : Nat, k ≤ len ∧ x = .int .i64 (k : Int) ∧ Hid (∀ i, (h : i < l.length) → i < k → inB c l[i] = true) ∧ wr = w) (fun x _ => len - (intOf x).toNat)
  case atStart => exact ⟨0, Nat.zero_le _, rfl, fun i _ h => absurd h (by omega), rfl⟩
  case round =>
    obtain ⟨k, hk, rfl, HK, rfl⟩ := hrel
    by_cases hlt : k < len
    · have hkz : k < l.length := by rw [← HLE.out]; exact hlt
      obtain ⟨ga, oa, rfl, hga, a0⟩ := HV.out.at hkz
      obtain ⟨z, hz⟩ : ∃ z : Int, z = l[k] := ⟨_, rfl⟩
      have HZ : Hid (z = l[k]) := hz
      rw [← hz] at a0
      clear hz
      have hk0 : (0 : Int) ≤ (k : Int) := by omega
      have hk1 : (k : Int) < (len : Int) := by omega
      have hb := below_any12 c z wr
      obtain ⟨b, hbb⟩ : ∃ b, b = inB c z := ⟨_, rfl⟩
      have HBB : Hid (b = inB c z) := hbb
      rw [← hbb] at hb
      clear hbb
      cases b with
      | false =>
        go_wp2_with fail
        refine hb.mono ?_
        rintro e w1 ⟨rfl, hw1⟩
        have hw1' := hw1.symm
        subst hw1'
        clear hb
        go_wp2
        go_ret
        refine ⟨?_, by first | rfl | trivial⟩
        have : l.all (inB c) = false := by
          rw [Bool.eq_false_iff]
          intro q
          have := List.all_eq_true.1 q _ (List.getElem_mem hkz)
          rw [← HZ.out, ← HBB.out] at this
          exact absurd this (by decide)
        rw [this]; rfl
      | true =>
        go_wp2_with fail
        refine hb.mono ?_
        rintro e w1 ⟨rfl, hw1⟩
        have hw1' := hw1.symm
        subst hw1'
        clear hb
        go_wp2
        go_roundw
        case rel =>
          refine ⟨k + 1, by omega, by go_num, fun i h1 h2 => ?_, by first | rfl | trivial⟩
          by_cases e : i < k
          · exact HK.out i h1 e
          · obtain rfl : i = k := by omega
            rw [← HZ.out]
            exact HBB.out.symm
        case measure => simp [intOf]; omega
    · obtain rfl : k = len := by omega
      go_wp2
      go_ret
      refine ⟨?_, by first | rfl | trivial⟩
      have : l.all (inB c) = true := List.all_eq_true.2 (fun x hx => by
        obtain ⟨i, hi, rfl⟩ := List.mem_iff_getElem.1 hx
        exact HK.out i hi (by rw [HLE.out]; exact hi))
      rw [this]; rfl
end Go.Proofs.YtklhjjgnhigbiaaGreatDoor

namespace Go.Proofs.YtklhjjgnhigbiaaGreatDoor
open Go.RowKit Go.Shelf
set_option linter.unusedVariables false

/-- States that may be. -/
def rightD (N : List (List Int)) (F : List Bool) : Bool :=
  decide (1 ≤ N.length) && decide (N.length ≤ 5000) && decide (F.length = N.length) && decide (1 ≤ (N.getD 0 []).length) && decide ((N.getD 0 []).length ≤ 200) && N.all (fun r => decide (r.length = (N.getD 0 []).length) && r.all (inB N.length))
theorem rightD_iff {N : List (List Int)} {F : List Bool} : rightD N F = true ↔ (1 ≤ N.length ∧ N.length ≤ 5000 ∧ F.length = N.length ∧ 1 ≤ (N.getD 0 []).length ∧ (N.getD 0 []).length ≤ 200 ∧ ∀ i, (h : i < N.length) → N[i].length = (N.getD 0 []).length ∧ N[i].all (inB N.length) = true) := by
  unfold rightD
  simp only [Bool.and_eq_true, decide_eq_true_eq, List.all_eq_true, and_assoc]
  constructor
  · rintro ⟨h1, h2, h3, h4, h5, h6⟩
    exact ⟨h1, h2, h3, h4, h5, fun i hi => h6 _ (List.getElem_mem hi)⟩
  · rintro ⟨h1, h2, h3, h4, h5, h6⟩
    refine ⟨h1, h2, h3, h4, h5, fun r hr => ?_⟩
    obtain ⟨i, hi, rfl⟩ := List.mem_iff_getElem.1 hr
    exact h6 i hi
theorem rightD_not {N : List (List Int)} {F : List Bool} (h : ¬ (1 ≤ N.length ∧ N.length ≤ 5000 ∧ F.length = N.length ∧ 1 ≤ (N.getD 0 []).length ∧ (N.getD 0 []).length ≤ 200 ∧ ∀ i, (h : i < N.length) → N[i].length = (N.getD 0 []).length ∧ N[i].all (inB N.length) = true)) : rightD N F = false := by
  rw [Bool.eq_false_iff]
  exact fun q => h (rightD_iff.1 q)

set_option maxRecDepth 100000 in
set_option maxHeartbeats 8000000 in
theorem sright_any (N : List (List Int)) (F : List Bool) (dv : Value) (w : World) (hd : DfaAt w dv N F) : Calls Tryz.prog 29 #[dv] w fun e w' => e = .returned (.bool (rightD N F)) ∧ Below w.heap.size w w' := by
  obtain ⟨nv, fv, rfl, ⟨na, nc, rfl, hnc, hn0, hx⟩, fa, fc, rfl, hfc, hf0, hfx⟩ := hd
  have HX : Hid (∀ i, (h : i < N.length) → ∃ g off x, na = some ⟨g, off, none⟩ ∧ g < w.heap.size ∧ w.cell? ⟨g, off + i, none⟩ = some x ∧ IntsAt w x N[i]) := hx
  obtain ⟨n, hn⟩ : ∃ x, x = N.length := ⟨_, rfl⟩
  obtain ⟨m, hm⟩ : ∃ x, x = F.length := ⟨_, rfl⟩
  obtain ⟨c, hc⟩ : ∃ x, x = (N.getD 0 []).length := ⟨_, rfl⟩
  have HN : Hid (n = N.length) := hn
  have HM : Hid (m = F.length) := hm
  have HC : Hid (c = (N.getD 0 []).length) := hc
  have HRT : Hid ((1 ≤ n ∧ n ≤ 5000 ∧ m = n ∧ 1 ≤ c ∧ c ≤ 200 ∧ ∀ i, (h : i < N.length) → N[i].length = c ∧ N[i].all (inB n) = true) → rightD N F = true) := by
    rw [hn, hm, hc]; exact fun h => rightD_iff.2 h
  have HRF : Hid (¬ (1 ≤ n ∧ n ≤ 5000 ∧ m = n ∧ 1 ≤ c ∧ c ≤ 200 ∧ ∀ i, (h : i < N.length) → N[i].length = c ∧ N[i].all (inB n) = true) → rightD N F = false) := by
    rw [hn, hm, hc]; exact rightD_not
  obtain ⟨R, hR⟩ : ∃ R, R = rightD N F := ⟨_, rfl⟩
  rw [← hR] at HRT HRF ⊢
  rw [← hn] at hnc ⊢
  rw [← hm] at hfc ⊢
  obtain ⟨W0, hW0⟩ : ∃ W, W = w.alloc (.cells #[.slice na n nc, .slice fa m fc] 35) := ⟨_, rfl⟩
  have hB0 : Below w.heap.size w W0 := by rw [hW0]; exact below_alloc _ _
  have hbx : DBox W0 w.heap.size (.slice na n nc) (.slice fa m fc) := by rw [hW0]; exact heap_new' _ _
  have HW0 : Hid (W0 = _) := hW0
  have HB0 : Hid (Below w.heap.size w W0) := hB0
  have c0 := hbx.c0
  have c1 := hbx.c1
  have hlt := hbx.lt
  have o1 := oneTo_any 5000 (n : Int) W0
  have o2 := oneTo_any 200 (c : Int) W0
  clear hx hfx hn hm hc hR hbx hW0 hB0
  go_enter Tryz.func29, Tryz.ntmps29
  go_upto_region 1 with fail
  rw [← HW0.out]
  by_cases hn1 : 1 ≤ n ∧ n ≤ 5000
  · have e1 : (decide (1 ≤ (n : Int)) && decide ((n : Int) ≤ 5000)) = true := by simp; omega
    rw [e1] at o1
    go_wp2_with fail
    refine o1.mono ?_
    rintro e w1 ⟨rfl, hw1⟩
    have hw1' := hw1.symm
    subst hw1'
    clear o1
    by_cases hmn : m = n
    · subst hmn
      have hN0 : 0 < N.length := by rw [← HN.out]; omega
      obtain ⟨g0, q0, x0, rfl, hg0, r0, hi0⟩ := HX.out 0 hN0
      obtain ⟨y0, yc0, rfl, hyc0⟩ := hi0.slice
      have hce : N[0].length = c := by rw [HC.out, List.getD_eq_getElem?_getD, List.getElem?_eq_getElem hN0]; rfl
      rw [hce] at r0 hyc0
      have r0' : W0.cell? ⟨g0, q0, none⟩ = some (.slice y0 c yc0) := (HB0.out.cell (p := ⟨g0, _, none⟩) hg0).trans r0
      have hm0 : (0 : Int) < (m : Int) := by omega
      clear hi0 hce r0
      by_cases hc1 : 1 ≤ c ∧ c ≤ 200
      · have e2 : (decide (1 ≤ (c : Int)) && decide ((c : Int) ≤ 200)) = true := by simp; omega
        rw [e2] at o2
        have hc2 : c ≤ 200 := hc1.2
        have hm5 : m ≤ 5000 := hn1.2
        go_wp2_with fail
        refine o2.mono ?_
        rintro e w1 ⟨rfl, hw1⟩
        have hw1' := hw1.symm
        subst hw1'
        clear o2
        go_wp2
        go_loopw [31] (fun x wr => ∃ k : Nat, k ≤ m ∧ x = .int .i64 (k : Int) ∧ Hid (∀ i, (h : i < N.length) → i < k → N[i].length = c ∧ N[i].all (inB m) = true) ∧ wr = W0) (fun x _ => m - (intOf x).toNat)
        case atStart => exact ⟨0, Nat.zero_le _, rfl, fun i _ h => absurd h (by omega), rfl⟩
        case round =>
          obtain ⟨k, hk, rfl, HK, rfl⟩ := hrel
          by_cases hlt2 : k < m
          · have hkz : k < N.length := by rw [← HN.out]; exact hlt2
            obtain ⟨g1, q1, x1, e1', hg1, r1, hi1⟩ := HX.out k hkz
            obtain ⟨rfl, rfl⟩ : g0 = g1 ∧ q0 = q1 := by
              injection e1' with e1'
              injection e1' with h1 h2 _
              exact ⟨h1, h2⟩
            obtain ⟨y1, yc1, rfl, hyc1⟩ := hi1.slice
            obtain ⟨z, hz⟩ : ∃ z, z = N[k].length := ⟨_, rfl⟩
            have HZ : Hid (z = N[k].length) := hz
            rw [← hz] at r1 hyc1 hi1
            have r1' : wr.cell? ⟨g0, q0 + k, none⟩ = some (.slice y1 z yc1) := (HB0.out.cell (p := ⟨g0, _, none⟩) hg1).trans r1
            have hk0 : (0 : Int) ≤ (k : Int) := by omega
            have hk1 : (k : Int) < (m : Int) := by omega
            have HI1 : Hid (IntsAt wr (.slice y1 z yc1) N[k]) := hi1.below HB0.out
            clear hi1 hz r1
            by_cases hzc : z = c
            · have ha := allBelow_any (m : Int) N[k] (.slice y1 z yc1) wr HI1.out (by rw [← HZ.out]; omega)
              obtain ⟨b, hb⟩ : ∃ b, b = N[k].all (inB m) := ⟨_, rfl⟩
              have HBB : Hid (b = N[k].all (inB m)) := hb
              rw [← hb] at ha
              clear hb
              have hnq : ((c : Int) != (c : Int)) = false := by simp
              have HZC : Hid (z = c) := hzc
              rw [hzc] at ha r1' hyc1
              clear hzc
              cases b with
              | false =>
                go_wp2_with fail
                refine ha.mono ?_
                rintro e w1 ⟨rfl, hw1⟩
                have hw1' := hw1.symm
                subst hw1'
                clear ha
                go_wp2
                go_ret
                refine ⟨?_, HB0.out⟩
                rw [HRF.out (fun q => by
                  have := (q.2.2.2.2.2 k hkz).2
                  rw [← HBB.out] at this
                  exact absurd this (by decide))]
                rfl
              | true =>
                go_wp2_with fail
                refine ha.mono ?_
                rintro e w1 ⟨rfl, hw1⟩
                have hw1' := hw1.symm
                subst hw1'
                clear ha
                go_wp2
                go_roundw
                case rel =>
                  refine ⟨k + 1, by omega, by go_num, fun i h1 h2 => ?_, by first | rfl | trivial⟩
                  by_cases e : i < k
                  · exact HK.out i h1 e
                  · obtain rfl : i = k := by omega
                    exact ⟨by rw [← HZ.out]; exact HZC.out, HBB.out.symm⟩
                case measure => simp [intOf]; omega
            · have hnq : ((z : Int) != (c : Int)) = true := by simp; omega
              go_wp2
              go_ret
              refine ⟨?_, HB0.out⟩
              rw [HRF.out (fun q => by
                have := (q.2.2.2.2.2 k hkz).1
                rw [← HZ.out] at this
                exact hzc this)]
              rfl
          · obtain rfl : k = m := by omega
            go_wp2
            go_ret
            refine ⟨?_, HB0.out⟩
            rw [HRT.out ⟨hn1.1, hn1.2, by trivial, hc1.1, hc1.2, fun i hi => HK.out i hi (by have := HN.out; omega)⟩]
            rfl
      · have e2 : (decide (1 ≤ (c : Int)) && decide ((c : Int) ≤ 200)) = false := by
          rw [Bool.eq_false_iff]; intro q; simp at q; omega
        rw [e2] at o2
        go_wp2_with fail
        refine o2.mono ?_
        rintro e w1 ⟨rfl, hw1⟩
        have hw1' := hw1.symm
        subst hw1'
        clear o2
        go_wp2
        go_ret
        refine ⟨?_, HB0.out⟩
        rw [HRF.out (fun q => hc1 ⟨q.2.2.2.1, q.2.2.2.2.1⟩)]
        rfl
    · have hne : ((m : Int) != (n : Int)) = true := by simp; omega
      go_wp2
      go_ret
      refine ⟨?_, HB0.out⟩
      rw [HRF.out (fun q => hmn q.2.2.1)]
      rfl
  · have e1 : (decide (1 ≤ (n : Int)) && decide ((n : Int) ≤ 5000)) = false := by
      rw [Bool.eq_false_iff]; intro q; simp at q; omega
    rw [e1] at o1
    go_wp2_with fail
    refine o1.mono ?_
    rintro e w1 ⟨rfl, hw1⟩
    have hw1' := hw1.symm
    subst hw1'
    clear o1
    go_wp2
    go_ret
    refine ⟨?_, HB0.out⟩
    rw [HRF.out (fun q => hn1 ⟨q.1, q.2.1⟩)]
    rfl
end Go.Proofs.YtklhjjgnhigbiaaGreatDoor

namespace Go.Proofs.YtklhjjgnhigbiaaGreatDoor
open Go.RowKit Go.Shelf
set_option linter.unusedVariables false

/-- The state behind a class, and behind classes. -/
def stepD (N : List (List Int)) (a c : Int) : Int := (N.getD a.toNat []).getD c.toNat 0
def runD (N : List (List Int)) (a : Int) (cs : List Int) : Int := cs.foldl (stepD N) a
def runOk (N : List (List Int)) (F : List Bool) (a : Int) (cs : List Int) : Bool := rightD N F && inB N.length a && cs.all (inB (N.getD 0 []).length)
def runV (N : List (List Int)) (F : List Bool) (a : Int) (cs : List Int) : Int := if runOk N F a cs = true then runD N a cs else 0
def runE (N : List (List Int)) (F : List Bool) (a : Int) (cs : List Int) : Int := if runOk N F a cs = true then 0 else 1
theorem step_inB {N : List (List Int)} {F : List Bool} (h : rightD N F = true) {a c : Int} (ha : inB N.length a = true) (hc : inB (N.getD 0 []).length c = true) : inB N.length (stepD N a c) = true := by
  obtain ⟨h1, h2, h3, h4, h5, h6⟩ := rightD_iff.1 h
  obtain ⟨a0, a1⟩ := inB_iff.1 ha
  obtain ⟨c0, c1⟩ := inB_iff.1 hc
  have hi : a.toNat < N.length := by omega
  obtain ⟨h7, h8⟩ := h6 _ hi
  have e : N.getD a.toNat [] = N[a.toNat] := by rw [List.getD_eq_getElem?_getD, List.getElem?_eq_getElem hi]; rfl
  have hj : c.toNat < N[a.toNat].length := by omega
  unfold stepD
  rw [e, List.getD_eq_getElem?_getD, List.getElem?_eq_getElem hj]
  exact List.all_eq_true.1 h8 _ (List.getElem_mem hj)
theorem run_inB {N : List (List Int)} {F : List Bool} (h : rightD N F = true) : ∀ (cs : List Int) (a : Int), inB N.length a = true → cs.all (inB (N.getD 0 []).length) = true → inB N.length (runD N a cs) = true
  | [], a, ha, _ => ha
  | c :: cs, a, ha, hc => by
    rw [List.all_cons, Bool.and_eq_true] at hc
    exact run_inB h cs _ (step_inB h ha hc.1) hc.2
theorem run_take {N : List (List Int)} {a : Int} {cs : List Int} {k : Nat} (h : k < cs.length) : runD N a (cs.take (k + 1)) = stepD N (runD N a (cs.take k)) cs[k] := by
  unfold runD
  rw [List.take_add_one, List.getElem?_eq_getElem h, List.foldl_append]
  rfl
theorem all_take {p : Int → Bool} {cs : List Int} (h : cs.all p = true) (k : Nat) : (cs.take k).all p = true := List.all_eq_true.2 (fun x hx => List.all_eq_true.1 h x (List.mem_of_mem_take hx))

set_option maxRecDepth 100000 in
set_option maxHeartbeats 8000000 in
theorem srun_any (N : List (List Int)) (F : List Bool) (dv : Value) (a0 : Int) (cs : List Int) (cv : Value) (w : World) (hd : DfaAt w dv N F) (hcv : IntsAt w cv cs) (hcl : cs.length ≤ 100000) : Calls Tryz.prog 11 #[dv, .int .i64 a0, cv] w fun e w' => e = .returned (.tuple #[.int .i64 (runV N F a0 cs), .int .i64 (runE N F a0 cs)]) ∧ Below w.heap.size w w' := by
  have hrt := sright_any N F dv
  obtain ⟨nv, fv, rfl, ⟨na, nc, rfl, hnc, hn0, hx⟩, hf⟩ := hd
  have hd : DfaAt w (.agg #[.slice na N.length nc, fv]) N F := ⟨_, fv, rfl, ⟨na, nc, rfl, hnc, hn0, hx⟩, hf⟩
  have HX : Hid (∀ i, (h : i < N.length) → ∃ g off x, na = some ⟨g, off, none⟩ ∧ g < w.heap.size ∧ w.cell? ⟨g, off + i, none⟩ = some x ∧ IntsAt w x N[i]) := hx
  obtain ⟨fa, fc, rfl, hfc, hf0, hfx⟩ := hf
  have HCV : Hid (IntsAt w cv cs) := hcv
  obtain ⟨ca, cc, rfl, hcc⟩ := hcv.slice
  obtain ⟨n, hn⟩ : ∃ x, x = N.length := ⟨_, rfl⟩
  obtain ⟨m, hm⟩ : ∃ x, x = F.length := ⟨_, rfl⟩
  obtain ⟨c, hc⟩ : ∃ x, x = (N.getD 0 []).length := ⟨_, rfl⟩
  obtain ⟨L, hL⟩ : ∃ x, x = cs.length := ⟨_, rfl⟩
  have HN : Hid (n = N.length) := hn
  have HL : Hid (L = cs.length) := hL
  have HC : Hid (c = (N.getD 0 []).length) := hc
  obtain ⟨b1, hb1⟩ : ∃ b, b = rightD N F := ⟨_, rfl⟩
  obtain ⟨b2, hb2⟩ : ∃ b, b = inB n a0 := ⟨_, rfl⟩
  obtain ⟨b3, hb3⟩ : ∃ b, b = cs.all (inB c) := ⟨_, rfl⟩
  have HRV : Hid (runV N F a0 cs = if (b1 && b2 && b3) = true then runD N a0 cs else 0) := by rw [hb1, hb2, hb3, hn, hc]; rfl
  have HRE : Hid (runE N F a0 cs = if (b1 && b2 && b3) = true then 0 else 1) := by rw [hb1, hb2, hb3, hn, hc]; rfl
  have HR1 : Hid (b1 = rightD N F) := hb1
  have HR2 : Hid (b2 = inB n a0) := hb2
  have HR3 : Hid (b3 = cs.all (inB c)) := hb3
  obtain ⟨V, hV⟩ : ∃ V, V = runV N F a0 cs := ⟨_, rfl⟩
  obtain ⟨E, hE⟩ : ∃ V, V = runE N F a0 cs := ⟨_, rfl⟩
  rw [← hV] at HRV ⊢
  rw [← hE] at HRE ⊢
  rw [← hn] at hnc ⊢
  rw [← hm] at hfc ⊢
  rw [← hL] at hcc hcl HCV ⊢
  rw [← hn, ← hm] at hd
  rw [← hb1, ← hn, ← hm] at hrt
  obtain ⟨W0, hW0⟩ : ∃ W, W = w.alloc (.cells #[.slice na n nc, .slice fa m fc] 35) := ⟨_, rfl⟩
  have hB0 : Below w.heap.size w W0 := by rw [hW0]; exact below_alloc _ _
  have hbx : DBox W0 w.heap.size (.slice na n nc) (.slice fa m fc) := by rw [hW0]; exact heap_new' _ _
  have HBX : Hid (DBox W0 w.heap.size (.slice na n nc) (.slice fa m fc)) := hbx
  have HW0 : Hid (W0 = _) := hW0
  have HB0 : Hid (Below w.heap.size w W0) := hB0
  have c0 := hbx.c0
  have c1 := hbx.c1
  have hlt := hbx.lt
  have o1 := hrt W0 (hd.below hB0)
  clear hx hfx hn hm hc hL hV hE hbx hW0 hB0 hd hrt hcv hb1 hb2 hb3
  go_enter Tryz.func11, Tryz.ntmps11
  go_upto_region 1 with fail
  rw [← HW0.out]
  cases b1 with
  | false =>
    go_wp2_with fail
    refine o1.mono ?_
    rintro e w1 ⟨rfl, hB1⟩
    clear o1
    go_wp2
    go_ret2
    refine ⟨?_, below_after HB0.out hB1⟩
    rw [HRV.out, HRE.out]
    rfl
  | true =>
    have HRI : Hid (1 ≤ N.length ∧ N.length ≤ 5000 ∧ F.length = N.length ∧ 1 ≤ (N.getD 0 []).length ∧ (N.getD 0 []).length ≤ 200 ∧ ∀ i, (h : i < N.length) → N[i].length = (N.getD 0 []).length ∧ N[i].all (inB N.length) = true) := rightD_iff.1 HR1.out.symm
    have hN0 : 0 < N.length := by have := HRI.out.1; omega
    obtain ⟨g0, q0, x0, rfl, hg0, r0, hi0⟩ := HX.out 0 hN0
    obtain ⟨y0, yc0, rfl, hyc0⟩ := hi0.slice
    have hce : N[0].length = c := by rw [HC.out, List.getD_eq_getElem?_getD, List.getElem?_eq_getElem hN0]; rfl
    rw [hce] at r0 hyc0
    have hn5 : n ≤ 5000 ∧ 1 ≤ n := by rw [HN.out]; exact ⟨HRI.out.2.1, HRI.out.1⟩
    obtain ⟨hn5, hn1⟩ := hn5
    have hn01 : (0 : Int) < (n : Int) := by omega
    clear hi0 hce
    go_wp2_with fail
    refine o1.mono ?_
    rintro e w1 ⟨rfl, hB1⟩
    have c0' := (HBX.out.below hB1).c0
    have hlt' := (HBX.out.below hB1).lt
    have HB1 : Hid (Below w.heap.size w w1) := below_after HB0.out hB1
    have o2 := below_any12 (n : Int) a0 w1
    rw [← HR2.out] at o2
    clear o1 c0 c1 hlt hB1
    cases b2 with
    | false =>
      go_wp2_with fail
      refine o2.mono ?_
      rintro e w2 ⟨rfl, hw1⟩
      have hw1' := hw1.symm
      subst hw1'
      clear o2
      go_wp2
      go_ret2
      refine ⟨?_, HB1.out⟩
      rw [HRV.out, HRE.out]
      rfl
    | true =>
      have r0' : w1.cell? ⟨g0, q0, none⟩ = some (.slice y0 c yc0) := (HB1.out.cell (p := ⟨g0, _, none⟩) hg0).trans r0
      have hg0' : g0 < w1.heap.size := by have := HB1.out.size; omega
      have o3 := allBelow_any (c : Int) cs (.slice ca L cc) w1 (HCV.out.below HB1.out) (by have := HL.out; omega)
      rw [← HR3.out] at o3
      go_wp2_with fail
      refine o2.mono ?_
      rintro e w2 ⟨rfl, hw1⟩
      have hw1' := hw1.symm
      subst hw1'
      clear o2 r0
      cases b3 with
      | false =>
        go_wp2_with fail
        refine o3.mono ?_
        rintro e w2 ⟨rfl, hw1⟩
        have hw1' := hw1.symm
        subst hw1'
        clear o3
        go_wp2
        go_ret2
        refine ⟨?_, HB1.out⟩
        rw [HRV.out, HRE.out]
        rfl
      | true =>
        go_wp2_with fail
        refine o3.mono ?_
        rintro e w2 ⟨rfl, hw1⟩
        have hw1' := hw1.symm
        subst hw1'
        clear o3
        go_wp2
        go_loopw [1, 33] (fun x1 x33 wr => ∃ (k : Nat) (a : Int), k ≤ L ∧ x33 = .int .i64 (k : Int) ∧ x1 = .int .i64 a ∧ Hid (a = runD N a0 (cs.take k)) ∧ wr = w1) (fun _ x33 _ => L - (intOf x33).toNat)
        case atStart => exact ⟨0, a0, Nat.zero_le _, rfl, rfl, by simp [runD, Hid], rfl⟩
        case round =>
          obtain ⟨k, a, hk, rfl, rfl, HA, rfl⟩ := hrel
          by_cases hkl : k < L
          · have hkz : k < cs.length := by rw [← HL.out]; exact hkl
            have hain : inB N.length a = true := by
              rw [HA.out]
              exact run_inB HR1.out.symm _ _ (by rw [← HN.out]; exact HR2.out.symm) (all_take (by rw [← HC.out]; exact HR3.out.symm) k)
            obtain ⟨A, rfl⟩ : ∃ A : Nat, a = (A : Int) := ⟨a.toNat, by have := (inB_iff.1 hain).1; omega⟩
            have hAn : A < N.length := by have := (inB_iff.1 hain).2; omega
            obtain ⟨gc, oc, rfl, hgc, z0⟩ := HCV.out.at hkz
            have hcin : inB (N.getD 0 []).length cs[k] = true := by
              have := List.all_eq_true.1 HR3.out.symm _ (List.getElem_mem hkz)
              rw [HC.out] at this
              exact this
            obtain ⟨z, hz⟩ : ∃ z : Int, z = cs[k] := ⟨_, rfl⟩
            rw [← hz] at z0 hcin
            obtain ⟨Z, rfl⟩ : ∃ Z : Nat, z = (Z : Int) := ⟨z.toNat, by have := (inB_iff.1 hcin).1; omega⟩
            have hZc : Z < (N.getD 0 []).length := by have := (inB_iff.1 hcin).2; omega
            obtain ⟨g1, q1, x1, e1', hg1, r1, hi1⟩ := HX.out A hAn
            obtain ⟨rfl, rfl⟩ : g0 = g1 ∧ q0 = q1 := by
              injection e1' with e1'
              injection e1' with h1 h2 _
              exact ⟨h1, h2⟩
            have hZr : Z < N[A].length := by have := (HRI.out.2.2.2.2.2 A hAn).1; omega
            have hrl : N[A].length = c := by have := (HRI.out.2.2.2.2.2 A hAn).1; rw [HC.out]; exact this
            obtain ⟨y1, yc1, rfl, hyc1⟩ := hi1.slice
            obtain ⟨g2, q2, rfl, hg2, s0⟩ := hi1.at hZr
            obtain ⟨u, hu⟩ : ∃ u : Int, u = N[A][Z] := ⟨_, rfl⟩
            have HU : Hid (u = runD N a0 (cs.take (k + 1))) := by
              show _ = _
              rw [run_take hkz, ← HA.out, ← hz, hu]
              unfold stepD
              have e : N.getD ((A : Int).toNat) [] = N[A] := by rw [List.getD_eq_getElem?_getD, Int.toNat_natCast, List.getElem?_eq_getElem hAn]; rfl
              rw [e, List.getD_eq_getElem?_getD, Int.toNat_natCast, List.getElem?_eq_getElem hZr]; rfl
            rw [← hu] at s0
            rw [hrl] at r1 hyc1
            have z1 : wr.cell? ⟨gc, oc + k, none⟩ = some (.int .i64 (Z : Int)) := (HB1.out.cell (p := ⟨gc, _, none⟩) hgc).trans z0
            have r1' : wr.cell? ⟨g0, q0 + A, none⟩ = some (.slice (some ⟨g2, q2, none⟩) c yc1) := (HB1.out.cell (p := ⟨g0, _, none⟩) hg1).trans r1
            have s1 : wr.cell? ⟨g2, q2 + Z, none⟩ = some (.int .i64 u) := (HB1.out.cell (p := ⟨g2, _, none⟩) hg2).trans s0
            have hk0 : (0 : Int) ≤ (k : Int) := by omega
            have hk1 : (k : Int) < (L : Int) := by omega
            have hA0 : (0 : Int) ≤ (A : Int) := by omega
            have hA1 : (A : Int) < (n : Int) := by have := HN.out; omega
            have hZ0 : (0 : Int) ≤ (Z : Int) := by omega
            have hZ1 : (Z : Int) < (c : Int) := by omega
            clear hi1 hz hu z0 r1 s0 hain hcin hZr hrl hAn hZc
            go_wp2
            go_roundw
            case rel => exact ⟨k + 1, u, by omega, by go_num, rfl, HU, by first | rfl | trivial⟩
            case measure => simp [intOf]; omega
          · obtain rfl : k = L := by omega
            go_wp2
            go_ret2
            refine ⟨?_, HB1.out⟩
            have : a = runD N a0 cs := by
              rw [HA.out, List.take_of_length_le (by have := HL.out; omega)]
            rw [HRV.out, HRE.out, this]
            rfl
end Go.Proofs.YtklhjjgnhigbiaaGreatDoor
