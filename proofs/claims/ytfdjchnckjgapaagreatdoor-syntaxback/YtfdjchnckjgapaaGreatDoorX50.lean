/-
  What the document's Make answers. What sets of the document answers.
-/
import Derived.Test.YtfdjchnckjgapaaGreatDoorX33
import Derived.Test.YtfdjchnckjgapaaGreatDoorX41
import Derived.Deep.RegionHeld3
namespace Go.Proofs.YtfdjchnckjgapaaGreatDoor
open Go.RowKit
set_option linter.unusedVariables false

/-- What the document's Make tells. -/
def RefMakeTells (l : List Rg) (w : World) (e : Ending) (w' : World) : Prop :=
  ((¬ Fits l ∧ e = .returned (.tuple #[.slice none 0 0, .int .i64 1])) ∨ (Fits l ∧ ∃ s v', Upto (hasR l) s 1114112 ∧ e = .returned (.tuple #[v', .int .i64 0]) ∧ w'.ownsRow w.heap.size 94 2 v' s.length (cellsRs s))) ∧ Below w.heap.size w w'

set_option maxRecDepth 100000 in
set_option maxHeartbeats 4000000 in
theorem refMake_any (l : List Rg) (v : Value) (w : World) (hlen : l.length ≤ 20000) (hv : RngSrc w v l) :
    Calls Tryz.prog 67 #[v] w fun e w' => RefMakeTells l w e w' := by
  have HV : Hid (RngSrc w v l) := hv
  obtain ⟨a, cap, rfl, hc, hcell⟩ := hv.1
  have HA : Hid (∀ i, (h : i < l.length) → ∃ g off, a = some ⟨g, off, none⟩ ∧ g < w.heap.size ∧ w.cell? ⟨g, off + i * 2, none⟩ = some (.int .i64 l[i].lo) ∧ w.cell? ⟨g, off + i * 2 + 1, none⟩ = some (.int .i64 l[i].hi)) := hcell
  clear hcell hv
  go_enter Tryz.func67, Tryz.ntmps67
  go_wp2
  go_loopw [4] (fun x wr => ∃ k : Nat, k ≤ l.length ∧ x = .int .i64 k ∧ (∀ i, (h : i < l.length) → i < k → 0 ≤ l[i].lo ∧ l[i].lo ≤ l[i].hi ∧ l[i].hi ≤ 1114111) ∧ ∃ nd, wr = w.drewN nd) (fun x _ => l.length - (intOf x).toNat)
  case atStart => exact ⟨0, Nat.zero_le _, rfl, fun i h q => by omega, 0, rfl⟩
  case round =>
    obtain ⟨k, hk, rfl, hok, nd, rfl⟩ := hrel
    have HOK : Hid (∀ i, (h : i < l.length) → i < k → 0 ≤ l[i].lo ∧ l[i].lo ≤ l[i].hi ∧ l[i].hi ≤ 1114111) := hok
    clear hok
    by_cases hlt : k < l.length
    · obtain ⟨g, off, rfl, hg, c0, c1⟩ := HA.out k hlt
      obtain ⟨r, hr⟩ : ∃ r, r = l[k] := ⟨_, rfl⟩
      rw [← hr] at c0 c1
      have HR : Hid (r = l[k]) := hr
      clear hr
      have HNF : Hid (¬ (0 ≤ r.lo ∧ r.lo ≤ r.hi ∧ r.hi ≤ 1114111) → ¬ Fits l) := fun q f => q (f r (by rw [HR.out]; exact List.getElem_mem hlt) |> fun z => ⟨z.1, z.2.1, z.2.2⟩)
      have hk1 : (k : Int) < (l.length : Int) := by omega
      by_cases q0 : r.lo < 0
      · have HN : Hid (¬ Fits l) := HNF.out (by omega)
        go_wp2
        go_quiet (fail)
        go_wp2
        go_ret2
        exact ⟨.inl ⟨HN.out, rfl⟩, below_drewN' (below_drewN' (Below.refl _ _) nd) nq⟩
      · have q0' : decide (r.lo < 0) = false := by simpa using q0
        by_cases q1 : 1114111 < r.hi
        · have HN : Hid (¬ Fits l) := HNF.out (by omega)
          go_wp2
          go_quiet (fail)
          go_wp2
          go_ret2
          exact ⟨.inl ⟨HN.out, rfl⟩, below_drewN' (below_drewN' (Below.refl _ _) nd) nq⟩
        · have q1' : decide (1114111 < r.hi) = false := by simpa using q1
          by_cases q2 : r.hi < r.lo
          · have HN : Hid (¬ Fits l) := HNF.out (by omega)
            go_wp2
            go_quiet (fail)
            go_wp2
            go_ret2
            exact ⟨.inl ⟨HN.out, rfl⟩, below_drewN' (below_drewN' (Below.refl _ _) nd) nq⟩
          · have q2' : decide (r.hi < r.lo) = false := by simpa using q2
            have HO2 : Hid (∀ i, (h : i < l.length) → i < k + 1 → 0 ≤ l[i].lo ∧ l[i].lo ≤ l[i].hi ∧ l[i].hi ≤ 1114111) := fun i h q => by
              by_cases e : i = k
              · subst e; rw [← HR.out]; omega
              · exact HOK.out i h (by omega)
            go_wp2
            go_quiet (fail)
            go_wp2
            go_roundw
            case rel => exact ⟨k + 1, by omega, by go_num, HO2.out, _, rfl⟩
            case measure => simp [intOf]; omega
    · obtain rfl : k = l.length := by omega
      have HF : Hid (Fits l) := fun r hr => by
        obtain ⟨i, hi, rfl⟩ := List.getElem_of_mem hr
        exact HOK.out i hi hi
      have hB : Below w.heap.size w (w.drewN nd) := below_drewN' (Below.refl _ _) _
      have HP := pick_any 0 (fun x y => x || y) (.inl ⟨rfl, rfl⟩) l [] (by omega) (by simp) HF.out (fun r hr => by cases hr) _ _ (w.drewN nd) (HV.out.below hB) (RngSrc.nil _)
      clear HOK HV HA
      go_wp2_with fail
      refine HP.mono ?_
      rintro e w1 ⟨s, v1, rfl, hu, ho, hB1⟩
      have HO : Hid (w1.ownsRow w.heap.size 94 2 v1 s.length (cellsRs s)) := ho
      have HU : Hid (Upto (hasR l) s 1114112) := hu.congr (fun x _ _ => by simp [show hasR [] x = false from rfl])
      have hB2 : Below w.heap.size w w1 := hB.trans hB1
      clear HP hu ho
      go_wp2
      go_ret2
      exact ⟨.inr ⟨HF.out, s, v1, HU.out, rfl, HO.out⟩, hB2⟩
end Go.Proofs.YtfdjchnckjgapaaGreatDoor

namespace Go.Proofs.YtfdjchnckjgapaaGreatDoor
open Go.RowKit Go.Shelf S1
set_option linter.unusedVariables false

theorem any_take {st : Sts} {s : List Rg} {k : Nat} (h : k < st.length) : ((st.take (k + 1)).any fun x => sameS x s) = (((st.take k).any fun x => sameS x s) || sameS st[k] s) := by
  rw [List.take_add_one, List.getElem?_eq_getElem h, Option.toList_some, List.any_append]
  simp

set_option maxRecDepth 100000 in
set_option maxHeartbeats 8000000 in
theorem rsets_any (st : Sts) (hst : st.length ≤ 100) (hs40 : ∀ s ∈ st, s.length ≤ 20000) (sv : Value) (w : World) (h : SetSrc w sv st) :
    Calls Tryz.prog 31 #[sv] w fun e w' => e = .returned (.bool (setsF st.length st)) ∧ Below w.heap.size w w' := by
  have HSA : Hid (SetSrc w sv st) := h
  obtain ⟨za, ca, rfl, hca, _⟩ := h
  have HS4 : Hid (∀ s ∈ st, s.length ≤ 20000) := hs40
  obtain ⟨b, hb⟩ : ∃ b, b = setsF st.length st := ⟨_, rfl⟩
  rw [← hb]
  have HB : Hid (b = setsF st.length st) := hb
  obtain ⟨ns, hns⟩ : ∃ x, x = st.length := ⟨_, rfl⟩
  rw [← hns] at hca HSA ⊢
  have HNS : Hid (ns = st.length) := hns
  have hns1 : ns ≤ 100 := by omega
  clear hs40 hb hns hst
  go_enter Tryz.func31, Tryz.ntmps31
  go_wp2
  go_loopw [3] (fun x wr => ∃ (j : Nat), j ≤ ns ∧ x = .int .i64 (j : Int) ∧ Hid (setsF j st = true) ∧ Below w.heap.size w wr) (fun x _ => ns - (intOf x).toNat)
  case atStart => exact ⟨0, Nat.zero_le _, rfl, (show setsF 0 st = true from rfl), Below.refl _ _⟩
  case round =>
    obtain ⟨j, hj, rfl, HD, hB⟩ := hrel
    by_cases hjl : j < ns
    · have hjs : j < st.length := by have := HNS.out; omega
      have HSR : Hid (SetSrc wr (.slice za ns ca) st) := HSA.out.below hB
      obtain ⟨ga, oa, xa, xca, yl, rfl, hga, r0, hrg⟩ : ∃ (ga oa : Nat) (xa : Option Addr) (xca yl : Nat), za = some ⟨ga, oa, none⟩ ∧ ga < wr.heap.size ∧ wr.cell? ⟨ga, oa + j, none⟩ = some (.slice xa yl xca) ∧ RngSrc wr (.slice xa yl xca) st[j] := by
        obtain ⟨a, ca', e1, _, hi⟩ := HSR.out
        obtain ⟨ga, oa, x, rfl, hga, h0, h1⟩ := hi j hjs
        have h1' := h1.1
        obtain ⟨xa, xca, rfl, _⟩ := h1'
        exact ⟨ga, oa, xa, xca, _, by simp at e1; exact e1.1, hga, h0, h1⟩
      have hj0 : (0 : Int) ≤ (j : Int) := by omega
      have hj1 : (j : Int) < (ns : Int) := by omega
      have HRG : Hid (RngSrc wr (.slice xa yl xca) st[j]) := hrg
      have h40 : st[j].length ≤ 20000 := HS4.out _ (List.getElem_mem hjs)
      have h1 := refMake_any st[j] (.slice xa yl xca) wr (by omega) HRG.out
      have HNX : Hid (setsF (j + 1) st = false → b = false) := fun h => by rw [HB.out]; exact setsF_end hjs h
      have HAT : Hid (setsF (j + 1) st = (isSetB st[j] && !((st.take j).any fun x => sameS x st[j]))) := setsF_at hjs HD.out
      have HNIL : Hid (∀ W, RngIn W (.slice none 0 0) []) := fun W => RngAt.nil _ _
      have HR0 : Hid (wr.cell? ⟨ga, oa + j, none⟩ = some (.slice xa yl xca)) := r0
      clear hrg h40
      go_wp2_with fail
      refine h1.mono ?_
      rintro e w1 ⟨(⟨hf, rfl⟩ | ⟨hf, s, v', hu, rfl, how⟩), hB1⟩
      · have HE : Hid (b = false) := HNX.out (by rw [HAT.out, isSetB_bad hf]; rfl)
        have HBB : Hid (Below w.heap.size w w1) := below_after hB hB1
        have r1 : w1.cell? ⟨ga, oa + j, none⟩ = some (.slice xa yl xca) := (hB1.cell (p := ⟨ga, _, none⟩) hga).trans r0
        have hga1 : ga < w1.heap.size := Nat.lt_of_lt_of_le hga hB1.size
        have h2 := sameG_any [] st[j] (by simp) (.slice none 0 0) (.slice xa yl xca) w1 (HNIL.out _) (HRG.out.1.below hB1)
        obtain ⟨qq, hqq⟩ : ∃ x, x = sameS [] st[j] := ⟨_, rfl⟩
        rw [← hqq] at h2
        clear h1 hf hB1 hqq
        go_wp2_with fail
        refine h2.mono ?_
        rintro e w2 ⟨rfl, hB2⟩
        clear h2
        have hBB2 := below_after HBB.out hB2
        go_wp2
        go_ret
        rw [HE.out]
        exact ⟨rfl, hBB2⟩
      · have hms : mkS st[j] = s := mkS_eq hf hu
        have HIS : Hid (isSetB st[j] = sameS s st[j]) := by
          show _ = _
          rw [isSetB_fit hf, hms]
        have r1 : w1.cell? ⟨ga, oa + j, none⟩ = some (.slice xa yl xca) := (hB1.cell (p := ⟨ga, _, none⟩) hga).trans r0
        have hga1 : ga < w1.heap.size := Nat.lt_of_lt_of_le hga hB1.size
        have h2 := sameG_any s st[j] (by have := hu.isSet.len; omega) v' (.slice xa yl xca) w1 (rng_of_row how) (HRG.out.1.below hB1)
        obtain ⟨va, vc, rfl, _⟩ := rng_of_row how
        have HBw1 : Hid (Below wr.heap.size wr w1) := hB1
        clear h1 hf hu how hms hB1
        cases hsm : sameS s st[j] with
        | false =>
          rw [hsm] at h2
          have HE : Hid (b = false) := HNX.out (by rw [HAT.out, HIS.out, hsm]; rfl)
          clear hsm
          go_wp2_with fail
          refine h2.mono ?_
          rintro e w2 ⟨rfl, hB2⟩
          clear h2
          have hBB := below_after hB (below_after HBw1.out hB2)
          go_wp2
          go_ret
          rw [HE.out]
          exact ⟨rfl, hBB⟩
        | true =>
          rw [hsm] at h2
          have HAT2 : Hid (setsF (j + 1) st = !((st.take j).any fun x => sameS x st[j])) := by
            show _ = _
            rw [HAT.out, HIS.out, hsm, Bool.true_and]
          clear hsm
          go_wp2_with fail
          refine h2.mono ?_
          rintro e w2 ⟨rfl, hB2⟩
          clear h2
          have HBw2 : Hid (Below wr.heap.size wr w2) := below_after HBw1.out hB2
          have HBW : Hid (Below w.heap.size w wr) := hB
          obtain ⟨wr0, hwr0⟩ : ∃ x, x = wr := ⟨_, rfl⟩
          have HWR : Hid (wr0 = wr) := hwr0
          rw [← hwr0] at HSR HRG HBw2 HBW HR0
          have hga0 : ga < wr0.heap.size := by rw [hwr0]; exact hga
          clear hB2 hwr0 r0 r1 hga hga1 HBw1 hB
          go_wp2
          go_loopw [7] (fun x wr => ∃ (k : Nat), k ≤ j ∧ x = .int .i64 (k : Int) ∧ Hid (((st.take k).any fun x => sameS x st[j]) = false) ∧ Below wr0.heap.size wr0 wr) (fun x _ => j - (intOf x).toNat)
          case atStart => exact ⟨0, Nat.zero_le _, rfl, (show _ = _ by rfl), HBw2.out⟩
          case round =>
            obtain ⟨k, hk, rfl, HK, hBk⟩ := hrel
            by_cases hkl : k < j
            · have hks : k < st.length := by omega
              obtain ⟨yb, ycb, zl, q0, hq⟩ : ∃ (yb : Option Addr) (ycb zl : Nat), wr.cell? ⟨ga, oa + k, none⟩ = some (.slice yb zl ycb) ∧ RngIn wr (.slice yb zl ycb) st[k] := by
                obtain ⟨a, ca', e1, _, hi⟩ := HSR.out.below hBk
                obtain ⟨g2, o2, x, rfl, hg2, h0, h1⟩ := hi k hks
                have e1' : ga = g2 ∧ oa = o2 := by simp at e1; exact ⟨e1.1.1, e1.1.2⟩
                obtain ⟨rfl, rfl⟩ := e1'
                have h1' := h1.1
                obtain ⟨xa, xca, rfl, _⟩ := h1'
                exact ⟨xa, xca, _, h0, h1.1⟩
              have q1 : wr.cell? ⟨ga, oa + j, none⟩ = some (.slice xa yl xca) := (hBk.cell (p := ⟨ga, _, none⟩) hga0).trans HR0.out
              have hgk : ga < wr.heap.size := Nat.lt_of_lt_of_le hga0 hBk.size
              have HSM : Hid (∀ W, Below wr.heap.size wr W → Calls Tryz.prog 24 #[.slice yb zl ycb, .slice xa yl xca] W fun e w' => e = .returned (.bool (sameS st[k] st[j])) ∧ Below W.heap.size W w') := fun W hW => sameG_any st[k] st[j] (by have := HS4.out _ (List.getElem_mem hks); omega) _ _ W (hq.below hW) (HRG.out.1.below (below_after hBk hW))
              have HKP : Hid (∀ W, Below (wr.drewN 1).heap.size (wr.drewN 1) W → W.cell? ⟨ga, oa + k, none⟩ = some (.slice yb zl ycb) ∧ W.cell? ⟨ga, oa + j, none⟩ = some (.slice xa yl xca)) := fun W hW => by
                have hk2 : Below wr.heap.size wr W := (below_drewN' (Below.refl _ _) 1).trans hW
                exact ⟨(hk2.cell (p := ⟨ga, _, none⟩) hgk).trans q0, (hk2.cell (p := ⟨ga, _, none⟩) hgk).trans q1⟩
              have hk0 : (0 : Int) ≤ (k : Int) := by omega
              have hk1 : (k : Int) < (ns : Int) := by omega
              have HAN : Hid (((st.take (k + 1)).any fun x => sameS x st[j]) = sameS st[k] st[j]) := by
                show _ = _
                rw [any_take hks, HK.out, Bool.false_or]
              obtain ⟨bb, hbb⟩ : ∃ x, x = sameS st[k] st[j] := ⟨_, rfl⟩
              rw [← hbb] at HSM HAN
              clear hq hbb
              go_wp2
              go_region_held3 (fun w' => w'.cell? ⟨ga, oa + k, none⟩ = some (.slice yb zl ycb) ∧ w'.cell? ⟨ga, oa + j, none⟩ = some (.slice xa yl xca)) (first | exact HKP.out _ hB3 | go_keep) ((go_at_call 24; refine (HSM.out _ (by exact below_drewN' (Below.refl _ _) 1)).mono ?_; rintro e w3 ⟨rfl, hB3⟩))
              have HB3 : Hid (Below wr0.heap.size wr0 w3) := below_after hBk ((below_drewN' (Below.refl _ _) 1).trans hB3)
              clear hB3
              cases hbv : bb with
              | true =>
                have HE : Hid (b = false) := HNX.out (by
                  rw [HAT2.out]
                  have h5 : ((st.take j).any fun x => sameS x st[j]) = true := by
                    have h6 := HAN.out
                    rw [hbv] at h6
                    rw [List.any_eq_true] at h6 ⊢
                    obtain ⟨x, hx1, hx2⟩ := h6
                    refine ⟨x, ?_, hx2⟩
                    have e : st.take (k + 1) = (st.take j).take (k + 1) := by rw [List.take_take, Nat.min_eq_left (by omega)]
                    rw [e] at hx1
                    exact List.mem_of_mem_take hx1
                  rw [h5]; rfl)
                clear hbv
                go_wp2
                go_ret
                rw [HE.out]
                exact ⟨rfl, below_after HBW.out HB3.out⟩
              | false =>
                have HK2 : Hid (((st.take (k + 1)).any fun x => sameS x st[j]) = false) := by show _ = _; rw [HAN.out, hbv]
                clear hbv
                go_wp2
                go_roundw
                case rel => exact ⟨k + 1, by omega, by go_num, HK2, HB3.out⟩
                case measure => simp [intOf]; omega
            · have HS1 : Hid (setsF (j + 1) st = true) := by
                show _ = _
                have h6 := HK.out
                have e : k = j := by omega
                rw [HAT2.out]
                have h7 : ((st.take j).any fun x => sameS x st[j]) = false := by rw [← h6, e]
                rw [h7]; rfl
              have hBB : Below w.heap.size w wr := below_after HBW.out hBk
              go_wp2
              go_roundw
              case rel => exact ⟨j + 1, by omega, by go_num, HS1, hBB⟩
              case measure => simp [intOf]; omega
    · have HE : Hid (b = true) := by
        show _ = _
        rw [HB.out, ← HNS.out, ← HD.out, show j = ns by omega]
      go_wp2
      go_ret
      rw [HE.out]
      exact ⟨rfl, hB⟩
end Go.Proofs.YtfdjchnckjgapaaGreatDoor
