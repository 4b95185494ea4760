/-
  What areSets answers. What areSets answers. What syntax.Right answers.
-/
import Derived.Test.YtfdjchnckjgapaaGreatDoorX39
import Derived.Test.YtfdjchnckjgapaaGreatDoorX38
import Derived.Test.YtfdjchnckjgapaaGreatDoorX06
import Derived.Test.YtfdjchnckjgapaaGreatDoorX28
import Derived.Test.YtfdjchnckjgapaaGreatDoorX40
namespace Go.Proofs.YtfdjchnckjgapaaGreatDoor
open Go.RowKit Go.Shelf S1
set_option linter.unusedVariables false

theorem fits_iff {s : List Rg} : (s.all fun r => decide (0 ≤ r.lo ∧ r.lo ≤ r.hi ∧ r.hi < 1114112)) = true ↔ Fits s := by
  simp only [List.all_eq_true, decide_eq_true_eq, Fits]
  constructor
  · intro h r hr; have := h r hr; omega
  · intro h r hr; have := h r hr; omega
theorem isSetB_bad {s : List Rg} (h : ¬ Fits s) : isSetB s = false := by
  unfold isSetB
  cases q : (s.all fun r => decide (0 ≤ r.lo ∧ r.lo ≤ r.hi ∧ r.hi < 1114112)) with
  | false => rfl
  | true => exact absurd (fits_iff.1 q) h
theorem isSetB_fit {s : List Rg} (h : Fits s) : isSetB s = sameS (mkS s) s := by
  unfold isSetB
  rw [fits_iff.2 h, Bool.true_and]
theorem setsF_false {k : Nat} {st : Sts} (h : setsF k st = false) : ∀ n, setsF (k + n) st = false
  | 0 => h
  | n + 1 => by
    show (setsF (k + n) st && _) = false
    rw [setsF_false h n]; rfl
theorem setsF_at {k : Nat} {st : Sts} (hk : k < st.length) (h : setsF k st = true) : setsF (k + 1) st = (isSetB st[k] && !((st.take k).any fun x => sameS x st[k])) := by
  show (setsF k st && _) = _
  rw [h, Bool.true_and, List.getElem?_eq_getElem hk]
theorem setsF_end {k : Nat} {st : Sts} (hk : k < st.length) (h : setsF (k + 1) st = false) : setsF st.length st = false := by
  have := setsF_false h (st.length - (k + 1))
  rw [show k + 1 + (st.length - (k + 1)) = st.length by omega] at this
  exact this
theorem idxS_any {s : List Rg} : ∀ {st : Sts}, (idxS s st).isSome = st.any fun x => sameS x s
  | [] => rfl
  | x :: l => by
    unfold idxS
    simp only [List.any_cons]
    cases h : sameS x s with
    | true => simp
    | false =>
      simp only [Bool.false_eq_true, if_false, Option.isSome_map, Bool.false_or]
      exact idxS_any

theorem areSets1_any (s x : List Rg) (hlen : x.length ≤ 600000) (v xv : Value) (B : Nat) (w : World) (hb : w.cell? ⟨B, 0, none⟩ = some v) (hv : RngIn w v s) (hx : RngIn w xv x) :
    Calls Tryz.prog 62 #[xv, .pointer (some ⟨B, 0, none⟩)] w fun e w' => e = .returned (.bool (sameS x s)) ∧ Below w.heap.size w w' := by
  have h1 := equal_any x s hlen xv v w hx hv
  obtain ⟨va, vc, rfl, _⟩ := hv
  obtain ⟨xa, xc, rfl, _⟩ := hx
  go_enter Tryz.func62, Tryz.ntmps62
  go_wp2_with fail
  refine h1.mono ?_
  rintro e w1 ⟨rfl, hB⟩
  clear h1
  go_wp2
  go_ret
  exact ⟨rfl, hB⟩

set_option maxRecDepth 100000 in
set_option maxHeartbeats 4000000 in
theorem indexA_any (s : List Rg) (st : Sts) (hst : st.length ≤ 100) (v : Value) (B : Nat) (ad : Option Addr) (cap : Nat) (hcap : st.length ≤ cap) (w : World) (hb : w.cell? ⟨B, 0, none⟩ = some v) (hv : RngIn w v s)
    (hs : ∀ i, (h : i < st.length) → ∃ g off x, ad = some ⟨g, off, none⟩ ∧ g < w.heap.size ∧ w.cell? ⟨g, off + i, none⟩ = some x ∧ RngIn w x st[i] ∧ st[i].length ≤ 600000) :
    Calls Tryz.prog 104 #[.slice ad st.length cap, .func (.func 62) #[] #[.pointer (some ⟨B, 0, none⟩)]] w fun e w' => e = .returned (.int .i64 (idxV (idxS s st))) ∧ Below w.heap.size w w' := by
  obtain ⟨o, ho⟩ : ∃ o, o = idxV (idxS s st) := ⟨_, rfl⟩
  rw [← ho]
  have HO : Hid (o = idxV ((idxS s (st.drop 0)).map (· + 0))) := by show _ = _; rw [ho]; simp
  have HS : Hid (∀ i, (h : i < st.length) → ∃ g off x, ad = some ⟨g, off, none⟩ ∧ g < w.heap.size ∧ w.cell? ⟨g, off + i, none⟩ = some x ∧ RngIn w x st[i] ∧ st[i].length ≤ 600000) := hs
  have HV : Hid (RngIn w v s) := hv
  have hBl : B < w.heap.size := World.block_lt_of_cell? w ⟨B, 0, none⟩ hb
  clear ho hs hv
  go_enter Tryz.func104, Tryz.ntmps104
  go_wp2
  go_loopw [8] (fun i wr => ∃ k : Nat, k ≤ st.length ∧ i = .int .i64 k ∧ Hid (o = idxV ((idxS s (st.drop k)).map (· + k))) ∧ Below w.heap.size w wr) (fun i _ => st.length - (intOf i).toNat)
  case atStart => exact ⟨0, Nat.zero_le _, rfl, HO, Below.refl _ _⟩
  case round =>
    obtain ⟨k, hk, rfl, HD, hB⟩ := hrel
    by_cases hlt : k < st.length
    · obtain ⟨g, off, x, rfl, hg, hc, hx, hi⟩ := HS.out k hlt
      have hc' : wr.cell? ⟨g, off + k, none⟩ = some x := (hB.cell (p := ⟨g, _, none⟩) hg).trans hc
      have h1 := areSets1_any s st[k] hi v x B wr ((hB.cell (p := ⟨B, 0, none⟩) hBl).trans hb) (HV.out.below hB) (hx.below hB)
      obtain ⟨xa, xc, rfl, _⟩ := hx
      have hk0 : (0 : Int) ≤ (k : Int) := by omega
      have hk1 : (k : Int) < (st.length : Int) := by omega
      have HD2 := idxS_drop (s := s) hlt
      have HD3 : Hid (idxS s (st.drop k) = if sameS st[k] s = true then some 0 else (idxS s (st.drop (k + 1))).map (· + 1)) := HD2
      clear HD2 hc
      cases hq : sameS st[k] s with
      | true =>
        rw [hq] at h1
        have HE : Hid (o = (k : Int)) := by
          show _ = _
          rw [HD.out, HD3.out, hq]; simp [idxV]
        clear HD HD3
        go_wp2_with fail
        refine h1.mono ?_
        rintro e w1 ⟨rfl, hB1⟩
        clear h1
        go_wp2
        go_ret
        exact ⟨by rw [HE.out]; rfl, below_after hB (hB1)⟩
      | false =>
        rw [hq] at h1
        have HE : Hid (o = idxV ((idxS s (st.drop (k + 1))).map (· + (k + 1)))) := by
          show _ = _
          rw [HD.out, HD3.out, hq]
          simp only [Bool.false_eq_true, if_false, Option.map_map]
          congr 2
          funext j
          simp; omega
        clear HD HD3
        go_wp2_with fail
        refine h1.mono ?_
        rintro e w1 ⟨rfl, hB1⟩
        clear h1
        go_wp2
        go_roundw
        case rel => exact ⟨k + 1, by omega, by go_num, HE, below_after hB hB1⟩
        case measure => simp [intOf]; omega
    · obtain rfl : k = st.length := by omega
      have HE : Hid (o = -1) := by
        show _ = _
        rw [HD.out, List.drop_length]; rfl
      go_wp2
      go_ret
      exact ⟨by rw [HE.out]; rfl, hB⟩
theorem idxV_ge (o : Option Nat) : decide (idxV o ≥ 0) = o.isSome := by
  cases o with
  | none => simp [idxV]
  | some i => simp [idxV]
theorem containsA_any (s : List Rg) (st : Sts) (hst : st.length ≤ 100) (v : Value) (B : Nat) (ad : Option Addr) (cap : Nat) (hcap : st.length ≤ cap) (w : World) (hb : w.cell? ⟨B, 0, none⟩ = some v) (hv : RngIn w v s)
    (hs : ∀ i, (h : i < st.length) → ∃ g off x, ad = some ⟨g, off, none⟩ ∧ g < w.heap.size ∧ w.cell? ⟨g, off + i, none⟩ = some x ∧ RngIn w x st[i] ∧ st[i].length ≤ 600000) :
    Calls Tryz.prog 61 #[.slice ad st.length cap, .func (.func 62) #[] #[.pointer (some ⟨B, 0, none⟩)]] w fun e w' => e = .returned (.bool (st.any fun x => sameS x s)) ∧ Below w.heap.size w w' := by
  have h1 := indexA_any s st hst v B ad cap hcap w hb hv hs
  have h2 := idxV_ge (idxS s st)
  rw [idxS_any] at h2
  obtain ⟨o, ho⟩ : ∃ o, o = idxV (idxS s st) := ⟨_, rfl⟩
  rw [← ho] at h1 h2
  obtain ⟨b, hbb⟩ : ∃ b, b = st.any fun x => sameS x s := ⟨_, rfl⟩
  rw [← hbb] at h2 ⊢
  clear ho hbb hs hv
  go_enter Tryz.func61, Tryz.ntmps61
  go_wp2_with fail
  refine h1.mono ?_
  rintro e w1 ⟨rfl, hB⟩
  clear h1
  go_wp2
  go_ret
  exact ⟨by first | rfl | rw [h2], hB⟩

end Go.Proofs.YtfdjchnckjgapaaGreatDoor

namespace Go.Proofs.YtfdjchnckjgapaaGreatDoor
open Go.RowKit Go.Shelf S1
set_option linter.unusedVariables false

set_option maxRecDepth 100000 in
set_option maxHeartbeats 8000000 in
theorem areSets_any (st : Sts) (hst : st.length ≤ 100) (hs40 : ∀ s ∈ st, s.length ≤ 600000) (sv : Value) (w : World) (h : SetIn w sv st) :
    Calls Tryz.prog 29 #[sv] w fun e w' => e = .returned (.bool (setsF st.length st)) ∧ Below w.heap.size w w' := by
  have HSA : Hid (SetIn w sv st) := h
  obtain ⟨za, ca, rfl, hca, _⟩ := h
  have HS4 : Hid (∀ s ∈ st, s.length ≤ 600000) := hs40
  obtain ⟨b, hb⟩ : ∃ b, b = setsF st.length st := ⟨_, rfl⟩
  rw [← hb]
  have HB : Hid (b = setsF st.length st) := hb
  obtain ⟨ns, hns⟩ : ∃ x, x = st.length := ⟨_, rfl⟩
  rw [← hns] at hca HSA ⊢
  have HNS : Hid (ns = st.length) := hns
  have hns1 : ns ≤ 100 := by omega
  clear hs40 hb hns hst
  go_enter Tryz.func29, Tryz.ntmps29
  go_wp2
  go_loopw [9] (fun x wr => ∃ (j : Nat), j ≤ ns ∧ x = .int .i64 (j : Int) ∧ Hid (setsF j st = true) ∧ Below w.heap.size w wr) (fun x _ => ns - (intOf x).toNat)
  case atStart => exact ⟨0, Nat.zero_le _, rfl, (show setsF 0 st = true from rfl), Below.refl _ _⟩
  case round =>
    obtain ⟨j, hj, rfl, HD, hB⟩ := hrel
    by_cases hjl : j < ns
    · have hjl' : decide ((j : Int) < (ns : Int)) = true := by simp; omega
      have hjs : j < st.length := by have := HNS.out; omega
      have HSR : Hid (SetIn wr (.slice za ns ca) st) := HSA.out.below hB
      obtain ⟨ga, oa, xa, xca, yl, rfl, hga, r0, hrg⟩ : ∃ (ga oa : Nat) (xa : Option Addr) (xca yl : Nat), za = some ⟨ga, oa, none⟩ ∧ ga < wr.heap.size ∧ wr.cell? ⟨ga, oa + j, none⟩ = some (.slice xa yl xca) ∧ RngIn wr (.slice xa yl xca) st[j] := by
        obtain ⟨a, ca', e1, _, hi⟩ := HSR.out
        obtain ⟨ga, oa, x, rfl, hga, h0, h1⟩ := hi j hjs
        have h1' := h1
        obtain ⟨xa, xca, rfl, _⟩ := h1'
        exact ⟨ga, oa, xa, xca, _, by simp at e1; exact e1.1, hga, h0, h1⟩
      have hj0 : (0 : Int) ≤ (j : Int) := by omega
      have hj1 : (j : Int) < (ns : Int) := by omega
      have HB3 : Hid (Below wr.heap.size wr (wr.alloc (.cells #[.slice xa yl xca] 43))) := below_alloc _ _
      have HRG : Hid (RngIn (wr.alloc (.cells #[.slice xa yl xca] 43)) (.slice xa yl xca) st[j]) := hrg.below (below_alloc _ _)
      have HE3 : Hid ((wr.alloc (.cells #[.slice xa yl xca] 43)).heap[wr.heap.size]? = some (.cells #[.slice xa yl xca] 43 (0, 0))) := heap_new' _ _
      have h40 : st[j].length ≤ 600000 := HS4.out _ (List.getElem_mem hjs)
      have h1 := make_any st[j] (.slice xa yl xca) (wr.alloc (.cells #[.slice xa yl xca] 43)) (by omega) HRG.out
      have HNX : Hid (setsF (j + 1) st = false → b = false) := fun h => by rw [HB.out]; exact setsF_end hjs h
      have HAT : Hid (setsF (j + 1) st = (isSetB st[j] && !((st.take j).any fun x => sameS x st[j]))) := setsF_at hjs HD.out
      clear hrg h40
      go_wp2_with fail
      refine h1.mono ?_
      rintro e w1 ⟨(⟨hf, rfl⟩ | ⟨hf, s, v', hu, hl, rfl, how⟩), hB1⟩
      · have HE : Hid (b = false) := HNX.out (by rw [HAT.out, isSetB_bad hf]; rfl)
        have hBB := below_after hB (below_after HB3.out hB1)
        clear h1 hf
        go_wp2
        go_ret
        rw [HE.out]
        exact ⟨rfl, hBB⟩
      · have hms : mkS st[j] = s := mkS_eq hf hu
        have HIS : Hid (isSetB st[j] = sameS s st[j]) := by
          show _ = _
          rw [isSetB_fit hf, hms]
        have e1 : w1.heap[wr.heap.size]? = some (.cells #[.slice xa yl xca] 43 (0, 0)) := (hB1.block _ (by simp)).trans HE3.out
        have HE1 : Hid (w1.heap[wr.heap.size]? = some (.cells #[.slice xa yl xca] 43 (0, 0))) := e1
        have c1 : w1.cell? ⟨wr.heap.size, 0, none⟩ = some (.slice xa yl xca) := cell_of_row _ _ 0 _ _ _ e1
        have hlt1 : wr.heap.size < w1.heap.size := (Array.getElem?_eq_some_iff.1 e1).1
        have HRG1 : Hid (RngIn w1 (.slice xa yl xca) st[j]) := HRG.out.below hB1
        have h2 := equal_any s st[j] (by have := HS4.out _ (List.getElem_mem hjs); omega) v' (.slice xa yl xca) w1 (rng_of_row how) HRG1.out
        obtain ⟨va, vc, rfl, _⟩ := rng_of_row how
        have HBw1 : Hid (Below wr.heap.size wr w1) := below_after HB3.out hB1
        clear h1 hf hu hl how hB1 hms e1
        cases hsm : sameS s st[j] with
        | false =>
          rw [hsm] at h2
          have HE : Hid (b = false) := HNX.out (by rw [HAT.out, HIS.out, hsm]; rfl)
          clear hsm
          go_wp2_with fail
          refine h2.mono ?_
          rintro e w2 ⟨rfl, hB2⟩
          clear h2
          have hBB := below_after hB (below_after HBw1.out hB2)
          go_wp2
          go_ret
          rw [HE.out]
          exact ⟨rfl, hBB⟩
        | true =>
          rw [hsm] at h2
          have HAT2 : Hid (setsF (j + 1) st = !((st.take j).any fun x => sameS x st[j])) := by
            show _ = _
            rw [HAT.out, HIS.out, hsm, Bool.true_and]
          clear hsm
          go_wp2_with fail
          refine h2.mono ?_
          rintro e w2 ⟨rfl, hB2⟩
          clear h2
          have HBw2 : Hid (Below wr.heap.size wr w2) := below_after HBw1.out hB2
          have c2 : w2.cell? ⟨wr.heap.size, 0, none⟩ = some (.slice xa yl xca) := (hB2.cell (p := ⟨_, _, none⟩) hlt1).trans c1
          have hlt2 : wr.heap.size < w2.heap.size := by have := hB2.size; omega
          have htl : (st.take j).length = j := by rw [List.length_take]; omega
          have h3 := containsA_any st[j] (st.take j) (by omega) (.slice xa yl xca) wr.heap.size (some ⟨ga, oa, none⟩) ca (by omega) w2 c2 (HRG1.out.below hB2) (fun i hi => by
            obtain ⟨a, ca', e1, _, hi'⟩ := HSR.out.below HBw2.out
            have hi2 : i < j := by omega
            obtain ⟨g, off, x, rfl, hg, h0, h1⟩ := hi' i (by omega)
            have e2 : (st.take j)[i] = st[i]'(by omega) := by simp
            rw [e2]
            exact ⟨g, off, x, by simp at e1; simp [e1], hg, h0, h1, HS4.out _ (List.getElem_mem _)⟩)
          rw [htl] at h3
          obtain ⟨bb, hbb⟩ : ∃ x, x = (st.take j).any fun x => sameS x st[j] := ⟨_, rfl⟩
          rw [← hbb] at h3
          have HAT3 : Hid (setsF (j + 1) st = !bb) := by
            show _ = _
            rw [hbb]; exact HAT2.out
          have hjca : (j : Int) ≤ (ca : Int) := by omega
          clear hB2 c1 hbb htl
          cases hbv : bb with
          | true =>
            rw [hbv] at h3 HAT3
            have HE : Hid (b = false) := HNX.out HAT3.out
            clear hbv
            go_wp2_with fail
            refine h3.mono ?_
            rintro e w3 ⟨rfl, hB3⟩
            clear h3
            have hBB := below_after hB (below_after HBw2.out hB3)
            go_wp2
            go_ret
            rw [HE.out]
            exact ⟨rfl, hBB⟩
          | false =>
            rw [hbv] at h3 HAT3
            clear hbv
            go_wp2_with fail
            refine h3.mono ?_
            rintro e w3 ⟨rfl, hB3⟩
            clear h3
            have hBB := below_after hB (below_after HBw2.out hB3)
            go_wp2
            go_roundw
            case rel => exact ⟨j + 1, by omega, by go_num, HAT3, hBB⟩
            case measure => simp [intOf]; omega
    · have hjl' : decide ((j : Int) < (ns : Int)) = false := by simp; omega
      have HE : Hid (b = true) := by
        show _ = _
        rw [HB.out, ← HNS.out, ← HD.out, show j = ns by omega]
      go_wp2
      go_ret
      rw [HE.out]
      exact ⟨rfl, hB⟩
end Go.Proofs.YtfdjchnckjgapaaGreatDoor

namespace Go.Proofs.YtfdjchnckjgapaaGreatDoor
open Go.RowKit Go.Shelf S1
set_option linter.unusedVariables false

theorem mayR_cons {m : Nat} {x : Rl} {l : List Rl} : mayR m (x :: l) = (mayN 120 0 0 m x.l).bind fun m1 => (mayN 120 0 0 m1 x.r).bind fun m2 => mayR m2 l := by
  rw [mayR]
  cases mayN 120 0 0 m x.l with
  | none => rfl
  | some m1 =>
    simp only [Option.bind_some]
    cases mayN 120 0 0 m1 x.r <;> rfl
theorem chk_new (w : World) : ChkAt (w.alloc (.cells #[.int .i64 0] 69)) w.heap.size 0 := heap_new' w _

set_option maxRecDepth 100000 in
set_option maxHeartbeats 16000000 in
theorem right_any8 (st : Sts) (rl : List Rl) (hok : FewOk st rl) (sv rv : Value) (w : World) (h : SetIn w sv st) (k : RulIn w rv rl) :
    Calls Tryz.prog 15 #[.agg #[sv, rv]] w fun e w' => e = .returned (.bool (rightB st rl)) ∧ Below w.heap.size w w' := by
  have HOK : Hid (FewOk st rl) := hok
  have HSA : Hid (SetIn w sv st) := h
  have HRA : Hid (RulIn w rv rl) := k
  obtain ⟨za, ca, rfl, hca, _⟩ := h
  obtain ⟨ya, da, rfl, hda, _⟩ := k
  obtain ⟨q, hq⟩ : ∃ q, q = rightB st rl := ⟨_, rfl⟩
  rw [← hq]
  have HQ : Hid (q = (decide (st.length ≤ 60) && decide (rl.length ≤ 64) && setsF st.length st && (mayR 0 rl == some st.length))) := hq
  have hsa := fun W hW => areSets_any st (by have := hok.1; omega) (fun s hs => by have := hok.2.2.1 s hs; omega) (.slice za st.length ca) W (HSA.out.below (w' := W) hW)
  have hns70 := hok.1
  have hnr70 := hok.2.1
  obtain ⟨ns, hns⟩ : ∃ x, x = st.length := ⟨_, rfl⟩
  obtain ⟨nr, hnr⟩ : ∃ x, x = rl.length := ⟨_, rfl⟩
  rw [← hns] at HSA hca hsa hns70 HQ ⊢
  rw [← hnr] at HRA hda hnr70 HQ ⊢
  have HNS : Hid (ns = st.length) := hns
  have HNR : Hid (nr = rl.length) := hnr
  have HB0 : Hid (Below w.heap.size w (w.alloc (.cells #[.slice za ns ca, .slice ya nr da] 27))) := below_alloc _ _
  have HEA : Hid ((w.alloc (.cells #[.slice za ns ca, .slice ya nr da] 27)).heap[w.heap.size]? = some (.cells #[.slice za ns ca, .slice ya nr da] 27 (0, 0))) := heap_new' w _
  have hsa1 := hsa _ HB0.out
  clear hq hok hns hnr hsa
  by_cases h1 : 60 < ns
  · have h1' : decide ((ns : Int) > 60) = true := by simp; omega
    have h2 : decide (ns ≤ 60) = false := by simp; omega
    have HE : Hid (q = false) := by show _ = _; rw [HQ.out, h2]; rfl
    clear h1 h2 hsa1
    go_enter Tryz.func15, Tryz.ntmps15
    go_wp2
    go_ret
    rw [HE.out]
    exact ⟨rfl, HB0.out⟩
  have h1' : decide ((ns : Int) > 60) = false := by simp; omega
  have h1d : decide (ns ≤ 60) = true := by simp; omega
  by_cases h2 : 64 < nr
  · have h2' : decide ((nr : Int) > 64) = true := by simp; omega
    have h2d : decide (nr ≤ 64) = false := by simp; omega
    have HE : Hid (q = false) := by show _ = _; rw [HQ.out, h1d, h2d]; rfl
    clear h1 h2 h1d h2d hsa1
    go_enter Tryz.func15, Tryz.ntmps15
    go_wp2
    go_ret
    rw [HE.out]
    exact ⟨rfl, HB0.out⟩
  have h2' : decide ((nr : Int) > 64) = false := by simp; omega
  have h2d : decide (nr ≤ 64) = true := by simp; omega
  have HQ2 : Hid (q = (setsF ns st && (mayR 0 rl == some ns))) := by show _ = _; rw [HQ.out, h1d, h2d]; rfl
  clear h1 h2 h1d h2d HQ
  cases hsf : setsF ns st with
  | false =>
    rw [hsf] at hsa1
    have HE : Hid (q = false) := by show _ = _; rw [HQ2.out, hsf]; rfl
    clear hsf
    go_enter Tryz.func15, Tryz.ntmps15
    go_wp2_with fail
    refine hsa1.mono ?_
    rintro e w1 ⟨rfl, hB1⟩
    clear hsa1
    have hBB := below_after HB0.out hB1
    go_wp2
    go_ret
    rw [HE.out]
    exact ⟨rfl, hBB⟩
  | true =>
    rw [hsf] at hsa1
    have HQ3 : Hid (q = (mayR 0 rl == some ns)) := by show _ = _; rw [HQ2.out, hsf, Bool.true_and]
    clear hsf HQ2
    go_enter Tryz.func15, Tryz.ntmps15
    go_wp2_with fail
    refine hsa1.mono ?_
    rintro e w1 ⟨rfl, hB1⟩
    clear hsa1
    have HB01 : Hid (Below w.heap.size w w1) := below_after HB0.out hB1
    have e1 : w1.heap[w.heap.size]? = some (.cells #[.slice za ns ca, .slice ya nr da] 27 (0, 0)) := (hB1.block _ (by simp)).trans HEA.out
    have HE1 : Hid (w1.heap[w.heap.size]? = some (.cells #[.slice za ns ca, .slice ya nr da] 27 (0, 0))) := e1
    have hlt1 : w.heap.size < w1.heap.size := (Array.getElem?_eq_some_iff.1 e1).1
    have c11 : w1.cell? ⟨w.heap.size, 1, none⟩ = some (.slice ya nr da) := cell_of_row _ _ 1 _ _ _ e1
    have HCH : Hid (ChkAt (w1.alloc (.cells #[.int .i64 0] 69)) w1.heap.size 0) := chk_new w1
    have HE2 : Hid ((w1.alloc (.cells #[.int .i64 0] 69)).heap[w.heap.size]? = some (.cells #[.slice za ns ca, .slice ya nr da] 27 (0, 0))) := ((below_alloc w1 _).block _ hlt1).trans e1
    clear hB1 e1
    go_wp2
    go_loopw [25] (fun x wr => ∃ (j m : Nat), j ≤ nr ∧ x = .int .i64 (j : Int) ∧ Hid (mayR 0 rl = mayR m (rl.drop j)) ∧ Hid (m ≤ 6200 * j) ∧ Hid (ChkAt wr w1.heap.size m) ∧ wr.heap[w.heap.size]? = some (.cells #[.slice za ns ca, .slice ya nr da] 27 (0, 0)) ∧ w1.grownBy wr (some w1.heap.size)) (fun x _ => nr - (intOf x).toNat)
    case atStart => exact ⟨0, 0, Nat.zero_le _, rfl, (show _ = _ by rw [List.drop_zero]), (show 0 ≤ 6200 * 0 by omega), HCH, HE2.out, grownR_below (below_alloc _ _) _⟩
    case round =>
      obtain ⟨j, m, hj, rfl, HD, HM, HC, hEA, hG⟩ := hrel
      have hlt : w.heap.size < wr.heap.size := (Array.getElem?_eq_some_iff.1 hEA).1
      have HEA' : Hid (wr.heap[w.heap.size]? = some (.cells #[.slice za ns ca, .slice ya nr da] 27 (0, 0))) := hEA
      have HBW : Hid (Below w.heap.size w wr) := ⟨hG.os.trans HB01.out.os, hG.tape.trans HB01.out.tape, hG.output.trans HB01.out.output, Nat.le_trans HB01.out.size hG.size, fun k hk => (hG.block k (by omega) (by simp; omega)).trans (HB01.out.block k hk)⟩
      have HG : Hid (w1.grownBy wr (some w1.heap.size)) := hG
      have hs1 := hG.size
      have hlc : w1.heap.size < wr.heap.size := (Array.getElem?_eq_some_iff.1 HC.out).1
      clear hG
      by_cases hjl : j < nr
      · have hjl' : decide ((j : Int) < (nr : Int)) = true := by simp; omega
        have hjs : j < rl.length := by have := HNR.out; omega
        obtain ⟨ga, oa, bb, lk, ls, la, ln, lca, rk, rs, ra, rn, rca, rfl, hga, ⟨c0, c1, c2, c3, c4, c5, c6⟩, hcl, hcr⟩ : ∃ (ga oa : Nat) (bb : Bool) (lk ls : Int) (la : Option Addr) (ln lca : Nat) (rk rs : Int) (ra : Option Addr) (rn rca : Nat), ya = some ⟨ga, oa, none⟩ ∧ ga < wr.heap.size ∧
            (wr.cell? ⟨ga, oa + j * 7, none⟩ = some (.bool bb) ∧ wr.cell? ⟨ga, oa + j * 7 + 1, none⟩ = some (.int .i64 lk) ∧ wr.cell? ⟨ga, oa + j * 7 + 2, none⟩ = some (.int .i64 ls) ∧ wr.cell? ⟨ga, oa + j * 7 + 3, none⟩ = some (.slice la ln lca) ∧ wr.cell? ⟨ga, oa + j * 7 + 4, none⟩ = some (.int .i64 rk) ∧ wr.cell? ⟨ga, oa + j * 7 + 5, none⟩ = some (.int .i64 rs) ∧ wr.cell? ⟨ga, oa + j * 7 + 6, none⟩ = some (.slice ra rn rca)) ∧
            (∀ m W, m ≤ 900000 → wr.grownBy W (some w1.heap.size) → ChkAt W w1.heap.size m → Calls Tryz.prog 30 #[.pointer (some ⟨w1.heap.size, 0, none⟩), .agg #[.int .i64 lk, .int .i64 ls, .slice la ln lca], .int .i64 0, .int .i64 0] W fun e w'' => MayT w1.heap.size (mayN 120 0 0 m rl[j].l) W e w'') ∧
            (∀ m W, m ≤ 900000 → wr.grownBy W (some w1.heap.size) → ChkAt W w1.heap.size m → Calls Tryz.prog 30 #[.pointer (some ⟨w1.heap.size, 0, none⟩), .agg #[.int .i64 rk, .int .i64 rs, .slice ra rn rca], .int .i64 0, .int .i64 0] W fun e w'' => MayT w1.heap.size (mayN 120 0 0 m rl[j].r) W e w'') := by
          obtain ⟨a, ca', e1, _, hi⟩ := HRA.out
          obtain ⟨ga, oa, zl, zr, rfl, hga, c0, c1, c2, c3, c4, c5, c6, c7, c8⟩ := hi j hjs
          obtain ⟨x1, x2, rfl, _⟩ := c7.slice
          obtain ⟨x3, x4, rfl, _⟩ := c8.slice
          have hf := HOK.out.2.2.2 _ (List.getElem_mem hjs)
          have e1' : ya = some ⟨ga, oa, none⟩ := by simp at e1; exact e1.1
          have hcell : ∀ o v, w.cell? ⟨ga, o, none⟩ = some v → wr.cell? ⟨ga, o, none⟩ = some v := fun o v hv => (HBW.out.cell (p := ⟨ga, o, none⟩) hga).trans hv
          have hto : ∀ W, wr.grownBy W (some w1.heap.size) → ∀ k, k < w.heap.size → W.heap[k]? = w.heap[k]? ∧ k < W.heap.size ∧ k ≠ w1.heap.size := fun W hW k hk => ⟨(hW.block k (by omega) (by simp; omega)).trans (HBW.out.block k hk), by have := hW.size; omega, by omega⟩
          exact ⟨ga, oa, _, _, _, x1, _, x2, _, _, x3, _, x4, e1', by omega, ⟨hcell _ _ c0, hcell _ _ c1, hcell _ _ c2, hcell _ _ c3, hcell _ _ c4, hcell _ _ c5, hcell _ _ c6⟩, fun m W hm hW hC => mayBe_any 120 rl[j].l _ 0 0 m w1.heap.size W hf.1.1 (by omega) (by omega) (by have := hf.1.2; omega) hC (c7.to (hto W hW)), fun m W hm hW hC => mayBe_any 120 rl[j].r _ 0 0 m w1.heap.size W hf.2.1 (by omega) (by omega) (by have := hf.2.2; omega) hC (c8.to (hto W hW))⟩
        have hj0 : (0 : Int) ≤ (j : Int) := by omega
        have hj1 : (j : Int) < (nr : Int) := by omega
        have ed : rl.drop j = rl[j] :: rl.drop (j + 1) := List.drop_eq_getElem_cons hjs
        have HD1 : Hid (mayR 0 rl = (mayN 120 0 0 m rl[j].l).bind fun m1 => (mayN 120 0 0 m1 rl[j].r).bind fun m2 => mayR m2 (rl.drop (j + 1))) := by
          show _ = _
          rw [HD.out, ed, mayR_cons]
        have HSZ : Hid (Sz 120 rl[j].l < 3100 ∧ Sz 120 rl[j].r < 3100) := ⟨(HOK.out.2.2.2 _ (List.getElem_mem hjs)).1.2, (HOK.out.2.2.2 _ (List.getElem_mem hjs)).2.2⟩
        have hm1 : m ≤ 6200 * j := HM.out
        have HGW : Hid (wr.grownBy (wr.alloc (.cells #[.bool bb, .int .i64 lk, .int .i64 ls, .slice la ln lca, .int .i64 rk, .int .i64 rs, .slice ra rn rca] 41)) (some w1.heap.size)) := grownR_below (below_alloc _ _) _
        have hcl1 := hcl m (wr.alloc (.cells #[.bool bb, .int .i64 lk, .int .i64 ls, .slice la ln lca, .int .i64 rk, .int .i64 rs, .slice ra rn rca] 41)) (by omega) HGW.out (HC.out.below (below_alloc _ _))
        have HCR : Hid (∀ m W, m ≤ 900000 → wr.grownBy W (some w1.heap.size) → ChkAt W w1.heap.size m → Calls Tryz.prog 30 #[.pointer (some ⟨w1.heap.size, 0, none⟩), .agg #[.int .i64 rk, .int .i64 rs, .slice ra rn rca], .int .i64 0, .int .i64 0] W fun e w'' => MayT w1.heap.size (mayN 120 0 0 m rl[j].r) W e w'') := hcr
        have HRB : Hid ((wr.alloc (.cells #[.bool bb, .int .i64 lk, .int .i64 ls, .slice la ln lca, .int .i64 rk, .int .i64 rs, .slice ra rn rca] 41)).heap[wr.heap.size]? = some (.cells #[.bool bb, .int .i64 lk, .int .i64 ls, .slice la ln lca, .int .i64 rk, .int .i64 rs, .slice ra rn rca] 41 (0, 0))) := heap_new' _ _
        obtain ⟨q1, hq1⟩ : ∃ x, x = mayN 120 0 0 m rl[j].l := ⟨_, rfl⟩
        rw [← hq1] at hcl1 HD1
        have HQ1 : Hid (∀ x, q1 = some x → x ≤ m + 3100) := fun x hx => by
          have := mayN_le (hq1.symm.trans hx)
          have := HSZ.out.1
          omega
        clear hcl hcr HD ed hq1
        go_wp2_with fail
        refine hcl1.mono ?_
        rintro e w2 ⟨b1, m1, rfl, hc2, hg2, hb1, hb2⟩
        clear hcl1
        have HC2 : Hid (ChkAt w2 w1.heap.size m1) := hc2
        have HG2 : Hid (wr.grownBy w2 (some w1.heap.size)) := HGW.out.trans hg2
        have HBB1 : Hid (b1 = q1.isSome ∧ (b1 = true → q1 = some m1)) := ⟨hb1, hb2⟩
        have e2 : w2.heap[wr.heap.size]? = some (.cells #[.bool bb, .int .i64 lk, .int .i64 ls, .slice la ln lca, .int .i64 rk, .int .i64 rs, .slice ra rn rca] 41 (0, 0)) := (hg2.block _ (by simp) (by simp; omega)).trans HRB.out
        have d4 : w2.cell? ⟨wr.heap.size, 4, none⟩ = some (.int .i64 rk) := cell_of_row _ _ 4 _ _ _ e2
        have d5 : w2.cell? ⟨wr.heap.size, 5, none⟩ = some (.int .i64 rs) := cell_of_row _ _ 5 _ _ _ e2
        have d6 : w2.cell? ⟨wr.heap.size, 6, none⟩ = some (.slice ra rn rca) := cell_of_row _ _ 6 _ _ _ e2
        have hlt2 : wr.heap.size < w2.heap.size := (Array.getElem?_eq_some_iff.1 e2).1
        clear hc2 hg2 hb1 hb2 e2 c0 c1 c2 c3 c4 c5 c6
        cases hbv : b1 with
        | false =>
          have HE : Hid (q = false) := by
            show _ = _
            have h5 := HBB1.out.1
            rw [hbv] at h5
            rw [HQ3.out, HD1.out]
            cases q1 with
            | none => rfl
            | some x => cases h5
          have hBB : Below w.heap.size w w2 := ⟨HG2.out.os.trans HBW.out.os, HG2.out.tape.trans HBW.out.tape, HG2.out.output.trans HBW.out.output, Nat.le_trans HBW.out.size HG2.out.size, fun k hk => (HG2.out.block k (by omega) (by simp; omega)).trans (HBW.out.block k hk)⟩
          clear hbv
          go_wp2
          go_ret
          rw [HE.out]
          exact ⟨rfl, hBB⟩
        | true =>
          have HQ1S : Hid (q1 = some m1) := HBB1.out.2 hbv
          have hm2 : m1 ≤ m + 3100 := HQ1.out _ HQ1S.out
          have hcr1 := HCR.out m1 w2 (by omega) HG2.out HC2.out
          have HD2 : Hid (mayR 0 rl = (mayN 120 0 0 m1 rl[j].r).bind fun m2 => mayR m2 (rl.drop (j + 1))) := by
            show _ = _
            rw [HD1.out, HQ1S.out]; rfl
          obtain ⟨q2, hq2⟩ : ∃ x, x = mayN 120 0 0 m1 rl[j].r := ⟨_, rfl⟩
          rw [← hq2] at hcr1 HD2
          have HQ2' : Hid (∀ x, q2 = some x → x ≤ m1 + 3100) := fun x hx => by
            have := mayN_le (hq2.symm.trans hx)
            have := HSZ.out.2
            omega
          clear hbv hq2 HD1
          go_wp2_with fail
          refine hcr1.mono ?_
          rintro e w3 ⟨b2, m2, rfl, hc3, hg3, hb1, hb2⟩
          clear hcr1
          have HC3 : Hid (ChkAt w3 w1.heap.size m2) := hc3
          have HG3 : Hid (wr.grownBy w3 (some w1.heap.size)) := HG2.out.trans hg3
          have HBB2 : Hid (b2 = q2.isSome ∧ (b2 = true → q2 = some m2)) := ⟨hb1, hb2⟩
          clear hc3 hg3 hb1 hb2
          cases hbv : b2 with
          | false =>
            have HE : Hid (q = false) := by
              show _ = _
              have h5 := HBB2.out.1
              rw [hbv] at h5
              rw [HQ3.out, HD2.out]
              cases q2 with
              | none => rfl
              | some x => cases h5
            have hBB : Below w.heap.size w w3 := ⟨HG3.out.os.trans HBW.out.os, HG3.out.tape.trans HBW.out.tape, HG3.out.output.trans HBW.out.output, Nat.le_trans HBW.out.size HG3.out.size, fun k hk => (HG3.out.block k (by omega) (by simp; omega)).trans (HBW.out.block k hk)⟩
            clear hbv
            go_wp2
            go_ret
            rw [HE.out]
            exact ⟨rfl, hBB⟩
          | true =>
            have HQ2S : Hid (q2 = some m2) := HBB2.out.2 hbv
            have HM2 : Hid (m2 ≤ 6200 * (j + 1)) := by
              have := HQ2'.out _ HQ2S.out
              show _ ≤ _
              omega
            have HD3 : Hid (mayR 0 rl = mayR m2 (rl.drop (j + 1))) := by
              show _ = _
              rw [HD2.out, HQ2S.out]; rfl
            have HE3 : Hid (w3.heap[w.heap.size]? = some (.cells #[.slice za ns ca, .slice (some ⟨ga, oa, none⟩) nr da] 27 (0, 0))) := (HG3.out.block _ hlt (by simp; omega)).trans HEA'.out
            clear hbv
            go_wp2
            go_roundw
            case rel => exact ⟨j + 1, m2, by omega, by go_num, HD3, HM2, HC3, HE3.out, HG.out.trans HG3.out⟩
            case measure => simp [intOf]; omega
      · have hjl' : decide ((j : Int) < (nr : Int)) = false := by simp; omega
        have HE : Hid (q = ((m : Int) == (ns : Int))) := by
          show _ = _
          rw [HQ3.out, HD.out, List.drop_eq_nil_of_le (by rw [← HNR.out]; omega)]
          show (some m == some ns) = _
          by_cases e : m = ns
          · subst e; simp
          · have e2 : ((m : Int) == (ns : Int)) = false := by simp; omega
            rw [e2]
            simp [e]
        have cm : wr.cell? ⟨w1.heap.size, 0, none⟩ = some (.int .i64 (m : Int)) := cell_of_row _ _ 0 _ _ _ HC.out
        have cp : wr.cell? ⟨w.heap.size, 0, none⟩ = some (.slice za ns ca) := cell_of_row _ _ 0 _ _ _ hEA
        clear hEA
        go_wp2
        go_ret
        rw [HE.out]
        exact ⟨rfl, HBW.out⟩
end Go.Proofs.YtfdjchnckjgapaaGreatDoor
