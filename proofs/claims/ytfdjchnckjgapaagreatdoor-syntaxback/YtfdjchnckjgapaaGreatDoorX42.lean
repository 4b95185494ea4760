/-
  SetsP SetsP2
-/
import Derived.Test.YtfdjchnckjgapaaGreatDoorX40
import Derived.Test.YtfdjchnckjgapaaGreatDoorX38
import Derived.Test.YtfdjchnckjgapaaGreatDoorX06
import Derived.Test.YtfdjchnckjgapaaGreatDoorX32
namespace Go.Proofs.YtfdjchnckjgapaaGreatDoor
open Go.RowKit Go.Shelf S1
set_option linter.unusedVariables false
theorem fits_iff {s : List Rg} : (s.all fun r => decide (0 ≤ r.lo ∧ r.lo ≤ r.hi ∧ r.hi < 1114112)) = true ↔ Fits s := by
  simp only [List.all_eq_true, decide_eq_true_eq, Fits]
  constructor
  · intro h r hr; have := h r hr; omega
  · intro h r hr; have := h r hr; omega
theorem isSetB_bad {s : List Rg} (h : ¬ Fits s) : isSetB s = false := by
  unfold isSetB
  cases q : (s.all fun r => decide (0 ≤ r.lo ∧ r.lo ≤ r.hi ∧ r.hi < 1114112)) with
  | false => rfl
  | true => exact absurd (fits_iff.1 q) h
theorem isSetB_fit {s : List Rg} (h : Fits s) : isSetB s = sameS (mkS s) s := by
  unfold isSetB
  rw [fits_iff.2 h, Bool.true_and]
theorem setsF_false {k : Nat} {st : Sts} (h : setsF k st = false) : ∀ n, setsF (k + n) st = false
  | 0 => h
  | n + 1 => by
    show (setsF (k + n) st && _) = false
    rw [setsF_false h n]; rfl
theorem setsF_at {k : Nat} {st : Sts} (hk : k < st.length) (h : setsF k st = true) : setsF (k + 1) st = (isSetB st[k] && !((st.take k).any fun x => sameS x st[k])) := by
  show (setsF k st && _) = _
  rw [h, Bool.true_and, List.getElem?_eq_getElem hk]
theorem setsF_end {k : Nat} {st : Sts} (hk : k < st.length) (h : setsF (k + 1) st = false) : setsF st.length st = false := by
  have := setsF_false h (st.length - (k + 1))
  rw [show k + 1 + (st.length - (k + 1)) = st.length by omega] at this
  exact this
theorem idxS_any {s : List Rg} : ∀ {st : Sts}, (idxS s st).isSome = st.any fun x => sameS x s
  | [] => rfl
  | x :: l => by
    unfold idxS
    simp only [List.any_cons]
    cases h : sameS x s with
    | true => simp
    | false =>
      simp only [Bool.false_eq_true, if_false, Option.isSome_map, Bool.false_or]
      exact idxS_any
theorem areSets1_any (s x : List Rg) (hlen : x.length ≤ 600000) (v xv : Value) (B : Nat) (w : World) (hb : w.cell? ⟨B, 0, none⟩ = some v) (hv : RngIn w v s) (hx : RngIn w xv x) :
    Calls Tryz.prog 62 #[xv, .pointer (some ⟨B, 0, none⟩)] w fun e w' => e = .returned (.bool (sameS x s)) ∧ Below w.heap.size w w' := by
  have h1 := equal_any x s hlen xv v w hx hv
  obtain ⟨va, vc, rfl, _⟩ := hv
  obtain ⟨xa, xc, rfl, _⟩ := hx
  go_enter Tryz.func62, Tryz.ntmps62
  go_wp2_with fail
  refine h1.mono ?_
  rintro e w1 ⟨rfl, hB⟩
  clear h1
  go_wp2
  go_ret
  exact ⟨rfl, hB⟩
set_option maxRecDepth 100000 in
set_option maxHeartbeats 4000000 in
theorem indexA_any (s : List Rg) (st : Sts) (hst : st.length ≤ 100) (v : Value) (B : Nat) (ad : Option Addr) (cap : Nat) (hcap : st.length ≤ cap) (w : World) (hb : w.cell? ⟨B, 0, none⟩ = some v) (hv : RngIn w v s)
    (hs : ∀ i, (h : i < st.length) → ∃ g off x, ad = some ⟨g, off, none⟩ ∧ g < w.heap.size ∧ w.cell? ⟨g, off + i, none⟩ = some x ∧ RngIn w x st[i] ∧ st[i].length ≤ 600000) :
    Calls Tryz.prog 104 #[.slice ad st.length cap, .func (.func 62) #[] #[.pointer (some ⟨B, 0, none⟩)]] w fun e w' => e = .returned (.int .i64 (idxV (idxS s st))) ∧ Below w.heap.size w w' := by
  obtain ⟨o, ho⟩ : ∃ o, o = idxV (idxS s st) := ⟨_, rfl⟩
  rw [← ho]
  have HO : Hid (o = idxV ((idxS s (st.drop 0)).map (· + 0))) := by show _ = _; rw [ho]; simp
  have HS : Hid (∀ i, (h : i < st.length) → ∃ g off x, ad = some ⟨g, off, none⟩ ∧ g < w.heap.size ∧ w.cell? ⟨g, off + i, none⟩ = some x ∧ RngIn w x st[i] ∧ st[i].length ≤ 600000) := hs
  have HV : Hid (RngIn w v s) := hv
  have hBl : B < w.heap.size := World.block_lt_of_cell? w ⟨B, 0, none⟩ hb
  clear ho hs hv
  go_enter Tryz.func104, Tryz.ntmps104
  go_wp2
  go_loopw [8] (fun i wr => ∃ k : Nat, k ≤ st.length ∧ i = .int .i64 k ∧ Hid (o = idxV ((idxS s (st.drop k)).map (· + k))) ∧ Below w.heap.size w wr) (fun i _ => st.length - (intOf i).toNat)
  case atStart => exact ⟨0, Nat.zero_le _, rfl, HO, Below.refl _ _⟩
  case round =>
    obtain ⟨k, hk, rfl, HD, hB⟩ := hrel
    by_cases hlt : k < st.length
    · obtain ⟨g, off, x, rfl, hg, hc, hx, hi⟩ := HS.out k hlt
      have hc' : wr.cell? ⟨g, off + k, none⟩ = some x := (hB.cell (p := ⟨g, _, none⟩) hg).trans hc
      have h1 := areSets1_any s st[k] hi v x B wr ((hB.cell (p := ⟨B, 0, none⟩) hBl).trans hb) (HV.out.below hB) (hx.below hB)
      obtain ⟨xa, xc, rfl, _⟩ := hx
      have hk0 : (0 : Int) ≤ (k : Int) := by omega
      have hk1 : (k : Int) < (st.length : Int) := by omega
      have HD2 := idxS_drop (s := s) hlt
      have HD3 : Hid (idxS s (st.drop k) = if sameS st[k] s = true then some 0 else (idxS s (st.drop (k + 1))).map (· + 1)) := HD2
      clear HD2 hc
      cases hq : sameS st[k] s with
      | true =>
        rw [hq] at h1
        have HE : Hid (o = (k : Int)) := by
          show _ = _
          rw [HD.out, HD3.out, hq]; simp [idxV]
        clear HD HD3
        go_wp2_with fail
        refine h1.mono ?_
        rintro e w1 ⟨rfl, hB1⟩
        clear h1
        go_wp2
        go_ret
        exact ⟨by rw [HE.out]; rfl, below_after hB (hB1)⟩
      | false =>
        rw [hq] at h1
        have HE : Hid (o = idxV ((idxS s (st.drop (k + 1))).map (· + (k + 1)))) := by
          show _ = _
          rw [HD.out, HD3.out, hq]
          simp only [Bool.false_eq_true, if_false, Option.map_map]
          congr 2
          funext j
          simp; omega
        clear HD HD3
        go_wp2_with fail
        refine h1.mono ?_
        rintro e w1 ⟨rfl, hB1⟩
        clear h1
        go_wp2
        go_roundw
        case rel => exact ⟨k + 1, by omega, by go_num, HE, below_after hB hB1⟩
        case measure => simp [intOf]; omega
    · obtain rfl : k = st.length := by omega
      have HE : Hid (o = -1) := by
        show _ = _
        rw [HD.out, List.drop_length]; rfl
      go_wp2
      go_ret
      exact ⟨by rw [HE.out]; rfl, hB⟩
theorem idxV_ge (o : Option Nat) : decide (idxV o ≥ 0) = o.isSome := by
  cases o with
  | none => simp [idxV]
  | some i => simp [idxV]
theorem containsA_any (s : List Rg) (st : Sts) (hst : st.length ≤ 100) (v : Value) (B : Nat) (ad : Option Addr) (cap : Nat) (hcap : st.length ≤ cap) (w : World) (hb : w.cell? ⟨B, 0, none⟩ = some v) (hv : RngIn w v s)
    (hs : ∀ i, (h : i < st.length) → ∃ g off x, ad = some ⟨g, off, none⟩ ∧ g < w.heap.size ∧ w.cell? ⟨g, off + i, none⟩ = some x ∧ RngIn w x st[i] ∧ st[i].length ≤ 600000) :
    Calls Tryz.prog 61 #[.slice ad st.length cap, .func (.func 62) #[] #[.pointer (some ⟨B, 0, none⟩)]] w fun e w' => e = .returned (.bool (st.any fun x => sameS x s)) ∧ Below w.heap.size w w' := by
  have h1 := indexA_any s st hst v B ad cap hcap w hb hv hs
  have h2 := idxV_ge (idxS s st)
  rw [idxS_any] at h2
  obtain ⟨o, ho⟩ : ∃ o, o = idxV (idxS s st) := ⟨_, rfl⟩
  rw [← ho] at h1 h2
  obtain ⟨b, hbb⟩ : ∃ b, b = st.any fun x => sameS x s := ⟨_, rfl⟩
  rw [← hbb] at h2 ⊢
  clear ho hbb hs hv
  go_enter Tryz.func61, Tryz.ntmps61
  go_wp2_with fail
  refine h1.mono ?_
  rintro e w1 ⟨rfl, hB⟩
  clear h1
  go_wp2
  go_ret
  exact ⟨by first | rfl | rw [h2], hB⟩
end Go.Proofs.YtfdjchnckjgapaaGreatDoor

namespace Go.Proofs.YtfdjchnckjgapaaGreatDoor
open Go.RowKit Go.Shelf S1
set_option linter.unusedVariables false
set_option maxRecDepth 100000 in
set_option maxHeartbeats 8000000 in
theorem areSets_any (st : Sts) (hst : st.length ≤ 100) (hs40 : ∀ s ∈ st, s.length ≤ 600000) (sv : Value) (w : World) (h : SetIn w sv st) :
    Calls Tryz.prog 29 #[sv] w fun e w' => e = .returned (.bool (setsF st.length st)) ∧ Below w.heap.size w w' := by
  have HSA : Hid (SetIn w sv st) := h
  obtain ⟨za, ca, rfl, hca, _⟩ := h
  have HS4 : Hid (∀ s ∈ st, s.length ≤ 600000) := hs40
  obtain ⟨b, hb⟩ : ∃ b, b = setsF st.length st := ⟨_, rfl⟩
  rw [← hb]
  have HB : Hid (b = setsF st.length st) := hb
  obtain ⟨ns, hns⟩ : ∃ x, x = st.length := ⟨_, rfl⟩
  rw [← hns] at hca HSA ⊢
  have HNS : Hid (ns = st.length) := hns
  have hns1 : ns ≤ 100 := by omega
  clear hs40 hb hns hst
  go_enter Tryz.func29, Tryz.ntmps29
  go_wp2
  go_loopw [9] (fun x wr => ∃ (j : Nat), j ≤ ns ∧ x = .int .i64 (j : Int) ∧ Hid (setsF j st = true) ∧ Below w.heap.size w wr) (fun x _ => ns - (intOf x).toNat)
  case atStart => exact ⟨0, Nat.zero_le _, rfl, (show setsF 0 st = true from rfl), Below.refl _ _⟩
  case round =>
    obtain ⟨j, hj, rfl, HD, hB⟩ := hrel
    by_cases hjl : j < ns
    · have hjl' : decide ((j : Int) < (ns : Int)) = true := by simp; omega
      have hjs : j < st.length := by have := HNS.out; omega
      have HSR : Hid (SetIn wr (.slice za ns ca) st) := HSA.out.below hB
      obtain ⟨ga, oa, xa, xca, yl, rfl, hga, r0, hrg⟩ : ∃ (ga oa : Nat) (xa : Option Addr) (xca yl : Nat), za = some ⟨ga, oa, none⟩ ∧ ga < wr.heap.size ∧ wr.cell? ⟨ga, oa + j, none⟩ = some (.slice xa yl xca) ∧ RngIn wr (.slice xa yl xca) st[j] := by
        obtain ⟨a, ca', e1, _, hi⟩ := HSR.out
        obtain ⟨ga, oa, x, rfl, hga, h0, h1⟩ := hi j hjs
        have h1' := h1
        obtain ⟨xa, xca, rfl, _⟩ := h1'
        exact ⟨ga, oa, xa, xca, _, by simp at e1; exact e1.1, hga, h0, h1⟩
      have hj0 : (0 : Int) ≤ (j : Int) := by omega
      have hj1 : (j : Int) < (ns : Int) := by omega
      have HB3 : Hid (Below wr.heap.size wr (wr.alloc (.cells #[.slice xa yl xca] 43))) := below_alloc _ _
      have HRG : Hid (RngIn (wr.alloc (.cells #[.slice xa yl xca] 43)) (.slice xa yl xca) st[j]) := hrg.below (below_alloc _ _)
      have HE3 : Hid ((wr.alloc (.cells #[.slice xa yl xca] 43)).heap[wr.heap.size]? = some (.cells #[.slice xa yl xca] 43 (0, 0))) := heap_new' _ _
      have h40 : st[j].length ≤ 600000 := HS4.out _ (List.getElem_mem hjs)
      have h1 := make_any st[j] (.slice xa yl xca) (wr.alloc (.cells #[.slice xa yl xca] 43)) (by omega) HRG.out
      have HNX : Hid (setsF (j + 1) st = false → b = false) := fun h => by rw [HB.out]; exact setsF_end hjs h
      have HAT : Hid (setsF (j + 1) st = (isSetB st[j] && !((st.take j).any fun x => sameS x st[j]))) := setsF_at hjs HD.out
      clear hrg h40
      go_wp2_with fail
      refine h1.mono ?_
      rintro e w1 ⟨(⟨hf, rfl⟩ | ⟨hf, s, v', hu, hl, rfl, how⟩), hB1⟩
      · have HE : Hid (b = false) := HNX.out (by rw [HAT.out, isSetB_bad hf]; rfl)
        have hBB := below_after hB (below_after HB3.out hB1)
        clear h1 hf
        go_wp2
        go_ret
        rw [HE.out]
        exact ⟨rfl, hBB⟩
      · have hms : mkS st[j] = s := mkS_eq hf hu
        have HIS : Hid (isSetB st[j] = sameS s st[j]) := by
          show _ = _
          rw [isSetB_fit hf, hms]
        have e1 : w1.heap[wr.heap.size]? = some (.cells #[.slice xa yl xca] 43 (0, 0)) := (hB1.block _ (by simp)).trans HE3.out
        have HE1 : Hid (w1.heap[wr.heap.size]? = some (.cells #[.slice xa yl xca] 43 (0, 0))) := e1
        have c1 : w1.cell? ⟨wr.heap.size, 0, none⟩ = some (.slice xa yl xca) := cell_of_row _ _ 0 _ _ _ e1
        have hlt1 : wr.heap.size < w1.heap.size := (Array.getElem?_eq_some_iff.1 e1).1
        have HRG1 : Hid (RngIn w1 (.slice xa yl xca) st[j]) := HRG.out.below hB1
        have h2 := equal_any s st[j] (by have := HS4.out _ (List.getElem_mem hjs); omega) v' (.slice xa yl xca) w1 (rng_of_row how) HRG1.out
        obtain ⟨va, vc, rfl, _⟩ := rng_of_row how
        have HBw1 : Hid (Below wr.heap.size wr w1) := below_after HB3.out hB1
        clear h1 hf hu hl how hB1 hms e1
        cases hsm : sameS s st[j] with
        | false =>
          rw [hsm] at h2
          have HE : Hid (b = false) := HNX.out (by rw [HAT.out, HIS.out, hsm]; rfl)
          clear hsm
          go_wp2_with fail
          refine h2.mono ?_
          rintro e w2 ⟨rfl, hB2⟩
          clear h2
          have hBB := below_after hB (below_after HBw1.out hB2)
          go_wp2
          go_ret
          rw [HE.out]
          exact ⟨rfl, hBB⟩
        | true =>
          rw [hsm] at h2
          have HAT2 : Hid (setsF (j + 1) st = !((st.take j).any fun x => sameS x st[j])) := by
            show _ = _
            rw [HAT.out, HIS.out, hsm, Bool.true_and]
          clear hsm
          go_wp2_with fail
          refine h2.mono ?_
          rintro e w2 ⟨rfl, hB2⟩
          clear h2
          have HBw2 : Hid (Below wr.heap.size wr w2) := below_after HBw1.out hB2
          have c2 : w2.cell? ⟨wr.heap.size, 0, none⟩ = some (.slice xa yl xca) := (hB2.cell (p := ⟨_, _, none⟩) hlt1).trans c1
          have hlt2 : wr.heap.size < w2.heap.size := by have := hB2.size; omega
          have htl : (st.take j).length = j := by rw [List.length_take]; omega
          have h3 := containsA_any st[j] (st.take j) (by omega) (.slice xa yl xca) wr.heap.size (some ⟨ga, oa, none⟩) ca (by omega) w2 c2 (HRG1.out.below hB2) (fun i hi => by
            obtain ⟨a, ca', e1, _, hi'⟩ := HSR.out.below HBw2.out
            have hi2 : i < j := by omega
            obtain ⟨g, off, x, rfl, hg, h0, h1⟩ := hi' i (by omega)
            have e2 : (st.take j)[i] = st[i]'(by omega) := by simp
            rw [e2]
            exact ⟨g, off, x, by simp at e1; simp [e1], hg, h0, h1, HS4.out _ (List.getElem_mem _)⟩)
          rw [htl] at h3
          obtain ⟨bb, hbb⟩ : ∃ x, x = (st.take j).any fun x => sameS x st[j] := ⟨_, rfl⟩
          rw [← hbb] at h3
          have HAT3 : Hid (setsF (j + 1) st = !bb) := by
            show _ = _
            rw [hbb]; exact HAT2.out
          have hjca : (j : Int) ≤ (ca : Int) := by omega
          clear hB2 c1 hbb htl
          cases hbv : bb with
          | true =>
            rw [hbv] at h3 HAT3
            have HE : Hid (b = false) := HNX.out HAT3.out
            clear hbv
            go_wp2_with fail
            refine h3.mono ?_
            rintro e w3 ⟨rfl, hB3⟩
            clear h3
            have hBB := below_after hB (below_after HBw2.out hB3)
            go_wp2
            go_ret
            rw [HE.out]
            exact ⟨rfl, hBB⟩
          | false =>
            rw [hbv] at h3 HAT3
            clear hbv
            go_wp2_with fail
            refine h3.mono ?_
            rintro e w3 ⟨rfl, hB3⟩
            clear h3
            have hBB := below_after hB (below_after HBw2.out hB3)
            go_wp2
            go_roundw
            case rel => exact ⟨j + 1, by omega, by go_num, HAT3, hBB⟩
            case measure => simp [intOf]; omega
    · have hjl' : decide ((j : Int) < (ns : Int)) = false := by simp; omega
      have HE : Hid (b = true) := by
        show _ = _
        rw [HB.out, ← HNS.out, ← HD.out, show j = ns by omega]
      go_wp2
      go_ret
      rw [HE.out]
      exact ⟨rfl, hB⟩
end Go.Proofs.YtfdjchnckjgapaaGreatDoor
