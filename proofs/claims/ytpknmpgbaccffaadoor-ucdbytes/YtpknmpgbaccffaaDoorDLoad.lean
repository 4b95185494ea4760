/-
  ucd.Load: the data that bytes are.
-/
import Derived.Test.YtpknmpgbaccffaaDoorCut
import Derived.Test.YtpknmpgbaccffaaDoorDSave
namespace Go.Proofs.YtpknmpgbaccffaaDoor
open Go.RowKit
set_option linter.unusedVariables false

def partL (l : List Int) : List Int := (l.drop 4).take (cnB l)
def restL (l : List Int) : List Int := l.drop (4 + cnB l)
/-- What is left behind k parts, and the k-th part. -/
def restAt : Nat → List Int → List Int
  | 0, l => l
  | k + 1, l => restL (restAt k l)
def partAt (k : Nat) (l : List Int) : List Int := partL (restAt k l)
def okAt (k : Nat) (l : List Int) : Bool := cutOk (restAt k l) && okLb (partAt k l)
def okD (l : List Int) : Bool := okAt 0 l && okAt 1 l && okAt 2 l && okAt 3 l && decide ((restAt 4 l).length = 0)
def errD (l : List Int) : Int := if okD l = true then 0 else 2
def dL (l : List Int) (k : Nat) : List Int := likeL (partAt k l)
def dF (l : List Int) (k : Nat) : List (List Int) := firstL (partAt k l)
theorem okD_at {l : List Int} (h : okD l = true) : (∀ k, k < 4 → okAt k l = true) ∧ (restAt 4 l).length = 0 := by
  unfold okD at h
  simp only [Bool.and_eq_true, decide_eq_true_eq] at h
  exact ⟨four h.1.1.1.1 h.1.1.1.2 h.1.1.2 h.1.2, h.2⟩
theorem okD_mk {l : List Int} (h : ∀ k, k < 4 → okAt k l = true) (h4 : (restAt 4 l).length = 0) : okD l = true := by
  unfold okD
  simp only [Bool.and_eq_true, decide_eq_true_eq]
  exact ⟨⟨⟨⟨h 0 (by omega), h 1 (by omega)⟩, h 2 (by omega)⟩, h 3 (by omega)⟩, h4⟩
theorem rest_byL {l : List Int} (h : ByL l) : ∀ k, ByL (restAt k l)
  | 0 => h
  | k + 1 => (rest_byL h k).drop _
theorem rest_le (l : List Int) : ∀ k, (restAt k l).length ≤ l.length
  | 0 => Nat.le_refl _
  | k + 1 => by
    have := rest_le l k
    show ((restAt k l).drop _).length ≤ _
    rw [List.length_drop]; omega
theorem part_byL {l : List Int} (h : ByL l) (k : Nat) : ByL (partAt k l) := ((rest_byL h k).drop _).take _
theorem dfine {l : List Int} (hb : ByL l) {k : Nat} (h : okAt k l = true) : Fine (dL l k) (dF l k) := by
  unfold okAt at h
  rw [Bool.and_eq_true] at h
  exact fineL (part_byL hb k) (okLb_iff.1 h.2)
/-- The four bytes of a count. -/
theorem le4_cn {l : List Int} (hb : ByL l) (h : 4 ≤ l.length) : le4 (cnB l) = l.take 4 := by
  match l, h with
  | a :: b :: c :: d :: t, _ =>
    have ha := hb a (by simp)
    have hbb := hb b (by simp)
    have hc := hb c (by simp)
    have hd := hb d (by simp)
    have e : cnB (a :: b :: c :: d :: t) = a.toNat + 256 * b.toNat + 65536 * c.toNat + 16777216 * d.toNat := rfl
    rw [e]
    unfold le4
    simp only [List.take_succ_cons, List.take_zero, List.cons.injEq, and_true]
    refine ⟨?_, ?_, ?_, ?_⟩ <;> omega
theorem cut_parts {l : List Int} (hb : ByL l) (h : cutOk l = true) : le4 (partL l).length ++ partL l ++ restL l = l := by
  unfold cutOk at h
  simp only [Bool.and_eq_true, decide_eq_true_eq] at h
  have hpl : (partL l).length = cnB l := by unfold partL; rw [List.length_take, List.length_drop]; omega
  rw [hpl, le4_cn hb h.1]
  unfold partL restL
  rw [List.append_assoc, ← List.drop_drop, List.take_append_drop, List.take_append_drop]
/-- What is loaded is saved as it stood there. -/
theorem data_back {l : List Int} (hb : ByL l) : ∀ k, (∀ j, j < k → okAt j l = true) → dataTo (dL l) (dF l) k ++ restAt k l = l
  | 0, _ => rfl
  | k + 1, h => by
    have ih := data_back hb k (fun j hj => h j (by omega))
    have hk := h k (by omega)
    unfold okAt at hk
    rw [Bool.and_eq_true] at hk
    have hok := okLb_iff.1 hk.2
    have e1 := cut_parts (rest_byL hb k) hk.1
    have e2 : rawSave (dL l k) (dF l k) = partAt k l := raw_back (part_byL hb k) hok.1
    have e3 : 4353 + 256 * (dF l k).length = (partAt k l).length := by
      have := hok.1.2
      unfold dF
      rw [firstL_length]
      omega
    show dataTo (dL l) (dF l) k ++ (le4 (4353 + 256 * (dF l k).length) ++ rawSave (dL l k) (dF l k)) ++ restL (restAt k l) = l
    rw [e2, e3]
    conv => rhs; rw [← ih, ← e1]
    unfold partAt
    simp only [List.append_assoc]
theorem data_all {l : List Int} (hb : ByL l) (h : okD l = true) : dataTo (dL l) (dF l) 4 = l := by
  obtain ⟨h1, h2⟩ := okD_at h
  have := data_back hb 4 h1
  rw [List.length_eq_zero_iff.1 h2, List.append_nil] at this
  exact this

set_option maxRecDepth 100000 in
set_option maxHeartbeats 8000000 in
theorem dload_any (l : List Int) (v : Value) (w : World) (hv : BytesAt w.heap.size w v l) (hby : ByL l) (hl : l.length ≤ 1000000) :
    Calls Tryd.prog 17 #[v] w fun e w' => ∃ pv, e = .returned (.tuple #[pv, .int .i64 (errD l)]) ∧ (errD l ≠ 0 → pv = .pointer none) ∧ (errD l = 0 → ∃ g, pv = .pointer (some ⟨g, 0, none⟩) ∧ DataAt w' g (dL l) (dF l)) ∧ Below w.heap.size w w' := by
  obtain ⟨a, cap, rfl, hcap, hcl⟩ := hv
  have HV : Hid (BytesAt w.heap.size w (.slice a l.length cap) l) := ⟨_, cap, rfl, hcap, hcl⟩
  have HBY : Hid (ByL l) := hby
  have HLN : Hid (l.length ≤ 1000000) := hl
  obtain ⟨er, her⟩ : ∃ er, er = errD l := ⟨_, rfl⟩
  have HER : Hid (er = errD l) := her
  rw [← her]
  clear hcl hcap hby hl her
  go_enter Tryd.func17, Tryd.ntmps17
  go_wp2_with fail
  have HD0 : Hid (DataTo (w.alloc (.cells #[.pointer none, .pointer none, .pointer none, .pointer none] 45)) w.heap.size 0 (dL l) (dF l)) := ⟨fun _ => .pointer none, heap_new' w _, fun _ _ => ⟨none, rfl⟩, fun i hi => by omega⟩
  have HB0 : Hid (Below w.heap.size w (w.alloc (.cells #[.pointer none, .pointer none, .pointer none, .pointer none] 45))) := (Below.refl _ _).alloc (Nat.le_refl _) _
  obtain ⟨w1, hw1⟩ : ∃ w1, w1 = w.alloc (.cells #[.pointer none, .pointer none, .pointer none, .pointer none] 45) := ⟨_, rfl⟩
  obtain ⟨g, hg⟩ : ∃ g, g = w.heap.size := ⟨_, rfl⟩
  have HGW : Hid (w.heap.size ≤ g) := by show _ ≤ _; omega
  rw [← hw1] at HD0 HB0
  rw [← hw1, ← hg]
  rw [← hg] at HD0
  clear hw1 hg
  go_loopw [0, 13] (fun y x wr => ∃ k : Nat, k ≤ 4 ∧ x = .int .i64 k ∧ BytesAt w.heap.size wr y (restAt k l) ∧ DataTo wr g k (dL l) (dF l) ∧ (∀ j, j < k → okAt j l = true) ∧ Below w.heap.size w wr) (fun _ x _ => 4 - (intOf x).toNat)
  case atStart => exact ⟨0, Nat.zero_le _, rfl, HV.out.below HB0.out, HD0.out, fun j h => by omega, HB0.out⟩
  case round =>
    obtain ⟨k, hk, rfl, hy, hD, hno, hB⟩ := hrel
    have hsi := hB.size
    obtain ⟨a0, c0, rfl, hcc0, hcl0⟩ := hy
    obtain ⟨HY, HD, HB, HNO⟩ : Hid (BytesAt w.heap.size wr (.slice a0 (restAt k l).length c0) (restAt k l)) ∧ Hid (DataTo wr g k (dL l) (dF l)) ∧ Hid (Below w.heap.size w wr) ∧ Hid (∀ j, j < k → okAt j l = true) := ⟨⟨_, c0, rfl, hcc0, hcl0⟩, hD, hB, hno⟩
    clear hD hB HD0 HB0 hcc0 hcl0 hno
    by_cases hlt : k < 4
    · have hlt' : (k : Int) < 4 := by omega
      have HRB : Hid (ByL (restAt k l)) := rest_byL HBY.out k
      have HRL : Hid ((restAt k l).length ≤ 1000000) := Nat.le_trans (rest_le l k) HLN.out
      have HPB : Hid (ByL (partAt k l)) := part_byL HBY.out k
      have HPD : Hid (partAt k l = ((restAt k l).drop 4).take (cnB (restAt k l)) ∧ restAt (k + 1) l = (restAt k l).drop (4 + cnB (restAt k l))) := ⟨rfl, rfl⟩
      have HOKK : Hid (okAt k l = (cutOk (restAt k l) && okLb (partAt k l))) := rfl
      have HBAD : Hid (okAt k l = false → er = 2) := fun h => by
        rw [HER.out]
        unfold errD
        rw [if_neg]
        intro z
        have := (okD_at z).1 k hlt
        rw [h] at this
        cases this
      have HLD : Hid (dL l k = likeL (partAt k l) ∧ dF l k = firstL (partAt k l)) := ⟨rfl, rfl⟩
      obtain ⟨r, hr⟩ : ∃ r, r = restAt k l := ⟨_, rfl⟩
      obtain ⟨q, hq⟩ : ∃ q, q = partAt k l := ⟨_, rfl⟩
      rw [← hr] at HY HRB HRL HPD HOKK ⊢
      rw [← hq] at HPB HPD HOKK HLD
      clear hr hq
      go_wp2_with fail
      refine (cut_any w.heap.size r _ wr HY.out HRB.out HRL.out).mono ?_
      rintro e w2 ⟨v1, v2, rfl, hp2, hB2⟩
      have hs2 := hB2.size
      have HB2 : Hid (Below wr.heap.size wr w2) := hB2
      clear hB2
      cases hco : cutOk r with
      | false =>
        have e2 : er = 2 := HBAD.out (by rw [HOKK.out, hco]; rfl)
        subst e2
        clear hp2 hco
        go_wp2
        go_ret2
        first | exact ⟨_, rfl, fun _ => rfl, fun h => by omega, HB.out.trans (HB2.out.mono hsi)⟩ | exact ⟨_, rfl, rfl, HB.out.trans (HB2.out.mono hsi)⟩
      | true =>
        obtain ⟨hp1, hr1⟩ := hp2 hco
        rw [← HPD.out.1] at hp1
        rw [← HPD.out.2] at hr1
        obtain ⟨HP, HR⟩ : Hid (BytesAt w.heap.size w2 v1 q) ∧ Hid (BytesAt w.heap.size w2 v2 (restAt (k + 1) l)) := ⟨hp1, hr1⟩
        have HCO : Hid (cutOk r = true) := hco
        clear hp1 hr1 hco hp2
        go_wp2_with fail
        refine (load_any q v1 w2 (HP.out.mono (by omega)) HPB.out).mono ?_
        rintro e w3 ⟨pt, rfl, hn3, ht3, hB3⟩
        have hs3 := hB3.size
        have HB3 : Hid (Below wr.heap.size wr w3) := HB2.out.trans (hB3.mono hs2)
        have HR3 : Hid (BytesAt w.heap.size w3 v2 (restAt (k + 1) l)) := HR.out.below (hB3.mono (by omega))
        cases hcl : okLb q with
        | false =>
          have e2 : er = 2 := HBAD.out (by rw [HOKK.out, HCO.out, hcl]; rfl)
          have e3 : errL q = 2 := by unfold errL; rw [hcl]; rfl
          subst e2
          rw [e3]
          clear hn3 ht3 hB3 hcl e3
          go_wp2
          go_ret2
          first | exact ⟨_, rfl, fun _ => rfl, fun h => by omega, HB.out.trans (HB3.out.mono hsi)⟩ | exact ⟨_, rfl, rfl, HB.out.trans (HB3.out.mono hsi)⟩
        | true =>
          have e3 : errL q = 0 := by unfold errL; rw [hcl]; rfl
          have HOK : Hid (okAt k l = true) := by show _ = _; rw [HOKK.out, HCO.out, hcl]; rfl
          have hT := ht3 e3
          obtain ⟨gt, rfl⟩ := hT.ptr
          have HT : Hid (TrieAt w3.heap.size w3 (.pointer (some ⟨gt, 0, none⟩)) (dL l k) (dF l k)) := by rw [HLD.out.1, HLD.out.2]; exact hT
          have HD3 : Hid (DataTo w3 g k (dL l) (dF l)) := HD.out.below HB3.out
          obtain ⟨⟨u, hu⟩, hfz⟩ := HD3.out.cell hlt
          rw [e3]
          clear hn3 ht3 hB3 hcl e3 hT
          go_wp2_with fail
          have hBf : Below w.heap.size w3 (w3.setCell ⟨g, k, none⟩ (.pointer (some ⟨gt, 0, none⟩))) := (Below.refl _ _).setCell (show w.heap.size ≤ g from HGW.out) _
          go_roundw
          case rel => exact ⟨k + 1, by omega, by go_num, HR3.out.below hBf, HD3.out.store hlt HT.out (fun i hi => by
            rcases Nat.lt_or_ge i k with z | z
            · exact dfine HBY.out (HNO.out i z)
            · have : i = k := by omega
              subst this
              exact dfine HBY.out HOK.out), fun j hj => by
            rcases Nat.lt_or_ge j k with z | z
            · exact HNO.out j z
            · have : j = k := by omega
              subst this
              exact HOK.out, (HB.out.trans (HB3.out.mono hsi)).trans hBf⟩
          case measure => simp [intOf]; omega
    · obtain rfl : k = 4 := by omega
      have HDA : Hid (DataAt wr g (dL l) (dF l)) := HD.out.at
      obtain ⟨M, hM⟩ : ∃ M, M = (restAt 4 l).length := ⟨_, rfl⟩
      by_cases hz : M = 0
      · have e0 : er = 0 := by rw [HER.out]; unfold errD; rw [if_pos (okD_mk HNO.out (by omega))]
        subst e0
        rw [← hM, hz]
        clear hM hz HY HD HNO
        go_wp2
        go_ret2
        first | exact ⟨_, rfl, fun h => absurd rfl h, fun _ => ⟨g, rfl, HDA.out⟩, HB.out⟩ | exact ⟨_, rfl, ⟨g, rfl, HDA.out⟩, HB.out⟩
      · have e2 : er = 2 := by
          rw [HER.out]
          unfold errD
          rw [if_neg]
          intro z
          have := (okD_at z).2
          omega
        subst e2
        have hM1 : (0 : Int) < (M : Int) := by omega
        rw [← hM]
        clear hM hz HY HD HNO
        go_wp2
        go_ret2
        first | exact ⟨_, rfl, fun _ => rfl, fun h => by omega, HB.out⟩ | exact ⟨_, rfl, rfl, HB.out⟩
end Go.Proofs.YtpknmpgbaccffaaDoor
