/-
  Bits: and with a small number, and of bytes the one or the other. scansionref04.Load: the document's data of bytes. scansionref04: Cluster, Word, Script, Picto of the document's data. The law UcdTells: true, for all numbers. An argument of type []int.
-/
import Derived.Test.YtpknmpgbaccffaaDoorM4
import Derived.Laws.Bits64b
import Derived.Test.YtpknmpgbaccffaaDoorM9
import Derived.Test.YtpknmpgbaccffaaDoorM7
import Derived.Test.YtpknmpgbaccffaaDoorM5
namespace Go.Proofs.YtpknmpgbaccffaaDoor
open Go.RowKit
set_option linter.unusedVariables false

theorem and_small (a : Int) (m : Nat) (hm : m < 9223372036854775808) : ∃ k : Nat, k ≤ m ∧ bits .and .i64 a (m : Int) = (k : Int) := by
  have h2 : (BitVec.ofInt 64 (m : Int)).toNat = m := by
    rw [BitVec.ofInt_natCast, BitVec.toNat_ofNat]; exact Nat.mod_eq_of_lt (by omega)
  have hk : (BitVec.ofInt 64 a &&& BitVec.ofInt 64 (m : Int)).toNat ≤ m := by
    rw [BitVec.toNat_and, h2]
    exact Nat.and_le_right
  refine ⟨_, hk, ?_⟩
  show IntKind.i64.wrap ((BitVec.ofInt 64 a &&& BitVec.ofInt 64 (m : Int)).toNat : Int) = _
  exact IntWalk.i64_in _ (by omega)
theorem u8_wrap (x : Int) : IntKind.u8.wrap x = x % 256 := by simp [IntKind.wrap, IntKind.signed, IntKind.bits]
theorem xor_byte (a b : Int) : ∃ k : Nat, k ≤ 255 ∧ bits .xor .u8 a b = (k : Int) := by
  have hk : (BitVec.ofInt 8 a ^^^ BitVec.ofInt 8 b).toNat < 256 := (BitVec.ofInt 8 a ^^^ BitVec.ofInt 8 b).isLt
  refine ⟨_, Nat.le_of_lt_succ hk, ?_⟩
  show IntKind.u8.wrap ((BitVec.ofInt 8 a ^^^ BitVec.ofInt 8 b).toNat : Int) = _
  rw [u8_wrap]
  omega
/-- One byte of a row that a call made is turned. -/
theorem own_setByte {w : World} {base g k cap : Nat} {l : List Int} (h : w.ownsRow base 5 1 (.slice (some ⟨g, 0, none⟩) l.length cap) l.length (i8 l)) (hk : k < l.length) (z : Int) :
    (w.setCell ⟨g, k, none⟩ (.int .u8 z)).ownsRow base 5 1 (.slice (some ⟨g, 0, none⟩) (l.set k z).length cap) (l.set k z).length (i8 (l.set k z)) ∧ w.frozen? ⟨g, k, none⟩ = false ∧ w.cell? ⟨g, k, none⟩ = some (.int .u8 l[k]) ∧ base ≤ g := by
  have hc := h.cells (g := g) rfl k (.int .u8 l[k]) (i8_get hk)
  rw [Addr.add_mid, Nat.zero_add] at hc
  rcases h.2 with ⟨e, _⟩ | ⟨g', cap', cur, e, hb, hg, hn, hm, hs, ht⟩
  · cases e
  · obtain ⟨rfl, rfl⟩ : g = g' ∧ cap = cap' := by simpa using e
    refine ⟨⟨by rw [i8_length]; omega, .inr ⟨g, cap, (cur.toList.set k (.int .u8 z)).toArray, rfl, hb, ?_, by rw [List.length_set]; exact hn, hm, by simpa using hs, ?_⟩⟩, frozen_of_row _ _ _ _ _ hg, hc, hb⟩
    · exact heap_set_row (cs := cur.toList) (by simpa using hg) rfl
    · have e1 : (l.set k z).length * 1 = l.length * 1 := by rw [List.length_set]
      rw [e1]
      show (cur.toList.set k (.int .u8 z)).take (l.length * 1) = _
      rw [List.take_set, ht]
      unfold i8
      rw [List.map_set]
end Go.Proofs.YtpknmpgbaccffaaDoor

namespace Go.Proofs.YtpknmpgbaccffaaDoor
open Go.RowKit
set_option linter.unusedVariables false

def dN (l : List Int) (k : Nat) : List Nat := likeN (partAt k l)

set_option maxRecDepth 100000 in
set_option maxHeartbeats 8000000 in
theorem rdload_any (l : List Int) (v : Value) (w : World) (hv : BytesAt w.heap.size w v l) (hby : ByL l) (hl : l.length ≤ 1000000) :
    Calls Tryd.prog 20 #[v] w fun e w' => ∃ pv, e = .returned (.tuple #[pv, .int .i64 (errD l)]) ∧ (errD l ≠ 0 → pv = .pointer none) ∧ (errD l = 0 → ∃ g, pv = .pointer (some ⟨g, 0, none⟩) ∧ RDataTo w.heap.size w' g 4 (dF l) (dN l)) ∧ Below w.heap.size w w' := by
  obtain ⟨a, cap, rfl, hcap, hcl⟩ := hv
  have HV : Hid (BytesAt w.heap.size w (.slice a l.length cap) l) := ⟨_, cap, rfl, hcap, hcl⟩
  have HBY : Hid (ByL l) := hby
  have HLN : Hid (l.length ≤ 1000000) := hl
  obtain ⟨er, her⟩ : ∃ er, er = errD l := ⟨_, rfl⟩
  have HER : Hid (er = errD l) := her
  rw [← her]
  clear hcl hcap hby hl her
  go_enter Tryd.func20, Tryd.ntmps20
  go_wp2_with fail
  have HD0 : Hid (RDataTo w.heap.size (w.alloc (.cells #[.pointer none, .pointer none, .pointer none, .pointer none] 59)) w.heap.size 0 (dF l) (dN l)) := ⟨fun _ => .pointer none, Nat.le_refl _, heap_new' w _, fun i hi => by omega⟩
  have HB0 : Hid (Below w.heap.size w (w.alloc (.cells #[.pointer none, .pointer none, .pointer none, .pointer none] 59))) := (Below.refl _ _).alloc (Nat.le_refl _) _
  obtain ⟨w1, hw1⟩ : ∃ w1, w1 = w.alloc (.cells #[.pointer none, .pointer none, .pointer none, .pointer none] 59) := ⟨_, rfl⟩
  obtain ⟨g, hg⟩ : ∃ g, g = w.heap.size := ⟨_, rfl⟩
  have HGW : Hid (w.heap.size ≤ g) := by show _ ≤ _; omega
  have HD1 : Hid (RDataTo w.heap.size w1 g 0 (dF l) (dN l)) := by rw [hw1, hg]; exact HD0.out
  rw [← hw1] at HB0
  rw [← hw1, ← hg]
  clear hw1 hg HD0
  go_loopw [0, 5] (fun y x wr => ∃ k : Nat, k ≤ 4 ∧ x = .int .i64 k ∧ BytesAt w.heap.size wr y (restAt k l) ∧ RDataTo w.heap.size wr g k (dF l) (dN l) ∧ (∀ j, j < k → okAt j l = true) ∧ Below w.heap.size w wr) (fun _ x _ => 4 - (intOf x).toNat)
  case atStart => exact ⟨0, Nat.zero_le _, rfl, HV.out.below HB0.out, HD1.out, fun j h => by omega, HB0.out⟩
  case round =>
    obtain ⟨k, hk, rfl, hy, hD, hno, hB⟩ := hrel
    have hsi := hB.size
    obtain ⟨a0, c0, rfl, hcc0, hcl0⟩ := hy
    obtain ⟨HY, HD, HB, HNO⟩ : Hid (BytesAt w.heap.size wr (.slice a0 (restAt k l).length c0) (restAt k l)) ∧ Hid (RDataTo w.heap.size wr g k (dF l) (dN l)) ∧ Hid (Below w.heap.size w wr) ∧ Hid (∀ j, j < k → okAt j l = true) := ⟨⟨_, c0, rfl, hcc0, hcl0⟩, hD, hB, hno⟩
    clear hD hB HD1 HB0 hno
    by_cases hlt : k < 4
    · have hlt' : (k : Int) < 4 := by omega
      have HRB : Hid (ByL (restAt k l)) := rest_byL HBY.out k
      have HRL : Hid ((restAt k l).length ≤ 1000000) := Nat.le_trans (rest_le l k) HLN.out
      have HPB : Hid (ByL (partAt k l)) := part_byL HBY.out k
      have HPD : Hid (partAt k l = ((restAt k l).drop 4).take (cnB (restAt k l)) ∧ restAt (k + 1) l = (restAt k l).drop (4 + cnB (restAt k l))) := ⟨rfl, rfl⟩
      have HOKK : Hid (okAt k l = (cutOk (restAt k l) && okLb (partAt k l))) := rfl
      have HBAD : Hid (okAt k l = false → er = 2) := fun h => by
        rw [HER.out]
        unfold errD
        rw [if_neg]
        intro z
        have := (okD_at z).1 k hlt
        rw [h] at this
        cases this
      have HLD : Hid (dN l k = likeN (partAt k l) ∧ dF l k = firstL (partAt k l)) := ⟨rfl, rfl⟩
      obtain ⟨r, hr⟩ : ∃ r, r = restAt k l := ⟨_, rfl⟩
      obtain ⟨q, hq⟩ : ∃ q, q = partAt k l := ⟨_, rfl⟩
      rw [← hr] at HY HRB HRL HPD HOKK hcc0 hcl0 ⊢
      rw [← hq] at HPB HPD HOKK HLD
      clear hr hq
      obtain ⟨M, hM⟩ : ∃ M, M = r.length := ⟨_, rfl⟩
      by_cases hs : M < 4
      · have hs' : decide ((M : Int) < 4) = true := by simp; omega
        have hs2 : decide (M < 4) = true := by simp; omega
        have e2 : er = 2 := HBAD.out (by rw [HOKK.out]; unfold cutOk; simp; omega)
        subst e2
        rw [← hM]
        clear hcc0 hcl0 hM hs
        go_wp2
        go_ret2
        first | exact ⟨_, rfl, fun _ => rfl, fun h => by omega, HB.out⟩ | exact ⟨_, rfl, rfl, HB.out⟩
      have hs' : decide ((M : Int) < 4) = false := by simp; omega
      have hs2 : decide (M < 4) = false := by simp; omega
      obtain ⟨x0, hx0⟩ : ∃ x : Nat, r[0]'(by omega) = (x : Int) := ⟨(r[0]).toNat, by have := HRB.out r[0] (List.getElem_mem _); omega⟩
      obtain ⟨x1, hx1⟩ : ∃ x : Nat, r[1]'(by omega) = (x : Int) := ⟨(r[1]).toNat, by have := HRB.out r[1] (List.getElem_mem _); omega⟩
      obtain ⟨x2, hx2⟩ : ∃ x : Nat, r[2]'(by omega) = (x : Int) := ⟨(r[2]).toNat, by have := HRB.out r[2] (List.getElem_mem _); omega⟩
      obtain ⟨x3, hx3⟩ : ∃ x : Nat, r[3]'(by omega) = (x : Int) := ⟨(r[3]).toNat, by have := HRB.out r[3] (List.getElem_mem _); omega⟩
      obtain ⟨gb, off, rfl, hgb, hr0⟩ := hcl0 0 (by omega)
      clear hr0
      have hcc : ∀ i (h : i < r.length), wr.cell? ⟨gb, off + i, none⟩ = some (.int .u8 r[i]) := fun i h => by
        obtain ⟨g', off', e, _, hc⟩ := hcl0 i h
        obtain ⟨rfl, rfl⟩ : gb = g' ∧ off = off' := by simpa using e
        exact hc
      have d0 := hcc 0 (by omega)
      have d1 := hcc 1 (by omega)
      have d2 := hcc 2 (by omega)
      have d3 := hcc 3 (by omega)
      rw [Nat.add_zero] at d0
      rw [hx0] at d0
      rw [hx1] at d1
      rw [hx2] at d2
      rw [hx3] at d3
      have hXX : x0 ≤ 255 ∧ x1 ≤ 255 ∧ x2 ≤ 255 ∧ x3 ≤ 255 := by
        have h0 := HRB.out r[0] (List.getElem_mem _)
        have h1 := HRB.out r[1] (List.getElem_mem _)
        have h2 := HRB.out r[2] (List.getElem_mem _)
        have h3 := HRB.out r[3] (List.getElem_mem _)
        rw [hx0] at h0
        rw [hx1] at h1
        rw [hx2] at h2
        rw [hx3] at h3
        omega
      obtain ⟨n, hn⟩ : ∃ n, n = x0 + 256 * x1 + 65536 * x2 + 16777216 * x3 := ⟨_, rfl⟩
      have HCN : Hid (cnB r = n) := by
        show _ = _
        unfold cnB
        rw [List.getElem?_eq_getElem (by omega), List.getElem?_eq_getElem (by omega), List.getElem?_eq_getElem (by omega), List.getElem?_eq_getElem (by omega)]
        simp only [Option.getD_some, hx0, hx1, hx2, hx3, Int.toNat_natCast]
        omega
      have HM : Hid (M = r.length ∧ 4 ≤ M ∧ M ≤ 1000000 ∧ M ≤ c0) := ⟨hM, by omega, by have := HRL.out; omega, by omega⟩
      have l0 : (0 : Int) < (M : Int) := by omega
      have l1 : (1 : Int) < (M : Int) := by omega
      have l2 : (2 : Int) < (M : Int) := by omega
      have l3 : (3 : Int) < (M : Int) := by omega
      have m0 : 0 < M := by omega
      have m1 : 1 < M := by omega
      have m2 : 2 < M := by omega
      have m3 : 3 < M := by omega
      have z0 : IntKind.i64.wrap (x0 : Int) = (x0 : Int) := IntWalk.i64_in _ (by omega)
      have z1 : IntKind.i64.wrap (x1 : Int) = (x1 : Int) := IntWalk.i64_in _ (by omega)
      have z2 : IntKind.i64.wrap (x2 : Int) = (x2 : Int) := IntWalk.i64_in _ (by omega)
      have z3 : IntKind.i64.wrap (x3 : Int) = (x3 : Int) := IntWalk.i64_in _ (by omega)
      have z4 : IntKind.i64.wrap (256 * (x1 : Int)) = 256 * (x1 : Int) := IntWalk.i64_in _ (by omega)
      have z5 : IntKind.i64.wrap (65536 * (x2 : Int)) = 65536 * (x2 : Int) := IntWalk.i64_in _ (by omega)
      have z6 : IntKind.i64.wrap (16777216 * (x3 : Int)) = 16777216 * (x3 : Int) := IntWalk.i64_in _ (by omega)
      have z7 : IntKind.i64.wrap ((x0 : Int) + 256 * (x1 : Int)) = (x0 : Int) + 256 * (x1 : Int) := IntWalk.i64_in _ (by omega)
      have z8 : IntKind.i64.wrap ((x0 : Int) + 256 * (x1 : Int) + 65536 * (x2 : Int)) = (x0 : Int) + 256 * (x1 : Int) + 65536 * (x2 : Int) := IntWalk.i64_in _ (by omega)
      have z9 : IntKind.i64.wrap ((x0 : Int) + 256 * (x1 : Int) + 65536 * (x2 : Int) + 16777216 * (x3 : Int)) = (n : Int) := (IntWalk.i64_in _ (by omega)).trans (by omega)
      have HNB : Hid (n < 4294967296) := by show _ < _; omega
      have hm4 : IntKind.i64.wrap ((M : Int) - 4) = ((M - 4 : Nat) : Int) := (IntWalk.i64_in _ (by have := HM.out; omega)).trans (by omega)
      have hn4 : IntKind.i64.wrap (4 + (n : Int)) = ((4 + n : Nat) : Int) := (IntWalk.i64_in _ (by omega)).trans (by omega)
      rw [← hM]
      rw [← hM] at HY
      clear hcc0 hcl0 hcc hx0 hx1 hx2 hx3 hs hn hXX hM
      go_wp2_with fail
      go_quiet (fail)
      obtain ⟨wq, hwq⟩ : ∃ wq, wq = wr.drewN nq := ⟨_, rfl⟩
      have hBq : Below wr.heap.size wr wq := by rw [hwq]; exact below_drewN' (Below.refl _ _) _
      obtain ⟨HYQ, HDQ, HBQ⟩ : Hid (BytesAt w.heap.size wq (.slice (some ⟨gb, off, none⟩) M c0) r) ∧ Hid (RDataTo w.heap.size wq g k (dF l) (dN l)) ∧ Hid (Below w.heap.size w wq) := ⟨HY.out.below (hBq.mono hsi), HD.out.below hBq, HB.out.trans (hBq.mono hsi)⟩
      have hsq : w.heap.size ≤ wq.heap.size := HBQ.out.size
      rw [← hwq]
      clear hwq hBq HY HD HB d0 d1 d2 d3
      by_cases hok : n ≤ M - 4
      · have hok' : decide (((M - 4 : Nat) : Int) < (n : Int)) = false := by simp; omega
        have hok2 : decide (M - 4 < n) = false := by simp; omega
        have HCO : Hid (cutOk r = true) := by show _ = _; unfold cutOk; rw [HCN.out]; have := HM.out; simp; omega
        have HYR : Hid (BytesAt w.heap.size wq (.slice (some ⟨gb, off, none⟩) r.length c0) r) := by rw [← HM.out.1]; exact HYQ.out
        have q1 : (4 : Int) ≤ ((4 + n : Nat) : Int) := by omega
        have q2 : ((4 + n : Nat) : Int) ≤ (c0 : Int) := by have := HM.out; omega
        have q3 : (0 : Int) ≤ ((4 + n : Nat) : Int) := by omega
        have q4 : ((4 + n : Nat) : Int) ≤ (M : Int) := by omega
        have q5 : 4 + n - 4 = n := by omega
        by_cases hcp : c0 = 4
        · have hn0 : n = 0 := by have := HM.out; omega
          have hM4 : M = 4 := by have := HM.out; omega
          have HP : Hid (BytesAt w.heap.size wq (.slice (some ⟨gb, off, none⟩) 0 0) q) := by
            have e : q = [] := by rw [HPD.out.1, HCN.out, hn0]; simp
            rw [e]; exact ⟨_, 0, rfl, Nat.le_refl _, fun i hi => by simp at hi⟩
          have HRR : Hid (∀ w', BytesAt w.heap.size w' (.slice (some ⟨gb, off, none⟩) 0 0) (restAt (k + 1) l)) := fun w' => by
            have e : restAt (k + 1) l = [] := by rw [HPD.out.2, HCN.out]; have := HM.out; rw [List.drop_eq_nil_iff]; omega
            rw [e]; exact ⟨_, 0, rfl, Nat.le_refl _, fun i hi => by simp at hi⟩
          subst hn0 hM4 hcp
          clear HM HYQ HYR
          go_wp2_with fail
          refine (refLoad_any q _ wq (HP.out.mono hsq) HPB.out).mono ?_
          rintro e w3 ⟨pt, rfl, hn3, ht3, hB3⟩
          have hs3 := hB3.size
          have HB3 : Hid (Below wq.heap.size wq w3) := hB3
          cases hcl : okLb q with
          | false =>
            have e2 : er = 2 := HBAD.out (by rw [HOKK.out, HCO.out, hcl]; rfl)
            have e3 : errL q = 2 := by unfold errL; rw [hcl]; rfl
            subst e2
            rw [e3]
            clear hn3 ht3 hB3 hcl e3
            go_wp2
            go_ret2
            first | exact ⟨_, rfl, fun _ => rfl, fun h => by omega, HBQ.out.trans (HB3.out.mono hsq)⟩ | exact ⟨_, rfl, rfl, HBQ.out.trans (HB3.out.mono hsq)⟩
          | true =>
            have e3 : errL q = 0 := by unfold errL; rw [hcl]; rfl
            have HOK : Hid (okAt k l = true) := by show _ = _; rw [HOKK.out, HCO.out, hcl]; rfl
            obtain ⟨gt, rfl, hT⟩ := ht3 e3
            have HT : Hid (RefAt w.heap.size w3 gt (dF l k) (dN l k)) := by rw [HLD.out.1, HLD.out.2]; exact hT.mono hsq
            have HD3 : Hid (RDataTo w.heap.size w3 g k (dF l) (dN l)) := HDQ.out.below HB3.out
            obtain ⟨⟨u, hu⟩, hfz⟩ := HD3.out.cell hlt
            rw [e3]
            clear hn3 ht3 hB3 hcl e3 hT
            go_wp2_with fail
            have hBf : Below w.heap.size w3 (w3.setCell ⟨g, k, none⟩ (.pointer (some ⟨gt, 0, none⟩))) := (Below.refl _ _).setCell (show w.heap.size ≤ g from HGW.out) _
            go_roundw
            case rel => exact ⟨k + 1, by omega, by go_num, HRR.out _, HD3.out.store hlt HT.out, fun j hj => by
              rcases Nat.lt_or_ge j k with z | z
              · exact HNO.out j z
              · have : j = k := by omega
                subst this
                exact HOK.out, (HBQ.out.trans (HB3.out.mono hsq)).trans hBf⟩
            case measure => simp [intOf]; omega
        have hcp2 : ¬ (c0 - 4 = 0) := by have := HM.out; omega
        have HP : Hid (BytesAt w.heap.size wq (.slice (some ⟨gb, off + 4, none⟩) n (c0 - 4)) q) := by
          rw [HPD.out.1, HCN.out]
          exact HYR.out.part (i := 4) (m := n) (by have := HM.out; omega)
        by_cases hcn : c0 - (4 + n) = 0
        · have HRR : Hid (∀ w', BytesAt w.heap.size w' (.slice (some ⟨gb, off, none⟩) (M - (4 + n)) (c0 - (4 + n))) (restAt (k + 1) l)) := fun w' => by
            have e : restAt (k + 1) l = [] := by rw [HPD.out.2, HCN.out]; have := HM.out; rw [List.drop_eq_nil_iff]; omega
            have e2 : M - (4 + n) = 0 := by have := HM.out; omega
            rw [e, e2]; exact ⟨_, _, rfl, Nat.zero_le _, fun i hi => by simp at hi⟩
          have hmn : M - (4 + n) = 0 := by have := HM.out; omega
          go_wp2_with fail
          refine (refLoad_any q _ wq (HP.out.mono hsq) HPB.out).mono ?_
          rintro e w3 ⟨pt, rfl, hn3, ht3, hB3⟩
          have hs3 := hB3.size
          have HB3 : Hid (Below wq.heap.size wq w3) := hB3
          cases hcl : okLb q with
          | false =>
            have e2 : er = 2 := HBAD.out (by rw [HOKK.out, HCO.out, hcl]; rfl)
            have e3 : errL q = 2 := by unfold errL; rw [hcl]; rfl
            subst e2
            rw [e3]
            clear hn3 ht3 hB3 hcl e3
            go_wp2
            go_ret2
            first | exact ⟨_, rfl, fun _ => rfl, fun h => by omega, HBQ.out.trans (HB3.out.mono hsq)⟩ | exact ⟨_, rfl, rfl, HBQ.out.trans (HB3.out.mono hsq)⟩
          | true =>
            have e3 : errL q = 0 := by unfold errL; rw [hcl]; rfl
            have HOK : Hid (okAt k l = true) := by show _ = _; rw [HOKK.out, HCO.out, hcl]; rfl
            obtain ⟨gt, rfl, hT⟩ := ht3 e3
            have HT : Hid (RefAt w.heap.size w3 gt (dF l k) (dN l k)) := by rw [HLD.out.1, HLD.out.2]; exact hT.mono hsq
            have HD3 : Hid (RDataTo w.heap.size w3 g k (dF l) (dN l)) := HDQ.out.below HB3.out
            obtain ⟨⟨u, hu⟩, hfz⟩ := HD3.out.cell hlt
            rw [e3]
            clear hn3 ht3 hB3 hcl e3 hT
            go_wp2_with fail
            have hBf : Below w.heap.size w3 (w3.setCell ⟨g, k, none⟩ (.pointer (some ⟨gt, 0, none⟩))) := (Below.refl _ _).setCell (show w.heap.size ≤ g from HGW.out) _
            go_roundw
            case rel => exact ⟨k + 1, by omega, by go_num, HRR.out _, HD3.out.store hlt HT.out, fun j hj => by
              rcases Nat.lt_or_ge j k with z | z
              · exact HNO.out j z
              · have : j = k := by omega
                subst this
                exact HOK.out, (HBQ.out.trans (HB3.out.mono hsq)).trans hBf⟩
            case measure => simp [intOf]; omega
        · have HRR : Hid (∀ w', Below wq.heap.size wq w' → BytesAt w.heap.size w' (.slice (some ⟨gb, off + (4 + n), none⟩) (M - (4 + n)) (c0 - (4 + n))) (restAt (k + 1) l)) := fun w' hw' => by
            have h2 := HYR.out.part (i := 4 + n) (m := M - (4 + n)) (by have := HM.out; omega)
            have e1 : (r.drop (4 + n)).take (M - (4 + n)) = r.drop (4 + n) := List.take_of_length_le (by rw [List.length_drop]; have := HM.out; omega)
            rw [e1] at h2
            rw [HPD.out.2, HCN.out]
            exact h2.below (hw'.mono hsq)
          go_wp2_with fail
          refine (refLoad_any q _ wq (HP.out.mono hsq) HPB.out).mono ?_
          rintro e w3 ⟨pt, rfl, hn3, ht3, hB3⟩
          have hs3 := hB3.size
          have HB3 : Hid (Below wq.heap.size wq w3) := hB3
          cases hcl : okLb q with
          | false =>
            have e2 : er = 2 := HBAD.out (by rw [HOKK.out, HCO.out, hcl]; rfl)
            have e3 : errL q = 2 := by unfold errL; rw [hcl]; rfl
            subst e2
            rw [e3]
            clear hn3 ht3 hB3 hcl e3
            go_wp2
            go_ret2
            first | exact ⟨_, rfl, fun _ => rfl, fun h => by omega, HBQ.out.trans (HB3.out.mono hsq)⟩ | exact ⟨_, rfl, rfl, HBQ.out.trans (HB3.out.mono hsq)⟩
          | true =>
            have e3 : errL q = 0 := by unfold errL; rw [hcl]; rfl
            have HOK : Hid (okAt k l = true) := by show _ = _; rw [HOKK.out, HCO.out, hcl]; rfl
            obtain ⟨gt, rfl, hT⟩ := ht3 e3
            have HT : Hid (RefAt w.heap.size w3 gt (dF l k) (dN l k)) := by rw [HLD.out.1, HLD.out.2]; exact hT.mono hsq
            have HD3 : Hid (RDataTo w.heap.size w3 g k (dF l) (dN l)) := HDQ.out.below HB3.out
            obtain ⟨⟨u, hu⟩, hfz⟩ := HD3.out.cell hlt
            rw [e3]
            clear hn3 ht3 hB3 hcl e3 hT
            go_wp2_with fail
            have hBf : Below w.heap.size w3 (w3.setCell ⟨g, k, none⟩ (.pointer (some ⟨gt, 0, none⟩))) := (Below.refl _ _).setCell (show w.heap.size ≤ g from HGW.out) _
            go_roundw
            case rel => exact ⟨k + 1, by omega, by go_num, (HRR.out _ HB3.out).below hBf, HD3.out.store hlt HT.out, fun j hj => by
              rcases Nat.lt_or_ge j k with z | z
              · exact HNO.out j z
              · have : j = k := by omega
                subst this
                exact HOK.out, (HBQ.out.trans (HB3.out.mono hsq)).trans hBf⟩
            case measure => simp [intOf]; omega
      · have hok' : decide (((M - 4 : Nat) : Int) < (n : Int)) = true := by simp; omega
        have hok2 : decide (M - 4 < n) = true := by simp; omega
        have e2 : er = 2 := HBAD.out (by rw [HOKK.out]; unfold cutOk; rw [HCN.out]; have := HM.out; simp; omega)
        subst e2
        go_wp2
        go_ret2
        first | exact ⟨_, rfl, fun _ => rfl, fun h => by omega, HBQ.out⟩ | exact ⟨_, rfl, rfl, HBQ.out⟩
    · obtain rfl : k = 4 := by omega
      have HDA : Hid (RDataTo w.heap.size wr g 4 (dF l) (dN l)) := HD.out
      obtain ⟨M, hM⟩ : ∃ M, M = (restAt 4 l).length := ⟨_, rfl⟩
      clear hcc0 hcl0
      by_cases hz : M = 0
      · have e0 : er = 0 := by rw [HER.out]; unfold errD; rw [if_pos (okD_mk HNO.out (by omega))]
        subst e0
        rw [← hM, hz]
        clear hM hz HY HD HNO
        go_wp2
        go_ret2
        first | exact ⟨_, rfl, fun h => absurd rfl h, fun _ => ⟨g, rfl, HDA.out⟩, HB.out⟩ | exact ⟨_, rfl, ⟨g, rfl, HDA.out⟩, HB.out⟩
      · have e2 : er = 2 := by
          rw [HER.out]
          unfold errD
          rw [if_neg]
          intro z
          have := (okD_at z).2
          omega
        subst e2
        have hM1 : (0 : Int) < (M : Int) := by omega
        rw [← hM]
        clear hM hz HY HD HNO
        go_wp2
        go_ret2
        first | exact ⟨_, rfl, fun _ => rfl, fun h => by omega, HB.out⟩ | exact ⟨_, rfl, rfl, HB.out⟩
end Go.Proofs.YtpknmpgbaccffaaDoor

namespace Go.Proofs.YtpknmpgbaccffaaDoor
open Go.RowKit
set_option linter.unusedVariables false

set_option maxRecDepth 100000 in
set_option maxHeartbeats 8000000 in
theorem rdword_any (n : Nat) (TF : Nat → List (List Int)) (TN : Nat → List Nat) (g : Nat) (r : Int) (w : World) (hd : RDataTo n w g 4 TF TN) (hf : ∀ i, i < 4 → RFine (TF i) (TN i)) :
    Calls Tryd.prog 22 #[.pointer (some ⟨g, 0, none⟩), .int .i64 r] w fun e w' => e = .returned (.int .i64 (ofT (castN TN 1) (TF 1) r)) ∧ Below w.heap.size w w' := by
  obtain ⟨gt, hc, _, hT⟩ := hd.trie (i := 1) (by omega) (Nat.le_refl _)
  have HT : Hid (RefAt n w gt (TF 1) (TN 1)) := hT
  have HFK : Hid (RFine (TF 1) (TN 1)) := hf 1 (by omega)
  have HUB : Hid (0 ≤ ofT (castN TN 1) (TF 1) r ∧ ofT (castN TN 1) (TF 1) r ≤ 255) := ofT_byte HFK.out.fine r
  obtain ⟨u, hu⟩ : ∃ u, u = ofT (castN TN 1) (TF 1) r := ⟨_, rfl⟩
  have HU : Hid (ofT ((TN 1).map (fun k : Nat => (k : Int))) (TF 1) r = u) := hu.symm
  rw [← hu] at HUB ⊢
  have hwu : IntKind.i64.wrap u = u := IntWalk.i64_in _ (by have := HUB.out; omega)
  clear hu hd hf hT
  go_enter Tryd.func22, Tryd.ntmps22
  go_wp2_with fail
  refine (refOf_any n (TF 1) (TN 1) gt r w HT.out (by have := HFK.out.le; omega) HFK.out.len HFK.out.lt).mono ?_
  rintro e w1 ⟨rfl, hB1⟩
  rw [HU.out]
  have HB1 : Hid (Below w.heap.size w w1) := hB1
  clear hB1
  go_wp2
  go_ret
  exact ⟨rfl, HB1.out⟩

set_option maxRecDepth 100000 in
set_option maxHeartbeats 8000000 in
theorem rdscript_any (n : Nat) (TF : Nat → List (List Int)) (TN : Nat → List Nat) (g : Nat) (r : Int) (w : World) (hd : RDataTo n w g 4 TF TN) (hf : ∀ i, i < 4 → RFine (TF i) (TN i)) :
    Calls Tryd.prog 23 #[.pointer (some ⟨g, 0, none⟩), .int .i64 r] w fun e w' => e = .returned (.int .i64 (ofT (castN TN 2) (TF 2) r)) ∧ Below w.heap.size w w' := by
  obtain ⟨gt, hc, _, hT⟩ := hd.trie (i := 2) (by omega) (Nat.le_refl _)
  have HT : Hid (RefAt n w gt (TF 2) (TN 2)) := hT
  have HFK : Hid (RFine (TF 2) (TN 2)) := hf 2 (by omega)
  have HUB : Hid (0 ≤ ofT (castN TN 2) (TF 2) r ∧ ofT (castN TN 2) (TF 2) r ≤ 255) := ofT_byte HFK.out.fine r
  obtain ⟨u, hu⟩ : ∃ u, u = ofT (castN TN 2) (TF 2) r := ⟨_, rfl⟩
  have HU : Hid (ofT ((TN 2).map (fun k : Nat => (k : Int))) (TF 2) r = u) := hu.symm
  rw [← hu] at HUB ⊢
  have hwu : IntKind.i64.wrap u = u := IntWalk.i64_in _ (by have := HUB.out; omega)
  clear hu hd hf hT
  go_enter Tryd.func23, Tryd.ntmps23
  go_wp2_with fail
  refine (refOf_any n (TF 2) (TN 2) gt r w HT.out (by have := HFK.out.le; omega) HFK.out.len HFK.out.lt).mono ?_
  rintro e w1 ⟨rfl, hB1⟩
  rw [HU.out]
  have HB1 : Hid (Below w.heap.size w w1) := hB1
  clear hB1
  go_wp2
  go_ret
  exact ⟨rfl, HB1.out⟩

set_option maxRecDepth 100000 in
set_option maxHeartbeats 8000000 in
theorem rdpicto_any (n : Nat) (TF : Nat → List (List Int)) (TN : Nat → List Nat) (g : Nat) (r : Int) (w : World) (hd : RDataTo n w g 4 TF TN) (hf : ∀ i, i < 4 → RFine (TF i) (TN i)) :
    Calls Tryd.prog 24 #[.pointer (some ⟨g, 0, none⟩), .int .i64 r] w fun e w' => e = .returned (.bool (ofT (castN TN 3) (TF 3) r != 0)) ∧ Below w.heap.size w w' := by
  obtain ⟨gt, hc, _, hT⟩ := hd.trie (i := 3) (by omega) (Nat.le_refl _)
  have HT : Hid (RefAt n w gt (TF 3) (TN 3)) := hT
  have HFK : Hid (RFine (TF 3) (TN 3)) := hf 3 (by omega)
  have HUB : Hid (0 ≤ ofT (castN TN 3) (TF 3) r ∧ ofT (castN TN 3) (TF 3) r ≤ 255) := ofT_byte HFK.out.fine r
  obtain ⟨u, hu⟩ : ∃ u, u = ofT (castN TN 3) (TF 3) r := ⟨_, rfl⟩
  have HU : Hid (ofT ((TN 3).map (fun k : Nat => (k : Int))) (TF 3) r = u) := hu.symm
  rw [← hu] at HUB ⊢
  have hwu : IntKind.i64.wrap u = u := IntWalk.i64_in _ (by have := HUB.out; omega)
  clear hu hd hf hT
  go_enter Tryd.func24, Tryd.ntmps24
  go_wp2_with fail
  refine (refOf_any n (TF 3) (TN 3) gt r w HT.out (by have := HFK.out.le; omega) HFK.out.len HFK.out.lt).mono ?_
  rintro e w1 ⟨rfl, hB1⟩
  rw [HU.out]
  have HB1 : Hid (Below w.heap.size w w1) := hB1
  clear hB1
  go_wp2
  go_ret
  exact ⟨rfl, HB1.out⟩

set_option maxRecDepth 100000 in
set_option maxHeartbeats 8000000 in
theorem rdcluster_any (n : Nat) (TF : Nat → List (List Int)) (TN : Nat → List Nat) (g : Nat) (r : Int) (w : World) (hd : RDataTo n w g 4 TF TN) (hf : ∀ i, i < 4 → RFine (TF i) (TN i)) :
    Calls Tryd.prog 21 #[.pointer (some ⟨g, 0, none⟩), .int .i64 r] w fun e w' => e = .returned (.int .i64 (clusterT (castN TN 0) (TF 0) r)) ∧ Below w.heap.size w w' := by
  obtain ⟨gt, hc, _, hT⟩ := hd.trie (i := 0) (by omega) (Nat.le_refl _)
  have HT : Hid (RefAt n w gt (TF 0) (TN 0)) := hT
  have HFK : Hid (RFine (TF 0) (TN 0)) := hf 0 (by omega)
  have HUB : Hid (0 ≤ ofT (castN TN 0) (TF 0) r ∧ ofT (castN TN 0) (TF 0) r ≤ 255) := ofT_byte HFK.out.fine r
  obtain ⟨u, hu⟩ : ∃ u, u = clusterT (castN TN 0) (TF 0) r := ⟨_, rfl⟩
  have HU : Hid (u = clusterT (castN TN 0) (TF 0) r) := hu
  rw [← hu]
  clear hu hd hf hT
  by_cases n1 : r < 44032
  · have e1 : u = ofT (castN TN 0) (TF 0) r := by rw [HU.out]; unfold clusterT; rw [if_neg (by omega)]
    have HE : Hid (u = ofT ((TN 0).map (fun k : Nat => (k : Int))) (TF 0) r) := e1
    rw [← e1] at HUB
    have hwu : IntKind.i64.wrap u = u := IntWalk.i64_in _ (by have := HUB.out; omega)
    clear e1 HU
    go_enter Tryd.func21, Tryd.ntmps21
    go_wp2_with fail
    refine (refOf_any n (TF 0) (TN 0) gt r w HT.out (by have := HFK.out.le; omega) HFK.out.len HFK.out.lt).mono ?_
    rintro e w1 ⟨rfl, hB1⟩
    rw [← HE.out]
    have HB1 : Hid (Below w.heap.size w w1) := hB1
    clear hB1
    go_wp2
    go_ret
    exact ⟨rfl, HB1.out⟩
  by_cases n2 : 55203 < r
  · have e1 : u = ofT (castN TN 0) (TF 0) r := by rw [HU.out]; unfold clusterT; rw [if_neg (by omega)]
    have HE : Hid (u = ofT ((TN 0).map (fun k : Nat => (k : Int))) (TF 0) r) := e1
    rw [← e1] at HUB
    have hwu : IntKind.i64.wrap u = u := IntWalk.i64_in _ (by have := HUB.out; omega)
    clear e1 HU
    go_enter Tryd.func21, Tryd.ntmps21
    go_wp2_with fail
    refine (refOf_any n (TF 0) (TN 0) gt r w HT.out (by have := HFK.out.le; omega) HFK.out.len HFK.out.lt).mono ?_
    rintro e w1 ⟨rfl, hB1⟩
    rw [← HE.out]
    have HB1 : Hid (Below w.heap.size w w1) := hB1
    clear hB1
    go_wp2
    go_ret
    exact ⟨rfl, HB1.out⟩
  obtain ⟨m, rfl⟩ : ∃ m : Nat, r = (m : Int) := ⟨r.toNat, by omega⟩
  have hw1 : IntKind.i64.wrap ((m : Int) - 44032) = (m : Int) - 44032 := IntWalk.i64_in _ (by omega)
  obtain ⟨j, hj⟩ : ∃ j : Nat, (j : Int) = (m : Int) - 44032 := ⟨m - 44032, by omega⟩
  have hm : ((m : Int) - 44032).tmod 28 = ((j % 28 : Nat) : Int) := by rw [← hj, Int.tmod_eq_emod_of_nonneg (by omega)]; omega
  have hw2 : IntKind.i64.wrap ((j % 28 : Nat) : Int) = ((j % 28 : Nat) : Int) := IntWalk.i64_in _ (by omega)
  have i1 : (44032 : Int) ≤ (m : Int) := by omega
  have i2 : (m : Int) ≤ 55203 := by omega
  by_cases n3 : j % 28 = 0
  · have e1 : u = 12 := by rw [HU.out]; unfold clusterT; rw [if_pos (by omega), if_pos (by omega)]
    subst e1
    rw [n3] at hm hw2
    clear HU hj n3 n1 n2
    go_enter Tryd.func21, Tryd.ntmps21
    go_wp2
    go_ret
    exact ⟨rfl, Below.refl _ _⟩
  · have e1 : u = 13 := by rw [HU.out]; unfold clusterT; rw [if_pos (by omega), if_neg (by omega)]
    subst e1
    obtain ⟨q, hq⟩ : ∃ q : Nat, q = j % 28 := ⟨_, rfl⟩
    rw [← hq] at hm hw2
    have hz : ((q : Int) == 0) = false := by simp; omega
    clear HU hj n3 hq n1 n2
    go_enter Tryd.func21, Tryd.ntmps21
    go_wp2
    go_ret
    exact ⟨rfl, Below.refl _ _⟩
end Go.Proofs.YtpknmpgbaccffaaDoor

namespace Go.Proofs.YtpknmpgbaccffaaDoor
open Go.RowKit
set_option linter.unusedVariables false

/-- The slice value v holds the ints l, in a block below n. -/
def IntsAt (n : Nat) (w : World) (v : Value) (l : List Int) : Prop :=
  ∃ a cap, v = .slice a l.length cap ∧ l.length ≤ cap ∧ ∀ i, (h : i < l.length) → ∃ g off, a = some ⟨g, off, none⟩ ∧ g < n ∧ w.cell? ⟨g, off + i, none⟩ = some (.int .i64 l[i])

set_option maxRecDepth 100000 in
set_option maxHeartbeats 8000000 in
theorem ucdTells_any (rs : List Int) (rv : Value) (w : World) (hr : IntsAt w.heap.size w rv rs) (hs : Scripts w) (h0 : 0 < w.heap.size) :
    Calls Tryd.prog 3 #[rv] w fun e w' => e = .returned (.bool true) ∧ Below w.heap.size w w' := by
  have HS : Hid (Scripts w) := hs
  have HH0 : Hid (0 < w.heap.size) := h0
  obtain ⟨ar, capr, rfl, _, hcr⟩ := hr
  have HCR : Hid (∀ i, (h : i < rs.length) → ∃ g off, ar = some ⟨g, off, none⟩ ∧ g < w.heap.size ∧ w.cell? ⟨g, off + i, none⟩ = some (.int .i64 rs[i])) := hcr
  clear hs h0 hcr
  go_enter Tryd.func3, Tryd.ntmps3
  go_wp2_with fail
  refine (awake_u w HS.out HH0.out).mono ?_
  rintro e w0 ⟨rfl, hB0⟩
  have HB0 : Hid (Below w.heap.size w w0) := hB0
  have HS0 : Hid (Scripts w0 ∧ 0 < w0.heap.size) := ⟨HS.out.below HH0.out hB0, by have := HH0.out; have := hB0.size; omega⟩
  clear hB0
  go_wp2_with fail
  refine (new_ship w0 HS0.out.1 HS0.out.2).mono ?_
  rintro e w1 ⟨g, rfl, hd, hB1⟩
  obtain ⟨HD1, HB1⟩ : Hid (Ship w1 g) ∧ Hid (Below w.heap.size w w1) := ⟨hd, HB0.out.trans (hB1.mono HB0.out.size)⟩
  clear hd hB1
  go_wp2_with fail
  go_loopw [5] (fun x wr => ∃ k : Nat, k ≤ rs.length ∧ k ≤ 200 ∧ x = .int .i64 k ∧ Below w1.heap.size w1 wr) (fun x _ => 200 - (intOf x).toNat)
  case atStart => exact ⟨0, Nat.zero_le _, Nat.zero_le _, rfl, Below.refl _ _⟩
  case round =>
    obtain ⟨k, hk, hk2, rfl, hBr⟩ := hrel
    have hbr := hBr.size
    have HBR : Hid (Below w1.heap.size w1 wr) := hBr
    have HBW : Hid (Below w.heap.size w wr) := HB1.out.trans (hBr.mono HB1.out.size)
    have HDR : Hid (Ship wr g) := HD1.out.below hBr
    clear hBr
    by_cases hgo : k < rs.length ∧ k < 200
    · have hg1 : (k : Int) < (rs.length : Int) := by omega
      have hg2 : (k : Int) < 200 := by omega
      obtain ⟨gi, off, rfl, hg, c0⟩ := HCR.out k hgo.1
      obtain ⟨r, hx⟩ : ∃ x, x = rs[k]'hgo.1 := ⟨_, rfl⟩
      rw [← hx] at c0
      have d0 : wr.cell? ⟨gi, off + k, none⟩ = some (.int .i64 r) := (HBW.out.cell (p := ⟨gi, _, none⟩) hg).trans c0
      clear c0 hx hgo
      obtain ⟨x, hxv⟩ : ∃ x, x = valP wdR r := ⟨_, rfl⟩
      obtain ⟨y, hyv⟩ : ∃ y, y = valP scR r := ⟨_, rfl⟩
      obtain ⟨z, hzv⟩ : ∃ z, z = valP piR r := ⟨_, rfl⟩
      obtain ⟨q0, hqv⟩ : ∃ q0, q0 = valP clR r := ⟨_, rfl⟩
      obtain ⟨HX1, HX2⟩ : Hid (valP wdR r = x) ∧ Hid (valP (tabR 1) r = x) := ⟨hxv.symm, hxv.symm⟩
      obtain ⟨HS1, HS2⟩ : Hid (valP scR r = y) ∧ Hid (valP (tabR 2) r = y) := ⟨hyv.symm, hyv.symm⟩
      obtain ⟨HP1, HP2⟩ : Hid (valP piR r = z) ∧ Hid (valP (tabR 3) r = z) := ⟨hzv.symm, hzv.symm⟩
      have HQ : Hid (valP (tabR 0) r = q0) := hqv.symm
      have HCL : Hid (clV r = if 44032 ≤ r ∧ r ≤ 55203 then (if (r - 44032) % 28 = 0 then 12 else 13) else q0) := by show _ = _; rw [hqv]; rfl
      clear hxv hyv hzv hqv
      go_wp2_with fail
      refine (rvalue_any 0 (by omega) r wr).mono ?_
      rintro e w2 ⟨rfl, hB2⟩
      have HB2 : Hid (Below wr.heap.size wr w2) := hB2
      have HD2 : Hid (Ship w2 g) := HDR.out.below hB2
      rw [HQ.out]
      clear hB2
      by_cases n1 : r < 44032
      · have HCV : Hid (clV r = q0) := by show _ = _; rw [HCL.out, if_neg (by omega)]
        clear HCL
        go_wp2_with fail
        refine (ship_cluster w2 g r HD2.out).mono ?_
        rintro e w3 ⟨rfl, hB3⟩
        obtain ⟨HD3, HB3⟩ : Hid (Ship w3 g) ∧ Hid (Below wr.heap.size wr w3) := ⟨HD2.out.below hB3, HB2.out.trans (hB3.mono HB2.out.size)⟩
        clear hB3
        rw [HCV.out]
        go_wp2_with fail
        refine (ship_word w3 g r HD3.out).mono ?_
        rintro e w4 ⟨rfl, hB4⟩
        obtain ⟨HD4, HB4⟩ : Hid (Ship w4 g) ∧ Hid (Below wr.heap.size wr w4) := ⟨HD3.out.below hB4, HB3.out.trans (hB4.mono HB3.out.size)⟩
        clear hB4
        rw [HX1.out]
        go_wp2_with fail
        refine (rvalue_any 1 (by omega) r w4).mono ?_
        rintro e w5 ⟨rfl, hB5⟩
        obtain ⟨HD5, HB5⟩ : Hid (Ship w5 g) ∧ Hid (Below wr.heap.size wr w5) := ⟨HD4.out.below hB5, HB4.out.trans (hB5.mono HB4.out.size)⟩
        clear hB5
        rw [HX2.out]
        go_wp2_with fail
        refine (ship_script w5 g r HD5.out).mono ?_
        rintro e w6 ⟨rfl, hB6⟩
        obtain ⟨HD6, HB6⟩ : Hid (Ship w6 g) ∧ Hid (Below wr.heap.size wr w6) := ⟨HD5.out.below hB6, HB5.out.trans (hB6.mono HB5.out.size)⟩
        clear hB6
        rw [HS1.out]
        go_wp2_with fail
        refine (rvalue_any 2 (by omega) r w6).mono ?_
        rintro e w7 ⟨rfl, hB7⟩
        obtain ⟨HD7, HB7⟩ : Hid (Ship w7 g) ∧ Hid (Below wr.heap.size wr w7) := ⟨HD6.out.below hB7, HB6.out.trans (hB7.mono HB6.out.size)⟩
        clear hB7
        rw [HS2.out]
        go_wp2_with fail
        refine (ship_picto w7 g r HD7.out).mono ?_
        rintro e w8 ⟨rfl, hB8⟩
        obtain ⟨HD8, HB8⟩ : Hid (Ship w8 g) ∧ Hid (Below wr.heap.size wr w8) := ⟨HD7.out.below hB8, HB7.out.trans (hB8.mono HB7.out.size)⟩
        clear hB8
        rw [HP1.out]
        go_wp2_with fail
        refine (rvalue_any 3 (by omega) r w8).mono ?_
        rintro e w9 ⟨rfl, hB9⟩
        obtain ⟨HD9, HB9⟩ : Hid (Ship w9 g) ∧ Hid (Below wr.heap.size wr w9) := ⟨HD8.out.below hB9, HB8.out.trans (hB9.mono HB8.out.size)⟩
        clear hB9
        rw [HP2.out]
        go_wp2_with fail
        go_roundw
        case rel => exact ⟨k + 1, by omega, by omega, by go_num, HBR.out.trans (HB9.out.mono hbr)⟩
        case measure => simp [intOf]; omega
      by_cases n2 : 55203 < r
      · have HCV : Hid (clV r = q0) := by show _ = _; rw [HCL.out, if_neg (by omega)]
        clear HCL
        go_wp2_with fail
        refine (ship_cluster w2 g r HD2.out).mono ?_
        rintro e w3 ⟨rfl, hB3⟩
        obtain ⟨HD3, HB3⟩ : Hid (Ship w3 g) ∧ Hid (Below wr.heap.size wr w3) := ⟨HD2.out.below hB3, HB2.out.trans (hB3.mono HB2.out.size)⟩
        clear hB3
        rw [HCV.out]
        go_wp2_with fail
        refine (ship_word w3 g r HD3.out).mono ?_
        rintro e w4 ⟨rfl, hB4⟩
        obtain ⟨HD4, HB4⟩ : Hid (Ship w4 g) ∧ Hid (Below wr.heap.size wr w4) := ⟨HD3.out.below hB4, HB3.out.trans (hB4.mono HB3.out.size)⟩
        clear hB4
        rw [HX1.out]
        go_wp2_with fail
        refine (rvalue_any 1 (by omega) r w4).mono ?_
        rintro e w5 ⟨rfl, hB5⟩
        obtain ⟨HD5, HB5⟩ : Hid (Ship w5 g) ∧ Hid (Below wr.heap.size wr w5) := ⟨HD4.out.below hB5, HB4.out.trans (hB5.mono HB4.out.size)⟩
        clear hB5
        rw [HX2.out]
        go_wp2_with fail
        refine (ship_script w5 g r HD5.out).mono ?_
        rintro e w6 ⟨rfl, hB6⟩
        obtain ⟨HD6, HB6⟩ : Hid (Ship w6 g) ∧ Hid (Below wr.heap.size wr w6) := ⟨HD5.out.below hB6, HB5.out.trans (hB6.mono HB5.out.size)⟩
        clear hB6
        rw [HS1.out]
        go_wp2_with fail
        refine (rvalue_any 2 (by omega) r w6).mono ?_
        rintro e w7 ⟨rfl, hB7⟩
        obtain ⟨HD7, HB7⟩ : Hid (Ship w7 g) ∧ Hid (Below wr.heap.size wr w7) := ⟨HD6.out.below hB7, HB6.out.trans (hB7.mono HB6.out.size)⟩
        clear hB7
        rw [HS2.out]
        go_wp2_with fail
        refine (ship_picto w7 g r HD7.out).mono ?_
        rintro e w8 ⟨rfl, hB8⟩
        obtain ⟨HD8, HB8⟩ : Hid (Ship w8 g) ∧ Hid (Below wr.heap.size wr w8) := ⟨HD7.out.below hB8, HB7.out.trans (hB8.mono HB7.out.size)⟩
        clear hB8
        rw [HP1.out]
        go_wp2_with fail
        refine (rvalue_any 3 (by omega) r w8).mono ?_
        rintro e w9 ⟨rfl, hB9⟩
        obtain ⟨HD9, HB9⟩ : Hid (Ship w9 g) ∧ Hid (Below wr.heap.size wr w9) := ⟨HD8.out.below hB9, HB8.out.trans (hB9.mono HB8.out.size)⟩
        clear hB9
        rw [HP2.out]
        go_wp2_with fail
        go_roundw
        case rel => exact ⟨k + 1, by omega, by omega, by go_num, HBR.out.trans (HB9.out.mono hbr)⟩
        case measure => simp [intOf]; omega
      obtain ⟨m, rfl⟩ : ∃ m : Nat, r = (m : Int) := ⟨r.toNat, by omega⟩
      have hw1 : IntKind.i64.wrap ((m : Int) - 44032) = (m : Int) - 44032 := IntWalk.i64_in _ (by omega)
      obtain ⟨j, hj⟩ : ∃ j : Nat, (j : Int) = (m : Int) - 44032 := ⟨m - 44032, by omega⟩
      have hm : ((m : Int) - 44032).tmod 28 = ((j % 28 : Nat) : Int) := by rw [← hj, Int.tmod_eq_emod_of_nonneg (by omega)]; omega
      have hw2 : IntKind.i64.wrap ((j % 28 : Nat) : Int) = ((j % 28 : Nat) : Int) := IntWalk.i64_in _ (by omega)
      by_cases n3 : j % 28 = 0
      · have HCV : Hid (clV (m : Int) = 12) := by show _ = _; rw [HCL.out, if_pos (by omega), if_pos (by omega)]
        rw [n3] at hm hw2
        clear hj n3 HCL
        go_wp2_with fail
        refine (ship_cluster w2 g (m : Int) HD2.out).mono ?_
        rintro e w3 ⟨rfl, hB3⟩
        obtain ⟨HD3, HB3⟩ : Hid (Ship w3 g) ∧ Hid (Below wr.heap.size wr w3) := ⟨HD2.out.below hB3, HB2.out.trans (hB3.mono HB2.out.size)⟩
        clear hB3
        rw [HCV.out]
        go_wp2_with fail
        refine (ship_word w3 g (m : Int) HD3.out).mono ?_
        rintro e w4 ⟨rfl, hB4⟩
        obtain ⟨HD4, HB4⟩ : Hid (Ship w4 g) ∧ Hid (Below wr.heap.size wr w4) := ⟨HD3.out.below hB4, HB3.out.trans (hB4.mono HB3.out.size)⟩
        clear hB4
        rw [HX1.out]
        go_wp2_with fail
        refine (rvalue_any 1 (by omega) (m : Int) w4).mono ?_
        rintro e w5 ⟨rfl, hB5⟩
        obtain ⟨HD5, HB5⟩ : Hid (Ship w5 g) ∧ Hid (Below wr.heap.size wr w5) := ⟨HD4.out.below hB5, HB4.out.trans (hB5.mono HB4.out.size)⟩
        clear hB5
        rw [HX2.out]
        go_wp2_with fail
        refine (ship_script w5 g (m : Int) HD5.out).mono ?_
        rintro e w6 ⟨rfl, hB6⟩
        obtain ⟨HD6, HB6⟩ : Hid (Ship w6 g) ∧ Hid (Below wr.heap.size wr w6) := ⟨HD5.out.below hB6, HB5.out.trans (hB6.mono HB5.out.size)⟩
        clear hB6
        rw [HS1.out]
        go_wp2_with fail
        refine (rvalue_any 2 (by omega) (m : Int) w6).mono ?_
        rintro e w7 ⟨rfl, hB7⟩
        obtain ⟨HD7, HB7⟩ : Hid (Ship w7 g) ∧ Hid (Below wr.heap.size wr w7) := ⟨HD6.out.below hB7, HB6.out.trans (hB7.mono HB6.out.size)⟩
        clear hB7
        rw [HS2.out]
        go_wp2_with fail
        refine (ship_picto w7 g (m : Int) HD7.out).mono ?_
        rintro e w8 ⟨rfl, hB8⟩
        obtain ⟨HD8, HB8⟩ : Hid (Ship w8 g) ∧ Hid (Below wr.heap.size wr w8) := ⟨HD7.out.below hB8, HB7.out.trans (hB8.mono HB7.out.size)⟩
        clear hB8
        rw [HP1.out]
        go_wp2_with fail
        refine (rvalue_any 3 (by omega) (m : Int) w8).mono ?_
        rintro e w9 ⟨rfl, hB9⟩
        obtain ⟨HD9, HB9⟩ : Hid (Ship w9 g) ∧ Hid (Below wr.heap.size wr w9) := ⟨HD8.out.below hB9, HB8.out.trans (hB9.mono HB8.out.size)⟩
        clear hB9
        rw [HP2.out]
        go_wp2_with fail
        go_roundw
        case rel => exact ⟨k + 1, by omega, by omega, by go_num, HBR.out.trans (HB9.out.mono hbr)⟩
        case measure => simp [intOf]; omega
      · have HCV : Hid (clV (m : Int) = 13) := by show _ = _; rw [HCL.out, if_pos (by omega), if_neg (by omega)]
        obtain ⟨q, hq⟩ : ∃ q : Nat, q = j % 28 := ⟨_, rfl⟩
        rw [← hq] at hm hw2
        have hz : ((q : Int) == 0) = false := by simp; omega
        clear hj n3 hq HCL
        go_wp2_with fail
        refine (ship_cluster w2 g (m : Int) HD2.out).mono ?_
        rintro e w3 ⟨rfl, hB3⟩
        obtain ⟨HD3, HB3⟩ : Hid (Ship w3 g) ∧ Hid (Below wr.heap.size wr w3) := ⟨HD2.out.below hB3, HB2.out.trans (hB3.mono HB2.out.size)⟩
        clear hB3
        rw [HCV.out]
        go_wp2_with fail
        refine (ship_word w3 g (m : Int) HD3.out).mono ?_
        rintro e w4 ⟨rfl, hB4⟩
        obtain ⟨HD4, HB4⟩ : Hid (Ship w4 g) ∧ Hid (Below wr.heap.size wr w4) := ⟨HD3.out.below hB4, HB3.out.trans (hB4.mono HB3.out.size)⟩
        clear hB4
        rw [HX1.out]
        go_wp2_with fail
        refine (rvalue_any 1 (by omega) (m : Int) w4).mono ?_
        rintro e w5 ⟨rfl, hB5⟩
        obtain ⟨HD5, HB5⟩ : Hid (Ship w5 g) ∧ Hid (Below wr.heap.size wr w5) := ⟨HD4.out.below hB5, HB4.out.trans (hB5.mono HB4.out.size)⟩
        clear hB5
        rw [HX2.out]
        go_wp2_with fail
        refine (ship_script w5 g (m : Int) HD5.out).mono ?_
        rintro e w6 ⟨rfl, hB6⟩
        obtain ⟨HD6, HB6⟩ : Hid (Ship w6 g) ∧ Hid (Below wr.heap.size wr w6) := ⟨HD5.out.below hB6, HB5.out.trans (hB6.mono HB5.out.size)⟩
        clear hB6
        rw [HS1.out]
        go_wp2_with fail
        refine (rvalue_any 2 (by omega) (m : Int) w6).mono ?_
        rintro e w7 ⟨rfl, hB7⟩
        obtain ⟨HD7, HB7⟩ : Hid (Ship w7 g) ∧ Hid (Below wr.heap.size wr w7) := ⟨HD6.out.below hB7, HB6.out.trans (hB7.mono HB6.out.size)⟩
        clear hB7
        rw [HS2.out]
        go_wp2_with fail
        refine (ship_picto w7 g (m : Int) HD7.out).mono ?_
        rintro e w8 ⟨rfl, hB8⟩
        obtain ⟨HD8, HB8⟩ : Hid (Ship w8 g) ∧ Hid (Below wr.heap.size wr w8) := ⟨HD7.out.below hB8, HB7.out.trans (hB8.mono HB7.out.size)⟩
        clear hB8
        rw [HP1.out]
        go_wp2_with fail
        refine (rvalue_any 3 (by omega) (m : Int) w8).mono ?_
        rintro e w9 ⟨rfl, hB9⟩
        obtain ⟨HD9, HB9⟩ : Hid (Ship w9 g) ∧ Hid (Below wr.heap.size wr w9) := ⟨HD8.out.below hB9, HB8.out.trans (hB9.mono HB8.out.size)⟩
        clear hB9
        rw [HP2.out]
        go_wp2_with fail
        go_roundw
        case rel => exact ⟨k + 1, by omega, by omega, by go_num, HBR.out.trans (HB9.out.mono hbr)⟩
        case measure => simp [intOf]; omega
    · have hex : ¬ ((k : Int) < (rs.length : Int)) ∨ ((k : Int) < (rs.length : Int)) ∧ ¬ ((k : Int) < 200) := by omega
      clear hgo
      rcases hex with n1 | ⟨n1, n2⟩
      · go_wp2
        go_ret
        exact ⟨rfl, HBW.out⟩
      · go_wp2
        go_ret
        exact ⟨rfl, HBW.out⟩
end Go.Proofs.YtpknmpgbaccffaaDoor

namespace Go.Proofs.YtpknmpgbaccffaaDoor
open Go.ChangeShapes Go.WideShapes Go.ChangeAt Go.RowKit Go.Deep
set_option linter.unusedVariables false

theorem open_intsS {H : Type} {enc : TypeId × Value → H} {W : World} {a : Option Addr} {len cap : Nat} {d : DataW H} {p : List MemPlace}
    (h : DataW.Trod enc Tryd.prog W 0 (fun _ => true) true 22 (.slice a len cap) d p) : ∃ l : List Int, l.length = len ∧ IntsAt W.heap.size W (.slice a len cap) l := by
  obtain ⟨fuel, hf⟩ := h
  rcases open_ints Tryd.underlying22 Tryd.underlying3 (by kernel_rfl) hf with ⟨hcs, _⟩ | ⟨x, l, c, zs, hcs, _, hl, hmx, hz, _, hcell, hwz⟩
  · simp [Value.cells] at hcs
    obtain ⟨rfl, rfl, rfl⟩ := hcs
    exact ⟨[], rfl, none, 0, rfl, Nat.le_refl _, (fun i hi => by cases hi)⟩
  · simp [Value.cells] at hcs
    obtain ⟨rfl, rfl, rfl⟩ := hcs
    have hzl : zs.length = cap := by simpa using hz
    have hlen : (zs.take len).length = len := by rw [List.length_take]; omega
    refine ⟨zs.take len, hlen, some x, cap, by rw [hlen], by rw [hlen]; exact hl, fun i hi => ?_⟩
    rw [hlen] at hi
    have hci := hcell i (by omega)
    obtain ⟨b, off, spot⟩ := x
    obtain rfl : spot = none := by
      have hc0 := hcell 0 (by omega)
      simpa [Addr.add] using World.cell?_spot hc0
    rw [addr_add] at hci
    refine ⟨b, off, rfl, cell_some_lt hci, ?_⟩
    rw [hci]
    have hiz : i < zs.length := by omega
    simp [hiz]
end Go.Proofs.YtpknmpgbaccffaaDoor
