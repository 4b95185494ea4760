/-
  The law ClusterLocal: true, for all texts and places.
-/
import Derived.Test.YtmhligcmcfikfabDoorApp5
namespace Go.Proofs.YtmhligcmcfikfabDoor
open Go.RowKit
set_option linter.unusedVariables false

set_option maxRecDepth 100000 in
set_option maxHeartbeats 16000000 in
theorem clusterLocal_any (l : List Int) (v : Value) (m : List Int) (vm : Value) (i : Int) (w : World) (hv : IntsAt w.heap.size w v l) (hm : IntsAt w.heap.size w vm m ∧ SrcIs w vm m.length 1 (cellI m)) (hs : Scripts w) (h0 : 0 < w.heap.size) :
    Calls Tryd.prog 3 #[v, vm, .int .i64 i] w fun e w' => e = .returned (.bool true) ∧ Below w.heap.size w w' := by
  obtain ⟨iI, hiI, hzI0, hzI1, hzI2⟩ := info_parts Tryd.infoInt
  have HS : Hid (Scripts w) := hs
  have HH0 : Hid (0 < w.heap.size) := h0
  have HV : Hid (IntsAt w.heap.size w v l) := hv
  have HSM : Hid (SrcIs w vm m.length 1 (cellI m)) := hm.2
  obtain ⟨a, cap, rfl, hcap, hc⟩ := hv
  obtain ⟨am, capm, rfl, hcapm, _⟩ := hm.1
  have HC : Hid (∀ i, (h : i < l.length) → ∃ g off, a = some ⟨g, off, none⟩ ∧ g < w.heap.size ∧ w.cell? ⟨g, off + i, none⟩ = some (.int .i64 l[i])) := hc
  clear hs h0 hc hm
  go_enter Tryd.func3, Tryd.ntmps3
  go_wp2_with fail
  refine (awake_c w HS.out HH0.out).mono ?_
  rintro e w0 ⟨rfl, hB0⟩
  have HB0 : Hid (Below w.heap.size w w0) := hB0
  have HS0 : Hid (Scripts w0 ∧ 0 < w0.heap.size) := ⟨HS.out.below HH0.out hB0, by have := HH0.out; have := hB0.size; omega⟩
  clear hB0
  go_wp2_with fail
  refine (new_ship w0 HS0.out.1 HS0.out.2).mono ?_
  rintro e w1 ⟨g, rfl, hd, hB1⟩
  obtain ⟨HD1, HB1⟩ : Hid (Ship w1 g) ∧ Hid (Below w.heap.size w w1) := ⟨hd, HB0.out.trans (hB1.mono HB0.out.size)⟩
  clear hd hB1 HB0 HS0
  by_cases na : 100 < l.length
  · have na' : (100 : Int) < (l.length : Int) := by omega
    go_wp2
    go_ret
    exact ⟨rfl, HB1.out⟩
  have na' : decide ((100 : Int) < (l.length : Int)) = false := decide_eq_false (by omega)
  have na2 : decide (100 < l.length) = false := decide_eq_false (by omega)
  by_cases nb : 100 < m.length
  · have nb' : (100 : Int) < (m.length : Int) := by omega
    clear na
    go_wp2
    go_ret
    exact ⟨rfl, HB1.out⟩
  have nb' : decide ((100 : Int) < (m.length : Int)) = false := decide_eq_false (by omega)
  have nb2 : decide (100 < m.length) = false := decide_eq_false (by omega)
  by_cases i1 : i < 1
  · clear na nb
    go_wp2
    go_ret
    exact ⟨rfl, HB1.out⟩
  have i1' : decide (i < 1) = false := decide_eq_false i1
  by_cases i2 : (l.length : Int) ≤ i
  · clear na nb i1
    go_wp2
    go_ret
    exact ⟨rfl, HB1.out⟩
  have i2' : decide ((l.length : Int) ≤ i) = false := decide_eq_false i2
  obtain ⟨k, rfl⟩ : ∃ k : Nat, i = (k : Int) := ⟨i.toNat, by omega⟩
  have HN : Hid (l.length ≤ 100 ∧ m.length ≤ 100 ∧ 1 ≤ k ∧ k < l.length) := ⟨by omega, by omega, by omega, by omega⟩
  have i2n : decide (l.length ≤ k) = false := decide_eq_false (by omega)
  have i1n : decide (k < 1) = false := decide_eq_false (by omega)
  obtain ⟨gi, off, rfl, hg, c0⟩ := HC.out 0 (by omega)
  obtain ⟨k1, hk1⟩ : ∃ k1, k1 = k + 1 := ⟨_, rfl⟩
  have HK1 : Hid (k1 = k + 1) := hk1
  have hwk : IntKind.i64.wrap ((k : Int) + 1) = (k1 : Int) := (IntWalk.i64_in _ (by omega)).trans (by omega)
  have hkc : (k1 : Int) ≤ (cap : Int) := by omega
  have hk0 : (0 : Int) ≤ (k1 : Int) := by omega
  clear na nb i1 i2 c0 hg HC hk1
  go_wp2_with fail
  refine (break_any l _ g k w1 HD1.out (HV.out.on HB1.out) (by have := HN.out; omega) (by have := HN.out; omega)).mono ?_
  rintro e w2 ⟨rfl, hB2⟩
  have HD2 : Hid (Ship w2 g) := HD1.out.below hB2
  have HB2 : Hid (Below w.heap.size w w2) := HB1.out.trans (hB2.mono HB1.out.size)
  clear hB2
  obtain ⟨E, hE⟩ : ∃ E, E = brk l k := ⟨_, rfl⟩
  have HE2 : Hid (brk (l ++ m) k = E) := by show _ = _; rw [brk_local (by have := HN.out; omega), hE]
  have HE3 : Hid (brk (l.take k1) k = E) := by show _ = _; rw [brk_take (by have := HK1.out; omega) (by have := HK1.out; have := HN.out; omega), hE]
  rw [← hE]
  clear hE
  have HO0 : Hid ((w2.alloc (.cells #[] 3)).ownsRow w2.heap.size 3 1 (.slice (some ⟨w2.heap.size, 0, none⟩) 0 0) 0 []) := owns_empty w2 _ _ _ (Nat.le_refl _)
  have HBA : Hid (Below w2.heap.size w2 (w2.alloc (.cells #[] 3))) := (Below.refl _ _).alloc (Nat.le_refl _) _
  have HSA : Hid (SrcIs (w2.alloc (.cells #[] 3)) (.slice (some ⟨gi, off, none⟩) l.length cap) l.length 1 (cellI l)) := (src_of_ints (HV.out.on HB2.out) (by have := HN.out; omega)).below HBA.out
  have hSB : SrcIs w2 (.slice am m.length capm) m.length 1 (cellI m) := HSM.out.below HB2.out
  have HSB : Hid (∀ w', Below w2.heap.size w2 w' → SrcIs w' (.slice am m.length capm) m.length 1 (cellI m)) := fun w' hw' => hSB.below hw'
  clear hSB
  go_wp2_with (first | (at_builtin; refine wpList_append_src _ rfl (.tmp 46) (.tmp 47) 22 rfl w2.heap.size 3 iI (.int .i64 0) 1 8 Tryd.underlying22 hiI hzI0 hzI1 hzI2 rfl (by decide) _ _ _ rfl HO0.out _ rfl l.length _ HSA.out (by unfold maxLen; have := HN.out; omega) (by have := HN.out; omega) (by simp) ?_; intro v7 w7 ho7 hg7; have HB7 : Hid (Below w2.heap.size w2 w7) := HBA.out.grown hg7 (by simp) (fun j e => (HO0.out.lt j e).1); have HO7 : Hid (w7.ownsRow w2.heap.size 3 1 v7 (0 + l.length) ([] ++ cellI l)) := ho7; clear ho7 hg7) | (at_builtin; refine wpList_append_src _ rfl (.tmp 48) (.tmp 49) 22 rfl w2.heap.size 3 iI (.int .i64 0) 1 8 Tryd.underlying22 hiI hzI0 hzI1 hzI2 rfl (by decide) _ _ _ rfl HO7.out _ rfl m.length _ (HSB.out _ HB7.out) (by unfold maxLen; have := HN.out; omega) (by have := HN.out; omega) (by have := HB7.out.size; omega) ?_; intro v8 w8 ho8 hg8) | fail)
  have HB8 : Hid (Below w2.heap.size w2 w8) := HB7.out.grown hg8 HB7.out.size (fun j e => (HO7.out.lt j e).1)
  have hI8 : IntsAt w8.heap.size w8 v8 (l ++ m) := by
    refine row_ints (base := w2.heap.size) ?_
    rw [cellI_append, List.length_append]
    have := ho8
    rw [List.nil_append, Nat.zero_add] at this
    exact this
  have HBW8 : Hid (Below w.heap.size w w8) := HB2.out.trans (HB8.out.mono HB2.out.size)
  clear ho8 hg8
  refine (break_any (l ++ m) v8 g k w8 (HD2.out.below HB8.out) hI8 (by rw [List.length_append]; have := HN.out; omega) (by rw [List.length_append]; have := HN.out; omega)).mono ?_
  rintro e w9 ⟨rfl, hB9⟩
  have HBW9 : Hid (Below w.heap.size w w9) := HBW8.out.trans (hB9.mono HBW8.out.size)
  have HD9 : Hid (Ship w9 g) := (HD2.out.below HB8.out).below hB9
  rw [HE2.out]
  clear hB9 hI8
  have HI9 : Hid (IntsAt w9.heap.size w9 (.slice (some ⟨gi, off, none⟩) k1 cap) (l.take k1)) := (HV.out.on HBW9.out).front (by have := HK1.out; have := HN.out; omega)
  go_wp2_with fail
  refine (break_any (l.take k1) _ g k w9 HD9.out HI9.out (by rw [List.length_take]; have := HN.out; omega) (by rw [List.length_take]; have := HK1.out; have := HN.out; omega)).mono ?_
  rintro e w10 ⟨rfl, hB10⟩
  have HB10 : Hid (Below w.heap.size w w10) := HBW9.out.trans (hB10.mono HBW9.out.size)
  rw [HE3.out]
  clear hB10
  have hee : (E == E) = true := by simp
  go_wp2
  go_ret
  exact ⟨rfl, HB10.out⟩
end Go.Proofs.YtmhligcmcfikfabDoor
