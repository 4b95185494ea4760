/-
  ucd.Save: the bytes of data.
-/
import Derived.Test.YtpknmpgbaccffaaDoorSaveU
namespace Go.Proofs.YtpknmpgbaccffaaDoor
open Go.RowKit
set_option linter.unusedVariables false

set_option maxRecDepth 100000 in
set_option maxHeartbeats 8000000 in
theorem dsave_any (TL : Nat → List Int) (TF : Nat → List (List Int)) (g : Nat) (w : World) (hd : DataAt w g TL TF) (hf : ∀ i, i < 4 → Fine (TL i) (TF i)) :
    Calls Tryd.prog 16 #[.pointer (some ⟨g, 0, none⟩)] w fun e w' => ∃ v, e = .returned v ∧ w'.ownsRow w.heap.size 5 1 v (dataTo TL TF 4).length (i8 (dataTo TL TF 4)) ∧ Below w.heap.size w w' := by
  obtain ⟨iU, hiU, hzU0, hzU1, hzU2⟩ := info_parts Tryd.infoByte
  have HD : Hid (DataAt w g TL TF) := hd
  have HF : Hid (∀ i, i < 4 → Fine (TL i) (TF i)) := hf
  clear hd hf
  go_enter Tryd.func16, Tryd.ntmps16
  go_wp2_with fail
  go_loopw [3, 6] (fun y x wr => ∃ k : Nat, k ≤ 4 ∧ x = .int .i64 k ∧ wr.ownsRow w.heap.size 5 1 y (dataTo TL TF k).length (i8 (dataTo TL TF k)) ∧ Below w.heap.size w wr) (fun _ x _ => 4 - (intOf x).toNat)
  case atStart => exact ⟨0, Nat.zero_le _, rfl, World.ownsRow_nil _ _ _ _, Below.refl _ _⟩
  case round =>
    obtain ⟨k, hk, rfl, ho, hB⟩ := hrel
    have hsi := hB.size
    obtain ⟨HO, HB⟩ : Hid (wr.ownsRow w.heap.size 5 1 u3 (dataTo TL TF k).length (i8 (dataTo TL TF k))) ∧ Hid (Below w.heap.size w wr) := ⟨ho, hB⟩
    clear ho hB
    by_cases hlt : k < 4
    · have hlt' : (k : Int) < 4 := by omega
      obtain ⟨p, hg, ht⟩ := HD.out.below HB.out
      have hT := ht k hlt
      obtain ⟨gt, hgt⟩ := hT.ptr
      have HT : Hid (TrieAt wr.heap.size wr (.pointer (some ⟨gt, 0, none⟩)) (TL k) (TF k)) := by rw [← hgt]; exact hT
      have hc : wr.cell? ⟨g, k, none⟩ = some (.pointer (some ⟨gt, 0, none⟩)) := by
        have : k = 0 ∨ k = 1 ∨ k = 2 ∨ k = 3 := by omega
        rcases this with rfl | rfl | rfl | rfl <;> exact (cell_row hg rfl).trans (by rw [hgt])
      have HFK : Hid (Fine (TL k) (TF k)) := HF.out k hlt
      have HLE : Hid ((dataTo TL TF k).length ≤ 70000 * k) := dataTo_le HF.out k hk
      have HRL : Hid ((rawSave (TL k) (TF k)).length = 4353 + 256 * (TF k).length) := raw_lengthU HFK.out
      have HST : Hid (dataTo TL TF (k + 1) = dataTo TL TF k ++ (le4 (4353 + 256 * (TF k).length) ++ rawSave (TL k) (TF k))) := rfl
      have HFL : Hid ((TF k).length ≤ 256) := HFK.out.le
      obtain ⟨n, hn⟩ : ∃ n, n = 4353 + 256 * (TF k).length := ⟨_, rfl⟩
      obtain ⟨raw, hraw⟩ : ∃ raw, raw = rawSave (TL k) (TF k) := ⟨_, rfl⟩
      obtain ⟨A, hA⟩ : ∃ A, A = dataTo TL TF k := ⟨_, rfl⟩
      have HSV : Hid (Calls Tryd.prog 29 #[.pointer (some ⟨gt, 0, none⟩)] wr fun e w' => ∃ v, e = .returned v ∧ w'.ownsRow wr.heap.size 5 1 v n (i8 raw) ∧ Below wr.heap.size wr w') := by rw [hn, hraw]; exact save_any _ _ _ wr HT.out HFK.out
      rw [← hn, ← hraw, ← hA] at HST
      rw [← hn, ← hraw] at HRL
      rw [← hA] at HLE HO
      have HN : Hid (n ≤ 69889) := by show _ ≤ _; have := HFL.out; omega
      have HN1 : Hid (4353 ≤ n) := by show _ ≤ _; omega
      clear hg ht hT hgt hn hraw hA
      go_wp2_with fail
      refine HSV.out.mono ?_
      rintro e w2 ⟨v2, rfl, ho2, hB2⟩
      obtain ⟨a2, c2, rfl⟩ := slice_of_row ho2
      have hs2 := hB2.size
      obtain ⟨HO2, HB2⟩ : Hid (w2.ownsRow wr.heap.size 5 1 (.slice a2 n c2) n (i8 raw)) ∧ Hid (Below wr.heap.size wr w2) := ⟨ho2, hB2⟩
      have HA2 : Hid (w2.ownsRow w.heap.size 5 1 u3 A.length (i8 A)) := ownsRow_below HO.out hB2
      clear ho2 hB2
      go_wp2_with fail
      refine (appendCount_any w.heap.size n A u3 w2 HA2.out (by omega) (by have := HN.out; omega) (by have := HLE.out; omega)).mono ?_
      rintro e w3 ⟨v3, rfl, ho3, hB3, hg3⟩
      have hs3 := hg3.size
      have HP3 : Hid (w3.ownsRow wr.heap.size 5 1 (.slice a2 n c2) n (i8 raw)) := HO2.out.kept hg3 (by
        cases hv2 : (Value.slice a2 n c2).ownBlock with
        | none => exact .inl rfl
        | some x =>
          right
          intro e
          have h1 := (HO.out.lt x e.symm).2
          have h2 := (HO2.out.lt x hv2).1
          omega)
      obtain ⟨HO3, HB3⟩ : Hid (w3.ownsRow w.heap.size 5 1 v3 (A.length + 4) (i8 (A ++ le4 n))) ∧ Hid (Below w.heap.size w w3) := ⟨ho3, (HB.out.trans (HB2.out.mono hsi)).trans hB3⟩
      obtain ⟨gp, rfl⟩ : ∃ gp, a2 = some ⟨gp, 0, none⟩ := by
        rcases HP3.out.2 with ⟨_, h0⟩ | ⟨g', cap', cur, e, _⟩
        · have := HN1.out
          omega
        · exact ⟨g', by simpa using (by simpa using e : _ ∧ _).1⟩
      have HSRC : Hid (∀ j u, (i8 raw)[j]? = some u → w3.cell? ((⟨gp, 0, none⟩ : Addr).add j) = some u) := HP3.out.cells (g := gp) rfl
      have HSZ3 : Hid (w.heap.size ≤ w3.heap.size) := HB3.out.size
      have HRN : Hid (raw.length = n) := by show _ = _; have h2 := HP3.out.1; rw [i8_length] at h2; omega
      clear ho3 hB3 hg3
      go_wp2_with (first | (at_builtin; go_must (refine wpList_append_own _ rfl _ _ 30 rfl w.heap.size 5 iU (.int .u8 0) 1 1 Tryd.undBy hiU hzU0 hzU1 hzU2 rfl (by decide) _ _ _ rfl HO3.out ⟨gp, 0, none⟩ n c2 (i8 raw) rfl (by rw [i8_length, HRN.out, Nat.mul_one]) HSRC.out (i8_one raw) (by unfold maxLen; have := HN.out; have := HLE.out; omega) (by have := HN.out; have := HLE.out; omega) HSZ3.out ?_; intro v4 w4 ho4 hg4 _; have HO4 : Hid (w4.ownsRow w.heap.size 5 1 v4 (dataTo TL TF (k + 1)).length (i8 (dataTo TL TF (k + 1)))) := (by have e : (dataTo TL TF (k + 1)).length = A.length + 4 + n := (by rw [HST.out, List.length_append, List.length_append, le4_length, HRN.out]; omega); rw [e, HST.out, ← List.append_assoc, i8_append]; exact ho4); have HB4 : Hid (Below w.heap.size w w4) := HB3.out.grown hg4 HSZ3.out (fun j e => (HO3.out.lt j e).1); clear ho4 hg4)) | fail)
      go_roundw
      case rel => exact ⟨k + 1, by omega, by go_num, HO4.out, HB4.out⟩
      case measure => simp [intOf]; omega
    · obtain rfl : k = 4 := by omega
      go_wp2
      go_ret
      exact ⟨_, rfl, HO.out, HB.out⟩
end Go.Proofs.YtpknmpgbaccffaaDoor
