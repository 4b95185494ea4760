/-
  trie.Trie.Save: the bytes of a trie.
-/
import Derived.Test.YtpknmpgbaccffaaDoorAwake
namespace Go.Proofs.YtpknmpgbaccffaaDoor
open Go.RowKit
set_option linter.unusedVariables false

/-- The bytes of a trie by its parts. -/
def rawSave (like : List Int) (F : List (List Int)) : List Int := ((F.length : Int) - 1) :: (like ++ F.flatten)
theorem rawB (l : List Pp) : rawSave (likeB l) (firstB l) = saveL (blocksF (valP l)) := rfl
/-- The bytes up to the k-th first block. -/
def rawTo (like : List Int) (F : List (List Int)) (k : Nat) : List Int := ((F.length : Int) - 1) :: (like ++ (F.take k).flatten)
theorem rawTo_step {like : List Int} {F : List (List Int)} {k : Nat} (h : k < F.length) : rawTo like F (k + 1) = rawTo like F k ++ F[k] := by
  unfold rawTo
  rw [List.take_succ_eq_append_getElem h, List.flatten_append]
  simp
theorem rawTo_end (like : List Int) (F : List (List Int)) : rawTo like F F.length = rawSave like F := by
  unfold rawTo rawSave
  rw [List.take_length]
theorem rawTo_length {like : List Int} {F : List (List Int)} {k : Nat} (hf : Fine like F) (h : k ≤ F.length) : (rawTo like F k).length = 4353 + 256 * k := by
  unfold rawTo
  rw [List.length_cons, List.length_append, hf.len, flat_length (fun x hx => (hf.isB x (List.mem_of_mem_take hx)).1), List.length_take]
  have : min k F.length = k := by omega
  rw [this]; omega
theorem Tryd.undBy : Tryd.prog.underlying 30 = some (.slice 5) := by kernel_rfl

set_option maxRecDepth 100000 in
set_option maxHeartbeats 4000000 in
theorem save_any (like : List Int) (F : List (List Int)) (pv : Value) (w : World) (ht : TrieAt w.heap.size w pv like F) (hf : Fine like F) :
    Calls Tryd.prog 29 #[pv] w fun e w' => ∃ v, e = .returned v ∧ w'.ownsRow w.heap.size 5 1 v (4353 + 256 * F.length) (i8 (rawSave like F)) ∧ Below w.heap.size w w' := by
  obtain ⟨iY, hiY, hzY0, hzY1, hzY2⟩ := info_parts Tryd.infoByte
  have hzb := Tryd.zeroBlock
  obtain ⟨zb, hzB⟩ : ∃ zb, zb = (i8 zeroB).toArray := ⟨_, rfl⟩
  rw [← hzB] at hzb
  have HZS : Hid (zb.size = 256) := by show _ = _; rw [hzB, List.size_toArray, i8_length, zeroB_length]
  clear hzB
  obtain ⟨g, gb, cap, rfl, hg, hgb, hgc, hrg, hcap⟩ := ht
  have hfl := hf.le
  have hfp := hf.pos
  have hcf : w.cell? ⟨g, 4352, none⟩ = some (.slice (some ⟨gb, 0, none⟩) F.length cap) := cell_row hgc (trCells_at hf.len)
  have HLK : Hid (∀ w', Below w.heap.size w w' → ∀ j u, (i8 like)[j]? = some u → w'.cell? ((⟨g, 0, none⟩ : Addr).add j) = some u) := fun w' hw' j u hj => by
    rw [Addr.add_mid, Nat.zero_add]
    refine (hw'.cell (p := ⟨g, j, none⟩) hg).trans (cell_row hgc ?_)
    unfold trCells
    rw [List.getElem?_append_left (List.getElem?_eq_some_iff.1 hj).1]
    exact hj
  have HBL : Hid (∀ k, (h : k < F.length) → w.rangeAt gb (k * 256) (i8 F[k])) := fun k h j u hj => by
    have := hrg (k * 256 + j) u (cellsBl_at (isB_even hf.isB) h hj)
    rwa [Nat.zero_add] at this
  have HF : Hid (Fine like F) := hf
  have hn256 : ((F.length : Int) - 1) % 256 = (F.length : Int) - 1 := by omega
  have hn0 : 0 ≤ (F.length : Int) - 1 ∧ (F.length : Int) - 1 < 256 := by omega
  clear hgc hrg hf
  go_enter Tryd.func29, Tryd.ntmps29
  go_wp2_with (first | (at_make; refine wpList_make_own _ rfl _ _ 30 rfl w.heap.size 5 iY (.int .u8 0) 1 Tryd.undBy hiY hzY0 hzY1 _ _ _ (4353 + F.length * 256) rfl rfl (by omega) (by rw [hzY2]; omega) (by unfold maxLen; omega) (Nat.le_refl _) ?_; intro w1 ho1 hg1; have hB1 : Below w.heap.size w w1 := (Below.refl _ _).grown hg1 (Nat.le_refl _) (fun k e => by cases e); have hcf1 : w1.cell? ⟨g, 4352, none⟩ = some (.slice (some ⟨gb, 0, none⟩) F.length cap) := (hB1.cell (p := ⟨g, _, none⟩) hg).trans hcf; have HB1 : Hid (Below w.heap.size w w1) := hB1; have HO1 : Hid (w1.ownsRow w.heap.size 5 1 (.slice (some ⟨w.heap.size, 0, none⟩) 0 (4353 + F.length * 256)) 0 []) := ho1; have HO1a : Hid ((w1.alloc (.cells #[.int .u8 ((F.length : Int) - 1)] 5)).ownsRow w.heap.size 5 1 (.slice (some ⟨w.heap.size, 0, none⟩) 0 (4353 + F.length * 256)) 0 []) := ho1.alloc _; have HN1 : Hid ((w1.alloc (.cells #[.int .u8 ((F.length : Int) - 1)] 5)).heap[w1.heap.size]? = some (.cells #[.int .u8 ((F.length : Int) - 1)] 5 (0, 0))) := heap_new' w1 _; clear hB1 hg1 ho1) | (at_builtin; refine wpList_append_own _ rfl (.tmp 14) (.tmp 22) 30 rfl w.heap.size 5 iY (.int .u8 0) 1 1 Tryd.undBy hiY hzY0 hzY1 hzY2 rfl (by decide) _ _ _ rfl HO1a.out ⟨w1.heap.size, 0, none⟩ 1 1 [.int .u8 ((F.length : Int) - 1)] rfl rfl (World.news_of_block HN1.out) (by simp [Value.oneCell']) (by unfold maxLen; omega) (by omega) (by have := HB1.out.size; simp; omega) ?_; intro v2 w2 ho2 hg2 _; have hB2 : Below w.heap.size w w2 := (HB1.out.alloc HB1.out.size _).grown hg2 (by have := HB1.out.size; simp; omega) (fun k e => (HO1a.out.lt k e).1); have HO2 : Hid (w2.ownsRow w.heap.size 5 1 v2 (0 + 1) ([] ++ [.int .u8 ((F.length : Int) - 1)])) := ho2; have HB2 : Hid (Below w.heap.size w w2) := hB2; have hcf2 : w2.cell? ⟨g, 4352, none⟩ = some (.slice (some ⟨gb, 0, none⟩) F.length cap) := (hB2.cell (p := ⟨g, _, none⟩) hg).trans hcf; clear hB2 hg2 ho2 hcf1) | (at_builtin; refine wpList_append_own _ rfl (.tmp 24) (.tmp 28) 30 rfl w.heap.size 5 iY (.int .u8 0) 1 1 Tryd.undBy hiY hzY0 hzY1 hzY2 rfl (by decide) _ _ _ rfl HO2.out ⟨g, 0, none⟩ 4352 4352 (i8 like) rfl (by rw [i8_length, HF.out.len]) (HLK.out w2 HB2.out) (i8_one like) (by unfold maxLen; omega) (by omega) (by exact HB2.out.size) ?_; intro v3 w3 ho3 hg3 _; have hB3 : Below w.heap.size w w3 := HB2.out.grown hg3 HB2.out.size (fun k e => (HO2.out.lt k e).1); have HO3 : Hid (w3.ownsRow w.heap.size 5 1 v3 4353 (i8 (rawTo like F 0))) := (by have e1 : (0 + 1 + 4352) = 4353 := rfl; rw [e1] at ho3; have e2 : i8 (rawTo like F 0) = ([] ++ [Value.int .u8 ((F.length : Int) - 1)]) ++ i8 like := (by unfold rawTo i8; rw [List.take_zero]; simp); show World.ownsRow _ _ _ _ _ _ _; rw [e2]; exact ho3); have HB3 : Hid (Below w.heap.size w w3) := hB3; have hcf3 : w3.cell? ⟨g, 4352, none⟩ = some (.slice (some ⟨gb, 0, none⟩) F.length cap) := (hB3.cell (p := ⟨g, _, none⟩) hg).trans hcf; clear hB3 hg3 ho3 hcf2) | fail)
  clear hcf
  go_loopw [3, 35] (fun y x wr => ∃ k : Nat, k ≤ F.length ∧ x = .int .i64 k ∧ wr.ownsRow w.heap.size 5 1 y (4353 + 256 * k) (i8 (rawTo like F k)) ∧ Below w.heap.size w wr) (fun _ x _ => F.length - (intOf x).toNat)
  case atStart => exact ⟨0, Nat.zero_le _, rfl, HO3.out, HB3.out⟩
  case round =>
    obtain ⟨k, hk, rfl, hown, hB⟩ := hrel
    have hbs := hB.size
    obtain ⟨HOWN, HB⟩ : Hid (wr.ownsRow w.heap.size 5 1 u3 (4353 + 256 * k) (i8 (rawTo like F k))) ∧ Hid (Below w.heap.size w wr) := ⟨hown, hB⟩
    clear hown hcf3 HO3 HB3 HO2 HB2 HO1 HB1 HO1a HN1
    by_cases hlt : k < F.length
    · have hlt' : (k : Int) < (F.length : Int) := by omega
      obtain ⟨b, hb⟩ : ∃ b, b = F[k] := ⟨_, rfl⟩
      have hbB : IsB b := by rw [hb]; exact HF.out.isB _ (List.getElem_mem hlt)
      have hrb : wr.rangeAt gb (k * 256) (i8 b) := fun j u hj => (hB.cell (p := ⟨gb, k * 256 + j, none⟩) hgb).trans (HBL.out k hlt j u (by rw [← hb]; exact hj))
      have HST : Hid (rawTo like F (k + 1) = rawTo like F k ++ b) := by show _ = _; rw [rawTo_step hlt, hb]
      have HI : Hid ((Tryd.prog.info? 82).map (·.size) = some (i8 b).length) := by show _ = _; rw [i8_length, hbB.1]; exact Tryd.sizeBlock
      have HI2 : Hid ((Tryd.prog.info? 82).map (·.size) = some (i8 b).toArray.size) := by show _ = _; rw [List.size_toArray, i8_length, hbB.1]; exact Tryd.sizeBlock
      have HZ2 : Hid (zb.size = (i8 b).toArray.size) := by show _ = _; rw [HZS.out, List.size_toArray, i8_length, hbB.1]
      have HRB : Hid (wr.rangeAt gb (k * 256) (i8 b)) := hrb
      clear hb hrb hB
      obtain ⟨wa, hwa⟩ : ∃ wa, wa = (wr.alloc (.cells zb 82)).setRow wr.heap.size (i8 b).toArray := ⟨_, rfl⟩
      have hwa2 : wa = wr.alloc (.cells (i8 b).toArray 82) := by rw [hwa, World.setRow_alloc_new]
      have HWA : Hid (wa = (wr.alloc (.cells zb 82)).setRow wr.heap.size (i8 b).toArray) := hwa
      have HOA : Hid (wa.ownsRow w.heap.size 5 1 u3 (4353 + 256 * k) (i8 (rawTo like F k))) := by rw [hwa2]; exact HOWN.out.alloc _
      have HNA : Hid (∀ j u, (i8 b)[j]? = some u → wa.cell? ((⟨wr.heap.size, 0, none⟩ : Addr).add j) = some u) := fun j u hj => by
        rw [Addr.add_mid, Nat.zero_add, hwa2]
        exact cell_row (heap_new' wr _) hj
      have HSA : Hid (w.heap.size ≤ wa.heap.size) := by show _ ≤ _; rw [hwa2]; simp; omega
      have HBA : Hid (Below w.heap.size w wa) := by show Below _ _ _; rw [hwa2]; exact HB.out.alloc hbs _
      clear hwa hwa2
      go_wp2_with (first | (refine wpList_load_mid rfl 82 _ rfl gb (k * 256) rfl (i8 b) _ HRB.out Tryd.undB rfl HI.out ?_) | (refine wpList_store_row rfl 82 _ _ rfl wr.heap.size (i8 b).toArray rfl rfl 82 zb (heap_new' wr _) HI2.out HZ2.out (all_oneCell_toArray (i8_one b)) ?_; rw [← HWA.out]) | (at_builtin; refine wpList_append_own _ rfl (.tmp 39) (.tmp 40) 30 rfl w.heap.size 5 iY (.int .u8 0) 1 1 Tryd.undBy hiY hzY0 hzY1 hzY2 rfl (by decide) _ _ _ rfl HOA.out ⟨wr.heap.size, 0, none⟩ 256 256 (i8 b) rfl (by rw [i8_length, hbB.1]) HNA.out (i8_one b) (by unfold maxLen; omega) (by omega) HSA.out ?_; intro v4 w4 ho4 hg4 _) | fail)
      go_roundw
      case rel =>
        refine ⟨k + 1, by omega, by go_num, ?_, HBA.out.grown hg4 HSA.out (fun j e => (HOA.out.lt j e).1)⟩
        have e1 : 4353 + 256 * (k + 1) = 4353 + 256 * k + 256 := by omega
        rw [HST.out, i8_append, e1]
        exact ho4
      case measure => simp [intOf]; omega
    · have hlt' : ¬ ((k : Int) < (F.length : Int)) := by omega
      obtain rfl : k = F.length := by omega
      have HE : Hid (rawTo like F F.length = rawSave like F) := rawTo_end like F
      go_wp2
      go_ret
      exact ⟨u3, rfl, by rw [← HE.out]; exact HOWN.out, HB.out⟩
end Go.Proofs.YtpknmpgbaccffaaDoor
