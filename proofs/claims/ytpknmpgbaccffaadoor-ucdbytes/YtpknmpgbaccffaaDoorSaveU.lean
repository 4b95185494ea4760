/-
  ucd.appendCount, Save: the bytes of data.
-/
import Derived.Test.YtpknmpgbaccffaaDoorAsk
import Derived.Test.YtpknmpgbaccffaaDoorStr
namespace Go.Proofs.YtpknmpgbaccffaaDoor
open Go.RowKit
set_option linter.unusedVariables false

/-- A count as four bytes, the lowest first. -/
def le4 (n : Nat) : List Int := [(n : Int) % 256, (n : Int) / 256 % 256, (n : Int) / 65536 % 256, (n : Int) / 16777216 % 256]
theorem le4_length (n : Nat) : (le4 n).length = 4 := rfl

theorem grown_step {w wr w2 : World} {ob : Option Nat} {u v2 : Value} {o : Obj} (h1 : w.grownBy wr ob) (hob : u.ownBlock = ob ∨ ∀ k, u.ownBlock = some k → w.heap.size ≤ k) (h2 : (wr.alloc o).grownBy w2 u.ownBlock) (hat : v2.ownBlock = u.ownBlock ∨ v2.ownBlock = some (wr.alloc o).heap.size) : w.grownBy w2 ob ∧ (v2.ownBlock = ob ∨ ∀ k, v2.ownBlock = some k → w.heap.size ≤ k) := by
  have hs1 := h1.size
  have hs2 := h2.size
  have hs3 : (wr.alloc o).heap.size = wr.heap.size + 1 := by simp
  refine ⟨⟨h2.os.trans h1.os, h2.tape.trans h1.tape, h2.output.trans h1.output, by omega, fun k hk hne => ?_⟩, ?_⟩
  · rw [h2.block k (by omega) (fun e => ?_), heap_alloc_old wr o (by omega)]
    · exact h1.block k hk hne
    · rcases hob with q | q
      · exact hne (e.trans q)
      · have := q k e.symm; omega
  · rcases hat with q | q
    · rcases hob with z | z
      · exact .inl (q.trans z)
      · exact .inr (fun k hk => z k (q.symm.trans hk))
    · refine .inr (fun k hk => ?_)
      rw [q] at hk
      have : (wr.alloc o).heap.size = k := by simpa using hk
      omega

set_option maxRecDepth 100000 in
set_option maxHeartbeats 8000000 in
theorem appendCount_any (base n : Nat) (l : List Int) (v : Value) (w : World) (ho : w.ownsRow base 5 1 v l.length (i8 l)) (hb : base ≤ w.heap.size) (hn : n < 4294967296) (hl : l.length ≤ 1000000) :
    Calls Tryd.prog 30 #[v, .int .i64 (n : Int)] w fun e w' => ∃ v', e = .returned v' ∧ w'.ownsRow base 5 1 v' (l.length + 4) (i8 (l ++ le4 n)) ∧ Below base w w' ∧ w.grownBy w' v.ownBlock := by
  obtain ⟨iU, hiU, hzU0, hzU1, hzU2⟩ := info_parts Tryd.infoByte
  obtain ⟨a, cap, rfl⟩ := slice_of_row ho
  have HO0 : Hid (w.ownsRow base 5 1 (.slice a l.length cap) l.length (i8 l)) := ho
  have HBS : Hid (base ≤ w.heap.size) := hb
  have HNL : Hid (n < 4294967296 ∧ l.length ≤ 1000000) := ⟨hn, hl⟩
  clear ho hb hn hl
  go_enter Tryd.func30, Tryd.ntmps30
  go_wp2_with fail
  go_loopw [0, 6] (fun y x wr => ∃ k : Nat, k ≤ 4 ∧ x = .int .i64 k ∧ wr.ownsRow base 5 1 y (l.length + k) (i8 (l ++ (le4 n).take k)) ∧ Below base w wr ∧ base ≤ wr.heap.size ∧ w.grownBy wr (Value.slice a l.length cap).ownBlock ∧ (y.ownBlock = (Value.slice a l.length cap).ownBlock ∨ ∀ j, y.ownBlock = some j → w.heap.size ≤ j)) (fun _ x _ => 4 - (intOf x).toNat)
  case atStart => exact ⟨0, Nat.zero_le _, rfl, by simpa using HO0.out, Below.refl _ _, HBS.out, ⟨rfl, rfl, rfl, Nat.le_refl _, fun _ _ _ => rfl⟩, .inl rfl⟩
  case round =>
    obtain ⟨k, hk, rfl, ho, hB, hsz, hgr, hob⟩ := hrel
    have hk5 : k = 0 ∨ k = 1 ∨ k = 2 ∨ k = 3 ∨ k = 4 := by omega
    obtain ⟨HO, HB, HSZ⟩ : Hid (wr.ownsRow base 5 1 u0 (l.length + k) (i8 (l ++ (le4 n).take k))) ∧ Hid (Below base w wr) ∧ Hid (base ≤ wr.heap.size) := ⟨ho, hB, hsz⟩
    obtain ⟨HGR, HOB⟩ : Hid (w.grownBy wr (Value.slice a l.length cap).ownBlock) ∧ Hid (u0.ownBlock = (Value.slice a l.length cap).ownBlock ∨ ∀ j, u0.ownBlock = some j → w.heap.size ≤ j) := ⟨hgr, hob⟩
    clear ho hB hsz hgr hob
    rcases hk5 with rfl | rfl | rfl | rfl | rfl
    · have HOA : Hid ((wr.alloc (.cells #[.int .u8 ((n : Int) % 256)] 5)).ownsRow base 5 1 u0 (l.length + 0) (i8 (l ++ (le4 n).take 0))) := HO.out.alloc _
      have HNA : Hid ((wr.alloc (.cells #[.int .u8 ((n : Int) % 256)] 5)).heap[wr.heap.size]? = some (.cells #[.int .u8 ((n : Int) % 256)] 5 (0, 0))) := heap_new' wr _
      go_wp2_with (first | (at_builtin; go_must (refine wpList_append_own_at _ rfl _ _ 30 rfl base 5 iU (.int .u8 0) 1 1 Tryd.undBy hiU hzU0 hzU1 hzU2 rfl (by decide) _ _ _ rfl HOA.out ⟨wr.heap.size, 0, none⟩ 1 1 [.int .u8 ((n : Int) % 256)] rfl rfl (World.news_of_block HNA.out) (by simp [Value.oneCell']) (by unfold maxLen; have := HNL.out; omega) (by have := HNL.out; omega) (by simp; have := HSZ.out; omega) ?_; intro v2 w2 ho2 hg2 _ hat; have HGS : Hid (w.grownBy w2 (Value.slice a l.length cap).ownBlock ∧ (v2.ownBlock = (Value.slice a l.length cap).ownBlock ∨ ∀ j, v2.ownBlock = some j → w.heap.size ≤ j)) := grown_step HGR.out HOB.out hg2 hat; have HO2 : Hid (w2.ownsRow base 5 1 v2 (l.length + 1) (i8 (l ++ (le4 n).take 1))) := (by have e : i8 (l ++ (le4 n).take 1) = i8 (l ++ (le4 n).take 0) ++ [.int .u8 ((n : Int) % 256)] := (by simp [i8, le4]); rw [e]; exact ho2); have HG2 : Hid (Below base w w2 ∧ base ≤ w2.heap.size) := ⟨(HB.out.alloc HSZ.out _).grown hg2 (by simp; have := HSZ.out; omega) (fun j e => (HOA.out.lt j e).1), (by have h1 := hg2.size; have h2 := HSZ.out; simp at h1; omega)⟩; clear ho2 hg2 hat)) | fail)
      go_roundw
      case rel => exact ⟨1, by omega, by go_num, HO2.out, HG2.out.1, HG2.out.2, HGS.out.1, HGS.out.2⟩
      case measure => simp [intOf]
    · have HOA : Hid ((wr.alloc (.cells #[.int .u8 ((n : Int) / 256 % 256)] 5)).ownsRow base 5 1 u0 (l.length + 1) (i8 (l ++ (le4 n).take 1))) := HO.out.alloc _
      have HNA : Hid ((wr.alloc (.cells #[.int .u8 ((n : Int) / 256 % 256)] 5)).heap[wr.heap.size]? = some (.cells #[.int .u8 ((n : Int) / 256 % 256)] 5 (0, 0))) := heap_new' wr _
      go_wp2_with (first | (at_builtin; go_must (refine wpList_append_own_at _ rfl _ _ 30 rfl base 5 iU (.int .u8 0) 1 1 Tryd.undBy hiU hzU0 hzU1 hzU2 rfl (by decide) _ _ _ rfl HOA.out ⟨wr.heap.size, 0, none⟩ 1 1 [.int .u8 ((n : Int) / 256 % 256)] rfl rfl (World.news_of_block HNA.out) (by simp [Value.oneCell']) (by unfold maxLen; have := HNL.out; omega) (by have := HNL.out; omega) (by simp; have := HSZ.out; omega) ?_; intro v2 w2 ho2 hg2 _ hat; have HGS : Hid (w.grownBy w2 (Value.slice a l.length cap).ownBlock ∧ (v2.ownBlock = (Value.slice a l.length cap).ownBlock ∨ ∀ j, v2.ownBlock = some j → w.heap.size ≤ j)) := grown_step HGR.out HOB.out hg2 hat; have HO2 : Hid (w2.ownsRow base 5 1 v2 (l.length + 2) (i8 (l ++ (le4 n).take 2))) := (by have e : i8 (l ++ (le4 n).take 2) = i8 (l ++ (le4 n).take 1) ++ [.int .u8 ((n : Int) / 256 % 256)] := (by simp [i8, le4]); rw [e]; exact ho2); have HG2 : Hid (Below base w w2 ∧ base ≤ w2.heap.size) := ⟨(HB.out.alloc HSZ.out _).grown hg2 (by simp; have := HSZ.out; omega) (fun j e => (HOA.out.lt j e).1), (by have h1 := hg2.size; have h2 := HSZ.out; simp at h1; omega)⟩; clear ho2 hg2 hat)) | fail)
      go_roundw
      case rel => exact ⟨2, by omega, by go_num, HO2.out, HG2.out.1, HG2.out.2, HGS.out.1, HGS.out.2⟩
      case measure => simp [intOf]
    · have HOA : Hid ((wr.alloc (.cells #[.int .u8 ((n : Int) / 65536 % 256)] 5)).ownsRow base 5 1 u0 (l.length + 2) (i8 (l ++ (le4 n).take 2))) := HO.out.alloc _
      have HNA : Hid ((wr.alloc (.cells #[.int .u8 ((n : Int) / 65536 % 256)] 5)).heap[wr.heap.size]? = some (.cells #[.int .u8 ((n : Int) / 65536 % 256)] 5 (0, 0))) := heap_new' wr _
      go_wp2_with (first | (at_builtin; go_must (refine wpList_append_own_at _ rfl _ _ 30 rfl base 5 iU (.int .u8 0) 1 1 Tryd.undBy hiU hzU0 hzU1 hzU2 rfl (by decide) _ _ _ rfl HOA.out ⟨wr.heap.size, 0, none⟩ 1 1 [.int .u8 ((n : Int) / 65536 % 256)] rfl rfl (World.news_of_block HNA.out) (by simp [Value.oneCell']) (by unfold maxLen; have := HNL.out; omega) (by have := HNL.out; omega) (by simp; have := HSZ.out; omega) ?_; intro v2 w2 ho2 hg2 _ hat; have HGS : Hid (w.grownBy w2 (Value.slice a l.length cap).ownBlock ∧ (v2.ownBlock = (Value.slice a l.length cap).ownBlock ∨ ∀ j, v2.ownBlock = some j → w.heap.size ≤ j)) := grown_step HGR.out HOB.out hg2 hat; have HO2 : Hid (w2.ownsRow base 5 1 v2 (l.length + 3) (i8 (l ++ (le4 n).take 3))) := (by have e : i8 (l ++ (le4 n).take 3) = i8 (l ++ (le4 n).take 2) ++ [.int .u8 ((n : Int) / 65536 % 256)] := (by simp [i8, le4]); rw [e]; exact ho2); have HG2 : Hid (Below base w w2 ∧ base ≤ w2.heap.size) := ⟨(HB.out.alloc HSZ.out _).grown hg2 (by simp; have := HSZ.out; omega) (fun j e => (HOA.out.lt j e).1), (by have h1 := hg2.size; have h2 := HSZ.out; simp at h1; omega)⟩; clear ho2 hg2 hat)) | fail)
      go_roundw
      case rel => exact ⟨3, by omega, by go_num, HO2.out, HG2.out.1, HG2.out.2, HGS.out.1, HGS.out.2⟩
      case measure => simp [intOf]
    · have HOA : Hid ((wr.alloc (.cells #[.int .u8 ((n : Int) / 16777216 % 256)] 5)).ownsRow base 5 1 u0 (l.length + 3) (i8 (l ++ (le4 n).take 3))) := HO.out.alloc _
      have HNA : Hid ((wr.alloc (.cells #[.int .u8 ((n : Int) / 16777216 % 256)] 5)).heap[wr.heap.size]? = some (.cells #[.int .u8 ((n : Int) / 16777216 % 256)] 5 (0, 0))) := heap_new' wr _
      go_wp2_with (first | (at_builtin; go_must (refine wpList_append_own_at _ rfl _ _ 30 rfl base 5 iU (.int .u8 0) 1 1 Tryd.undBy hiU hzU0 hzU1 hzU2 rfl (by decide) _ _ _ rfl HOA.out ⟨wr.heap.size, 0, none⟩ 1 1 [.int .u8 ((n : Int) / 16777216 % 256)] rfl rfl (World.news_of_block HNA.out) (by simp [Value.oneCell']) (by unfold maxLen; have := HNL.out; omega) (by have := HNL.out; omega) (by simp; have := HSZ.out; omega) ?_; intro v2 w2 ho2 hg2 _ hat; have HGS : Hid (w.grownBy w2 (Value.slice a l.length cap).ownBlock ∧ (v2.ownBlock = (Value.slice a l.length cap).ownBlock ∨ ∀ j, v2.ownBlock = some j → w.heap.size ≤ j)) := grown_step HGR.out HOB.out hg2 hat; have HO2 : Hid (w2.ownsRow base 5 1 v2 (l.length + 4) (i8 (l ++ (le4 n).take 4))) := (by have e : i8 (l ++ (le4 n).take 4) = i8 (l ++ (le4 n).take 3) ++ [.int .u8 ((n : Int) / 16777216 % 256)] := (by simp [i8, le4]); rw [e]; exact ho2); have HG2 : Hid (Below base w w2 ∧ base ≤ w2.heap.size) := ⟨(HB.out.alloc HSZ.out _).grown hg2 (by simp; have := HSZ.out; omega) (fun j e => (HOA.out.lt j e).1), (by have h1 := hg2.size; have h2 := HSZ.out; simp at h1; omega)⟩; clear ho2 hg2 hat)) | fail)
      go_roundw
      case rel => exact ⟨4, by omega, by go_num, HO2.out, HG2.out.1, HG2.out.2, HGS.out.1, HGS.out.2⟩
      case measure => simp [intOf]
    · go_wp2
      go_ret
      exact ⟨_, rfl, HO.out, HB.out, HGR.out⟩
/-- The bytes of the first k tries, each with its count ahead. -/
def dataTo (TL : Nat → List Int) (TF : Nat → List (List Int)) : Nat → List Int
  | 0 => []
  | k + 1 => dataTo TL TF k ++ (le4 (4353 + 256 * (TF k).length) ++ rawSave (TL k) (TF k))
theorem raw_lengthU {like : List Int} {F : List (List Int)} (hf : Fine like F) : (rawSave like F).length = 4353 + 256 * F.length := by
  rw [← rawTo_end]; exact rawTo_length hf (Nat.le_refl _)
theorem dataTo_le {TL : Nat → List Int} {TF : Nat → List (List Int)} (hf : ∀ i, i < 4 → Fine (TL i) (TF i)) : ∀ k, k ≤ 4 → (dataTo TL TF k).length ≤ 70000 * k
  | 0, _ => by simp [dataTo]
  | k + 1, h => by
    have ih := dataTo_le hf k (by omega)
    have hl := raw_lengthU (hf k (by omega))
    have h2 := (hf k (by omega)).le
    unfold dataTo
    rw [List.length_append, List.length_append, le4_length, hl]
    omega

end Go.Proofs.YtpknmpgbaccffaaDoor
