/-
  ucd.appendCount, Save: the bytes of data. ucd.cut: a part whose count stands ahead. ucd.Save: the bytes of data. ucd.Load: the data that bytes are.
-/
import Derived.Test.YtpknmpgbaccffaaDoorM7
import Derived.Test.YtpknmpgbaccffaaDoorM5
import Derived.Test.YtpknmpgbaccffaaDoorM6
import Derived.Laws.Bits64b
namespace Go.Proofs.YtpknmpgbaccffaaDoor
open Go.RowKit
set_option linter.unusedVariables false

/-- A count as four bytes, the lowest first. -/
def le4 (n : Nat) : List Int := [(n : Int) % 256, (n : Int) / 256 % 256, (n : Int) / 65536 % 256, (n : Int) / 16777216 % 256]
theorem le4_length (n : Nat) : (le4 n).length = 4 := rfl

theorem grown_step {w wr w2 : World} {ob : Option Nat} {u v2 : Value} {o : Obj} (h1 : w.grownBy wr ob) (hob : u.ownBlock = ob ∨ ∀ k, u.ownBlock = some k → w.heap.size ≤ k) (h2 : (wr.alloc o).grownBy w2 u.ownBlock) (hat : v2.ownBlock = u.ownBlock ∨ v2.ownBlock = some (wr.alloc o).heap.size) : w.grownBy w2 ob ∧ (v2.ownBlock = ob ∨ ∀ k, v2.ownBlock = some k → w.heap.size ≤ k) := by
  have hs1 := h1.size
  have hs2 := h2.size
  have hs3 : (wr.alloc o).heap.size = wr.heap.size + 1 := by simp
  refine ⟨⟨h2.os.trans h1.os, h2.tape.trans h1.tape, h2.output.trans h1.output, by omega, fun k hk hne => ?_⟩, ?_⟩
  · rw [h2.block k (by omega) (fun e => ?_), heap_alloc_old wr o (by omega)]
    · exact h1.block k hk hne
    · rcases hob with q | q
      · exact hne (e.trans q)
      · have := q k e.symm; omega
  · rcases hat with q | q
    · rcases hob with z | z
      · exact .inl (q.trans z)
      · exact .inr (fun k hk => z k (q.symm.trans hk))
    · refine .inr (fun k hk => ?_)
      rw [q] at hk
      have : (wr.alloc o).heap.size = k := by simpa using hk
      omega

set_option maxRecDepth 100000 in
set_option maxHeartbeats 8000000 in
theorem appendCount_any (base n : Nat) (l : List Int) (v : Value) (w : World) (ho : w.ownsRow base 5 1 v l.length (i8 l)) (hb : base ≤ w.heap.size) (hn : n < 4294967296) (hl : l.length ≤ 1000000) :
    Calls Tryd.prog 30 #[v, .int .i64 (n : Int)] w fun e w' => ∃ v', e = .returned v' ∧ w'.ownsRow base 5 1 v' (l.length + 4) (i8 (l ++ le4 n)) ∧ Below base w w' ∧ w.grownBy w' v.ownBlock := by
  obtain ⟨iU, hiU, hzU0, hzU1, hzU2⟩ := info_parts Tryd.infoByte
  obtain ⟨a, cap, rfl⟩ := slice_of_row ho
  have HO0 : Hid (w.ownsRow base 5 1 (.slice a l.length cap) l.length (i8 l)) := ho
  have HBS : Hid (base ≤ w.heap.size) := hb
  have HNL : Hid (n < 4294967296 ∧ l.length ≤ 1000000) := ⟨hn, hl⟩
  clear ho hb hn hl
  go_enter Tryd.func30, Tryd.ntmps30
  go_wp2_with fail
  go_loopw [0, 6] (fun y x wr => ∃ k : Nat, k ≤ 4 ∧ x = .int .i64 k ∧ wr.ownsRow base 5 1 y (l.length + k) (i8 (l ++ (le4 n).take k)) ∧ Below base w wr ∧ base ≤ wr.heap.size ∧ w.grownBy wr (Value.slice a l.length cap).ownBlock ∧ (y.ownBlock = (Value.slice a l.length cap).ownBlock ∨ ∀ j, y.ownBlock = some j → w.heap.size ≤ j)) (fun _ x _ => 4 - (intOf x).toNat)
  case atStart => exact ⟨0, Nat.zero_le _, rfl, by simpa using HO0.out, Below.refl _ _, HBS.out, ⟨rfl, rfl, rfl, Nat.le_refl _, fun _ _ _ => rfl⟩, .inl rfl⟩
  case round =>
    obtain ⟨k, hk, rfl, ho, hB, hsz, hgr, hob⟩ := hrel
    have hk5 : k = 0 ∨ k = 1 ∨ k = 2 ∨ k = 3 ∨ k = 4 := by omega
    obtain ⟨HO, HB, HSZ⟩ : Hid (wr.ownsRow base 5 1 u0 (l.length + k) (i8 (l ++ (le4 n).take k))) ∧ Hid (Below base w wr) ∧ Hid (base ≤ wr.heap.size) := ⟨ho, hB, hsz⟩
    obtain ⟨HGR, HOB⟩ : Hid (w.grownBy wr (Value.slice a l.length cap).ownBlock) ∧ Hid (u0.ownBlock = (Value.slice a l.length cap).ownBlock ∨ ∀ j, u0.ownBlock = some j → w.heap.size ≤ j) := ⟨hgr, hob⟩
    clear ho hB hsz hgr hob
    rcases hk5 with rfl | rfl | rfl | rfl | rfl
    · have HOA : Hid ((wr.alloc (.cells #[.int .u8 ((n : Int) % 256)] 5)).ownsRow base 5 1 u0 (l.length + 0) (i8 (l ++ (le4 n).take 0))) := HO.out.alloc _
      have HNA : Hid ((wr.alloc (.cells #[.int .u8 ((n : Int) % 256)] 5)).heap[wr.heap.size]? = some (.cells #[.int .u8 ((n : Int) % 256)] 5 (0, 0))) := heap_new' wr _
      go_wp2_with (first | (at_builtin; go_must (refine wpList_append_own_at _ rfl _ _ 30 rfl base 5 iU (.int .u8 0) 1 1 Tryd.undBy hiU hzU0 hzU1 hzU2 rfl (by decide) _ _ _ rfl HOA.out ⟨wr.heap.size, 0, none⟩ 1 1 [.int .u8 ((n : Int) % 256)] rfl rfl (World.news_of_block HNA.out) (by simp [Value.oneCell']) (by unfold maxLen; have := HNL.out; omega) (by have := HNL.out; omega) (by simp; have := HSZ.out; omega) ?_; intro v2 w2 ho2 hg2 _ hat; have HGS : Hid (w.grownBy w2 (Value.slice a l.length cap).ownBlock ∧ (v2.ownBlock = (Value.slice a l.length cap).ownBlock ∨ ∀ j, v2.ownBlock = some j → w.heap.size ≤ j)) := grown_step HGR.out HOB.out hg2 hat; have HO2 : Hid (w2.ownsRow base 5 1 v2 (l.length + 1) (i8 (l ++ (le4 n).take 1))) := (by have e : i8 (l ++ (le4 n).take 1) = i8 (l ++ (le4 n).take 0) ++ [.int .u8 ((n : Int) % 256)] := (by simp [i8, le4]); rw [e]; exact ho2); have HG2 : Hid (Below base w w2 ∧ base ≤ w2.heap.size) := ⟨(HB.out.alloc HSZ.out _).grown hg2 (by simp; have := HSZ.out; omega) (fun j e => (HOA.out.lt j e).1), (by have h1 := hg2.size; have h2 := HSZ.out; simp at h1; omega)⟩; clear ho2 hg2 hat)) | fail)
      go_roundw
      case rel => exact ⟨1, by omega, by go_num, HO2.out, HG2.out.1, HG2.out.2, HGS.out.1, HGS.out.2⟩
      case measure => simp [intOf]
    · have HOA : Hid ((wr.alloc (.cells #[.int .u8 ((n : Int) / 256 % 256)] 5)).ownsRow base 5 1 u0 (l.length + 1) (i8 (l ++ (le4 n).take 1))) := HO.out.alloc _
      have HNA : Hid ((wr.alloc (.cells #[.int .u8 ((n : Int) / 256 % 256)] 5)).heap[wr.heap.size]? = some (.cells #[.int .u8 ((n : Int) / 256 % 256)] 5 (0, 0))) := heap_new' wr _
      go_wp2_with (first | (at_builtin; go_must (refine wpList_append_own_at _ rfl _ _ 30 rfl base 5 iU (.int .u8 0) 1 1 Tryd.undBy hiU hzU0 hzU1 hzU2 rfl (by decide) _ _ _ rfl HOA.out ⟨wr.heap.size, 0, none⟩ 1 1 [.int .u8 ((n : Int) / 256 % 256)] rfl rfl (World.news_of_block HNA.out) (by simp [Value.oneCell']) (by unfold maxLen; have := HNL.out; omega) (by have := HNL.out; omega) (by simp; have := HSZ.out; omega) ?_; intro v2 w2 ho2 hg2 _ hat; have HGS : Hid (w.grownBy w2 (Value.slice a l.length cap).ownBlock ∧ (v2.ownBlock = (Value.slice a l.length cap).ownBlock ∨ ∀ j, v2.ownBlock = some j → w.heap.size ≤ j)) := grown_step HGR.out HOB.out hg2 hat; have HO2 : Hid (w2.ownsRow base 5 1 v2 (l.length + 2) (i8 (l ++ (le4 n).take 2))) := (by have e : i8 (l ++ (le4 n).take 2) = i8 (l ++ (le4 n).take 1) ++ [.int .u8 ((n : Int) / 256 % 256)] := (by simp [i8, le4]); rw [e]; exact ho2); have HG2 : Hid (Below base w w2 ∧ base ≤ w2.heap.size) := ⟨(HB.out.alloc HSZ.out _).grown hg2 (by simp; have := HSZ.out; omega) (fun j e => (HOA.out.lt j e).1), (by have h1 := hg2.size; have h2 := HSZ.out; simp at h1; omega)⟩; clear ho2 hg2 hat)) | fail)
      go_roundw
      case rel => exact ⟨2, by omega, by go_num, HO2.out, HG2.out.1, HG2.out.2, HGS.out.1, HGS.out.2⟩
      case measure => simp [intOf]
    · have HOA : Hid ((wr.alloc (.cells #[.int .u8 ((n : Int) / 65536 % 256)] 5)).ownsRow base 5 1 u0 (l.length + 2) (i8 (l ++ (le4 n).take 2))) := HO.out.alloc _
      have HNA : Hid ((wr.alloc (.cells #[.int .u8 ((n : Int) / 65536 % 256)] 5)).heap[wr.heap.size]? = some (.cells #[.int .u8 ((n : Int) / 65536 % 256)] 5 (0, 0))) := heap_new' wr _
      go_wp2_with (first | (at_builtin; go_must (refine wpList_append_own_at _ rfl _ _ 30 rfl base 5 iU (.int .u8 0) 1 1 Tryd.undBy hiU hzU0 hzU1 hzU2 rfl (by decide) _ _ _ rfl HOA.out ⟨wr.heap.size, 0, none⟩ 1 1 [.int .u8 ((n : Int) / 65536 % 256)] rfl rfl (World.news_of_block HNA.out) (by simp [Value.oneCell']) (by unfold maxLen; have := HNL.out; omega) (by have := HNL.out; omega) (by simp; have := HSZ.out; omega) ?_; intro v2 w2 ho2 hg2 _ hat; have HGS : Hid (w.grownBy w2 (Value.slice a l.length cap).ownBlock ∧ (v2.ownBlock = (Value.slice a l.length cap).ownBlock ∨ ∀ j, v2.ownBlock = some j → w.heap.size ≤ j)) := grown_step HGR.out HOB.out hg2 hat; have HO2 : Hid (w2.ownsRow base 5 1 v2 (l.length + 3) (i8 (l ++ (le4 n).take 3))) := (by have e : i8 (l ++ (le4 n).take 3) = i8 (l ++ (le4 n).take 2) ++ [.int .u8 ((n : Int) / 65536 % 256)] := (by simp [i8, le4]); rw [e]; exact ho2); have HG2 : Hid (Below base w w2 ∧ base ≤ w2.heap.size) := ⟨(HB.out.alloc HSZ.out _).grown hg2 (by simp; have := HSZ.out; omega) (fun j e => (HOA.out.lt j e).1), (by have h1 := hg2.size; have h2 := HSZ.out; simp at h1; omega)⟩; clear ho2 hg2 hat)) | fail)
      go_roundw
      case rel => exact ⟨3, by omega, by go_num, HO2.out, HG2.out.1, HG2.out.2, HGS.out.1, HGS.out.2⟩
      case measure => simp [intOf]
    · have HOA : Hid ((wr.alloc (.cells #[.int .u8 ((n : Int) / 16777216 % 256)] 5)).ownsRow base 5 1 u0 (l.length + 3) (i8 (l ++ (le4 n).take 3))) := HO.out.alloc _
      have HNA : Hid ((wr.alloc (.cells #[.int .u8 ((n : Int) / 16777216 % 256)] 5)).heap[wr.heap.size]? = some (.cells #[.int .u8 ((n : Int) / 16777216 % 256)] 5 (0, 0))) := heap_new' wr _
      go_wp2_with (first | (at_builtin; go_must (refine wpList_append_own_at _ rfl _ _ 30 rfl base 5 iU (.int .u8 0) 1 1 Tryd.undBy hiU hzU0 hzU1 hzU2 rfl (by decide) _ _ _ rfl HOA.out ⟨wr.heap.size, 0, none⟩ 1 1 [.int .u8 ((n : Int) / 16777216 % 256)] rfl rfl (World.news_of_block HNA.out) (by simp [Value.oneCell']) (by unfold maxLen; have := HNL.out; omega) (by have := HNL.out; omega) (by simp; have := HSZ.out; omega) ?_; intro v2 w2 ho2 hg2 _ hat; have HGS : Hid (w.grownBy w2 (Value.slice a l.length cap).ownBlock ∧ (v2.ownBlock = (Value.slice a l.length cap).ownBlock ∨ ∀ j, v2.ownBlock = some j → w.heap.size ≤ j)) := grown_step HGR.out HOB.out hg2 hat; have HO2 : Hid (w2.ownsRow base 5 1 v2 (l.length + 4) (i8 (l ++ (le4 n).take 4))) := (by have e : i8 (l ++ (le4 n).take 4) = i8 (l ++ (le4 n).take 3) ++ [.int .u8 ((n : Int) / 16777216 % 256)] := (by simp [i8, le4]); rw [e]; exact ho2); have HG2 : Hid (Below base w w2 ∧ base ≤ w2.heap.size) := ⟨(HB.out.alloc HSZ.out _).grown hg2 (by simp; have := HSZ.out; omega) (fun j e => (HOA.out.lt j e).1), (by have h1 := hg2.size; have h2 := HSZ.out; simp at h1; omega)⟩; clear ho2 hg2 hat)) | fail)
      go_roundw
      case rel => exact ⟨4, by omega, by go_num, HO2.out, HG2.out.1, HG2.out.2, HGS.out.1, HGS.out.2⟩
      case measure => simp [intOf]
    · go_wp2
      go_ret
      exact ⟨_, rfl, HO.out, HB.out, HGR.out⟩
/-- The bytes of the first k tries, each with its count ahead. -/
def dataTo (TL : Nat → List Int) (TF : Nat → List (List Int)) : Nat → List Int
  | 0 => []
  | k + 1 => dataTo TL TF k ++ (le4 (4353 + 256 * (TF k).length) ++ rawSave (TL k) (TF k))
theorem raw_lengthU {like : List Int} {F : List (List Int)} (hf : Fine like F) : (rawSave like F).length = 4353 + 256 * F.length := by
  rw [← rawTo_end]; exact rawTo_length hf (Nat.le_refl _)
theorem dataTo_le {TL : Nat → List Int} {TF : Nat → List (List Int)} (hf : ∀ i, i < 4 → Fine (TL i) (TF i)) : ∀ k, k ≤ 4 → (dataTo TL TF k).length ≤ 70000 * k
  | 0, _ => by simp [dataTo]
  | k + 1, h => by
    have ih := dataTo_le hf k (by omega)
    have hl := raw_lengthU (hf k (by omega))
    have h2 := (hf k (by omega)).le
    unfold dataTo
    rw [List.length_append, List.length_append, le4_length, hl]
    omega

end Go.Proofs.YtpknmpgbaccffaaDoor

namespace Go.Proofs.YtpknmpgbaccffaaDoor
open Go.RowKit
set_option linter.unusedVariables false

/-- The count that stands ahead. -/
def cnB (l : List Int) : Nat := (l[0]?.getD 0).toNat + 256 * (l[1]?.getD 0).toNat + 65536 * (l[2]?.getD 0).toNat + 16777216 * (l[3]?.getD 0).toNat
def cutOk (l : List Int) : Bool := decide (4 ≤ l.length) && decide (cnB l ≤ l.length - 4)

theorem u64_in (n : Nat) (h : n < 18446744073709551616) : IntKind.u64.wrap (n : Int) = (n : Int) := by
  rw [IntKind.wrap_u64]; omega
/-- A digit put ahead of lower ones. -/
theorem or_digit (a b k s : Nat) (hs : s = 2 ^ k) (ha : a < s) (hb : b ≤ 255) (hk : s ≤ 16777216) : bits .or .u64 (a : Int) (IntKind.u64.wrap (IntKind.u64.wrap (b : Int) * (s : Int))) = ((a + s * b : Nat) : Int) := by
  have h1 : s * b ≤ 16777216 * 255 := Nat.mul_le_mul hk hb
  have e1 : (b : Int) * (s : Int) = ((s * b : Nat) : Int) := by rw [Nat.mul_comm]; simp
  rw [u64_in b (by omega), e1, u64_in (s * b) (by omega), bits_or_u64_nat a (s * b) (by omega) (by omega)]
  have h2 := Nat.two_pow_add_eq_or_of_lt (i := k) (b := a) (by omega) b
  rw [← hs] at h2
  rw [Nat.or_comm, ← h2, Nat.add_comm]

set_option maxRecDepth 100000 in
set_option maxHeartbeats 8000000 in
theorem cut_any (N : Nat) (l : List Int) (v : Value) (w : World) (hv : BytesAt N w v l) (hby : ByL l) (hl : l.length ≤ 1000000) :
    Calls Tryd.prog 31 #[v] w fun e w' => ∃ v1 v2, e = .returned (.tuple #[v1, v2, .bool (cutOk l)]) ∧ (cutOk l = true → BytesAt N w' v1 ((l.drop 4).take (cnB l)) ∧ BytesAt N w' v2 (l.drop (4 + cnB l))) ∧ Below w.heap.size w w' := by
  obtain ⟨a, cap, rfl, hcap, hcl⟩ := hv
  by_cases hs : l.length < 4
  · have hs' : (l.length : Int) < 4 := by omega
    have e0 : cutOk l = false := by unfold cutOk; simp; omega
    rw [e0]
    clear e0
    go_enter Tryd.func31, Tryd.ntmps31
    go_wp2
    go_ret3
    exact ⟨_, _, rfl, fun h => (by cases h), Below.refl _ _⟩
  · have hs' : decide ((l.length : Int) < 4) = false := by simp; omega
    obtain ⟨x0, hx0⟩ : ∃ x : Nat, l[0]'(by omega) = (x : Int) := ⟨(l[0]).toNat, by have := hby l[0] (List.getElem_mem _); omega⟩
    obtain ⟨x1, hx1⟩ : ∃ x : Nat, l[1]'(by omega) = (x : Int) := ⟨(l[1]).toNat, by have := hby l[1] (List.getElem_mem _); omega⟩
    obtain ⟨x2, hx2⟩ : ∃ x : Nat, l[2]'(by omega) = (x : Int) := ⟨(l[2]).toNat, by have := hby l[2] (List.getElem_mem _); omega⟩
    obtain ⟨x3, hx3⟩ : ∃ x : Nat, l[3]'(by omega) = (x : Int) := ⟨(l[3]).toNat, by have := hby l[3] (List.getElem_mem _); omega⟩
    obtain ⟨g, off, rfl, hg, c0⟩ := hcl 0 (by omega)
    have hcc : ∀ i (h : i < l.length), w.cell? ⟨g, off + i, none⟩ = some (.int .u8 l[i]) := fun i h => by
      obtain ⟨g', off', e, _, hc⟩ := hcl i h
      obtain ⟨rfl, rfl⟩ : g = g' ∧ off = off' := by simpa using e
      exact hc
    have d0 := hcc 0 (by omega)
    have d1 := hcc 1 (by omega)
    have d2 := hcc 2 (by omega)
    have d3 := hcc 3 (by omega)
    rw [Nat.add_zero] at d0
    rw [hx0] at d0
    rw [hx1] at d1
    rw [hx2] at d2
    rw [hx3] at d3
    have HV : Hid (BytesAt N w (.slice (some ⟨g, off, none⟩) l.length cap) l) := ⟨_, cap, rfl, hcap, hcl⟩
    obtain ⟨M, hM⟩ : ∃ M, M = l.length := ⟨_, rfl⟩
    have l0 : (0 : Int) < (M : Int) := by omega
    have l1 : (1 : Int) < (M : Int) := by omega
    have l2 : (2 : Int) < (M : Int) := by omega
    have l3 : (3 : Int) < (M : Int) := by omega
    have hs2 : decide ((M : Int) < 4) = false := by rw [hM]; exact hs'
    rw [← hM]
    have HX : Hid (x0 ≤ 255 ∧ x1 ≤ 255 ∧ x2 ≤ 255 ∧ x3 ≤ 255) := by
      have h0 := hby l[0] (List.getElem_mem _)
      have h1 := hby l[1] (List.getElem_mem _)
      have h2 := hby l[2] (List.getElem_mem _)
      have h3 := hby l[3] (List.getElem_mem _)
      rw [hx0] at h0
      rw [hx1] at h1
      rw [hx2] at h2
      rw [hx3] at h3
      show _ ∧ _
      omega
    have HCN : Hid (cnB l = x0 + 256 * x1 + 65536 * x2 + 16777216 * x3) := by
      show _ = _
      unfold cnB
      rw [List.getElem?_eq_getElem (by omega), List.getElem?_eq_getElem (by omega), List.getElem?_eq_getElem (by omega), List.getElem?_eq_getElem (by omega)]
      simp only [Option.getD_some, hx0, hx1, hx2, hx3, Int.toNat_natCast]
    have HM : Hid (M = l.length ∧ 4 ≤ M ∧ M ≤ 1000000 ∧ M ≤ cap) := ⟨hM, by omega, by omega, by omega⟩
    obtain ⟨ok, hokd⟩ : ∃ ok, ok = cutOk l := ⟨_, rfl⟩
    have HOKD : Hid (ok = cutOk l) := hokd
    rw [← hokd]
    clear hcl hcc c0 hs' hx0 hx1 hx2 hx3 hs hl hM hby hokd
    go_enter Tryd.func31, Tryd.ntmps31
    go_wp2_with fail
    go_loopw [5, 10] (fun y x wr => wr = w ∧ ((x = .int .i64 0 ∧ y = .int .u64 0) ∨ (x = .int .i64 1 ∧ y = .int .u64 (x0 : Int)) ∨ (x = .int .i64 2 ∧ y = .int .u64 ((x0 + 256 * x1 : Nat) : Int)) ∨ (x = .int .i64 3 ∧ y = .int .u64 ((x0 + 256 * x1 + 65536 * x2 : Nat) : Int)) ∨ (x = .int .i64 4 ∧ y = .int .u64 ((x0 + 256 * x1 + 65536 * x2 + 16777216 * x3 : Nat) : Int)))) (fun _ x _ => 4 - (intOf x).toNat)
    case atStart => exact ⟨rfl, .inl ⟨rfl, rfl⟩⟩
    case round =>
      obtain ⟨rfl, hc⟩ := hrel
      rcases hc with ⟨rfl, rfl⟩ | ⟨rfl, rfl⟩ | ⟨rfl, rfl⟩ | ⟨rfl, rfl⟩ | ⟨rfl, rfl⟩
      · have h1 : bits BinOp.or IntKind.u64 0 (IntKind.u64.wrap (IntKind.u64.wrap (x0 : Int))) = (x0 : Int) := by
          have := or_digit 0 x0 0 1 rfl (by omega) HX.out.1 (by omega)
          simpa using this
        have H1 : Hid (bits BinOp.or IntKind.u64 0 (IntKind.u64.wrap (IntKind.u64.wrap (x0 : Int))) = (x0 : Int)) := h1
        clear h1
        go_wp2_with fail
        go_roundw
        case rel => exact ⟨trivial, .inr (.inl ⟨rfl, congrArg (Value.int .u64) H1.out⟩)⟩
        case measure => simp [intOf]
      · have H1 : Hid (bits BinOp.or IntKind.u64 (x0 : Int) (IntKind.u64.wrap (IntKind.u64.wrap (x1 : Int) * 256)) = ((x0 + 256 * x1 : Nat) : Int)) := or_digit x0 x1 8 256 rfl (by have := HX.out; omega) HX.out.2.1 (by omega)
        go_wp2_with fail
        go_roundw
        case rel => exact ⟨trivial, .inr (.inr (.inl ⟨rfl, congrArg (Value.int .u64) H1.out⟩))⟩
        case measure => simp [intOf]
      · have H1 : Hid (bits BinOp.or IntKind.u64 ((x0 : Int) + 256 * (x1 : Int)) (IntKind.u64.wrap (IntKind.u64.wrap (x2 : Int) * 65536)) = ((x0 + 256 * x1 + 65536 * x2 : Nat) : Int)) := by
          have e : (x0 : Int) + 256 * (x1 : Int) = ((x0 + 256 * x1 : Nat) : Int) := by omega
          show _ = _
          rw [e]
          exact or_digit (x0 + 256 * x1) x2 16 65536 rfl (by have := HX.out; omega) HX.out.2.2.1 (by omega)
        go_wp2_with fail
        go_roundw
        case rel => exact ⟨trivial, .inr (.inr (.inr (.inl ⟨rfl, congrArg (Value.int .u64) H1.out⟩)))⟩
        case measure => simp [intOf]
      · have H1 : Hid (bits BinOp.or IntKind.u64 ((x0 : Int) + 256 * (x1 : Int) + 65536 * (x2 : Int)) (IntKind.u64.wrap (IntKind.u64.wrap (x3 : Int) * 16777216)) = ((x0 + 256 * x1 + 65536 * x2 + 16777216 * x3 : Nat) : Int)) := by
          have e : (x0 : Int) + 256 * (x1 : Int) + 65536 * (x2 : Int) = ((x0 + 256 * x1 + 65536 * x2 : Nat) : Int) := by omega
          show _ = _
          rw [e]
          exact or_digit (x0 + 256 * x1 + 65536 * x2) x3 24 16777216 rfl (by have := HX.out; omega) HX.out.2.2.2 (by omega)
        go_wp2_with fail
        go_roundw
        case rel => exact ⟨trivial, .inr (.inr (.inr (.inr ⟨rfl, congrArg (Value.int .u64) H1.out⟩)))⟩
        case measure => simp [intOf]
      · obtain ⟨n, hn⟩ : ∃ n, n = x0 + 256 * x1 + 65536 * x2 + 16777216 * x3 := ⟨_, rfl⟩
        have HCN2 : Hid (cnB l = n) := by show _ = _; rw [HCN.out, hn]
        have HNB : Hid (n < 4294967296) := by show _ < _; have := HX.out; omega
        rw [← hn]
        clear HCN hn d0 d1 d2 d3 HX
        have hq1 : (4 : Int) ≤ (M : Int) := by have := HM.out; omega
        have hq2 : (4 : Int) ≤ (cap : Int) := by have := HM.out; omega
        have hwM : IntKind.u64.wrap ((M - 4 : Nat) : Int) = ((M - 4 : Nat) : Int) := u64_in _ (by have := HM.out; omega)
        by_cases hcp : cap = 4
        · have hM4 : M = 4 := by have := HM.out; omega
          have HL4 : Hid (l.length = 4) := by show _ = _; have := HM.out; omega
          have HE4 : Hid (l.drop (4 + 0) = []) := by show _ = _; rw [List.drop_eq_nil_iff]; have := HL4.out; omega
          subst hM4 hcp
          by_cases hok : n = 0
          · subst hok
            have e0 : ok = true := by rw [HOKD.out]; unfold cutOk; rw [HCN2.out]; have := HL4.out; simp; omega
            subst e0
            clear HM hwM
            go_wp2_with fail
            go_quiet (fail)
            go_wp2_with fail
            go_ret3
            refine ⟨_, _, rfl, ⟨?_, ?_⟩, below_drewN' (Below.refl _ _) _⟩
            · rw [HCN2.out]; exact ⟨_, 0, rfl, Nat.le_refl _, fun i hi => by simp at hi⟩
            · rw [HCN2.out, HE4.out]; exact ⟨_, 0, rfl, Nat.le_refl _, fun i hi => by simp at hi⟩
          · have hok' : decide ((0 : Int) < (n : Int)) = true := by simp; omega
            have hok2 : decide (0 < n) = true := by simp; omega
            have e0 : ok = false := by rw [HOKD.out]; unfold cutOk; rw [HCN2.out]; have := HL4.out; simp; omega
            subst e0
            clear HM hwM hok
            go_wp2_with fail
            go_ret3
            exact ⟨_, _, rfl, fun h => (by cases h), Below.refl _ _⟩
        have hcp2 : ¬ (cap - 4 = 0) := by have := HM.out; omega
        by_cases hok : n ≤ M - 4
        · have hok' : decide (((M - 4 : Nat) : Int) < (n : Int)) = false := by simp; omega
          have hok2 : decide (M - 4 < n) = false := by simp; omega
          have e0 : ok = true := by rw [HOKD.out]; unfold cutOk; rw [HCN2.out]; have := HM.out; simp; omega
          subst e0
          have hq3 : (n : Int) ≤ ((cap - 4 : Nat) : Int) := by have := HM.out; omega
          have hq4 : (n : Int) ≤ ((M - 4 : Nat) : Int) := by omega
          have HP : Hid (BytesAt N wr (.slice (some ⟨g, off + 4, none⟩) n (cap - 4)) ((l.drop 4).take n)) := by
            have h1 : BytesAt N wr (.slice (some ⟨g, off, none⟩) l.length cap) l := HV.out
            exact h1.part (i := 4) (m := n) (by have := HM.out; omega)
          by_cases hcn : cap - 4 = n
          · have HE : Hid (l.drop (4 + n) = []) := by show _ = _; rw [List.drop_eq_nil_iff]; have := HM.out; omega
            have hmn : M - 4 = n := by have := HM.out; omega
            have hwn : IntKind.u64.wrap (n : Int) = (n : Int) := u64_in _ (by have := HNB.out; omega)
            have HP2 : Hid (BytesAt N wr (.slice (some ⟨g, off + 4, none⟩) n n) ((l.drop 4).take n)) := by have := HP.out; rw [hcn] at this; exact this
            have hir : decide ((n : Int) < (n : Int)) = false := by simp
            clear HP
            go_wp2_with fail
            go_quiet (fail)
            go_wp2_with fail
            go_ret3
            refine ⟨_, _, rfl, ⟨?_, ?_⟩, below_drewN' (Below.refl _ _) _⟩
            · rw [HCN2.out]; exact HP2.out.below (below_drewN' (Below.refl _ _) _)
            · rw [HCN2.out, HE.out]; exact ⟨_, _, rfl, Nat.zero_le _, fun i hi => by simp at hi⟩
          · have hcn2 : ¬ (cap - 4 - n = 0) := by have := HM.out; omega
            have HR : Hid (BytesAt N wr (.slice (some ⟨g, off + 4 + n, none⟩) (M - 4 - n) (cap - 4 - n)) (l.drop (4 + n))) := by
              have h1 : BytesAt N wr (.slice (some ⟨g, off, none⟩) l.length cap) l := HV.out
              have h2 := h1.part (i := 4 + n) (m := M - 4 - n) (by have := HM.out; omega)
              have e1 : (l.drop (4 + n)).take (M - 4 - n) = l.drop (4 + n) := List.take_of_length_le (by rw [List.length_drop]; have := HM.out; omega)
              rw [e1, ← Nat.add_assoc, ← Nat.sub_sub] at h2
              exact h2
            go_wp2_with fail
            go_quiet (fail)
            go_wp2_with fail
            go_ret3
            refine ⟨_, _, rfl, ⟨?_, ?_⟩, below_drewN' (Below.refl _ _) _⟩
            · rw [HCN2.out]; exact HP.out.below (below_drewN' (Below.refl _ _) _)
            · rw [HCN2.out]; exact HR.out.below (below_drewN' (Below.refl _ _) _)
        · have hok' : decide (((M - 4 : Nat) : Int) < (n : Int)) = true := by simp; omega
          have hok2 : decide (M - 4 < n) = true := by simp; omega
          have e0 : ok = false := by rw [HOKD.out]; unfold cutOk; rw [HCN2.out]; have := HM.out; simp; omega
          subst e0
          go_wp2_with fail
          go_ret3
          exact ⟨_, _, rfl, fun h => (by cases h), Below.refl _ _⟩
end Go.Proofs.YtpknmpgbaccffaaDoor

namespace Go.Proofs.YtpknmpgbaccffaaDoor
open Go.RowKit
set_option linter.unusedVariables false

set_option maxRecDepth 100000 in
set_option maxHeartbeats 8000000 in
theorem dsave_any (TL : Nat → List Int) (TF : Nat → List (List Int)) (g : Nat) (w : World) (hd : DataAt w g TL TF) (hf : ∀ i, i < 4 → Fine (TL i) (TF i)) :
    Calls Tryd.prog 16 #[.pointer (some ⟨g, 0, none⟩)] w fun e w' => ∃ v, e = .returned v ∧ w'.ownsRow w.heap.size 5 1 v (dataTo TL TF 4).length (i8 (dataTo TL TF 4)) ∧ Below w.heap.size w w' := by
  obtain ⟨iU, hiU, hzU0, hzU1, hzU2⟩ := info_parts Tryd.infoByte
  have HD : Hid (DataAt w g TL TF) := hd
  have HF : Hid (∀ i, i < 4 → Fine (TL i) (TF i)) := hf
  clear hd hf
  go_enter Tryd.func16, Tryd.ntmps16
  go_wp2_with fail
  go_loopw [3, 6] (fun y x wr => ∃ k : Nat, k ≤ 4 ∧ x = .int .i64 k ∧ wr.ownsRow w.heap.size 5 1 y (dataTo TL TF k).length (i8 (dataTo TL TF k)) ∧ Below w.heap.size w wr) (fun _ x _ => 4 - (intOf x).toNat)
  case atStart => exact ⟨0, Nat.zero_le _, rfl, World.ownsRow_nil _ _ _ _, Below.refl _ _⟩
  case round =>
    obtain ⟨k, hk, rfl, ho, hB⟩ := hrel
    have hsi := hB.size
    obtain ⟨HO, HB⟩ : Hid (wr.ownsRow w.heap.size 5 1 u3 (dataTo TL TF k).length (i8 (dataTo TL TF k))) ∧ Hid (Below w.heap.size w wr) := ⟨ho, hB⟩
    clear ho hB
    by_cases hlt : k < 4
    · have hlt' : (k : Int) < 4 := by omega
      obtain ⟨p, hg, ht⟩ := HD.out.below HB.out
      have hT := ht k hlt
      obtain ⟨gt, hgt⟩ := hT.ptr
      have HT : Hid (TrieAt wr.heap.size wr (.pointer (some ⟨gt, 0, none⟩)) (TL k) (TF k)) := by rw [← hgt]; exact hT
      have hc : wr.cell? ⟨g, k, none⟩ = some (.pointer (some ⟨gt, 0, none⟩)) := by
        have : k = 0 ∨ k = 1 ∨ k = 2 ∨ k = 3 := by omega
        rcases this with rfl | rfl | rfl | rfl <;> exact (cell_row hg rfl).trans (by rw [hgt])
      have HFK : Hid (Fine (TL k) (TF k)) := HF.out k hlt
      have HLE : Hid ((dataTo TL TF k).length ≤ 70000 * k) := dataTo_le HF.out k hk
      have HRL : Hid ((rawSave (TL k) (TF k)).length = 4353 + 256 * (TF k).length) := raw_lengthU HFK.out
      have HST : Hid (dataTo TL TF (k + 1) = dataTo TL TF k ++ (le4 (4353 + 256 * (TF k).length) ++ rawSave (TL k) (TF k))) := rfl
      have HFL : Hid ((TF k).length ≤ 256) := HFK.out.le
      obtain ⟨n, hn⟩ : ∃ n, n = 4353 + 256 * (TF k).length := ⟨_, rfl⟩
      obtain ⟨raw, hraw⟩ : ∃ raw, raw = rawSave (TL k) (TF k) := ⟨_, rfl⟩
      obtain ⟨A, hA⟩ : ∃ A, A = dataTo TL TF k := ⟨_, rfl⟩
      have HSV : Hid (Calls Tryd.prog 29 #[.pointer (some ⟨gt, 0, none⟩)] wr fun e w' => ∃ v, e = .returned v ∧ w'.ownsRow wr.heap.size 5 1 v n (i8 raw) ∧ Below wr.heap.size wr w') := by rw [hn, hraw]; exact save_any _ _ _ wr HT.out HFK.out
      rw [← hn, ← hraw, ← hA] at HST
      rw [← hn, ← hraw] at HRL
      rw [← hA] at HLE HO
      have HN : Hid (n ≤ 69889) := by show _ ≤ _; have := HFL.out; omega
      have HN1 : Hid (4353 ≤ n) := by show _ ≤ _; omega
      clear hg ht hT hgt hn hraw hA
      go_wp2_with fail
      refine HSV.out.mono ?_
      rintro e w2 ⟨v2, rfl, ho2, hB2⟩
      obtain ⟨a2, c2, rfl⟩ := slice_of_row ho2
      have hs2 := hB2.size
      obtain ⟨HO2, HB2⟩ : Hid (w2.ownsRow wr.heap.size 5 1 (.slice a2 n c2) n (i8 raw)) ∧ Hid (Below wr.heap.size wr w2) := ⟨ho2, hB2⟩
      have HA2 : Hid (w2.ownsRow w.heap.size 5 1 u3 A.length (i8 A)) := ownsRow_below HO.out hB2
      clear ho2 hB2
      go_wp2_with fail
      refine (appendCount_any w.heap.size n A u3 w2 HA2.out (by omega) (by have := HN.out; omega) (by have := HLE.out; omega)).mono ?_
      rintro e w3 ⟨v3, rfl, ho3, hB3, hg3⟩
      have hs3 := hg3.size
      have HP3 : Hid (w3.ownsRow wr.heap.size 5 1 (.slice a2 n c2) n (i8 raw)) := HO2.out.kept hg3 (by
        cases hv2 : (Value.slice a2 n c2).ownBlock with
        | none => exact .inl rfl
        | some x =>
          right
          intro e
          have h1 := (HO.out.lt x e.symm).2
          have h2 := (HO2.out.lt x hv2).1
          omega)
      obtain ⟨HO3, HB3⟩ : Hid (w3.ownsRow w.heap.size 5 1 v3 (A.length + 4) (i8 (A ++ le4 n))) ∧ Hid (Below w.heap.size w w3) := ⟨ho3, (HB.out.trans (HB2.out.mono hsi)).trans hB3⟩
      obtain ⟨gp, rfl⟩ : ∃ gp, a2 = some ⟨gp, 0, none⟩ := by
        rcases HP3.out.2 with ⟨_, h0⟩ | ⟨g', cap', cur, e, _⟩
        · have := HN1.out
          omega
        · exact ⟨g', by simpa using (by simpa using e : _ ∧ _).1⟩
      have HSRC : Hid (∀ j u, (i8 raw)[j]? = some u → w3.cell? ((⟨gp, 0, none⟩ : Addr).add j) = some u) := HP3.out.cells (g := gp) rfl
      have HSZ3 : Hid (w.heap.size ≤ w3.heap.size) := HB3.out.size
      have HRN : Hid (raw.length = n) := by show _ = _; have h2 := HP3.out.1; rw [i8_length] at h2; omega
      clear ho3 hB3 hg3
      go_wp2_with (first | (at_builtin; go_must (refine wpList_append_own _ rfl _ _ 30 rfl w.heap.size 5 iU (.int .u8 0) 1 1 Tryd.undBy hiU hzU0 hzU1 hzU2 rfl (by decide) _ _ _ rfl HO3.out ⟨gp, 0, none⟩ n c2 (i8 raw) rfl (by rw [i8_length, HRN.out, Nat.mul_one]) HSRC.out (i8_one raw) (by unfold maxLen; have := HN.out; have := HLE.out; omega) (by have := HN.out; have := HLE.out; omega) HSZ3.out ?_; intro v4 w4 ho4 hg4 _; have HO4 : Hid (w4.ownsRow w.heap.size 5 1 v4 (dataTo TL TF (k + 1)).length (i8 (dataTo TL TF (k + 1)))) := (by have e : (dataTo TL TF (k + 1)).length = A.length + 4 + n := (by rw [HST.out, List.length_append, List.length_append, le4_length, HRN.out]; omega); rw [e, HST.out, ← List.append_assoc, i8_append]; exact ho4); have HB4 : Hid (Below w.heap.size w w4) := HB3.out.grown hg4 HSZ3.out (fun j e => (HO3.out.lt j e).1); clear ho4 hg4)) | fail)
      go_roundw
      case rel => exact ⟨k + 1, by omega, by go_num, HO4.out, HB4.out⟩
      case measure => simp [intOf]; omega
    · obtain rfl : k = 4 := by omega
      go_wp2
      go_ret
      exact ⟨_, rfl, HO.out, HB.out⟩
end Go.Proofs.YtpknmpgbaccffaaDoor

namespace Go.Proofs.YtpknmpgbaccffaaDoor
open Go.RowKit
set_option linter.unusedVariables false

def partL (l : List Int) : List Int := (l.drop 4).take (cnB l)
def restL (l : List Int) : List Int := l.drop (4 + cnB l)
/-- What is left behind k parts, and the k-th part. -/
def restAt : Nat → List Int → List Int
  | 0, l => l
  | k + 1, l => restL (restAt k l)
def partAt (k : Nat) (l : List Int) : List Int := partL (restAt k l)
def okAt (k : Nat) (l : List Int) : Bool := cutOk (restAt k l) && okLb (partAt k l)
def okD (l : List Int) : Bool := okAt 0 l && okAt 1 l && okAt 2 l && okAt 3 l && decide ((restAt 4 l).length = 0)
def errD (l : List Int) : Int := if okD l = true then 0 else 2
def dL (l : List Int) (k : Nat) : List Int := likeL (partAt k l)
def dF (l : List Int) (k : Nat) : List (List Int) := firstL (partAt k l)
theorem okD_at {l : List Int} (h : okD l = true) : (∀ k, k < 4 → okAt k l = true) ∧ (restAt 4 l).length = 0 := by
  unfold okD at h
  simp only [Bool.and_eq_true, decide_eq_true_eq] at h
  exact ⟨four h.1.1.1.1 h.1.1.1.2 h.1.1.2 h.1.2, h.2⟩
theorem okD_mk {l : List Int} (h : ∀ k, k < 4 → okAt k l = true) (h4 : (restAt 4 l).length = 0) : okD l = true := by
  unfold okD
  simp only [Bool.and_eq_true, decide_eq_true_eq]
  exact ⟨⟨⟨⟨h 0 (by omega), h 1 (by omega)⟩, h 2 (by omega)⟩, h 3 (by omega)⟩, h4⟩
theorem rest_byL {l : List Int} (h : ByL l) : ∀ k, ByL (restAt k l)
  | 0 => h
  | k + 1 => (rest_byL h k).drop _
theorem rest_le (l : List Int) : ∀ k, (restAt k l).length ≤ l.length
  | 0 => Nat.le_refl _
  | k + 1 => by
    have := rest_le l k
    show ((restAt k l).drop _).length ≤ _
    rw [List.length_drop]; omega
theorem part_byL {l : List Int} (h : ByL l) (k : Nat) : ByL (partAt k l) := ((rest_byL h k).drop _).take _
theorem dfine {l : List Int} (hb : ByL l) {k : Nat} (h : okAt k l = true) : Fine (dL l k) (dF l k) := by
  unfold okAt at h
  rw [Bool.and_eq_true] at h
  exact fineL (part_byL hb k) (okLb_iff.1 h.2)
/-- The four bytes of a count. -/
theorem le4_cn {l : List Int} (hb : ByL l) (h : 4 ≤ l.length) : le4 (cnB l) = l.take 4 := by
  match l, h with
  | a :: b :: c :: d :: t, _ =>
    have ha := hb a (by simp)
    have hbb := hb b (by simp)
    have hc := hb c (by simp)
    have hd := hb d (by simp)
    have e : cnB (a :: b :: c :: d :: t) = a.toNat + 256 * b.toNat + 65536 * c.toNat + 16777216 * d.toNat := rfl
    rw [e]
    unfold le4
    simp only [List.take_succ_cons, List.take_zero, List.cons.injEq, and_true]
    refine ⟨?_, ?_, ?_, ?_⟩ <;> omega
theorem cut_parts {l : List Int} (hb : ByL l) (h : cutOk l = true) : le4 (partL l).length ++ partL l ++ restL l = l := by
  unfold cutOk at h
  simp only [Bool.and_eq_true, decide_eq_true_eq] at h
  have hpl : (partL l).length = cnB l := by unfold partL; rw [List.length_take, List.length_drop]; omega
  rw [hpl, le4_cn hb h.1]
  unfold partL restL
  rw [List.append_assoc, ← List.drop_drop, List.take_append_drop, List.take_append_drop]
/-- What is loaded is saved as it stood there. -/
theorem data_back {l : List Int} (hb : ByL l) : ∀ k, (∀ j, j < k → okAt j l = true) → dataTo (dL l) (dF l) k ++ restAt k l = l
  | 0, _ => rfl
  | k + 1, h => by
    have ih := data_back hb k (fun j hj => h j (by omega))
    have hk := h k (by omega)
    unfold okAt at hk
    rw [Bool.and_eq_true] at hk
    have hok := okLb_iff.1 hk.2
    have e1 := cut_parts (rest_byL hb k) hk.1
    have e2 : rawSave (dL l k) (dF l k) = partAt k l := raw_back (part_byL hb k) hok.1
    have e3 : 4353 + 256 * (dF l k).length = (partAt k l).length := by
      have := hok.1.2
      unfold dF
      rw [firstL_length]
      omega
    show dataTo (dL l) (dF l) k ++ (le4 (4353 + 256 * (dF l k).length) ++ rawSave (dL l k) (dF l k)) ++ restL (restAt k l) = l
    rw [e2, e3]
    conv => rhs; rw [← ih, ← e1]
    unfold partAt
    simp only [List.append_assoc]
theorem data_all {l : List Int} (hb : ByL l) (h : okD l = true) : dataTo (dL l) (dF l) 4 = l := by
  obtain ⟨h1, h2⟩ := okD_at h
  have := data_back hb 4 h1
  rw [List.length_eq_zero_iff.1 h2, List.append_nil] at this
  exact this

set_option maxRecDepth 100000 in
set_option maxHeartbeats 8000000 in
theorem dload_any (l : List Int) (v : Value) (w : World) (hv : BytesAt w.heap.size w v l) (hby : ByL l) (hl : l.length ≤ 1000000) :
    Calls Tryd.prog 17 #[v] w fun e w' => ∃ pv, e = .returned (.tuple #[pv, .int .i64 (errD l)]) ∧ (errD l ≠ 0 → pv = .pointer none) ∧ (errD l = 0 → ∃ g, pv = .pointer (some ⟨g, 0, none⟩) ∧ DataAt w' g (dL l) (dF l)) ∧ Below w.heap.size w w' := by
  obtain ⟨a, cap, rfl, hcap, hcl⟩ := hv
  have HV : Hid (BytesAt w.heap.size w (.slice a l.length cap) l) := ⟨_, cap, rfl, hcap, hcl⟩
  have HBY : Hid (ByL l) := hby
  have HLN : Hid (l.length ≤ 1000000) := hl
  obtain ⟨er, her⟩ : ∃ er, er = errD l := ⟨_, rfl⟩
  have HER : Hid (er = errD l) := her
  rw [← her]
  clear hcl hcap hby hl her
  go_enter Tryd.func17, Tryd.ntmps17
  go_wp2_with fail
  have HD0 : Hid (DataTo (w.alloc (.cells #[.pointer none, .pointer none, .pointer none, .pointer none] 45)) w.heap.size 0 (dL l) (dF l)) := ⟨fun _ => .pointer none, heap_new' w _, fun _ _ => ⟨none, rfl⟩, fun i hi => by omega⟩
  have HB0 : Hid (Below w.heap.size w (w.alloc (.cells #[.pointer none, .pointer none, .pointer none, .pointer none] 45))) := (Below.refl _ _).alloc (Nat.le_refl _) _
  obtain ⟨w1, hw1⟩ : ∃ w1, w1 = w.alloc (.cells #[.pointer none, .pointer none, .pointer none, .pointer none] 45) := ⟨_, rfl⟩
  obtain ⟨g, hg⟩ : ∃ g, g = w.heap.size := ⟨_, rfl⟩
  have HGW : Hid (w.heap.size ≤ g) := by show _ ≤ _; omega
  rw [← hw1] at HD0 HB0
  rw [← hw1, ← hg]
  rw [← hg] at HD0
  clear hw1 hg
  go_loopw [0, 13] (fun y x wr => ∃ k : Nat, k ≤ 4 ∧ x = .int .i64 k ∧ BytesAt w.heap.size wr y (restAt k l) ∧ DataTo wr g k (dL l) (dF l) ∧ (∀ j, j < k → okAt j l = true) ∧ Below w.heap.size w wr) (fun _ x _ => 4 - (intOf x).toNat)
  case atStart => exact ⟨0, Nat.zero_le _, rfl, HV.out.below HB0.out, HD0.out, fun j h => by omega, HB0.out⟩
  case round =>
    obtain ⟨k, hk, rfl, hy, hD, hno, hB⟩ := hrel
    have hsi := hB.size
    obtain ⟨a0, c0, rfl, hcc0, hcl0⟩ := hy
    obtain ⟨HY, HD, HB, HNO⟩ : Hid (BytesAt w.heap.size wr (.slice a0 (restAt k l).length c0) (restAt k l)) ∧ Hid (DataTo wr g k (dL l) (dF l)) ∧ Hid (Below w.heap.size w wr) ∧ Hid (∀ j, j < k → okAt j l = true) := ⟨⟨_, c0, rfl, hcc0, hcl0⟩, hD, hB, hno⟩
    clear hD hB HD0 HB0 hcc0 hcl0 hno
    by_cases hlt : k < 4
    · have hlt' : (k : Int) < 4 := by omega
      have HRB : Hid (ByL (restAt k l)) := rest_byL HBY.out k
      have HRL : Hid ((restAt k l).length ≤ 1000000) := Nat.le_trans (rest_le l k) HLN.out
      have HPB : Hid (ByL (partAt k l)) := part_byL HBY.out k
      have HPD : Hid (partAt k l = ((restAt k l).drop 4).take (cnB (restAt k l)) ∧ restAt (k + 1) l = (restAt k l).drop (4 + cnB (restAt k l))) := ⟨rfl, rfl⟩
      have HOKK : Hid (okAt k l = (cutOk (restAt k l) && okLb (partAt k l))) := rfl
      have HBAD : Hid (okAt k l = false → er = 2) := fun h => by
        rw [HER.out]
        unfold errD
        rw [if_neg]
        intro z
        have := (okD_at z).1 k hlt
        rw [h] at this
        cases this
      have HLD : Hid (dL l k = likeL (partAt k l) ∧ dF l k = firstL (partAt k l)) := ⟨rfl, rfl⟩
      obtain ⟨r, hr⟩ : ∃ r, r = restAt k l := ⟨_, rfl⟩
      obtain ⟨q, hq⟩ : ∃ q, q = partAt k l := ⟨_, rfl⟩
      rw [← hr] at HY HRB HRL HPD HOKK ⊢
      rw [← hq] at HPB HPD HOKK HLD
      clear hr hq
      go_wp2_with fail
      refine (cut_any w.heap.size r _ wr HY.out HRB.out HRL.out).mono ?_
      rintro e w2 ⟨v1, v2, rfl, hp2, hB2⟩
      have hs2 := hB2.size
      have HB2 : Hid (Below wr.heap.size wr w2) := hB2
      clear hB2
      cases hco : cutOk r with
      | false =>
        have e2 : er = 2 := HBAD.out (by rw [HOKK.out, hco]; rfl)
        subst e2
        clear hp2 hco
        go_wp2
        go_ret2
        first | exact ⟨_, rfl, fun _ => rfl, fun h => by omega, HB.out.trans (HB2.out.mono hsi)⟩ | exact ⟨_, rfl, rfl, HB.out.trans (HB2.out.mono hsi)⟩
      | true =>
        obtain ⟨hp1, hr1⟩ := hp2 hco
        rw [← HPD.out.1] at hp1
        rw [← HPD.out.2] at hr1
        obtain ⟨HP, HR⟩ : Hid (BytesAt w.heap.size w2 v1 q) ∧ Hid (BytesAt w.heap.size w2 v2 (restAt (k + 1) l)) := ⟨hp1, hr1⟩
        have HCO : Hid (cutOk r = true) := hco
        clear hp1 hr1 hco hp2
        go_wp2_with fail
        refine (load_any q v1 w2 (HP.out.mono (by omega)) HPB.out).mono ?_
        rintro e w3 ⟨pt, rfl, hn3, ht3, hB3⟩
        have hs3 := hB3.size
        have HB3 : Hid (Below wr.heap.size wr w3) := HB2.out.trans (hB3.mono hs2)
        have HR3 : Hid (BytesAt w.heap.size w3 v2 (restAt (k + 1) l)) := HR.out.below (hB3.mono (by omega))
        cases hcl : okLb q with
        | false =>
          have e2 : er = 2 := HBAD.out (by rw [HOKK.out, HCO.out, hcl]; rfl)
          have e3 : errL q = 2 := by unfold errL; rw [hcl]; rfl
          subst e2
          rw [e3]
          clear hn3 ht3 hB3 hcl e3
          go_wp2
          go_ret2
          first | exact ⟨_, rfl, fun _ => rfl, fun h => by omega, HB.out.trans (HB3.out.mono hsi)⟩ | exact ⟨_, rfl, rfl, HB.out.trans (HB3.out.mono hsi)⟩
        | true =>
          have e3 : errL q = 0 := by unfold errL; rw [hcl]; rfl
          have HOK : Hid (okAt k l = true) := by show _ = _; rw [HOKK.out, HCO.out, hcl]; rfl
          have hT := ht3 e3
          obtain ⟨gt, rfl⟩ := hT.ptr
          have HT : Hid (TrieAt w3.heap.size w3 (.pointer (some ⟨gt, 0, none⟩)) (dL l k) (dF l k)) := by rw [HLD.out.1, HLD.out.2]; exact hT
          have HD3 : Hid (DataTo w3 g k (dL l) (dF l)) := HD.out.below HB3.out
          obtain ⟨⟨u, hu⟩, hfz⟩ := HD3.out.cell hlt
          rw [e3]
          clear hn3 ht3 hB3 hcl e3 hT
          go_wp2_with fail
          have hBf : Below w.heap.size w3 (w3.setCell ⟨g, k, none⟩ (.pointer (some ⟨gt, 0, none⟩))) := (Below.refl _ _).setCell (show w.heap.size ≤ g from HGW.out) _
          go_roundw
          case rel => exact ⟨k + 1, by omega, by go_num, HR3.out.below hBf, HD3.out.store hlt HT.out (fun i hi => by
            rcases Nat.lt_or_ge i k with z | z
            · exact dfine HBY.out (HNO.out i z)
            · have : i = k := by omega
              subst this
              exact dfine HBY.out HOK.out), fun j hj => by
            rcases Nat.lt_or_ge j k with z | z
            · exact HNO.out j z
            · have : j = k := by omega
              subst this
              exact HOK.out, (HB.out.trans (HB3.out.mono hsi)).trans hBf⟩
          case measure => simp [intOf]; omega
    · obtain rfl : k = 4 := by omega
      have HDA : Hid (DataAt wr g (dL l) (dF l)) := HD.out.at
      obtain ⟨M, hM⟩ : ∃ M, M = (restAt 4 l).length := ⟨_, rfl⟩
      by_cases hz : M = 0
      · have e0 : er = 0 := by rw [HER.out]; unfold errD; rw [if_pos (okD_mk HNO.out (by omega))]
        subst e0
        rw [← hM, hz]
        clear hM hz HY HD HNO
        go_wp2
        go_ret2
        first | exact ⟨_, rfl, fun h => absurd rfl h, fun _ => ⟨g, rfl, HDA.out⟩, HB.out⟩ | exact ⟨_, rfl, ⟨g, rfl, HDA.out⟩, HB.out⟩
      · have e2 : er = 2 := by
          rw [HER.out]
          unfold errD
          rw [if_neg]
          intro z
          have := (okD_at z).2
          omega
        subst e2
        have hM1 : (0 : Int) < (M : Int) := by omega
        rw [← hM]
        clear hM hz HY HD HNO
        go_wp2
        go_ret2
        first | exact ⟨_, rfl, fun _ => rfl, fun h => by omega, HB.out⟩ | exact ⟨_, rfl, rfl, HB.out⟩
end Go.Proofs.YtpknmpgbaccffaaDoor
