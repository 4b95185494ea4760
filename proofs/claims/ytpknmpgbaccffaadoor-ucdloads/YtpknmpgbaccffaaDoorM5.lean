/-
  trie.Trie.Save: the bytes of a trie. Slices of bytes, and bytes as strings; a condition that grows within a region. Plain mathematics of Load: first blocks that are counted as they come, none left over, no two alike; the parts of bytes. trie.Trie.counted, unlike. trie.Load: the trie that bytes are. Slices of bytes that came in.
-/
import Derived.Test.YtpknmpgbaccffaaDoorM4
import Derived.Laws.BytesArg
namespace Go.Proofs.YtpknmpgbaccffaaDoor
open Go.RowKit
set_option linter.unusedVariables false

/-- The bytes of a trie by its parts. -/
def rawSave (like : List Int) (F : List (List Int)) : List Int := ((F.length : Int) - 1) :: (like ++ F.flatten)
theorem rawB (l : List Pp) : rawSave (likeB l) (firstB l) = saveL (blocksF (valP l)) := rfl
/-- The bytes up to the k-th first block. -/
def rawTo (like : List Int) (F : List (List Int)) (k : Nat) : List Int := ((F.length : Int) - 1) :: (like ++ (F.take k).flatten)
theorem rawTo_step {like : List Int} {F : List (List Int)} {k : Nat} (h : k < F.length) : rawTo like F (k + 1) = rawTo like F k ++ F[k] := by
  unfold rawTo
  rw [List.take_succ_eq_append_getElem h, List.flatten_append]
  simp
theorem rawTo_end (like : List Int) (F : List (List Int)) : rawTo like F F.length = rawSave like F := by
  unfold rawTo rawSave
  rw [List.take_length]
theorem rawTo_length {like : List Int} {F : List (List Int)} {k : Nat} (hf : Fine like F) (h : k ≤ F.length) : (rawTo like F k).length = 4353 + 256 * k := by
  unfold rawTo
  rw [List.length_cons, List.length_append, hf.len, flat_length (fun x hx => (hf.isB x (List.mem_of_mem_take hx)).1), List.length_take]
  have : min k F.length = k := by omega
  rw [this]; omega
theorem Tryd.undBy : Tryd.prog.underlying 30 = some (.slice 5) := by kernel_rfl

set_option maxRecDepth 100000 in
set_option maxHeartbeats 4000000 in
theorem save_any (like : List Int) (F : List (List Int)) (pv : Value) (w : World) (ht : TrieAt w.heap.size w pv like F) (hf : Fine like F) :
    Calls Tryd.prog 29 #[pv] w fun e w' => ∃ v, e = .returned v ∧ w'.ownsRow w.heap.size 5 1 v (4353 + 256 * F.length) (i8 (rawSave like F)) ∧ Below w.heap.size w w' := by
  obtain ⟨iY, hiY, hzY0, hzY1, hzY2⟩ := info_parts Tryd.infoByte
  have hzb := Tryd.zeroBlock
  obtain ⟨zb, hzB⟩ : ∃ zb, zb = (i8 zeroB).toArray := ⟨_, rfl⟩
  rw [← hzB] at hzb
  have HZS : Hid (zb.size = 256) := by show _ = _; rw [hzB, List.size_toArray, i8_length, zeroB_length]
  clear hzB
  obtain ⟨g, gb, cap, rfl, hg, hgb, hgc, hrg, hcap⟩ := ht
  have hfl := hf.le
  have hfp := hf.pos
  have hcf : w.cell? ⟨g, 4352, none⟩ = some (.slice (some ⟨gb, 0, none⟩) F.length cap) := cell_row hgc (trCells_at hf.len)
  have HLK : Hid (∀ w', Below w.heap.size w w' → ∀ j u, (i8 like)[j]? = some u → w'.cell? ((⟨g, 0, none⟩ : Addr).add j) = some u) := fun w' hw' j u hj => by
    rw [Addr.add_mid, Nat.zero_add]
    refine (hw'.cell (p := ⟨g, j, none⟩) hg).trans (cell_row hgc ?_)
    unfold trCells
    rw [List.getElem?_append_left (List.getElem?_eq_some_iff.1 hj).1]
    exact hj
  have HBL : Hid (∀ k, (h : k < F.length) → w.rangeAt gb (k * 256) (i8 F[k])) := fun k h j u hj => by
    have := hrg (k * 256 + j) u (cellsBl_at (isB_even hf.isB) h hj)
    rwa [Nat.zero_add] at this
  have HF : Hid (Fine like F) := hf
  have hn256 : ((F.length : Int) - 1) % 256 = (F.length : Int) - 1 := by omega
  have hn0 : 0 ≤ (F.length : Int) - 1 ∧ (F.length : Int) - 1 < 256 := by omega
  clear hgc hrg hf
  go_enter Tryd.func29, Tryd.ntmps29
  go_wp2_with (first | (at_make; refine wpList_make_own _ rfl _ _ 30 rfl w.heap.size 5 iY (.int .u8 0) 1 Tryd.undBy hiY hzY0 hzY1 _ _ _ (4353 + F.length * 256) rfl rfl (by omega) (by rw [hzY2]; omega) (by unfold maxLen; omega) (Nat.le_refl _) ?_; intro w1 ho1 hg1; have hB1 : Below w.heap.size w w1 := (Below.refl _ _).grown hg1 (Nat.le_refl _) (fun k e => by cases e); have hcf1 : w1.cell? ⟨g, 4352, none⟩ = some (.slice (some ⟨gb, 0, none⟩) F.length cap) := (hB1.cell (p := ⟨g, _, none⟩) hg).trans hcf; have HB1 : Hid (Below w.heap.size w w1) := hB1; have HO1 : Hid (w1.ownsRow w.heap.size 5 1 (.slice (some ⟨w.heap.size, 0, none⟩) 0 (4353 + F.length * 256)) 0 []) := ho1; have HO1a : Hid ((w1.alloc (.cells #[.int .u8 ((F.length : Int) - 1)] 5)).ownsRow w.heap.size 5 1 (.slice (some ⟨w.heap.size, 0, none⟩) 0 (4353 + F.length * 256)) 0 []) := ho1.alloc _; have HN1 : Hid ((w1.alloc (.cells #[.int .u8 ((F.length : Int) - 1)] 5)).heap[w1.heap.size]? = some (.cells #[.int .u8 ((F.length : Int) - 1)] 5 (0, 0))) := heap_new' w1 _; clear hB1 hg1 ho1) | (at_builtin; refine wpList_append_own _ rfl (.tmp 14) (.tmp 22) 30 rfl w.heap.size 5 iY (.int .u8 0) 1 1 Tryd.undBy hiY hzY0 hzY1 hzY2 rfl (by decide) _ _ _ rfl HO1a.out ⟨w1.heap.size, 0, none⟩ 1 1 [.int .u8 ((F.length : Int) - 1)] rfl rfl (World.news_of_block HN1.out) (by simp [Value.oneCell']) (by unfold maxLen; omega) (by omega) (by have := HB1.out.size; simp; omega) ?_; intro v2 w2 ho2 hg2 _; have hB2 : Below w.heap.size w w2 := (HB1.out.alloc HB1.out.size _).grown hg2 (by have := HB1.out.size; simp; omega) (fun k e => (HO1a.out.lt k e).1); have HO2 : Hid (w2.ownsRow w.heap.size 5 1 v2 (0 + 1) ([] ++ [.int .u8 ((F.length : Int) - 1)])) := ho2; have HB2 : Hid (Below w.heap.size w w2) := hB2; have hcf2 : w2.cell? ⟨g, 4352, none⟩ = some (.slice (some ⟨gb, 0, none⟩) F.length cap) := (hB2.cell (p := ⟨g, _, none⟩) hg).trans hcf; clear hB2 hg2 ho2 hcf1) | (at_builtin; refine wpList_append_own _ rfl (.tmp 24) (.tmp 28) 30 rfl w.heap.size 5 iY (.int .u8 0) 1 1 Tryd.undBy hiY hzY0 hzY1 hzY2 rfl (by decide) _ _ _ rfl HO2.out ⟨g, 0, none⟩ 4352 4352 (i8 like) rfl (by rw [i8_length, HF.out.len]) (HLK.out w2 HB2.out) (i8_one like) (by unfold maxLen; omega) (by omega) (by exact HB2.out.size) ?_; intro v3 w3 ho3 hg3 _; have hB3 : Below w.heap.size w w3 := HB2.out.grown hg3 HB2.out.size (fun k e => (HO2.out.lt k e).1); have HO3 : Hid (w3.ownsRow w.heap.size 5 1 v3 4353 (i8 (rawTo like F 0))) := (by have e1 : (0 + 1 + 4352) = 4353 := rfl; rw [e1] at ho3; have e2 : i8 (rawTo like F 0) = ([] ++ [Value.int .u8 ((F.length : Int) - 1)]) ++ i8 like := (by unfold rawTo i8; rw [List.take_zero]; simp); show World.ownsRow _ _ _ _ _ _ _; rw [e2]; exact ho3); have HB3 : Hid (Below w.heap.size w w3) := hB3; have hcf3 : w3.cell? ⟨g, 4352, none⟩ = some (.slice (some ⟨gb, 0, none⟩) F.length cap) := (hB3.cell (p := ⟨g, _, none⟩) hg).trans hcf; clear hB3 hg3 ho3 hcf2) | fail)
  clear hcf
  go_loopw [3, 35] (fun y x wr => ∃ k : Nat, k ≤ F.length ∧ x = .int .i64 k ∧ wr.ownsRow w.heap.size 5 1 y (4353 + 256 * k) (i8 (rawTo like F k)) ∧ Below w.heap.size w wr) (fun _ x _ => F.length - (intOf x).toNat)
  case atStart => exact ⟨0, Nat.zero_le _, rfl, HO3.out, HB3.out⟩
  case round =>
    obtain ⟨k, hk, rfl, hown, hB⟩ := hrel
    have hbs := hB.size
    obtain ⟨HOWN, HB⟩ : Hid (wr.ownsRow w.heap.size 5 1 u3 (4353 + 256 * k) (i8 (rawTo like F k))) ∧ Hid (Below w.heap.size w wr) := ⟨hown, hB⟩
    clear hown hcf3 HO3 HB3 HO2 HB2 HO1 HB1 HO1a HN1
    by_cases hlt : k < F.length
    · have hlt' : (k : Int) < (F.length : Int) := by omega
      obtain ⟨b, hb⟩ : ∃ b, b = F[k] := ⟨_, rfl⟩
      have hbB : IsB b := by rw [hb]; exact HF.out.isB _ (List.getElem_mem hlt)
      have hrb : wr.rangeAt gb (k * 256) (i8 b) := fun j u hj => (hB.cell (p := ⟨gb, k * 256 + j, none⟩) hgb).trans (HBL.out k hlt j u (by rw [← hb]; exact hj))
      have HST : Hid (rawTo like F (k + 1) = rawTo like F k ++ b) := by show _ = _; rw [rawTo_step hlt, hb]
      have HI : Hid ((Tryd.prog.info? 82).map (·.size) = some (i8 b).length) := by show _ = _; rw [i8_length, hbB.1]; exact Tryd.sizeBlock
      have HI2 : Hid ((Tryd.prog.info? 82).map (·.size) = some (i8 b).toArray.size) := by show _ = _; rw [List.size_toArray, i8_length, hbB.1]; exact Tryd.sizeBlock
      have HZ2 : Hid (zb.size = (i8 b).toArray.size) := by show _ = _; rw [HZS.out, List.size_toArray, i8_length, hbB.1]
      have HRB : Hid (wr.rangeAt gb (k * 256) (i8 b)) := hrb
      clear hb hrb hB
      obtain ⟨wa, hwa⟩ : ∃ wa, wa = (wr.alloc (.cells zb 82)).setRow wr.heap.size (i8 b).toArray := ⟨_, rfl⟩
      have hwa2 : wa = wr.alloc (.cells (i8 b).toArray 82) := by rw [hwa, World.setRow_alloc_new]
      have HWA : Hid (wa = (wr.alloc (.cells zb 82)).setRow wr.heap.size (i8 b).toArray) := hwa
      have HOA : Hid (wa.ownsRow w.heap.size 5 1 u3 (4353 + 256 * k) (i8 (rawTo like F k))) := by rw [hwa2]; exact HOWN.out.alloc _
      have HNA : Hid (∀ j u, (i8 b)[j]? = some u → wa.cell? ((⟨wr.heap.size, 0, none⟩ : Addr).add j) = some u) := fun j u hj => by
        rw [Addr.add_mid, Nat.zero_add, hwa2]
        exact cell_row (heap_new' wr _) hj
      have HSA : Hid (w.heap.size ≤ wa.heap.size) := by show _ ≤ _; rw [hwa2]; simp; omega
      have HBA : Hid (Below w.heap.size w wa) := by show Below _ _ _; rw [hwa2]; exact HB.out.alloc hbs _
      clear hwa hwa2
      go_wp2_with (first | (refine wpList_load_mid rfl 82 _ rfl gb (k * 256) rfl (i8 b) _ HRB.out Tryd.undB rfl HI.out ?_) | (refine wpList_store_row rfl 82 _ _ rfl wr.heap.size (i8 b).toArray rfl rfl 82 zb (heap_new' wr _) HI2.out HZ2.out (all_oneCell_toArray (i8_one b)) ?_; rw [← HWA.out]) | (at_builtin; refine wpList_append_own _ rfl (.tmp 39) (.tmp 40) 30 rfl w.heap.size 5 iY (.int .u8 0) 1 1 Tryd.undBy hiY hzY0 hzY1 hzY2 rfl (by decide) _ _ _ rfl HOA.out ⟨wr.heap.size, 0, none⟩ 256 256 (i8 b) rfl (by rw [i8_length, hbB.1]) HNA.out (i8_one b) (by unfold maxLen; omega) (by omega) HSA.out ?_; intro v4 w4 ho4 hg4 _) | fail)
      go_roundw
      case rel =>
        refine ⟨k + 1, by omega, by go_num, ?_, HBA.out.grown hg4 HSA.out (fun j e => (HOA.out.lt j e).1)⟩
        have e1 : 4353 + 256 * (k + 1) = 4353 + 256 * k + 256 := by omega
        rw [HST.out, i8_append, e1]
        exact ho4
      case measure => simp [intOf]; omega
    · have hlt' : ¬ ((k : Int) < (F.length : Int)) := by omega
      obtain rfl : k = F.length := by omega
      have HE : Hid (rawTo like F F.length = rawSave like F) := rawTo_end like F
      go_wp2
      go_ret
      exact ⟨u3, rfl, by rw [← HE.out]; exact HOWN.out, HB.out⟩
end Go.Proofs.YtpknmpgbaccffaaDoor

namespace Go.Proofs.YtpknmpgbaccffaaDoor
open Go.RowKit
set_option linter.unusedVariables false

/-- The slice value v holds the bytes l, in a block below n. -/
def BytesAt (n : Nat) (w : World) (v : Value) (l : List Int) : Prop :=
  ∃ a cap, v = .slice a l.length cap ∧ l.length ≤ cap ∧ ∀ i, (h : i < l.length) → ∃ g off, a = some ⟨g, off, none⟩ ∧ g < n ∧ w.cell? ⟨g, off + i, none⟩ = some (.int .u8 l[i])
theorem BytesAt.below {n : Nat} {w w' : World} {v : Value} {l : List Int} (h : BytesAt n w v l) (hb : Below n w w') : BytesAt n w' v l := by
  obtain ⟨a, cap, rfl, hc, hi⟩ := h
  refine ⟨a, cap, rfl, hc, fun i hlt => ?_⟩
  obtain ⟨g, off, rfl, hg, h0⟩ := hi i hlt
  exact ⟨g, off, rfl, hg, (hb.cell (p := ⟨g, _, none⟩) hg).trans h0⟩
theorem BytesAt.mono {n m : Nat} {w : World} {v : Value} {l : List Int} (h : BytesAt n w v l) (hm : n ≤ m) : BytesAt m w v l := by
  obtain ⟨a, cap, rfl, hc, hi⟩ := h
  refine ⟨a, cap, rfl, hc, fun i hlt => ?_⟩
  obtain ⟨g, off, rfl, hg, h0⟩ := hi i hlt
  exact ⟨g, off, rfl, by omega, h0⟩
theorem bytes_of_row {w : World} {base : Nat} {v : Value} {l : List Int} (h : w.ownsRow base 5 1 v l.length (i8 l)) : BytesAt w.heap.size w v l := by
  rcases h.2 with ⟨rfl, h0⟩ | ⟨g, cap, cur, rfl, hb, hg, hc, hm, hs, ht⟩
  · exact ⟨none, 0, by rw [h0], by omega, fun i hi => by omega⟩
  · refine ⟨_, cap, rfl, hc, fun i hi => ⟨g, 0, rfl, heap_lt hg, ?_⟩⟩
    have := h.cells (g := g) rfl i (.int .u8 l[i]) (i8_get hi)
    rw [Addr.add_mid] at this
    exact this
theorem wpAnyB_mono {P : Program} {ops : Array Oper} {Q : Exit → Act → World → Prop} {md : Region.Mode} {S S' : World → Prop} {bad : List Nat} (h : ∀ w, S' w → S w) : ∀ {fuel : Nat} {listed : Array Bool} {a : Act} {w : World}, wpAnyB P md ops Q S' bad fuel listed a w → wpAnyB P md ops Q S bad fuel listed a w
  | 0, _, _, _, k => k
  | fuel + 1, _, _, _, k => ⟨k.1, fun i hi => wpOp_mono (fun a' w' h' => ⟨fun q => h w' (h'.1 q), wpAnyB_mono h h'.2⟩) (k.2 i hi)⟩
theorem yields_convert {P : Program} {ops : Array Oper} {S : World → Prop} {op : Oper} {a : Act} (hw : Region.wanted op (yielded ops a.tmps) = true) {src dst : TypeId} {x : Operand} (ho : op.op = .convert src dst x) {v res : Value}
    (hx : a.eval x = v) (hS : ∀ w, S w → (convert src dst v).run P w = .ok res w) : YieldsIf P ops S op res a :=
  .inl ⟨hw, fun w hw' => by
    have h := hS w hw'
    unfold execOp
    simp [ho, hx, h, Result.andThen]⟩
theorem BytesAt.conv {n : Nat} {w : World} {v : Value} {l : List Int} (h : BytesAt n w v l) : (convert 30 9 v).run Tryd.prog w = .ok (.string (strOfNums l)) w := by
  obtain ⟨a, cap, rfl, hc, hi⟩ := h
  by_cases h0 : l.length = 0
  · obtain rfl : l = [] := List.length_eq_zero_iff.1 h0
    cases a with
    | none =>
      rw [run_convert_bytes_nil w 30 5 Tryd.underlying30 Tryd.underlying5 _ _ 9 Tryd.underlying9]
      rfl
    | some ad =>
      have hl : (loadCells ad 0).run Tryd.prog w = .ok (([] : List Int).map (Value.int .u8)).toArray w := by
        simpa using run_loadCells_list (P := Tryd.prog) w ad [] (fun j v hj => by simp at hj)
      show (convert 30 9 (.slice (some ad) 0 cap)).run Tryd.prog w = _
      rw [run_convert_bytes_string w 30 9 5 _ 0 cap Tryd.underlying30 Tryd.underlying5 Tryd.underlying9, run_bytesToString w _ 0 cap [] hl, foldl_push_bytes]
      simp [strOfNums, ByteArray.empty, ByteArray.emptyWithCapacity]
      rfl
  · obtain ⟨g, off, rfl, _, _⟩ := hi 0 (by omega)
    refine run_convert_bytes_arg w 30 5 Tryd.underlying30 Tryd.underlying5 g off l.length cap l rfl (fun i hlt => ?_) 9 Tryd.underlying9
    obtain ⟨g', off', e, _, hcc⟩ := hi i hlt
    obtain ⟨rfl, rfl⟩ : g = g' ∧ off = off' := by simpa using e
    rw [hcc]
    simp [hlt]
end Go.Proofs.YtpknmpgbaccffaaDoor

namespace Go.Proofs.YtpknmpgbaccffaaDoor
open Go.RowKit
set_option linter.unusedVariables false

def ByL (l : List Int) : Prop := ∀ x ∈ l, 0 ≤ x ∧ x ≤ 255
/-- Counted as they come. -/
def cntFrom : Int → List Int → Option Int
  | m, [] => some m
  | m, n :: l => if m < n then none else if n = m then cntFrom (m + 1) l else cntFrom m l
def cnt1 (m n : Int) : Option Int := if m < n then none else if n = m then some (m + 1) else some m
theorem cnt_snoc : ∀ (l : List Int) (m n : Int), cntFrom m (l ++ [n]) = (cntFrom m l).bind (fun k => cnt1 k n)
  | [], m, n => by
    show cntFrom m [n] = cnt1 m n
    unfold cntFrom cnt1
    split
    · rfl
    · split <;> rfl
  | x :: l, m, n => by
    show cntFrom m (x :: (l ++ [n])) = _
    unfold cntFrom
    split
    · rfl
    · split
      · exact cnt_snoc l (m + 1) n
      · exact cnt_snoc l m n
theorem cnt_none : ∀ (l t : List Int) (m : Int), cntFrom m l = none → cntFrom m (l ++ t) = none
  | [], t, m, h => by cases h
  | x :: l, t, m, h => by
    unfold cntFrom at h
    show cntFrom m (x :: (l ++ t)) = none
    unfold cntFrom
    by_cases q : m < x
    · rw [if_pos q]
    · rw [if_neg q] at h ⊢
      by_cases q2 : x = m
      · rw [if_pos q2] at h ⊢; exact cnt_none l t (m + 1) h
      · rw [if_neg q2] at h ⊢; exact cnt_none l t m h
theorem cnt_bounds : ∀ (l : List Int) (m k : Int), cntFrom m l = some k → m ≤ k ∧ k ≤ m + l.length ∧ ∀ x ∈ l, x < k
  | [], m, k, h => by
    obtain rfl : m = k := by simpa [cntFrom] using h
    exact ⟨Int.le_refl _, by simp, fun x hx => by cases hx⟩
  | x :: l, m, k, h => by
    unfold cntFrom at h
    by_cases q : m < x
    · rw [if_pos q] at h; cases h
    · rw [if_neg q] at h
      by_cases q2 : x = m
      · rw [if_pos q2] at h
        obtain ⟨h1, h2, h3⟩ := cnt_bounds l (m + 1) k h
        refine ⟨by omega, by simp; omega, fun y hy => ?_⟩
        rcases List.mem_cons.1 hy with e | e
        · rw [e]; omega
        · exact h3 y e
      · rw [if_neg q2] at h
        obtain ⟨h1, h2, h3⟩ := cnt_bounds l m k h
        refine ⟨by omega, by simp; omega, fun y hy => ?_⟩
        rcases List.mem_cons.1 hy with e | e
        · rw [e]; omega
        · exact h3 y e
/-- The numbers of likeOf are counted as they come. -/
theorem cnt_like (bs : List (List Int)) : ∀ i, i ≤ bs.length → cntFrom 0 (((likeOf bs).take i).map (fun k : Nat => (k : Int))) = some ((firstsOf (bs.take i)).length : Int)
  | 0, _ => by simp [cntFrom, firstsOf, firstsF]
  | i + 1, h => by
    have hi : i < bs.length := h
    have hl : i < (likeOf bs).length := by rw [like_length]; exact hi
    obtain ⟨h1, h2⟩ := firsts_step hi
    rw [List.take_succ_eq_append_getElem hl, List.map_append, List.map_cons, List.map_nil, cnt_snoc, cnt_like bs i (by omega), h2, h1]
    show cnt1 _ _ = _
    unfold cnt1
    by_cases q : bs[i] ∈ firstsOf (bs.take i)
    · have e1 : addF (firstsOf (bs.take i)) bs[i] = firstsOf (bs.take i) := addF_of_mem q
      have e2 := List.idxOf_lt_length_of_mem q
      rw [e1, if_neg (by omega), if_neg (by omega)]
    · have e1 : (addF (firstsOf (bs.take i)) bs[i]).idxOf bs[i] = (firstsOf (bs.take i)).length := idx_addF q
      have e2 : (addF (firstsOf (bs.take i)) bs[i]).length = (firstsOf (bs.take i)).length + 1 := by rw [addF_new q]; simp
      rw [e1, e2, if_neg (by omega), if_pos rfl]
      rfl

/-- The parts of bytes. -/
def cntL (l : List Int) : Nat := (l[0]?.getD 0).toNat + 1
def likeL (l : List Int) : List Int := (l.drop 1).take 4352
def blkL (l : List Int) (i : Nat) : List Int := (l.drop (4353 + 256 * i)).take 256
def firstL (l : List Int) : List (List Int) := (List.range (cntL l)).map (blkL l)
def lenL (l : List Int) : Prop := l ≠ [] ∧ l.length = 4353 + 256 * cntL l
def okL (l : List Int) : Prop := lenL l ∧ cntFrom 0 (likeL l) = some (cntL l : Int) ∧ (firstsOf (firstL l)).length = cntL l
theorem firstL_length (l : List Int) : (firstL l).length = cntL l := by unfold firstL; rw [List.length_map, List.length_range]
theorem likeL_length {l : List Int} (h : lenL l) : (likeL l).length = 4352 := by
  unfold likeL
  rw [List.length_take, List.length_drop, h.2]; omega
theorem blkL_length {l : List Int} (h : lenL l) {i : Nat} (hi : i < cntL l) : (blkL l i).length = 256 := by
  unfold blkL
  rw [List.length_take, List.length_drop, h.2]
  have : 256 * (i + 1) ≤ 256 * cntL l := Nat.mul_le_mul_left 256 hi
  omega
theorem ByL.take {l : List Int} (h : ByL l) (n : Nat) : ByL (l.take n) := fun x hx => h x (List.mem_of_mem_take hx)
theorem ByL.drop {l : List Int} (h : ByL l) (n : Nat) : ByL (l.drop n) := fun x hx => h x (List.mem_of_mem_drop hx)
theorem firstL_isB {l : List Int} (h : lenL l) (hb : ByL l) : ∀ b ∈ firstL l, IsB b := fun b hm => by
  obtain ⟨i, hi, rfl⟩ := List.mem_map.1 hm
  exact ⟨blkL_length h (List.mem_range.1 hi), (hb.drop _).take _⟩
theorem cntL_le {l : List Int} (hb : ByL l) : cntL l ≤ 256 := by
  unfold cntL
  cases h : l[0]? with
  | none => simp
  | some x =>
    have := hb x (List.mem_of_getElem? h)
    simp only [Option.getD_some]
    omega
theorem fineL {l : List Int} (hb : ByL l) (h : okL l) : Fine (likeL l) (firstL l) where
  len := likeL_length h.1
  lt := fun x hx => by
    have h1 := (cnt_bounds _ _ _ h.2.1).2.2 x hx
    have h2 := ((hb.drop 1).take 4352) x hx
    rw [firstL_length]
    exact ⟨h2.1, h1⟩
  isB := firstL_isB h.1 hb
  pos := by rw [firstL_length]; unfold cntL; omega
  le := by rw [firstL_length]; exact cntL_le hb
theorem flat_blks (l : List Int) : ∀ n, ((List.range n).map (blkL l)).flatten = (l.drop 4353).take (256 * n)
  | 0 => by simp
  | n + 1 => by
    rw [List.range_succ, List.map_append, List.flatten_append, flat_blks l n]
    have e : blkL l n = ((l.drop 4353).drop (256 * n)).take 256 := by unfold blkL; rw [List.drop_drop]
    simp only [List.map_cons, List.map_nil, List.flatten_cons, List.flatten_nil, List.append_nil]
    rw [e, Nat.mul_add, Nat.mul_one, List.take_add]
/-- What is loaded is saved as it stood there. -/
theorem raw_back {l : List Int} (hb : ByL l) (h : lenL l) : rawSave (likeL l) (firstL l) = l := by
  unfold rawSave
  rw [firstL_length]
  unfold firstL
  rw [flat_blks, List.take_of_length_le (by rw [List.length_drop, h.2]; omega)]
  cases l with
  | nil => exact absurd rfl h.1
  | cons x t =>
    have hx := hb x (by simp)
    have e1 : ((cntL (x :: t) : Nat) : Int) - 1 = x := by
      unfold cntL
      simp only [List.getElem?_cons_zero, Option.getD_some]
      omega
    have e2 : likeL (x :: t) = t.take 4352 := rfl
    have e3 : (x :: t).drop 4353 = t.drop 4352 := rfl
    rw [e1, e2, e3, List.take_append_drop]
theorem nodup_firsts {F : List (List Int)} : F.Nodup → firstsOf F = F := by
  have key : ∀ (F acc : List (List Int)), (acc ++ F).Nodup → firstsF acc F = acc ++ F := by
    intro F
    induction F with
    | nil => intro acc _; simp [firstsF]
    | cons b F ih =>
      intro acc h
      have hb : ¬ b ∈ acc := by
        intro q
        have := List.nodup_append.1 h
        exact this.2.2 b q b (by simp) rfl
      show firstsF (addF acc b) F = _
      rw [addF_new hb, ih (acc ++ [b]) (by simpa using h)]
      simp
  intro h
  exact (key F [] (by simpa using h)).trans (by simp)
/-- What was saved is loaded. -/
theorem saved_parts {bs : List (List Int)} (he : Even bs) (hl : bs.length = 4352) : cntL (saveL bs) = (firstsOf bs).length ∧ likeL (saveL bs) = (likeOf bs).map (fun k : Nat => (k : Int)) ∧ firstL (saveL bs) = firstsOf bs ∧ lenL (saveL bs) := by
  have hp : 1 ≤ (firstsOf bs).length := firsts_pos (fun e => by rw [e] at hl; simp at hl)
  have hc : cntL (saveL bs) = (firstsOf bs).length := by
    unfold cntL saveL
    simp only [List.getElem?_cons_zero, Option.getD_some]
    omega
  have h2 : likeL (saveL bs) = (likeOf bs).map (fun k : Nat => (k : Int)) := by
    unfold likeL saveL
    rw [List.drop_succ_cons, List.drop_zero, List.take_append_of_le_length (by rw [List.length_map, like_length, hl]; omega), List.take_of_length_le (by rw [List.length_map, like_length, hl]; omega)]
  refine ⟨hc, h2, ?_, ⟨(fun e => by unfold saveL at e; cases e), by rw [save_length he hl, hc]⟩⟩
  unfold firstL
  rw [hc]
  apply List.ext_getElem
  · rw [List.length_map, List.length_range]
  · intro i h3 h4
    rw [List.getElem_map, List.getElem_range]
    exact save_block he hl h4
theorem okL_save {bs : List (List Int)} (he : Even bs) (hl : bs.length = 4352) : okL (saveL bs) := by
  obtain ⟨h1, h2, h3, h4⟩ := saved_parts he hl
  refine ⟨h4, ?_, ?_⟩
  · rw [h1, h2]
    have := cnt_like bs bs.length (Nat.le_refl _)
    rw [List.take_of_length_le (by rw [like_length]; exact Nat.le_refl _), List.take_length] at this
    exact this
  · rw [h3, nodup_firsts (firsts_nodup bs), h1]
end Go.Proofs.YtpknmpgbaccffaaDoor

namespace Go.Proofs.YtpknmpgbaccffaaDoor
open Go.RowKit
set_option linter.unusedVariables false

theorem Tryd.undL8 : Tryd.prog.underlying 77 = some (.array 4352 5) := by kernel_rfl

set_option maxRecDepth 100000 in
set_option maxHeartbeats 2000000 in
theorem counted_any (like : List Int) (F : List (List Int)) (pv : Value) (w : World) (ht : TrieAt w.heap.size w pv like F) (hl : like.length = 4352) (hb : ByL like) :
    Calls Tryd.prog 47 #[pv] w fun e w' => e = .returned (.bool (decide (cntFrom 0 like = some (F.length : Int)))) ∧ Below w.heap.size w w' := by
  obtain ⟨g, gb, cap, rfl, hg, hgb, hgc, hrg, hcap⟩ := ht
  have hcf : w.cell? ⟨g, 4352, none⟩ = some (.slice (some ⟨gb, 0, none⟩) F.length cap) := cell_row hgc (trCells_at hl)
  have hR : w.rangeAt g 0 (i8 like) := fun j u hj => by
    rw [Nat.zero_add]
    refine cell_row hgc ?_
    unfold trCells
    rw [List.getElem?_append_left (List.getElem?_eq_some_iff.1 hj).1]
    exact hj
  have HI : Hid ((Tryd.prog.info? 77).map (·.size) = some (i8 like).length) := by show _ = _; rw [i8_length, hl]; exact Tryd.sizeLike8
  have HR : Hid (w.rangeAt g 0 (i8 like)) := hR
  have HLI : Hid (∀ i, (h : i < 4352) → (i8 like).toArray[i]? = some (.int .u8 (like[i]'(by omega)))) := fun i h => by
    rw [List.getElem?_toArray]; exact i8_get (by omega)
  obtain ⟨res, hres⟩ : ∃ res, res = decide (cntFrom 0 like = some (F.length : Int)) := ⟨_, rfl⟩
  rw [← hres]
  have HRES : Hid (res = decide (cntFrom 0 like = some (F.length : Int))) := hres
  have HL : Hid (like.length = 4352) := hl
  clear hgc hrg hR hres
  go_enter Tryd.func47, Tryd.ntmps47
  go_wp2_with (first | (refine wpList_load_mid rfl 77 _ rfl g 0 rfl (i8 like) _ HR.out Tryd.undL8 rfl HI.out ?_) | fail)
  obtain ⟨LI, hLI⟩ : ∃ LI, LI = (i8 like).toArray := ⟨_, rfl⟩
  have HLD : Hid (LI = (i8 like).toArray) := hLI
  rw [← hLI]
  clear hLI
  go_loopw [3, 10] (fun y x wr => ∃ k m : Nat, k ≤ 4352 ∧ x = .int .i64 k ∧ y = .int .i64 m ∧ m ≤ k ∧ cntFrom 0 (like.take k) = some (m : Int) ∧ wr = w) (fun _ x _ => 4352 - (intOf x).toNat)
  case atStart => exact ⟨0, 0, Nat.zero_le _, rfl, rfl, Nat.le_refl _, rfl, rfl⟩
  case round =>
    obtain ⟨k, m, hk, rfl, rfl, hmk, hcnt, rfl⟩ := hrel
    have HCN : Hid (cntFrom 0 (like.take k) = some (m : Int)) := hcnt
    clear hcnt
    by_cases hlt : k < 4352
    · have hlt' : (k : Int) < 4352 := by omega
      have hkl : k < like.length := by omega
      obtain ⟨n, hn⟩ : ∃ n, n = like[k] := ⟨_, rfl⟩
      have hnb := hb like[k] (List.getElem_mem hkl)
      rw [← hn] at hnb
      have hIX : ∀ w', (Instr.index 77 (.agg LI) (.int .i64 (k : Int))).run Tryd.prog w' = .ok (.int .u8 n) w' := fun w' => run_index_at Tryd.undL8 Tryd.undU Tryd.sizeByte hlt (by rw [HLD.out, HLI.out k hlt, hn]) rfl w'
      have HTK : Hid (like.take (k + 1) = like.take k ++ [n]) := by show _ = _; rw [List.take_succ_eq_append_getElem hkl, hn]
      have HST : Hid (cntFrom 0 (like.take (k + 1)) = cnt1 m n) := by show _ = _; rw [HTK.out, cnt_snoc, HCN.out]; rfl
      clear hn
      obtain ⟨n1, n2⟩ := hnb
      by_cases q1 : (m : Int) < n
      · have e0 : res = false := by
          rw [HRES.out]
          have : cntFrom 0 like = none := by
            have h1 : cntFrom 0 (like.take (k + 1)) = none := by rw [HST.out]; unfold cnt1; rw [if_pos q1]
            have h2 := cnt_none _ (like.drop (k + 1)) _ h1
            rwa [List.take_append_drop] at h2
          rw [this]; rfl
        subst e0
        go_wp2
        go_ret
        exact ⟨rfl, Below.refl _ _⟩
      · by_cases q2 : n = (m : Int)
        · subst q2
          go_wp2
          go_roundw
          case rel => exact ⟨k + 1, m + 1, by omega, by go_num, by go_num, by omega, by rw [HST.out]; unfold cnt1; rw [if_neg q1, if_pos rfl]; simp, trivial⟩
          case measure => simp [intOf]; omega
        · have q3 : ¬ (n = (m : Int)) := q2
          go_wp2
          go_roundw
          case rel => exact ⟨k + 1, m, by omega, by go_num, rfl, by omega, by rw [HST.out]; unfold cnt1; rw [if_neg q1, if_neg q2], trivial⟩
          case measure => simp [intOf]; omega
    · obtain rfl : k = 4352 := by omega
      have e1 : like.take 4352 = like := List.take_of_length_le (by omega)
      have hc := HCN.out
      rw [e1] at hc
      have HE : Hid (res = ((m : Int) == (F.length : Int))) := by
        show _ = _
        rw [HRES.out, hc]
        by_cases e : (m : Int) = (F.length : Int)
        · rw [e]; simp
        · have e2 : ((m : Int) == (F.length : Int)) = false := by simpa using e
          rw [e2]
          simpa using e
      clear hc e1
      go_wp2
      go_ret
      refine ⟨?_, Below.refl _ _⟩
      rw [HE.out]
      rfl

/-- len in a region that draws its order. -/
theorem yields_len {P : Program} {ops : Array Oper} {S : World → Prop} {op : Oper} {a : Act} (hw : Region.wanted op (yielded ops a.tmps) = true) {t : TypeId} {m : Operand} (ho : op.op = .call { callee := .builtin .len, args := #[m], argTypes := #[t] }) {mv res : Value}
    (hm : a.eval m = mv) (hS : ∀ w, S w → ∀ ty, (Builtin.len_ #[t] ty #[mv]).run P w = .ok res w) : YieldsIf P ops S op res a :=
  .inl ⟨hw, fun w hw' => by
    have h := hS w hw' op.type
    unfold execOp
    simp [ho, resolve, invoke, builtin, hm, h, Result.andThen]⟩
/-- What the map of unlike says. -/
def Kn (D : DataW Unit) (F : List (List Int)) : Prop := ∀ b, IsB b → (Maps.has D (kB b) = true ↔ b ∈ F)
theorem kn_put {D : DataW Unit} {F : List (List Int)} {b : List Int} (d : DataW Unit) (hD : Maps.IsMap D) (h : Kn D F) (hb : IsB b) : Kn (D.put (kB b) d) (F ++ [b]) := fun x hx => by
  by_cases e : x = b
  · subst e
    simp [Maps.has_put_same hD (kB_key _)]
  · have hne : kB x ≠ kB b := fun q => e (Tryd.kB_inj hx hb q)
    rw [Maps.has_put_other hne, h x hx]
    simp [e]

set_option maxRecDepth 100000 in
set_option maxHeartbeats 4000000 in
theorem unlike_any (like : List Int) (F : List (List Int)) (pv : Value) (w : World) (ht : TrieAt w.heap.size w pv like F) (hl : like.length = 4352) (hF : ∀ b ∈ F, IsB b) (hlen : F.length ≤ 256) :
    Calls Tryd.prog 48 #[pv] w fun e w' => e = .returned (.bool (decide ((firstsOf F).length = F.length))) ∧ Below w.heap.size w w' := by
  have hmm := @run_makeMap Tryd.prog
  have hzb := Tryd.zeroBlock
  obtain ⟨zb, hzB⟩ : ∃ zb, zb = (i8 zeroB).toArray := ⟨_, rfl⟩
  rw [← hzB] at hzb
  have HZS : Hid (zb.size = 256) := by show _ = _; rw [hzB, List.size_toArray, i8_length, zeroB_length]
  clear hzB
  obtain ⟨g, gb, cap, rfl, hg, hgb, hgc, hrg, hcap⟩ := ht
  have hcf : ∀ w', Below w.heap.size w w' → w'.cell? ⟨g, 4352, none⟩ = some (.slice (some ⟨gb, 0, none⟩) F.length cap) := fun w' hw' => (hw'.cell (p := ⟨g, _, none⟩) hg).trans (cell_row hgc (trCells_at hl))
  have HCF : Hid (∀ w', Below w.heap.size w w' → w'.cell? ⟨g, 4352, none⟩ = some (.slice (some ⟨gb, 0, none⟩) F.length cap)) := hcf
  have HBL : Hid (∀ k, (h : k < F.length) → w.rangeAt gb (k * 256) (i8 F[k])) := fun k h j u hj => by
    have := hrg (k * 256 + j) u (cellsBl_at (isB_even hF) h hj)
    rwa [Nat.zero_add] at this
  have hB0 : Below w.heap.size w (w.alloc (.map #[] 0)) := (Below.refl _ _).alloc (Nat.le_refl _) _
  have hcf0 := hcf _ hB0
  have HB0 : Hid (Below w.heap.size w (w.alloc (.map #[] 0))) := hB0
  have HM0 : Hid ((w.alloc (.map #[] 0)).ownsMap Tryd.prog 82 (plainElem (H := Unit) Tryd.prog 3) w.heap.size 0 (.map [])) := World.ownsMap_made w _ _ _
  obtain ⟨res, hres⟩ : ∃ res, res = decide ((firstsOf F).length = F.length) := ⟨_, rfl⟩
  rw [← hres]
  have HRES : Hid (res = decide ((firstsOf F).length = F.length)) := hres
  clear hgc hrg hcf hB0 hres
  go_enter Tryd.func48, Tryd.ntmps48
  go_wp2
  clear hcf0
  go_loopw [12] (fun x wr => ∃ k : Nat, k ≤ F.length ∧ x = .int .i64 k ∧ Below w.heap.size w wr ∧ w.heap.size < wr.heap.size ∧ ∃ D, wr.ownsMap Tryd.prog 82 (plainElem (H := Unit) Tryd.prog 3) w.heap.size k D ∧ Kn D (F.take k) ∧ Maps.size D = (firstsOf (F.take k)).length) (fun x _ => F.length - (intOf x).toNat)
  case atStart => exact ⟨0, Nat.zero_le _, rfl, HB0.out, by simp, .map [], HM0.out, fun b hb => by simp [Maps.has], by simp [Maps.size, firstsOf, firstsF]⟩
  case round =>
    obtain ⟨k, hk, rfl, hB, hbs, D, hmp, hkn, hsz⟩ := hrel
    obtain ⟨HB, HMP, HKN, HSZ⟩ : Hid (Below w.heap.size w wr) ∧ Hid (wr.ownsMap Tryd.prog 82 (plainElem (H := Unit) Tryd.prog 3) w.heap.size k D) ∧ Hid (Kn D (F.take k)) ∧ Hid (Maps.size D = (firstsOf (F.take k)).length) := ⟨hB, hmp, hkn, hsz⟩
    clear hmp hkn hsz HM0 HB0
    by_cases hlt : k < F.length
    · have hlt' : (k : Int) < (F.length : Int) := by omega
      obtain ⟨b, hb⟩ : ∃ b, b = F[k] := ⟨_, rfl⟩
      have hbB : IsB b := by rw [hb]; exact hF _ (List.getElem_mem hlt)
      have HRB : Hid (wr.rangeAt gb (k * 256) (i8 b)) := fun j u hj => (hB.cell (p := ⟨gb, k * 256 + j, none⟩) hgb).trans (HBL.out k hlt j u (by rw [← hb]; exact hj))
      have HTK : Hid (F.take (k + 1) = F.take k ++ [b]) := by show _ = _; rw [List.take_succ_eq_append_getElem hlt, hb]
      have HI : Hid ((Tryd.prog.info? 82).map (·.size) = some (i8 b).length) := by show _ = _; rw [i8_length, hbB.1]; exact Tryd.sizeBlock
      have HI2 : Hid ((Tryd.prog.info? 82).map (·.size) = some (i8 b).toArray.size) := by show _ = _; rw [List.size_toArray, i8_length, hbB.1]; exact Tryd.sizeBlock
      have HZ2 : Hid (zb.size = (i8 b).toArray.size) := by show _ = _; rw [HZS.out, List.size_toArray, i8_length, hbB.1]
      obtain ⟨wa, hwa⟩ : ∃ wa, wa = (wr.alloc (.cells zb 82)).setRow wr.heap.size (i8 b).toArray := ⟨_, rfl⟩
      have hwa2 : wa = wr.alloc (.cells (i8 b).toArray 82) := by rw [hwa, World.setRow_alloc_new]
      have HWA : Hid (wa = (wr.alloc (.cells zb 82)).setRow wr.heap.size (i8 b).toArray) := hwa
      have HRA : Hid (wa.rangeAt wr.heap.size 0 (i8 b)) := by rw [hwa2]; exact rangeAt_row (heap_new' wr _)
      have HMA : Hid (wa.ownsMap Tryd.prog 82 (plainElem (H := Unit) Tryd.prog 3) w.heap.size k D) := by rw [hwa2]; exact HMP.out.alloc _
      have HSA : Hid (w.heap.size < wa.heap.size) := by show _ < _; rw [hwa2]; simp; omega
      have HBA : Hid (Below w.heap.size w wa) := by show Below _ _ _; rw [hwa2]; exact HB.out.alloc (by omega) _
      clear hwa hwa2 hb hB
      go_wp2_with (first | (refine wpList_load_mid rfl 82 _ rfl gb (k * 256) rfl (i8 b) _ HRB.out Tryd.undB rfl HI.out ?_) | (refine wpList_store_row rfl 82 _ _ rfl wr.heap.size (i8 b).toArray rfl rfl 82 zb (heap_new' wr _) HI2.out HZ2.out (all_oneCell_toArray (i8_one b)) ?_; rw [← HWA.out]) | (refine wpList_load_mid rfl 82 _ rfl wr.heap.size 0 rfl (i8 b) _ HRA.out Tryd.undB rfl HI.out ?_) | (refine wpList_mapUpdate_own _ rfl _ _ _ 90 rfl 82 3 Tryd.keyLawB Tryd.undM _ w.heap.size k D rfl HMA.out (by unfold maxLen; omega) _ _ (kB b) rfl rfl (Tryd.keyBlock hbB) (.lit (.int .i64 (k : Int))) [] (plainElem_int Tryd.undI (WalkArith.wf_i64 (by omega))) ?_; intro w1 hm1 hg1) | fail)
      go_roundw
      case rel =>
        have hg1s := hg1.size
        refine ⟨k + 1, by omega, by go_num, HBA.out.grown hg1 (by have := HSA.out; omega) (fun j e => by
          have : w.heap.size = j := by simpa using e
          omega), by have := HSA.out; omega, _, hm1, ?_, ?_⟩
        · rw [HTK.out]; exact kn_put _ HMA.out.isMap HKN.out hbB
        · rw [Maps.size_put (HMA.out.tidy Tryd.keyLawB), HTK.out, firsts_snoc, HSZ.out]
          by_cases q : b ∈ F.take k
          · rw [if_pos ((HKN.out b hbB).2 q), if_pos q]
          · rw [if_neg (fun z => q ((HKN.out b hbB).1 z)), if_neg q]; simp
      case measure => simp [intOf]; omega
    · have hlt' : ¬ ((k : Int) < (F.length : Int)) := by omega
      have ek : F.take k = F := List.take_of_length_le (by omega)
      obtain ⟨nD, hnD⟩ : ∃ nD : Nat, nD = Maps.size D := ⟨_, rfl⟩
      have HE : Hid (res = ((nD : Int) == (F.length : Int))) := by
        show _ = _
        rw [HRES.out, hnD, HSZ.out, ek]
        by_cases e : (firstsOf F).length = F.length
        · rw [e]; simp
        · have e2 : (((firstsOf F).length : Int) == (F.length : Int)) = false := by simp; omega
          rw [e2]; simpa using e
      have HLN : Hid (∀ w', Below wr.heap.size wr w' → ∀ ty, (Builtin.len_ #[90] ty #[.map (some w.heap.size)]).run Tryd.prog w' = .ok (.int .i64 (nD : Int)) w') := fun w' hw' ty => by rw [hnD]; exact (ownsMap_below HMP.out hw').len Tryd.undM ty
      have HCF1 : Hid (∀ w', Below wr.heap.size wr w' → w'.cell? ⟨g, 4352, none⟩ = some (.slice (some ⟨gb, 0, none⟩) F.length cap)) := fun w' hw' => HCF.out w' (HB.out.trans (hw'.mono (by omega)))
      clear hnD ek hB
      go_wp2_with fail
      refine wp_region_bad (fun w' => Below wr.heap.size wr w') [] (by kernel_rfl) ((Below.refl _ _).drew) (fun hS => ?_)
      have hLN := HLN.out
      have hCF := HCF1.out
      refine wpAnyB_pure (i := 0) (v := .map (some w.heap.size)) rfl (by kernel_rfl) (fun _ _ _ h => h) (Or.inl ⟨by rfl, fun w _ => by go_simp⟩) hS ?_
      simp only [List.getElem_toArray, List.getElem_cons_zero, Act.put, List.setIfInBounds_toArray, List.set_cons_zero, List.set_cons_succ]
      refine wpAnyB_take [] (i := 1) (v := .int .i64 (nD : Int)) rfl (by kernel_rfl) (fun _ _ _ h => h) (yields_len (by rfl) rfl rfl (fun w' hw' => hLN w' hw')) hS ?_
      simp only [List.getElem_toArray, List.getElem_cons_succ, List.getElem_cons_zero, Act.put, List.setIfInBounds_toArray, List.set_cons_zero, List.set_cons_succ]
      refine wpAnyB_pure (i := 2) (v := .pointer (some ⟨g, 0, none⟩)) rfl (by kernel_rfl) (fun _ _ _ h => h) (Or.inl ⟨by rfl, fun w _ => by go_simp⟩) hS ?_
      simp only [List.getElem_toArray, List.getElem_cons_succ, List.getElem_cons_zero, Act.put, List.setIfInBounds_toArray, List.set_cons_zero, List.set_cons_succ]
      refine wpAnyB_pure (i := 3) (v := .pointer (some ⟨g, 0, none⟩)) rfl (by kernel_rfl) (fun _ _ _ h => h) (Or.inl ⟨by rfl, fun w _ => by go_simp⟩) hS ?_
      simp only [List.getElem_toArray, List.getElem_cons_succ, List.getElem_cons_zero, Act.put, List.setIfInBounds_toArray, List.set_cons_zero, List.set_cons_succ]
      refine wpAnyB_pure (i := 4) (v := .pointer (some ⟨g, 4352, none⟩)) rfl (by kernel_rfl) (fun _ _ _ h => h) (Or.inl ⟨by rfl, fun w _ => by go_simp⟩) hS ?_
      simp only [List.getElem_toArray, List.getElem_cons_succ, List.getElem_cons_zero, Act.put, List.setIfInBounds_toArray, List.set_cons_zero, List.set_cons_succ]
      refine wpAnyB_take [] (i := 5) (v := .slice (some ⟨gb, 0, none⟩) F.length cap) rfl (by kernel_rfl) (fun _ _ _ h => h) (Or.inl ⟨by rfl, fun w hSw => by have := hCF w hSw; go_simp⟩) hS ?_
      simp only [List.getElem_toArray, List.getElem_cons_succ, List.getElem_cons_zero, Act.put, List.setIfInBounds_toArray, List.set_cons_zero, List.set_cons_succ]
      refine wpAnyB_pure (i := 6) (v := .int .i64 (F.length : Int)) rfl (by kernel_rfl) (fun _ _ _ h => h) (Or.inl ⟨by rfl, fun w _ => by go_simp⟩) hS ?_
      simp only [List.getElem_toArray, List.getElem_cons_succ, List.getElem_cons_zero, Act.put, List.setIfInBounds_toArray, List.set_cons_zero, List.set_cons_succ]
      refine wpAnyB_pure (i := 7) (v := .bool ((nD : Int) == (F.length : Int))) rfl (by kernel_rfl) (fun _ _ _ h => h) (Or.inl ⟨by rfl, fun w _ => by go_simp⟩) hS ?_
      simp only [List.getElem_toArray, List.getElem_cons_succ, List.getElem_cons_zero, Act.put, List.setIfInBounds_toArray, List.set_cons_zero, List.set_cons_succ]
      refine wpAnyB_pure (i := 8) (v := .bool ((nD : Int) == (F.length : Int))) rfl (by kernel_rfl) (fun _ _ _ h => h) (Or.inl ⟨by rfl, fun w _ => by go_simp⟩) hS ?_
      simp only [List.getElem_toArray, List.getElem_cons_succ, List.getElem_cons_zero, Act.put, List.setIfInBounds_toArray, List.set_cons_zero, List.set_cons_succ]
      refine wpAnyB_done (by kernel_rfl) ?_ _
      refine NoPanic.normal ?_
      clear hLN hCF
      go_wp2
      go_ret
      refine ⟨?_, HB.out.trans (hS.mono (by omega))⟩
      rw [HE.out]
      rfl
end Go.Proofs.YtpknmpgbaccffaaDoor

namespace Go.Proofs.YtpknmpgbaccffaaDoor
open Go.RowKit
set_option linter.unusedVariables false

def okLb (l : List Int) : Bool := decide (l ≠ []) && decide (l.length = 4353 + 256 * cntL l) && decide (cntFrom 0 (likeL l) = some (cntL l : Int)) && decide ((firstsOf (firstL l)).length = cntL l)
theorem okLb_iff {l : List Int} : okLb l = true ↔ okL l := by
  unfold okLb okL lenL
  simp [and_assoc]
def errL (l : List Int) : Int := if okLb l = true then 0 else 2

theorem wpList_make_full {P : Program} (w : World) {ops : Array Oper} {rest : List Oper} {o : Oper} {a : Act} {Q : Exit → Act → World → Prop} (hgd : o.guard = none) (x y : Operand) (t : TypeId) (hop : o.op = Op.makeSlice t x y)
    (e : TypeId) (i : TypeInfo) (z : Value) (h1 : P.underlying t = some (.slice e)) (h2 : P.info? e = some i) (h3 : i.zero = some z) (n : Nat) (hx : a.eval x = .int .i64 (n : Int)) (hy : a.eval y = .int .i64 (n : Int)) (b2 : i.bytes * n ≤ 281474976710656) (b3 : n ≤ maxLen)
    (h : wpList P ops Q rest (a.put o.dst (.slice (some ⟨w.heap.size, 0, none⟩) n n)) (w.alloc (.cells (madeCells z.cells (n * i.size)) e))) : wpList P ops Q (o :: rest) a w := by
  refine wpList_plain hgd fun K hK' => ?_
  have hrun := run_make (P := P) w t e i z h1 h2 h3 .i64 .i64 (n : Int) (n : Int) (by omega) (by omega) (by
    have : ((i.bytes * n : Nat) : Int) ≤ 281474976710656 := by omega
    simpa using this) (by unfold maxLen at b3; omega)
  simp only [Int.toNat_natCast] at hrun
  have h2 := hK' _ _ h
  unfold Oper.wp
  simp [execOp, hop, hx, hy, hrun, Result.andThen]
  exact h2
theorem wp_copy_run {P : Program} {o : Oper} {a : Act} {w w' : World} {K : Act → World → Prop} {Q : Exit → Act → World → Prop} (x y : Operand) (dT sT : TypeId) (ho : o.op = .call { callee := .builtin .copy, args := #[x, y], argTypes := #[dT, sT] }) (xv yv res : Value)
    (hx : a.eval x = xv) (hy : a.eval y = yv) (hrun : ∀ ty, (Builtin.copy_ #[dT, sT] ty #[xv, yv]).run P w = .ok res w') (h : K (a.put o.dst res) w') : o.wp P a w K Q := by
  have hr := hrun o.type
  unfold Oper.wp
  simp [execOp, ho, resolve, invoke, builtin, hx, hy, hr, Result.andThen]
  exact h
def zeros8 : List Int := List.replicate 4352 0
theorem zeros8_length : zeros8.length = 4352 := by unfold zeros8; rw [List.length_replicate]
theorem trCells_zeros (v : Value) : trCells zeros8 v = List.replicate 4352 (Value.int .u8 0) ++ [v] := by unfold trCells zeros8 i8; rw [List.map_replicate]

set_option maxRecDepth 100000 in
set_option maxHeartbeats 8000000 in
theorem load_any (l : List Int) (v : Value) (w : World) (hv : BytesAt w.heap.size w v l) (hby : ByL l) :
    Calls Tryd.prog 32 #[v] w fun e w' => ∃ pv, e = .returned (.tuple #[pv, .int .i64 (errL l)]) ∧ (errL l ≠ 0 → pv = .pointer none) ∧ (errL l = 0 → TrieAt w'.heap.size w' pv (likeL l) (firstL l)) ∧ Below w.heap.size w w' := by
  obtain ⟨iB, hiB, hzB0, hzB1, hzB2⟩ := info_parts Tryd.infoBlock
  have hzt := Tryd.zeroTrie
  obtain ⟨zt, hzT⟩ : ∃ zt, zt = (List.replicate 4352 (Value.int .u8 0) ++ [Value.slice none 0 0]).toArray := ⟨_, rfl⟩
  rw [← hzT] at hzt
  have HZV : Hid (∀ u, zt.setIfInBounds 4352 u = (trCells zeros8 u).toArray) := fun u => by
    rw [hzT, trCells_zeros]
    simp only [List.setIfInBounds_toArray]
    rw [List.set_append_right _ _ (by rw [List.length_replicate]; omega), List.length_replicate]
    rfl
  have hzts : zt.size = 4353 := by rw [hzT, List.size_toArray, List.length_append, List.length_replicate]; rfl
  clear hzT
  obtain ⟨a, cap, rfl, hc, hcell⟩ := hv
  obtain ⟨er, her⟩ : ∃ er, er = errL l := ⟨_, rfl⟩
  rw [← her]
  have HER : Hid (er = errL l) := her
  clear her
  by_cases h0 : l.length = 0
  · have e2 : er = 2 := by
      have : l = [] := List.length_eq_zero_iff.1 h0
      rw [HER.out]; unfold errL; rw [if_neg (by rw [okLb_iff]; exact fun q => q.1.1 this)]
    subst e2
    have h0' : (l.length : Int) = 0 := by omega
    go_enter Tryd.func32, Tryd.ntmps32
    go_wp2
    go_ret2
    first | exact ⟨_, rfl, fun _ => rfl, fun h => by omega, Below.refl _ _⟩ | exact ⟨_, rfl, rfl, Below.refl _ _⟩
  have hpos : 0 < l.length := by omega
  have h0' : ¬ ((l.length : Int) = 0) := by omega
  obtain ⟨gs, off, rfl, hgs, hc0⟩ := hcell 0 hpos
  have HC : Hid (∀ i, (h : i < l.length) → w.cell? ⟨gs, off + i, none⟩ = some (.int .u8 l[i])) := fun i h => by
    obtain ⟨g', off', e, _, hc'⟩ := hcell i h
    obtain ⟨rfl, rfl⟩ : gs = g' ∧ off = off' := by simpa using e
    exact hc'
  rw [Nat.add_zero] at hc0
  obtain ⟨x0, hx0⟩ : ∃ x0, x0 = l[0] := ⟨_, rfl⟩
  rw [← hx0] at hc0
  have hxb := hby l[0] (List.getElem_mem hpos)
  rw [← hx0] at hxb
  obtain ⟨cnt, hcnt⟩ : ∃ cnt : Nat, (cnt : Int) = x0 + 1 := ⟨(x0 + 1).toNat, by omega⟩
  have HCN : Hid (cntL l = cnt) := by
    show _ = _
    unfold cntL
    rw [List.getElem?_eq_getElem hpos, Option.getD_some, ← hx0]
    omega
  obtain rfl : x0 = (cnt : Int) - 1 := by omega
  have hcp : 1 ≤ cnt := by omega
  have hc256 : cnt ≤ 256 := by omega
  clear hcell hx0 hxb hcnt
  by_cases hlen : l.length = 4353 + 256 * cnt
  · have hl' : (l.length : Int) = 4353 + (cnt : Int) * 256 := by omega
    have HLEN : Hid (lenL l) := ⟨fun e => by rw [e] at hpos; simp at hpos, by rw [HCN.out]; exact hlen⟩
    obtain ⟨MC, hMC⟩ : ∃ MC, MC = madeCells (Value.agg (List.replicate 256 (Value.int .u8 0)).toArray).cells (cnt * iB.size) := ⟨_, rfl⟩
    have HMC : Hid (MC = madeCells (Value.agg (List.replicate 256 (Value.int .u8 0)).toArray).cells (cnt * iB.size)) := hMC
    have HMS : Hid (MC.size = cnt * 256) := by show _ = _; rw [hMC, size_madeCells, hzB1]
    obtain ⟨gF, hgF⟩ : ∃ gF, gF = w.heap.size := ⟨_, rfl⟩
    obtain ⟨gT, hgT⟩ : ∃ gT, gT = w.heap.size + 1 := ⟨_, rfl⟩
    obtain ⟨w1, hw1⟩ : ∃ w1, w1 = (w.alloc (.cells MC 82)).alloc (.cells (zt.setIfInBounds 4352 (.slice (some ⟨w.heap.size, 0, none⟩) cnt cnt)) 80) := ⟨_, rfl⟩
    have hB1 : Below w.heap.size w w1 := by rw [hw1]; exact ((Below.refl _ _).alloc (Nat.le_refl _) _).alloc (by simp) _
    have ht1 : w1.heap[gT]? = some (.cells (trCells zeros8 (.slice (some ⟨gF, 0, none⟩) cnt cnt)).toArray 80 (0, 0)) := by rw [hw1, hgT, hgF, HZV.out]; exact heap_alloc2_new w _ _
    have hf1 : w1.heap[gF]? = some (.cells MC 82 (0, 0)) := by rw [hw1, hgF]; exact heap_alloc2_old w _ _
    have hs1 : w1.heap.size = w.heap.size + 2 := by rw [hw1]; simp
    obtain ⟨HW1, HB1, HT1, HF1, HGF, HGT⟩ : Hid (w1 = (w.alloc (.cells MC 82)).alloc (.cells (zt.setIfInBounds 4352 (.slice (some ⟨w.heap.size, 0, none⟩) cnt cnt)) 80)) ∧ Hid (Below w.heap.size w w1) ∧ Hid (w1.heap[gT]? = some (.cells (trCells zeros8 (.slice (some ⟨gF, 0, none⟩) cnt cnt)).toArray 80 (0, 0))) ∧ Hid (w1.heap[gF]? = some (.cells MC 82 (0, 0))) ∧ Hid (w.heap.size = gF) ∧ Hid (w.heap.size + 1 = gT) := ⟨hw1, hB1, ht1, hf1, hgF.symm, hgT.symm⟩
    have hcap1 : ¬ cap = 1 := by omega
    have hl1 : (1 : Int) ≤ (l.length : Int) := by omega
    have hl2 : ¬ (4353 + (cnt : Int) * 256 < 1) := by omega
    have HLE : Hid (l.length = 4353 + 256 * cnt) := hlen
    have hlc : 4353 ≤ l.length := by omega
    clear hMC hw1 hB1 ht1 hf1 hgF hgT hlen
    go_enter Tryd.func32, Tryd.ntmps32
    go_wp2_with (first | (at_make; refine wpList_make_full _ rfl _ _ 78 rfl 82 iB _ Tryd.undBs hiB hzB0 cnt (by first | rfl | (simp [Act.eval]; done)) (by first | rfl | (simp [Act.eval]; done)) (by rw [hzB2]; omega) (by unfold maxLen; omega) ?_; rw [← HMC.out]) | fail)
    rw [← HW1.out, HGT.out, HGF.out]
    have HRS : Hid (∀ w', Below w.heap.size w w' → ∀ j u, (i8 l)[j]? = some u → w'.cell? ⟨gs, off + j, none⟩ = some u) := fun w' hw' j u hj => by
      have hjl : j < l.length := by have := (List.getElem?_eq_some_iff.1 hj).1; rwa [i8_length] at this
      rw [i8_get hjl] at hj
      rw [← hj]
      exact (hw'.cell (p := ⟨gs, off + j, none⟩) hgs).trans (HC.out j hjl)
    refine wp_region_bad (fun w' => Below w1.heap.size w1 w') [6] (by kernel_rfl) ((Below.refl _ _).drew) (fun hS => ?_)
    refine wpAnyB_pure (i := 0) (v := .pointer (some ⟨gT, 0, none⟩)) rfl (by kernel_rfl) (fun _ _ _ h => h) (Or.inl ⟨by rfl, fun w _ => by go_simp⟩) hS ?_
    simp only [List.getElem_toArray, List.getElem_cons_zero, Act.put, List.setIfInBounds_toArray, List.set_cons_zero, List.set_cons_succ]
    refine wpAnyB_pure (i := 1) (v := .pointer (some ⟨gT, 0, none⟩)) rfl (by kernel_rfl) (fun _ _ _ h => h) (Or.inl ⟨by rfl, fun w _ => by go_simp⟩) hS ?_
    simp only [List.getElem_toArray, List.getElem_cons_succ, List.getElem_cons_zero, Act.put, List.setIfInBounds_toArray, List.set_cons_zero, List.set_cons_succ]
    refine wpAnyB_pure (i := 2) (v := .pointer (some ⟨gT, 0, none⟩)) rfl (by kernel_rfl) (fun _ _ _ h => h) (Or.inl ⟨by rfl, fun w _ => by go_simp⟩) hS ?_
    simp only [List.getElem_toArray, List.getElem_cons_succ, List.getElem_cons_zero, Act.put, List.setIfInBounds_toArray, List.set_cons_zero, List.set_cons_succ]
    refine wpAnyB_pure (i := 3) (v := .slice (some ⟨gT, 0, none⟩) 4352 4352) rfl (by kernel_rfl) (fun _ _ _ h => h) (Or.inl ⟨by rfl, fun w _ => by go_simp⟩) hS ?_
    simp only [List.getElem_toArray, List.getElem_cons_succ, List.getElem_cons_zero, Act.put, List.setIfInBounds_toArray, List.set_cons_zero, List.set_cons_succ]
    refine wpAnyB_pure (i := 4) (v := .slice (some ⟨gs, off, none⟩) l.length cap) rfl (by kernel_rfl) (fun _ _ _ h => h) (Or.inl ⟨by rfl, fun w _ => by go_simp⟩) hS ?_
    simp only [List.getElem_toArray, List.getElem_cons_succ, List.getElem_cons_zero, Act.put, List.setIfInBounds_toArray, List.set_cons_zero, List.set_cons_succ]
    refine wpAnyB_pure (i := 5) (v := .slice (some ⟨gs, off + 1, none⟩) (l.length - 1) (cap - 1)) rfl (by kernel_rfl) (fun _ _ _ h => h) (Or.inl ⟨by rfl, fun w _ => by go_simp⟩) hS ?_
    simp only [List.getElem_toArray, List.getElem_cons_succ, List.getElem_cons_zero, Act.put, List.setIfInBounds_toArray, List.set_cons_zero, List.set_cons_succ]
    refine wpAnyB_last (i := 6) rfl (by kernel_rfl) (fun K hK => ?_)
    rw [if_pos (by rfl)]
    have hBd : Below w.heap.size w w1.drew := HB1.out.drew
    have hTd : w1.drew.heap[gT]? = some (.cells (trCells zeros8 (.slice (some ⟨gF, 0, none⟩) cnt cnt)).toArray 80 (0, 0)) := HT1.out
    have hli : (i8 (likeL l)).length = Nat.min (l.length - 1) 4352 := by
      rw [i8_length, likeL_length HLEN.out]
      show 4352 = min (l.length - 1) 4352
      omega
    have hrun : ∀ ty, (Builtin.copy_ #[30, 30] ty #[.slice (some ⟨gT, 0, none⟩) 4352 4352, .slice (some ⟨gs, off + 1, none⟩) (l.length - 1) (cap - 1)]).run Tryd.prog w1.drew = .ok (goInt (i8 (likeL l)).length) (w1.drew.setRow gT ((trCells zeros8 (.slice (some ⟨gF, 0, none⟩) cnt cnt)).toArray.toList.take 0 ++ i8 (likeL l) ++ (trCells zeros8 (.slice (some ⟨gF, 0, none⟩) cnt cnt)).toArray.toList.drop (0 + (i8 (likeL l)).length)).toArray) := fun ty => by
      refine run_copy_row Tryd.prog w1.drew 30 30 ty 5 gT 0 4352 4352 ⟨gs, off + 1, none⟩ (l.length - 1) (cap - 1) _ 80 (i8 (likeL l)) Tryd.undBy Tryd.sizeByte hTd hli (fun j u hj => ?_) ?_ (i8_one _)
      · rw [Addr.add_mid, Nat.add_assoc]
        refine HRS.out _ hBd (1 + j) u ?_
        unfold likeL at hj
        rw [← i8_take, ← i8_drop, List.getElem?_take] at hj
        split at hj
        · rwa [List.getElem?_drop] at hj
        · cases hj
      · rw [i8_length, likeL_length HLEN.out, List.size_toArray]
        unfold trCells
        rw [List.length_append, i8_length, zeros8_length]
        simp
    refine wp_copy_run _ _ 30 30 rfl _ _ _ rfl rfl hrun ?_
    have hrow : ((trCells zeros8 (.slice (some ⟨gF, 0, none⟩) cnt cnt)).toArray.toList.take 0 ++ i8 (likeL l) ++ (trCells zeros8 (.slice (some ⟨gF, 0, none⟩) cnt cnt)).toArray.toList.drop (0 + (i8 (likeL l)).length)) = trCells (likeL l) (.slice (some ⟨gF, 0, none⟩) cnt cnt) := by
      rw [List.toList_toArray, List.take_zero, List.nil_append, Nat.zero_add, i8_length, likeL_length HLEN.out]
      unfold trCells
      rw [List.drop_append, i8_length, zeros8_length, List.drop_of_length_le (by rw [i8_length, zeros8_length]; omega)]
      rfl
    rw [hrow]
    obtain ⟨w2, hw2⟩ : ∃ w2, w2 = w1.drew.setRow gT (trCells (likeL l) (.slice (some ⟨gF, 0, none⟩) cnt cnt)).toArray := ⟨_, rfl⟩
    rw [← hw2]
    have hT2 : w2.heap[gT]? = some (.cells (trCells (likeL l) (.slice (some ⟨gF, 0, none⟩) cnt cnt)).toArray 80 (0, 0)) := by rw [hw2]; exact setRow_heap _ _ _ _ _ _ hTd
    have hgne : gF ≠ gT := by have := HGF.out; have := HGT.out; omega
    have hF2 : w2.heap[gF]? = some (.cells MC 82 (0, 0)) := by rw [hw2, setRow_other _ _ _ _ hgne]; exact HF1.out
    have hB2 : Below w.heap.size w w2 := by rw [hw2]; exact hBd.trans ⟨rfl, rfl, rfl, by simp, fun i hi => setRow_other _ _ _ _ (by have := HGT.out; omega)⟩
    have hs2 : w2.heap.size = w.heap.size + 2 := by rw [hw2]; show (w1.drew.setRow _ _).heap.size = _; rw [setRow_size]; exact hs1
    obtain ⟨HT2, HF2, HB2⟩ : Hid (w2.heap[gT]? = some (.cells (trCells (likeL l) (.slice (some ⟨gF, 0, none⟩) cnt cnt)).toArray 80 (0, 0))) ∧ Hid (w2.heap[gF]? = some (.cells MC 82 (0, 0))) ∧ Hid (Below w.heap.size w w2) := ⟨hT2, hF2, hB2⟩
    have HLL : Hid ((likeL l).length = 4352) := likeL_length HLEN.out
    have hcf2 : w2.cell? ⟨gT, 4352, none⟩ = some (.slice (some ⟨gF, 0, none⟩) cnt cnt) := cell_row hT2 (trCells_at HLL.out)
    clear hw2 hT2 hF2 hB2 hrow hrun hli hTd hBd hS
    simp only [Act.put, List.setIfInBounds_toArray]
    refine hK.out _ _ ?_
    clear hK K
    refine wpAnyB_done (by kernel_rfl) ?_ _
    refine NoPanic.normal ?_
    go_wp2
    clear hcf2
    go_loopw [37] (fun x wr => ∃ i : Nat, i ≤ cnt ∧ x = .int .i64 i ∧ wr.heap[gT]? = some (.cells (trCells (likeL l) (.slice (some ⟨gF, 0, none⟩) cnt cnt)).toArray 80 (0, 0)) ∧ (∃ cur, wr.heap[gF]? = some (.cells cur 82 (0, 0)) ∧ cur.size = cnt * 256 ∧ cur.toList.take (i * 256) = i8 (((List.range i).map (blkL l)).flatten)) ∧ Below w.heap.size w wr ∧ w.heap.size + 2 ≤ wr.heap.size) (fun x _ => cnt - (intOf x).toNat)
    case atStart => exact ⟨0, Nat.zero_le _, rfl, HT2.out, ⟨MC, HF2.out, HMS.out, by simp [i8]⟩, HB2.out, by omega⟩
    case round =>
      obtain ⟨i, hi, rfl, hT, ⟨cur, hF, hcs, htk⟩, hB, hbs⟩ := hrel
      obtain ⟨HT, HF, HCS, HTK, HB⟩ : Hid (wr.heap[gT]? = some (.cells (trCells (likeL l) (.slice (some ⟨gF, 0, none⟩) cnt cnt)).toArray 80 (0, 0))) ∧ Hid (wr.heap[gF]? = some (.cells cur 82 (0, 0))) ∧ Hid (cur.size = cnt * 256) ∧ Hid (cur.toList.take (i * 256) = i8 (((List.range i).map (blkL l)).flatten)) ∧ Hid (Below w.heap.size w wr) := ⟨hT, hF, hcs, htk, hB⟩
      have hTlt : gT < wr.heap.size := heap_lt hT
      have HCF : Hid (∀ w', Below wr.heap.size wr w' → w'.cell? ⟨gT, 4352, none⟩ = some (.slice (some ⟨gF, 0, none⟩) cnt cnt)) := fun w' hw' => (hw'.cell (p := ⟨gT, 4352, none⟩) hTlt).trans (cell_row hT (trCells_at HLL.out))
      clear hT hF hcs htk hB HT2 HF2 HB2
      by_cases hlt : i < cnt
      · have hlt' : (i : Int) < (cnt : Int) := by omega
        have hcapi : ¬ cap = 4353 + i * 256 := by have := HLE.out; omega
        have hl3 : ¬ (4353 + (cnt : Int) * 256 < 4353 + (i : Int) * 256) := by omega
        have hl4 : ((4353 + (i : Int) * 256).toNat) = 4353 + i * 256 := by omega
        have hl5 : ¬ (4353 + (i : Int) * 256 < 0) := by omega
        have hw1' : IntKind.i64.wrap ((i : Int) * 256) = (i : Int) * 256 := IntWalk.i64_in _ (by omega)
        have hw2' : IntKind.i64.wrap (4353 + (i : Int) * 256) = 4353 + (i : Int) * 256 := IntWalk.i64_in _ (by omega)
        go_wp2_with fail
        refine wp_region_bad (fun w' => Below wr.heap.size wr w') [12] (by kernel_rfl) ((Below.refl _ _).drew) (fun hS => ?_)
        have hCF := HCF.out
        refine wpAnyB_pure (i := 0) (v := .pointer (some ⟨gT, 0, none⟩)) rfl (by kernel_rfl) (fun _ _ _ h => h) (Or.inl ⟨by rfl, fun w _ => by go_simp⟩) hS ?_
        simp only [List.getElem_toArray, List.getElem_cons_zero, Act.put, List.setIfInBounds_toArray, List.set_cons_zero, List.set_cons_succ]
        refine wpAnyB_pure (i := 1) (v := .pointer (some ⟨gT, 0, none⟩)) rfl (by kernel_rfl) (fun _ _ _ h => h) (Or.inl ⟨by rfl, fun w _ => by go_simp⟩) hS ?_
        simp only [List.getElem_toArray, List.getElem_cons_succ, List.getElem_cons_zero, Act.put, List.setIfInBounds_toArray, List.set_cons_zero, List.set_cons_succ]
        refine wpAnyB_pure (i := 2) (v := .pointer (some ⟨gT, 4352, none⟩)) rfl (by kernel_rfl) (fun _ _ _ h => h) (Or.inl ⟨by rfl, fun w _ => by go_simp⟩) hS ?_
        simp only [List.getElem_toArray, List.getElem_cons_succ, List.getElem_cons_zero, Act.put, List.setIfInBounds_toArray, List.set_cons_zero, List.set_cons_succ]
        refine wpAnyB_take [3, 5, 6, 12] (i := 3) (v := .slice (some ⟨gF, 0, none⟩) cnt cnt) rfl (by kernel_rfl) (fun _ _ _ h => h) (Or.inl ⟨by rfl, fun w hSw => by have := hCF w hSw; go_simp⟩) hS ?_
        simp only [List.getElem_toArray, List.getElem_cons_succ, List.getElem_cons_zero, Act.put, List.setIfInBounds_toArray, List.set_cons_zero, List.set_cons_succ]
        refine wpAnyB_pure (i := 4) (v := .int .i64 (i : Int)) rfl (by kernel_rfl) (fun _ _ _ h => h) (Or.inl ⟨by rfl, fun w _ => by go_simp⟩) hS ?_
        simp only [List.getElem_toArray, List.getElem_cons_succ, List.getElem_cons_zero, Act.put, List.setIfInBounds_toArray, List.set_cons_zero, List.set_cons_succ]
        refine wpAnyB_pure (i := 5) (v := .pointer (some ⟨gF, i * 256, none⟩)) rfl (by kernel_rfl) (fun _ _ _ h => h) (Or.inl ⟨by rfl, fun w _ => by go_simp⟩) hS ?_
        simp only [List.getElem_toArray, List.getElem_cons_succ, List.getElem_cons_zero, Act.put, List.setIfInBounds_toArray, List.set_cons_zero, List.set_cons_succ]
        refine wpAnyB_pure (i := 6) (v := .slice (some ⟨gF, i * 256, none⟩) 256 256) rfl (by kernel_rfl) (fun _ _ _ h => h) (Or.inl ⟨by rfl, fun w _ => by go_simp⟩) hS ?_
        simp only [List.getElem_toArray, List.getElem_cons_succ, List.getElem_cons_zero, Act.put, List.setIfInBounds_toArray, List.set_cons_zero, List.set_cons_succ]
        refine wpAnyB_pure (i := 7) (v := .slice (some ⟨gs, off, none⟩) l.length cap) rfl (by kernel_rfl) (fun _ _ _ h => h) (Or.inl ⟨by rfl, fun w _ => by go_simp⟩) hS ?_
        simp only [List.getElem_toArray, List.getElem_cons_succ, List.getElem_cons_zero, Act.put, List.setIfInBounds_toArray, List.set_cons_zero, List.set_cons_succ]
        refine wpAnyB_pure (i := 8) (v := .int .i64 (i : Int)) rfl (by kernel_rfl) (fun _ _ _ h => h) (Or.inl ⟨by rfl, fun w _ => by go_simp⟩) hS ?_
        simp only [List.getElem_toArray, List.getElem_cons_succ, List.getElem_cons_zero, Act.put, List.setIfInBounds_toArray, List.set_cons_zero, List.set_cons_succ]
        refine wpAnyB_pure (i := 9) (v := .int .i64 ((i : Int) * 256)) rfl (by kernel_rfl) (fun _ _ _ h => h) (Or.inl ⟨by rfl, fun w _ => by go_simp⟩) hS ?_
        simp only [List.getElem_toArray, List.getElem_cons_succ, List.getElem_cons_zero, Act.put, List.setIfInBounds_toArray, List.set_cons_zero, List.set_cons_succ]
        refine wpAnyB_pure (i := 10) (v := .int .i64 (4353 + (i : Int) * 256)) rfl (by kernel_rfl) (fun _ _ _ h => h) (Or.inl ⟨by rfl, fun w _ => by go_simp⟩) hS ?_
        simp only [List.getElem_toArray, List.getElem_cons_succ, List.getElem_cons_zero, Act.put, List.setIfInBounds_toArray, List.set_cons_zero, List.set_cons_succ]
        refine wpAnyB_pure (i := 11) (v := .slice (some ⟨gs, off + (4353 + i * 256), none⟩) (l.length - (4353 + i * 256)) (cap - (4353 + i * 256))) rfl (by kernel_rfl) (fun _ _ _ h => h) (Or.inl ⟨by rfl, fun w _ => by go_simp⟩) hS ?_
        simp only [List.getElem_toArray, List.getElem_cons_succ, List.getElem_cons_zero, Act.put, List.setIfInBounds_toArray, List.set_cons_zero, List.set_cons_succ]
        refine wpAnyB_last (i := 12) rfl (by kernel_rfl) (fun K hK => ?_)
        clear hCF
        rw [if_pos (by rfl)]
        have hBd : Below w.heap.size w wr.drew := HB.out.drew
        have hFd : wr.drew.heap[gF]? = some (.cells cur 82 (0, 0)) := HF.out
        have hi1 : 256 * (i + 1) ≤ 256 * cnt := Nat.mul_le_mul_left 256 hlt
        have hbl : (blkL l i).length = 256 := blkL_length HLEN.out (by rw [HCN.out]; exact hlt)
        have hli : (i8 (blkL l i)).length = Nat.min (l.length - (4353 + i * 256)) 256 := by
          rw [i8_length, hbl]
          show 256 = min (l.length - (4353 + i * 256)) 256
          have := HLE.out
          omega
        have hrun : ∀ ty, (Builtin.copy_ #[30, 30] ty #[.slice (some ⟨gF, i * 256, none⟩) 256 256, .slice (some ⟨gs, off + (4353 + i * 256), none⟩) (l.length - (4353 + i * 256)) (cap - (4353 + i * 256))]).run Tryd.prog wr.drew = .ok (goInt (i8 (blkL l i)).length) (wr.drew.setRow gF (cur.toList.take (i * 256) ++ i8 (blkL l i) ++ cur.toList.drop (i * 256 + (i8 (blkL l i)).length)).toArray) := fun ty => by
          refine run_copy_row Tryd.prog wr.drew 30 30 ty 5 gF (i * 256) 256 256 ⟨gs, off + (4353 + i * 256), none⟩ _ _ cur 82 (i8 (blkL l i)) Tryd.undBy Tryd.sizeByte hFd hli (fun j u hj => ?_) ?_ (i8_one _)
          · rw [Addr.add_mid, Nat.add_assoc]
            refine HRS.out _ hBd (4353 + i * 256 + j) u ?_
            unfold blkL at hj
            rw [← i8_take, ← i8_drop, List.getElem?_take] at hj
            split at hj
            · rw [List.getElem?_drop, Nat.mul_comm] at hj
              exact hj
            · cases hj
          · rw [i8_length, hbl, HCS.out]; omega
        refine wp_copy_run _ _ 30 30 rfl _ _ _ rfl rfl hrun ?_
        obtain ⟨cur', hcur'⟩ : ∃ cur', cur' = (cur.toList.take (i * 256) ++ i8 (blkL l i) ++ cur.toList.drop (i * 256 + (i8 (blkL l i)).length)).toArray := ⟨_, rfl⟩
        obtain ⟨w3, hw3⟩ : ∃ w3, w3 = wr.drew.setRow gF cur' := ⟨_, rfl⟩
        rw [← hcur', ← hw3]
        have htl : (cur.toList.take (i * 256)).length = i * 256 := by
          have := HCS.out
          rw [List.length_take, Array.length_toList]
          omega
        have HC3 : Hid (cur'.size = cnt * 256) := by
          show _ = _
          have := HCS.out
          rw [hcur', List.size_toArray, List.length_append, List.length_append, htl, List.length_drop, i8_length, hbl, Array.length_toList]
          omega
        have HK3 : Hid (cur'.toList.take ((i + 1) * 256) = i8 (((List.range (i + 1)).map (blkL l)).flatten)) := by
          show _ = _
          rw [hcur', List.toList_toArray, List.take_append_of_le_length (by rw [List.length_append, htl, i8_length, hbl]; omega), List.take_of_length_le (by rw [List.length_append, htl, i8_length, hbl]; omega), HTK.out, List.range_succ, List.map_append, List.flatten_append, i8_append]
          simp
        have hgne : gT ≠ gF := by have := HGF.out; have := HGT.out; omega
        have HT3 : Hid (w3.heap[gT]? = some (.cells (trCells (likeL l) (.slice (some ⟨gF, 0, none⟩) cnt cnt)).toArray 80 (0, 0))) := by show _ = _; rw [hw3, setRow_other _ _ _ _ hgne]; exact HT.out
        have HF3 : Hid (w3.heap[gF]? = some (.cells cur' 82 (0, 0))) := by show _ = _; rw [hw3]; exact setRow_heap _ _ _ _ _ _ hFd
        have HB3 : Hid (Below w.heap.size w w3) := by show Below _ _ _; rw [hw3]; exact hBd.trans ⟨rfl, rfl, rfl, by simp, fun k hk => setRow_other _ _ _ _ (by have := HGF.out; omega)⟩
        have HS3 : Hid (w3.heap.size = wr.heap.size) := by show _ = _; rw [hw3, setRow_size]; rfl
        clear hw3 hcur' htl hrun hli hFd hBd hS
        simp only [Act.put, List.setIfInBounds_toArray]
        refine hK.out _ _ ?_
        clear hK K
        refine wpAnyB_done (by kernel_rfl) ?_ _
        refine NoPanic.normal ?_
        go_wp2
        go_roundw
        case rel => exact ⟨i + 1, by omega, by go_num, HT3.out, ⟨cur', HF3.out, HC3.out, HK3.out⟩, HB3.out, by have := HS3.out; omega⟩
        case measure => simp [intOf]; omega
      · obtain rfl : i = cnt := by omega
        have hlt' : ¬ ((i : Int) < (i : Int)) := by omega
        have hfl : (firstL l).length = i := by rw [firstL_length, HCN.out]
        have HTR : Hid (TrieAt wr.heap.size wr (.pointer (some ⟨gT, 0, none⟩)) (likeL l) (firstL l)) := by
          refine ⟨gT, gF, i, rfl, hTlt, heap_lt HF.out, by rw [hfl]; exact HT.out, fun j u hj => ?_, by omega⟩
          rw [Nat.zero_add, cell_of_row _ _ j _ _ _ HF.out]
          unfold cellsBl firstL at hj
          rw [HCN.out, ← HTK.out, List.getElem?_take] at hj
          split at hj
          · simpa using hj
          · cases hj
        have HBL : Hid (ByL (likeL l)) := (hby.drop 1).take 4352
        have HFB : Hid (∀ b ∈ firstL l, IsB b) := firstL_isB HLEN.out hby
        clear hfl
        go_wp2_with fail
        refine (counted_any _ _ _ wr HTR.out HLL.out HBL.out).mono ?_
        rintro e w3 ⟨rfl, hB3⟩
        have HTR3 : Hid (TrieAt w3.heap.size w3 (.pointer (some ⟨gT, 0, none⟩)) (likeL l) (firstL l)) := (HTR.out.below hB3).mono hB3.size
        have HB3 : Hid (Below w.heap.size w w3) := HB.out.trans (hB3.mono HB.out.size)
        clear hB3
        by_cases q1 : cntFrom 0 (likeL l) = some ((firstL l).length : Int)
        · have d1 : decide (cntFrom 0 (likeL l) = some ((firstL l).length : Int)) = true := by simpa using q1
          rw [d1]
          clear d1
          go_wp2_with fail
          refine (unlike_any _ _ _ w3 HTR3.out HLL.out HFB.out (by rw [firstL_length, HCN.out]; exact hc256)).mono ?_
          rintro e w4 ⟨rfl, hB4⟩
          have HTR4 : Hid (TrieAt w4.heap.size w4 (.pointer (some ⟨gT, 0, none⟩)) (likeL l) (firstL l)) := (HTR3.out.below hB4).mono hB4.size
          have HB4 : Hid (Below w.heap.size w w4) := HB3.out.trans (hB4.mono HB3.out.size)
          clear hB4
          by_cases q2 : (firstsOf (firstL l)).length = (firstL l).length
          · have d2 : decide ((firstsOf (firstL l)).length = (firstL l).length) = true := by simpa using q2
            rw [d2]
            have e0 : er = 0 := by
              rw [HER.out]; unfold errL
              rw [if_pos (okLb_iff.2 ⟨HLEN.out, by rw [q1, firstL_length], by rw [q2, firstL_length]⟩)]
            subst e0
            clear d2 q1 q2
            go_wp2
            go_ret2
            first | exact ⟨_, rfl, fun h => absurd rfl h, fun _ => HTR4.out, HB4.out⟩ | exact ⟨_, rfl, HTR4.out, HB4.out⟩
          · have d2 : decide ((firstsOf (firstL l)).length = (firstL l).length) = false := by simpa using q2
            rw [d2]
            have e2 : er = 2 := by
              rw [HER.out]; unfold errL
              rw [if_neg (by rw [okLb_iff]; exact fun z => q2 (by rw [z.2.2, firstL_length]))]
            subst e2
            clear d2 q1 q2
            go_wp2
            go_ret2
            first | exact ⟨_, rfl, fun _ => rfl, fun h => by omega, HB4.out⟩ | exact ⟨_, rfl, rfl, HB4.out⟩
        · have d1 : decide (cntFrom 0 (likeL l) = some ((firstL l).length : Int)) = false := by simpa using q1
          rw [d1]
          have e2 : er = 2 := by
            rw [HER.out]; unfold errL
            rw [if_neg (by rw [okLb_iff]; exact fun z => q1 (by rw [z.2.1, firstL_length]))]
          subst e2
          clear d1 q1
          go_wp2
          go_ret2
          first | exact ⟨_, rfl, fun _ => rfl, fun h => by omega, HB3.out⟩ | exact ⟨_, rfl, rfl, HB3.out⟩
  · have e2 : er = 2 := by
      rw [HER.out]; unfold errL; rw [if_neg (by rw [okLb_iff]; exact fun q => hlen (by rw [← HCN.out]; exact q.1.2))]
    subst e2
    have hl' : ¬ ((l.length : Int) = 4353 + (cnt : Int) * 256) := by omega
    go_enter Tryd.func32, Tryd.ntmps32
    go_wp2
    go_ret2
    first | exact ⟨_, rfl, fun _ => rfl, fun h => by omega, Below.refl _ _⟩ | exact ⟨_, rfl, rfl, Below.refl _ _⟩
end Go.Proofs.YtpknmpgbaccffaaDoor

namespace Go.Proofs.YtpknmpgbaccffaaDoor
open Go.ChangeShapes Go.WideShapes Go.ChangeAt Go.RowKit Go.Deep
set_option linter.unusedVariables false

theorem open_bytesS {H : Type} {enc : TypeId × Value → H} {W : World} {a : Option Addr} {len cap : Nat} {d : DataW H} {p : List MemPlace}
    (h : DataW.Trod enc Tryd.prog W 0 (fun _ => true) true 30 (.slice a len cap) d p) : ∃ l : List Int, l.length = len ∧ (BytesAt W.heap.size W (.slice a len cap) l ∧ ByL l) := by
  obtain ⟨fuel, hf⟩ := h
  rcases open_ints Tryd.underlying30 Tryd.underlying5 (by kernel_rfl) hf with ⟨hcs, _⟩ | ⟨x, l, c, zs, hcs, _, hl, hmx, hz, _, hcell, hwz⟩
  · simp [Value.cells] at hcs
    obtain ⟨rfl, rfl, rfl⟩ := hcs
    exact ⟨[], rfl, ⟨none, 0, rfl, Nat.le_refl _, (fun i hi => by cases hi)⟩, (fun x hx => by cases hx)⟩
  · simp [Value.cells] at hcs
    obtain ⟨rfl, rfl, rfl⟩ := hcs
    have hzl : zs.length = cap := by simpa using hz
    have hlen : (zs.take len).length = len := by rw [List.length_take]; omega
    refine ⟨zs.take len, hlen, ⟨some x, cap, by rw [hlen], by rw [hlen]; exact hl, fun i hi => ?_⟩, fun y hy => byte_of_wf (hwz y (List.mem_of_mem_take hy))⟩
    rw [hlen] at hi
    have hci := hcell i (by omega)
    obtain ⟨b, off, spot⟩ := x
    obtain rfl : spot = none := by
      have hc0 := hcell 0 (by omega)
      simpa [Addr.add] using World.cell?_spot hc0
    rw [addr_add] at hci
    refine ⟨b, off, rfl, cell_some_lt hci, ?_⟩
    rw [hci]
    have hiz : i < zs.length := by omega
    simp [hiz]
end Go.Proofs.YtpknmpgbaccffaaDoor
