/-
  scansionref03.value: the value of a number by entries. The document's trie in memory; scansionref03.place: where a block stands. scansionref03.add: one block more. scansionref03.Build: the document's trie of entries. scansionref03.Blocks, Of.
-/
import Derived.Test.YtpmlbdfdiebkcaaDoorReg2
import Derived.Test.YtpmlbdfdiebkcaaDoorXL
namespace Go.Proofs.YtpmlbdfdiebkcaaDoor
open Go.RowKit
set_option linter.unusedVariables false

theorem val_take {l : List Pp} {k : Nat} (h : k < l.length) (r : Int) : valP (l.take (k + 1)) r = if hasP l[k] r = true then l[k].v else valP (l.take k) r := by
  rw [List.take_succ_eq_append_getElem h, val_snoc]

set_option maxRecDepth 100000 in
set_option maxHeartbeats 8000000 in
theorem value_any (l : List Pp) (v : Value) (r : Int) (w : World) (hv : PropsIn w v l) (hn : l.length ≤ 4096) :
    Calls Tryd.prog 55 #[v, .int .i64 r] w fun e w' => e = .returned (.int .u8 (valP l r)) ∧ w' = w := by
  obtain ⟨a, cap, rfl, hc, hcl⟩ := hv
  have HC : Hid (∀ i, (h : i < l.length) → ∃ g off, a = some ⟨g, off, none⟩ ∧ g < w.heap.size ∧ w.cell? ⟨g, off + i * 3, none⟩ = some (.int .i64 l[i].lo) ∧ w.cell? ⟨g, off + i * 3 + 1, none⟩ = some (.int .i64 l[i].hi) ∧ w.cell? ⟨g, off + i * 3 + 2, none⟩ = some (.int .u8 l[i].v)) := hcl
  clear hcl
  have HALL : Hid (∀ k, k = l.length → valP (l.take k) r = valP l r) := fun k e => by rw [e, List.take_length]
  go_enter Tryd.func55, Tryd.ntmps55
  go_wp2
  go_loopw [5, 6] (fun y x wr => ∃ k : Nat, k ≤ l.length ∧ x = .int .i64 k ∧ y = .int .u8 (valP (l.take k) r) ∧ wr = w) (fun _ x _ => l.length - (intOf x).toNat)
  case atStart => exact ⟨0, Nat.zero_le _, rfl, rfl, rfl⟩
  case round =>
    obtain ⟨k, hk, rfl, rfl, rfl⟩ := hrel
    by_cases hlt : k < l.length
    · obtain ⟨g, off, rfl, hg, c0, c1, c2⟩ := HC.out k hlt
      obtain ⟨p, hp⟩ : ∃ p, p = l[k] := ⟨_, rfl⟩
      have HST : Hid (valP (l.take (k + 1)) r = if hasP p r = true then p.v else valP (l.take k) r) := by show _ = _; rw [val_take hlt, hp]
      rw [← hp] at c0 c1 c2
      have hlt' : (k : Int) < (l.length : Int) := by omega
      clear hp
      by_cases n1 : p.lo ≤ r
      · by_cases n2 : r ≤ p.hi
        · have HL : Hid (hasP p r = true) := hasP_iff.2 ⟨n1, n2⟩
          go_wp2
          go_roundw
          case rel => exact ⟨k + 1, by omega, by go_num, by rw [HST.out, if_pos HL.out], trivial⟩
          case measure => simp [intOf]; omega
        · have HL : Hid (¬ hasP p r = true) := fun h => n2 (hasP_iff.1 h).2
          go_wp2
          go_roundw
          case rel => exact ⟨k + 1, by omega, by go_num, by rw [HST.out, if_neg HL.out], trivial⟩
          case measure => simp [intOf]; omega
      · have HL : Hid (¬ hasP p r = true) := fun h => n1 (hasP_iff.1 h).1
        go_wp2
        go_roundw
        case rel => exact ⟨k + 1, by omega, by go_num, by rw [HST.out, if_neg HL.out], trivial⟩
        case measure => simp [intOf]; omega
    · have hlt' : ¬ ((k : Int) < (l.length : Int)) := by omega
      have HKL : Hid (k = l.length) := by show _ = _; omega
      go_wp2
      go_ret
      exact ⟨by simp [HALL.out k HKL.out], rfl⟩

def touchB (k : Int) (p : Pp) : Bool := decide (k * 256 ≤ p.hi) && decide (p.lo < (k + 1) * 256)
theorem touchB_iff {k : Int} {p : Pp} : touchB k p = true ↔ k * 256 ≤ p.hi ∧ p.lo < (k + 1) * 256 := by simp [touchB]
def touchL (l : List Pp) (k : Int) : List Pp := l.filter (touchB k)
theorem touch_step {l : List Pp} {i : Nat} {k : Int} (h : i < l.length) : touchL (l.take (i + 1)) k = if touchB k l[i] = true then touchL (l.take i) k ++ [l[i]] else touchL (l.take i) k := by
  unfold touchL
  rw [List.take_succ_eq_append_getElem h, List.filter_append]
  by_cases q : touchB k l[i] = true
  · rw [if_pos q]; simp [q]
  · rw [if_neg q]; simp [q]
theorem touch_len (l : List Pp) (k : Int) : (touchL l k).length ≤ l.length := List.length_filter_le _ _

set_option maxRecDepth 100000 in
set_option maxHeartbeats 8000000 in
theorem touched_any (l : List Pp) (v : Value) (n : Nat) (w : World) (hv : PropsIn w v l) (hl : l.length ≤ 4096) (hn : n < 4352) :
    Calls Tryd.prog 54 #[v, .int .i64 n] w fun e w' => ∃ v', e = .returned v' ∧ w'.ownsRow w.heap.size 70 3 v' (touchL l n).length (cellsPs (touchL l n)) ∧ Below w.heap.size w w' := by
  obtain ⟨iP, hiP, hzP0, hzP1, hzP2⟩ := info_parts Tryd.infoProp
  obtain ⟨a, cap, rfl, hc, hcl⟩ := hv
  have HC : Hid (∀ i, (h : i < l.length) → ∃ g off, a = some ⟨g, off, none⟩ ∧ g < w.heap.size ∧ w.cell? ⟨g, off + i * 3, none⟩ = some (.int .i64 l[i].lo) ∧ w.cell? ⟨g, off + i * 3 + 1, none⟩ = some (.int .i64 l[i].hi) ∧ w.cell? ⟨g, off + i * 3 + 2, none⟩ = some (.int .u8 l[i].v)) := hcl
  clear hcl
  have HALL : Hid (∀ k, k = l.length → touchL (l.take k) n = touchL l n) := fun k e => by rw [e, List.take_length]
  go_enter Tryd.func54, Tryd.ntmps54
  go_wp2
  go_loopw [5, 6] (fun y x wr => ∃ k : Nat, k ≤ l.length ∧ x = .int .i64 k ∧ wr.ownsRow w.heap.size 70 3 y (touchL (l.take k) n).length (cellsPs (touchL (l.take k) n)) ∧ Below w.heap.size w wr ∧ w.heap.size ≤ wr.heap.size) (fun _ x _ => l.length - (intOf x).toNat)
  case atStart => exact ⟨0, Nat.zero_le _, rfl, World.ownsRow_nil _ _ _ _, Below.refl _ _, Nat.le_refl _⟩
  case round =>
    obtain ⟨k, hk, rfl, hown, hB, hbs⟩ := hrel
    have htl : (touchL (l.take k) n).length ≤ k := Nat.le_trans (touch_len _ _) (by rw [List.length_take]; omega)
    by_cases hlt : k < l.length
    · obtain ⟨g, off, rfl, hg, c0, c1, c2⟩ := HC.out k hlt
      obtain ⟨p, hp⟩ : ∃ p, p = l[k] := ⟨_, rfl⟩
      have HST : Hid (touchL (l.take (k + 1)) n = if touchB n p = true then touchL (l.take k) n ++ [p] else touchL (l.take k) n) := by show _ = _; rw [touch_step hlt, hp]
      rw [← hp] at c0 c1 c2
      have q0 : wr.cell? ⟨g, off + k * 3, none⟩ = some (.int .i64 p.lo) := (hB.cell (p := ⟨g, _, none⟩) hg).trans c0
      have q1 : wr.cell? ⟨g, off + k * 3 + 1, none⟩ = some (.int .i64 p.hi) := (hB.cell (p := ⟨g, _, none⟩) hg).trans c1
      have q2 : wr.cell? ⟨g, off + k * 3 + 2, none⟩ = some (.int .u8 p.v) := (hB.cell (p := ⟨g, _, none⟩) hg).trans c2
      have hlt' : (k : Int) < (l.length : Int) := by omega
      have hw1 : IntKind.i64.wrap ((n : Int) * 256) = (n : Int) * 256 := IntWalk.i64_in _ (by omega)
      have hw2 : IntKind.i64.wrap ((n : Int) + 1) = (n : Int) + 1 := IntWalk.i64_in _ (by omega)
      have hw3 : IntKind.i64.wrap (((n : Int) + 1) * 256) = ((n : Int) + 1) * 256 := IntWalk.i64_in _ (by omega)
      obtain ⟨HOWN, HB⟩ : Hid (wr.ownsRow w.heap.size 70 3 u5 (touchL (l.take k) n).length (cellsPs (touchL (l.take k) n))) ∧ Hid (Below w.heap.size w wr) := ⟨hown, hB⟩
      clear hp c0 c1 c2 hown hB
      by_cases n1 : (n : Int) * 256 ≤ p.hi
      · by_cases n2 : p.lo < ((n : Int) + 1) * 256
        · have HL : Hid (touchB n p = true) := touchB_iff.2 ⟨n1, n2⟩
          have HOQ : Hid ((wr.alloc (.cells #[.int .i64 p.lo, .int .i64 p.hi, .int .u8 p.v] 70)).ownsRow w.heap.size 70 3 u5 (touchL (l.take k) n).length (cellsPs (touchL (l.take k) n))) := HOWN.out.alloc _
          have HNQ : Hid ((wr.alloc (.cells #[.int .i64 p.lo, .int .i64 p.hi, .int .u8 p.v] 70)).heap[wr.heap.size]? = some (.cells #[.int .i64 p.lo, .int .i64 p.hi, .int .u8 p.v] 70 (0, 0))) := heap_new' wr _
          go_wp2_with (first | (at_builtin; refine wpList_append_own _ rfl _ _ 45 rfl w.heap.size 70 iP (.agg #[.int .i64 0, .int .i64 0, .int .u8 0]) 3 24 Tryd.undPs hiP hzP0 hzP1 hzP2 rfl (by decide) _ _ _ rfl HOQ.out ⟨wr.heap.size, 0, none⟩ 1 1 (cellsP p) rfl rfl (World.news_of_block HNQ.out) (by simp [cellsP, Value.oneCell']) (by unfold maxLen; omega) (by omega) (by simp; omega) ?_; intro v2 w2 ho2 hg2 _) | fail)
          go_roundw
          case rel =>
            have hg2s := hg2.size
            refine ⟨k + 1, by omega, by go_num, ?_, ?_, by simp at hg2s; omega⟩
            · rw [HST.out, if_pos HL.out, List.length_append, cellsPs_snoc]
              exact ho2
            · refine (HB.out.alloc (by omega) _).grown hg2 (by simp; omega) (fun j e => (HOQ.out.lt j e).1)
          case measure => simp [intOf]; omega
        · have HL : Hid (¬ touchB n p = true) := fun h => n2 (touchB_iff.1 h).2
          go_wp2
          go_roundw
          case rel => exact ⟨k + 1, by omega, by go_num, by rw [HST.out, if_neg HL.out]; exact HOWN.out, HB.out, hbs⟩
          case measure => simp [intOf]; omega
      · have HL : Hid (¬ touchB n p = true) := fun h => n1 (touchB_iff.1 h).1
        go_wp2
        go_roundw
        case rel => exact ⟨k + 1, by omega, by go_num, by rw [HST.out, if_neg HL.out]; exact HOWN.out, HB.out, hbs⟩
        case measure => simp [intOf]; omega
    · have hlt' : ¬ ((k : Int) < (l.length : Int)) := by omega
      have HKL : Hid (touchL (l.take k) n = touchL l n) := HALL.out k (by omega)
      go_wp2
      go_ret
      rw [HKL.out] at hown
      exact ⟨_, rfl, hown, hB⟩
end Go.Proofs.YtpmlbdfdiebkcaaDoor

namespace Go.Proofs.YtpmlbdfdiebkcaaDoor
open Go.RowKit
set_option linter.unusedVariables false

/-- The document's trie at block g, all its blocks from n on: its first blocks' values, and which one each block is like. -/
def RefAt (n : Nat) (w : World) (g : Nat) (F : List (List Int)) (L : List Nat) : Prop :=
  ∃ vF vL, n ≤ g ∧ w.heap[g]? = some (.cells [vF, vL].toArray 85 (0, 0)) ∧ w.ownsRow n 5 1 vF (F.length * 256) (cellsBl F) ∧
    w.ownsRow n 3 1 vL L.length (L.map (fun k : Nat => Value.int .i64 (k : Int))) ∧ ∀ b ∈ F, IsB b

def placeOf (F : List (List Int)) (b : List Int) : Int := if b ∈ F then (F.idxOf b : Nat) else -1
theorem place_here {F : List (List Int)} {b : List Int} {k : Nat} (hk : k < F.length) (h : ∀ i, (hi : i < F.length) → i < k → ¬ F[i] = b) (e : F[k] = b) : placeOf F b = (k : Int) := by
  unfold placeOf
  have hm : b ∈ F := e ▸ List.getElem_mem hk
  rw [if_pos hm]
  have h1 : F.idxOf b ≤ k := by
    rcases Nat.lt_or_ge k (F.idxOf b) with q | q
    · have := List.not_of_lt_findIdx (p := fun x => x == b) (xs := F) (i := k) q
      simp [e] at this
    · exact q
  have h2 : F.idxOf b < F.length := List.idxOf_lt_length_iff.2 hm
  rcases Nat.lt_or_ge (F.idxOf b) k with q | q
  · exact absurd (List.getElem_idxOf h2) (h _ h2 q)
  · have : F.idxOf b = k := by omega
    rw [this]
theorem place_none {F : List (List Int)} {b : List Int} (h : ∀ i, (hi : i < F.length) → ¬ F[i] = b) : placeOf F b = -1 := by
  unfold placeOf
  rw [if_neg (fun hm => by obtain ⟨i, hi, e⟩ := List.mem_iff_getElem.1 hm; exact h i hi e)]
theorem nums_inj : ∀ {x y : List Int}, (∀ c ∈ x, 0 ≤ c ∧ c ≤ 255) → (∀ c ∈ y, 0 ≤ c ∧ c ≤ 255) → (x.map fun n => UInt8.ofNat n.toNat) = (y.map fun n => UInt8.ofNat n.toNat) → x = y
  | [], [], _, _, _ => rfl
  | [], b :: y, _, _, h => by simp at h
  | a :: x, [], _, _, h => by simp at h
  | a :: x, b :: y, hx, hy, h => by
    simp only [List.map_cons, List.cons.injEq] at h
    have ha := hx a (by simp)
    have hb := hy b (by simp)
    have e : a = b := by
      have := congrArg UInt8.toNat h.1
      simp only [UInt8.toNat_ofNat'] at this
      omega
    rw [e, nums_inj (fun c hc => hx c (by simp [hc])) (fun c hc => hy c (by simp [hc])) h.2]
theorem str_same {x y : List Int} (h : x = y) : ((strOfNums x).toList == (strOfNums y).toList) = true := by subst h; simp
theorem str_other {x y : List Int} (hx : IsB x) (hy : IsB y) (h : ¬ x = y) : ((strOfNums x).toList == (strOfNums y).toList) = false := by
  have : (strOfNums x).toList ≠ (strOfNums y).toList := fun q => h (nums_inj hx.2 hy.2 (by simpa [strOfNums, ByteArray.toList_eq] using q))
  simpa using this

set_option maxRecDepth 100000 in
set_option maxHeartbeats 8000000 in
theorem place_any (n : Nat) (F : List (List Int)) (L : List Nat) (g : Nat) (b : List Int) (vb : Value) (w : World) (hn : n ≤ w.heap.size) (ht : RefAt n w g F L) (hb : BytesAt w.heap.size w vb b) (hib : IsB b) (hF : F.length ≤ 4352) :
    Calls Tryd.prog 76 #[.pointer (some ⟨g, 0, none⟩), vb] w fun e w' => e = .returned (.int .i64 (placeOf F b)) ∧ Below w.heap.size w w' := by
  obtain ⟨vF, vL, hng, hg, hoF, hoL, hisF⟩ := ht
  obtain ⟨aF, capF, rfl⟩ := slice_of_row hoF
  have hgl := heap_lt hg
  have HC : Hid (∀ w', Below w.heap.size w w' → w'.cell? ⟨g, 0, none⟩ = some (.slice aF (F.length * 256) capF)) := fun w' hw' => (hw'.cell (p := ⟨g, 0, none⟩) hgl).trans (cell_row hg rfl)
  obtain ⟨HO, HIS, HBB⟩ : Hid (w.ownsRow n 5 1 (.slice aF (F.length * 256) capF) (F.length * 256) (cellsBl F)) ∧ Hid (∀ b ∈ F, IsB b) ∧ Hid (BytesAt w.heap.size w vb b) := ⟨hoF, hisF, hb⟩
  have HIB : Hid (IsB b) := hib
  obtain ⟨pl, hpl⟩ : ∃ pl, pl = placeOf F b := ⟨_, rfl⟩
  have HPL : Hid (pl = placeOf F b) := hpl
  rw [← hpl]
  clear hg hoF hoL hisF hb hib hpl
  go_enter Tryd.func76, Tryd.ntmps76
  go_wp2
  go_loopw [5] (fun x wr => ∃ k : Nat, k ≤ F.length ∧ x = .int .i64 k ∧ (∀ i, (hi : i < F.length) → i < k → ¬ F[i] = b) ∧ Below w.heap.size w wr) (fun x _ => F.length - (intOf x).toNat)
  case atStart => exact ⟨0, Nat.zero_le _, rfl, fun i _ hi => by omega, Below.refl _ _⟩
  case round =>
    obtain ⟨k, hk, rfl, hno, hB⟩ := hrel
    have c0 := HC.out wr hB
    have HNO : Hid (∀ i, (hi : i < F.length) → i < k → ¬ F[i] = b) := hno
    clear hno
    have hw1 : IntKind.i64.wrap ((k : Int) * 256) = (k : Int) * 256 := IntWalk.i64_in _ (by omega)
    have hw2 : IntKind.i64.wrap ((k : Int) + 1) = (k : Int) + 1 := IntWalk.i64_in _ (by omega)
    have hw3 : IntKind.i64.wrap (((k : Int) + 1) * 256) = ((k : Int) + 1) * 256 := IntWalk.i64_in _ (by omega)
    by_cases hlt : k < F.length
    · have hlt' : (k : Int) * 256 < (F.length : Int) * 256 := by omega
      obtain ⟨gF, haF, hcF, hgF⟩ : ∃ gF, aF = some ⟨gF, 0, none⟩ ∧ F.length * 256 ≤ capF ∧ gF < w.heap.size := by
        rcases HO.out.2 with ⟨_, h0⟩ | ⟨g', cap', cur, e, _, hg', hc', _⟩
        · omega
        · obtain ⟨rfl, rfl⟩ : aF = some ⟨g', 0, none⟩ ∧ capF = cap' := by simpa using e
          exact ⟨g', rfl, hc', heap_lt hg'⟩
      subst haF
      have hbs := hB.size
      have HX : Hid (∀ w', Below wr.heap.size wr w' → BytesAt w'.heap.size w' (.slice (some ⟨gF, k * 256, none⟩) 256 (capF - k * 256)) F[k]) := fun w' hw' => by
        have hl : F[k].length = 256 := (HIS.out _ (List.getElem_mem hlt)).1
        refine ⟨some ⟨gF, k * 256, none⟩, capF - k * 256, by rw [hl], by omega, fun i hi => ⟨gF, k * 256, rfl, by have := hw'.size; omega, ?_⟩⟩
        have e1 := cellsBl_at (isB_even HIS.out) hlt (j := i) (u := .int .u8 F[k][i]) (i8_get hi)
        have e2 := HO.out.cells (g := gF) rfl _ _ e1
        rw [Addr.add_mid] at e2
        rw [hw'.cell (p := ⟨gF, _, none⟩) (by show gF < _; omega), hB.cell (p := ⟨gF, _, none⟩) hgF, ← e2]
        simp
      have HY : Hid (∀ w', Below wr.heap.size wr w' → BytesAt w'.heap.size w' vb b) := fun w' hw' => ((HBB.out.below hB).below (hw'.mono hbs)).mono (by have := hw'.size; omega)
      have HC0 : Hid (∀ w', Below wr.heap.size wr w' → w'.cell? ⟨g, 0, none⟩ = some (.slice (some ⟨gF, 0, none⟩) (F.length * 256) capF)) := fun w' hw' => (hw'.cell (p := ⟨g, 0, none⟩) (by show g < _; omega)).trans c0
      have HB : Hid (Below w.heap.size w wr) := hB
      have hs1 : (k : Int) * 256 ≤ ((k : Int) + 1) * 256 := by omega
      have hs2 : ((k : Int) + 1) * 256 ≤ (capF : Int) := by omega
      have hs3 : (0 : Int) ≤ (k : Int) * 256 := by omega
      have hs4 : ((k : Int) * 256).toNat = k * 256 := by omega
      have hs5 : (((k : Int) + 1) * 256).toNat = (k + 1) * 256 := by omega
      have hs6 : (k + 1) * 256 - k * 256 = 256 := by omega
      have hs7 : ¬ (capF - k * 256 = 0) := by omega
      have hs8 : ¬ (capF = k * 256) := by omega
      have hs9 : (0 : Int) ≤ ((k : Int) + 1) * 256 := by omega
      have hs10 : (k : Int) ≤ (k : Int) + 1 := by omega
      clear hB
      by_cases hq : F[k] = b
      · have HR : Hid (pl = (k : Int)) := by show _ = _; rw [HPL.out]; exact place_here hlt HNO.out hq
        have HSE : Hid (((strOfNums F[k]).toList == (strOfNums b).toList) = true) := str_same hq
        clear hq
        go_wp2_with fail
        refine wp_region_bad (fun w' => Below wr.heap.size wr w') [] (by kernel_rfl) ((Below.refl _ _).drew) (fun hS => ?_)
        have hC0 := HC0.out
        have hse := HSE.out
        refine wpAnyB_pure (i := 0) (v := .pointer (some ⟨g, 0, none⟩)) rfl (by kernel_rfl) (fun _ _ _ h => h) (Or.inl ⟨by rfl, fun w _ => by go_simp⟩) hS ?_
        simp only [List.getElem_toArray, List.getElem_cons_zero, Act.put, List.setIfInBounds_toArray, List.set_cons_zero, List.set_cons_succ]
        refine wpAnyB_pure (i := 1) (v := .pointer (some ⟨g, 0, none⟩)) rfl (by kernel_rfl) (fun _ _ _ h => h) (Or.inl ⟨by rfl, fun w _ => by go_simp⟩) hS ?_
        simp only [List.getElem_toArray, List.getElem_cons_succ, List.getElem_cons_zero, Act.put, List.setIfInBounds_toArray, List.set_cons_zero, List.set_cons_succ]
        refine wpAnyB_pure (i := 2) (v := .pointer (some ⟨g, 0, none⟩)) rfl (by kernel_rfl) (fun _ _ _ h => h) (Or.inl ⟨by rfl, fun w _ => by go_simp⟩) hS ?_
        simp only [List.getElem_toArray, List.getElem_cons_succ, List.getElem_cons_zero, Act.put, List.setIfInBounds_toArray, List.set_cons_zero, List.set_cons_succ]
        refine wpAnyB_take [] (i := 3) (v := .slice (some ⟨gF, 0, none⟩) (F.length * 256) capF) rfl (by kernel_rfl) (fun _ _ _ h => h) (Or.inl ⟨by rfl, fun w hSw => by have := hC0 w hSw; go_simp⟩) hS ?_
        simp only [List.getElem_toArray, List.getElem_cons_succ, List.getElem_cons_zero, Act.put, List.setIfInBounds_toArray, List.set_cons_zero, List.set_cons_succ]
        refine wpAnyB_pure (i := 4) (v := .int .i64 (k : Int)) rfl (by kernel_rfl) (fun _ _ _ h => h) (Or.inl ⟨by rfl, fun w _ => by go_simp⟩) hS ?_
        simp only [List.getElem_toArray, List.getElem_cons_succ, List.getElem_cons_zero, Act.put, List.setIfInBounds_toArray, List.set_cons_zero, List.set_cons_succ]
        refine wpAnyB_pure (i := 5) (v := .int .i64 ((k : Int) * 256)) rfl (by kernel_rfl) (fun _ _ _ h => h) (Or.inl ⟨by rfl, fun w _ => by go_simp⟩) hS ?_
        simp only [List.getElem_toArray, List.getElem_cons_succ, List.getElem_cons_zero, Act.put, List.setIfInBounds_toArray, List.set_cons_zero, List.set_cons_succ]
        refine wpAnyB_pure (i := 6) (v := .int .i64 (k : Int)) rfl (by kernel_rfl) (fun _ _ _ h => h) (Or.inl ⟨by rfl, fun w _ => by go_simp⟩) hS ?_
        simp only [List.getElem_toArray, List.getElem_cons_succ, List.getElem_cons_zero, Act.put, List.setIfInBounds_toArray, List.set_cons_zero, List.set_cons_succ]
        refine wpAnyB_pure (i := 7) (v := .int .i64 ((k : Int) + 1)) rfl (by kernel_rfl) (fun _ _ _ h => h) (Or.inl ⟨by rfl, fun w _ => by go_simp⟩) hS ?_
        simp only [List.getElem_toArray, List.getElem_cons_succ, List.getElem_cons_zero, Act.put, List.setIfInBounds_toArray, List.set_cons_zero, List.set_cons_succ]
        refine wpAnyB_pure (i := 8) (v := .int .i64 (((k : Int) + 1) * 256)) rfl (by kernel_rfl) (fun _ _ _ h => h) (Or.inl ⟨by rfl, fun w _ => by go_simp⟩) hS ?_
        simp only [List.getElem_toArray, List.getElem_cons_succ, List.getElem_cons_zero, Act.put, List.setIfInBounds_toArray, List.set_cons_zero, List.set_cons_succ]
        refine wpAnyB_pure (i := 9) (v := .slice (some ⟨gF, k * 256, none⟩) 256 (capF - k * 256)) rfl (by kernel_rfl) (fun _ _ _ h => h) (Or.inl ⟨by rfl, fun w _ => by go_simp⟩) hS ?_
        simp only [List.getElem_toArray, List.getElem_cons_succ, List.getElem_cons_zero, Act.put, List.setIfInBounds_toArray, List.set_cons_zero, List.set_cons_succ]
        refine wpAnyB_take [] (i := 10) (v := .string (strOfNums F[k])) rfl (by kernel_rfl) (fun _ _ _ h => h) (yields_convert (by rfl) rfl rfl (fun w' hw' => (HX.out w' hw').conv)) hS ?_
        simp only [List.getElem_toArray, List.getElem_cons_succ, List.getElem_cons_zero, Act.put, List.setIfInBounds_toArray, List.set_cons_zero, List.set_cons_succ]
        refine wpAnyB_pure (i := 11) (v := vb) rfl (by kernel_rfl) (fun _ _ _ h => h) (Or.inl ⟨by rfl, fun w _ => by go_simp⟩) hS ?_
        simp only [List.getElem_toArray, List.getElem_cons_succ, List.getElem_cons_zero, Act.put, List.setIfInBounds_toArray, List.set_cons_zero, List.set_cons_succ]
        refine wpAnyB_take [] (i := 12) (v := .string (strOfNums b)) rfl (by kernel_rfl) (fun _ _ _ h => h) (yields_convert (by rfl) rfl rfl (fun w' hw' => (HY.out w' hw').conv)) hS ?_
        simp only [List.getElem_toArray, List.getElem_cons_succ, List.getElem_cons_zero, Act.put, List.setIfInBounds_toArray, List.set_cons_zero, List.set_cons_succ]
        refine wpAnyB_pure (i := 13) (v := .bool true) rfl (by kernel_rfl) (fun _ _ _ h => h) (Or.inl ⟨by rfl, fun w _ => by go_simp⟩) hS ?_
        simp only [List.getElem_toArray, List.getElem_cons_succ, List.getElem_cons_zero, Act.put, List.setIfInBounds_toArray, List.set_cons_zero, List.set_cons_succ]
        refine wpAnyB_done (by kernel_rfl) ?_ _
        refine NoPanic.normal ?_
        clear hC0 hse
        have HS : Hid (Below wr.heap.size wr wr.drew) := hS
        clear hS
        go_wp2
        go_ret
        exact ⟨by rw [HR.out]; rfl, HB.out.trans (HS.out.mono hbs)⟩
      · have HSE : Hid (((strOfNums F[k]).toList == (strOfNums b).toList) = false) := str_other (HIS.out _ (List.getElem_mem hlt)) HIB.out hq
        have HNO' : Hid (∀ i, (hi : i < F.length) → i < k + 1 → ¬ F[i] = b) := fun i hi h => by
          rcases Nat.lt_or_ge i k with z | z
          · exact HNO.out i hi z
          · have : i = k := by omega
            subst this; exact hq
        clear hq
        go_wp2_with fail
        refine wp_region_bad (fun w' => Below wr.heap.size wr w') [] (by kernel_rfl) ((Below.refl _ _).drew) (fun hS => ?_)
        have hC0 := HC0.out
        have hse := HSE.out
        refine wpAnyB_pure (i := 0) (v := .pointer (some ⟨g, 0, none⟩)) rfl (by kernel_rfl) (fun _ _ _ h => h) (Or.inl ⟨by rfl, fun w _ => by go_simp⟩) hS ?_
        simp only [List.getElem_toArray, List.getElem_cons_zero, Act.put, List.setIfInBounds_toArray, List.set_cons_zero, List.set_cons_succ]
        refine wpAnyB_pure (i := 1) (v := .pointer (some ⟨g, 0, none⟩)) rfl (by kernel_rfl) (fun _ _ _ h => h) (Or.inl ⟨by rfl, fun w _ => by go_simp⟩) hS ?_
        simp only [List.getElem_toArray, List.getElem_cons_succ, List.getElem_cons_zero, Act.put, List.setIfInBounds_toArray, List.set_cons_zero, List.set_cons_succ]
        refine wpAnyB_pure (i := 2) (v := .pointer (some ⟨g, 0, none⟩)) rfl (by kernel_rfl) (fun _ _ _ h => h) (Or.inl ⟨by rfl, fun w _ => by go_simp⟩) hS ?_
        simp only [List.getElem_toArray, List.getElem_cons_succ, List.getElem_cons_zero, Act.put, List.setIfInBounds_toArray, List.set_cons_zero, List.set_cons_succ]
        refine wpAnyB_take [] (i := 3) (v := .slice (some ⟨gF, 0, none⟩) (F.length * 256) capF) rfl (by kernel_rfl) (fun _ _ _ h => h) (Or.inl ⟨by rfl, fun w hSw => by have := hC0 w hSw; go_simp⟩) hS ?_
        simp only [List.getElem_toArray, List.getElem_cons_succ, List.getElem_cons_zero, Act.put, List.setIfInBounds_toArray, List.set_cons_zero, List.set_cons_succ]
        refine wpAnyB_pure (i := 4) (v := .int .i64 (k : Int)) rfl (by kernel_rfl) (fun _ _ _ h => h) (Or.inl ⟨by rfl, fun w _ => by go_simp⟩) hS ?_
        simp only [List.getElem_toArray, List.getElem_cons_succ, List.getElem_cons_zero, Act.put, List.setIfInBounds_toArray, List.set_cons_zero, List.set_cons_succ]
        refine wpAnyB_pure (i := 5) (v := .int .i64 ((k : Int) * 256)) rfl (by kernel_rfl) (fun _ _ _ h => h) (Or.inl ⟨by rfl, fun w _ => by go_simp⟩) hS ?_
        simp only [List.getElem_toArray, List.getElem_cons_succ, List.getElem_cons_zero, Act.put, List.setIfInBounds_toArray, List.set_cons_zero, List.set_cons_succ]
        refine wpAnyB_pure (i := 6) (v := .int .i64 (k : Int)) rfl (by kernel_rfl) (fun _ _ _ h => h) (Or.inl ⟨by rfl, fun w _ => by go_simp⟩) hS ?_
        simp only [List.getElem_toArray, List.getElem_cons_succ, List.getElem_cons_zero, Act.put, List.setIfInBounds_toArray, List.set_cons_zero, List.set_cons_succ]
        refine wpAnyB_pure (i := 7) (v := .int .i64 ((k : Int) + 1)) rfl (by kernel_rfl) (fun _ _ _ h => h) (Or.inl ⟨by rfl, fun w _ => by go_simp⟩) hS ?_
        simp only [List.getElem_toArray, List.getElem_cons_succ, List.getElem_cons_zero, Act.put, List.setIfInBounds_toArray, List.set_cons_zero, List.set_cons_succ]
        refine wpAnyB_pure (i := 8) (v := .int .i64 (((k : Int) + 1) * 256)) rfl (by kernel_rfl) (fun _ _ _ h => h) (Or.inl ⟨by rfl, fun w _ => by go_simp⟩) hS ?_
        simp only [List.getElem_toArray, List.getElem_cons_succ, List.getElem_cons_zero, Act.put, List.setIfInBounds_toArray, List.set_cons_zero, List.set_cons_succ]
        refine wpAnyB_pure (i := 9) (v := .slice (some ⟨gF, k * 256, none⟩) 256 (capF - k * 256)) rfl (by kernel_rfl) (fun _ _ _ h => h) (Or.inl ⟨by rfl, fun w _ => by go_simp⟩) hS ?_
        simp only [List.getElem_toArray, List.getElem_cons_succ, List.getElem_cons_zero, Act.put, List.setIfInBounds_toArray, List.set_cons_zero, List.set_cons_succ]
        refine wpAnyB_take [] (i := 10) (v := .string (strOfNums F[k])) rfl (by kernel_rfl) (fun _ _ _ h => h) (yields_convert (by rfl) rfl rfl (fun w' hw' => (HX.out w' hw').conv)) hS ?_
        simp only [List.getElem_toArray, List.getElem_cons_succ, List.getElem_cons_zero, Act.put, List.setIfInBounds_toArray, List.set_cons_zero, List.set_cons_succ]
        refine wpAnyB_pure (i := 11) (v := vb) rfl (by kernel_rfl) (fun _ _ _ h => h) (Or.inl ⟨by rfl, fun w _ => by go_simp⟩) hS ?_
        simp only [List.getElem_toArray, List.getElem_cons_succ, List.getElem_cons_zero, Act.put, List.setIfInBounds_toArray, List.set_cons_zero, List.set_cons_succ]
        refine wpAnyB_take [] (i := 12) (v := .string (strOfNums b)) rfl (by kernel_rfl) (fun _ _ _ h => h) (yields_convert (by rfl) rfl rfl (fun w' hw' => (HY.out w' hw').conv)) hS ?_
        simp only [List.getElem_toArray, List.getElem_cons_succ, List.getElem_cons_zero, Act.put, List.setIfInBounds_toArray, List.set_cons_zero, List.set_cons_succ]
        refine wpAnyB_pure (i := 13) (v := .bool false) rfl (by kernel_rfl) (fun _ _ _ h => h) (Or.inl ⟨by rfl, fun w _ => by go_simp⟩) hS ?_
        simp only [List.getElem_toArray, List.getElem_cons_succ, List.getElem_cons_zero, Act.put, List.setIfInBounds_toArray, List.set_cons_zero, List.set_cons_succ]
        refine wpAnyB_done (by kernel_rfl) ?_ _
        refine NoPanic.normal ?_
        clear hC0 hse c0
        have HS : Hid (Below wr.heap.size wr wr.drew) := hS
        clear hS
        go_wp2
        go_roundw
        case rel => exact ⟨k + 1, by omega, by go_num, HNO'.out, HB.out.trans (HS.out.mono hbs)⟩
        case measure => simp [intOf]; omega
    · have hlt' : ¬ ((k : Int) * 256 < (F.length : Int) * 256) := by omega
      have HR : Hid (pl = -1) := by show _ = _; rw [HPL.out]; exact place_none (fun i hi => HNO.out i hi (by omega))
      have HB : Hid (Below w.heap.size w wr) := hB
      clear hB
      go_wp2
      go_ret
      exact ⟨by rw [HR.out]; rfl, HB.out⟩
end Go.Proofs.YtpmlbdfdiebkcaaDoor

namespace Go.Proofs.YtpmlbdfdiebkcaaDoor
open Go.RowKit
set_option linter.unusedVariables false

theorem Tryd.undIs : Tryd.prog.underlying 22 = some (.slice 3) := by kernel_rfl
theorem Tryd.undUs : Tryd.prog.underlying 37 = some (.slice 5) := by kernel_rfl
/-- Rows of unlike types lie apart. -/
theorem rows_apart {w : World} {b1 e1 s1 n1 b2 e2 s2 n2 : Nat} {v1 v2 : Value} {x1 x2 : List Value} (h1 : w.ownsRow b1 e1 s1 v1 n1 x1) (h2 : w.ownsRow b2 e2 s2 v2 n2 x2) (he : e1 ≠ e2) : v1.ownBlock = none ∨ v1.ownBlock ≠ v2.ownBlock := by
  rcases h2.2 with ⟨rfl, _⟩ | ⟨g, cap, cur, rfl, _, hg, _⟩
  · cases z : v1.ownBlock with
    | none => exact .inl rfl
    | some k => right; simp [Value.ownBlock]
  · right
    rcases h1.2 with ⟨rfl, _⟩ | ⟨g', cap', cur', rfl, _, hg', _⟩
    · simp [Value.ownBlock]
    · intro q
      have : g' = g := by simpa [Value.ownBlock] using q
      rw [this, hg] at hg'
      simp at hg'
      exact he hg'.2.symm
theorem set_grown (w : World) (g j : Nat) (v : Value) : w.grownBy (w.setCell ⟨g, j, none⟩ v) (some g) := ⟨rfl, rfl, rfl, by simp [World.setCell], fun k hk hne => heap_setCell_other _ _ _ _ (fun e => hne (by rw [e]))⟩

set_option maxRecDepth 100000 in
set_option maxHeartbeats 8000000 in
theorem add_any (n : Nat) (F : List (List Int)) (L : List Nat) (g : Nat) (b : List Int) (vb : Value) (w : World) (hn : n ≤ w.heap.size) (ht : RefAt n w g F L) (hb : BytesAt w.heap.size w vb b) (hib : IsB b) (hF : F.length ≤ 4352) (hL : L.length ≤ 4352) :
    Calls Tryd.prog 56 #[.pointer (some ⟨g, 0, none⟩), vb] w fun e w' => e = .returned (.tuple #[]) ∧ RefAt n w' g (addF F b) (L ++ [(addF F b).idxOf b]) ∧ Below n w w' := by
  obtain ⟨iI, hiI, hzI0, hzI1, hzI2⟩ := info_parts Tryd.infoInt
  obtain ⟨iU, hiU, hzU0, hzU1, hzU2⟩ := info_parts Tryd.infoByte
  have HT : Hid (RefAt n w g F L) := ht
  have HBB : Hid (BytesAt w.heap.size w vb b) := hb
  have HIB : Hid (IsB b) := hib
  obtain ⟨vF, vL, hng, hg, hoF, hoL, hisF⟩ := ht
  obtain ⟨aF, capF, hvF⟩ := slice_of_row hoF
  obtain ⟨aL, capL, rfl⟩ := slice_of_row hoL
  have hgl := heap_lt hg
  obtain ⟨HG, HOF, HOL, HIS⟩ : Hid (w.heap[g]? = some (.cells [vF, .slice aL L.length capL].toArray 85 (0, 0))) ∧ Hid (w.ownsRow n 5 1 vF (F.length * 256) (cellsBl F)) ∧ Hid (w.ownsRow n 3 1 (.slice aL L.length capL) L.length (L.map (fun k : Nat => Value.int .i64 (k : Int)))) ∧ Hid (∀ b ∈ F, IsB b) := ⟨hg, hoF, hoL, hisF⟩
  have HVF : Hid (vF = .slice aF (F.length * 256) capF) := hvF
  obtain ⟨F', hF'⟩ : ∃ F', F' = addF F b := ⟨_, rfl⟩
  obtain ⟨k', hk'⟩ : ∃ k', k' = F'.idxOf b := ⟨_, rfl⟩
  have HF' : Hid (F' = addF F b) := hF'
  have HK' : Hid (k' = F'.idxOf b) := hk'
  rw [← hF', ← hk']
  clear hg hoF hoL hisF hib hb hvF hF' hk'
  go_enter Tryd.func56, Tryd.ntmps56
  go_wp2_with fail
  refine (place_any n F L g b vb w hn HT.out HBB.out HIB.out hF).mono ?_
  rintro e w1 ⟨rfl, hB1⟩
  have hb1 := hB1.size
  have HB1 : Hid (Below w.heap.size w w1) := hB1
  clear hB1
  by_cases hm : b ∈ F
  · have hp : placeOf F b = ((F.idxOf b : Nat) : Int) := by unfold placeOf; rw [if_pos hm]
    rw [hp]
    obtain ⟨q, hq⟩ : ∃ q, q = F.idxOf b := ⟨_, rfl⟩
    have HFE : Hid (F' = F) := by show _ = _; rw [HF'.out, addF_of_mem hm]
    have HKE : Hid (k' = q) := by show _ = _; rw [HK'.out, HFE.out, hq]
    rw [← hq]
    have hnn : ¬ (((q : Nat) : Int) < 0) := by omega
    have HGT : Hid (w1.heap[g]? = some (.cells [vF, .slice aL L.length capL].toArray 85 (0, 0))) := (HB1.out.block g hgl).trans HG.out
    have HFT : Hid (w1.ownsRow n 5 1 vF (F.length * 256) (cellsBl F)) := ownsRow_below HOF.out HB1.out
    have HLT : Hid (w1.ownsRow n 3 1 (.slice aL L.length capL) L.length (L.map (fun k : Nat => Value.int .i64 (k : Int)))) := ownsRow_below HOL.out HB1.out
    have HBT : Hid (Below n w w1) := HB1.out.mono hn
    have HIT : Hid (∀ b ∈ F, IsB b) := HIS.out
    have hgt : g < w1.heap.size := by omega
    clear hp hq hm
    have c1 : w1.cell? ⟨g, 1, none⟩ = some (.slice aL L.length capL) := cell_row HGT.out rfl
    have HLA : Hid ((w1.alloc (.cells #[.int .i64 (q : Int)] 3)).ownsRow n 3 1 (.slice aL L.length capL) L.length (L.map (fun k : Nat => Value.int .i64 (k : Int)))) := HLT.out.alloc _
    have HNA : Hid ((w1.alloc (.cells #[.int .i64 (q : Int)] 3)).heap[w1.heap.size]? = some (.cells #[.int .i64 (q : Int)] 3 (0, 0))) := heap_new' w1 _
    have HGA : Hid ((w1.alloc (.cells #[.int .i64 (q : Int)] 3)).heap[g]? = some (.cells [vF, .slice aL L.length capL].toArray 85 (0, 0))) := (((Below.refl w1.heap.size w1).alloc (Nat.le_refl _) _).block g hgt).trans HGT.out
    have HON : Hid ((Value.slice aL L.length capL).ownBlock ≠ some g) := own_ne HLA.out HGA.out (by decide)
    go_wp2_with (first | (at_builtin; refine wpList_append_own _ rfl _ _ 22 rfl n 3 iI (.int .i64 0) 1 8 Tryd.undIs hiI hzI0 hzI1 hzI2 rfl (by decide) _ _ _ rfl HLA.out ⟨w1.heap.size, 0, none⟩ 1 1 [.int .i64 (q : Int)] rfl rfl (World.news_of_block HNA.out) (by simp [Value.oneCell']) (by unfold maxLen; omega) (by omega) (by simp; omega) ?_; intro v2 w2 ho2 hg2 _; obtain ⟨a2, cap2, rfl⟩ := slice_of_row ho2; have HG2 : Hid (w2.heap[g]? = some (.cells [vF, .slice aL L.length capL].toArray 85 (0, 0))) := (hg2.block g (by simp; omega) (fun e => HON.out e.symm)).trans HGA.out; have hc2 : w2.cell? ⟨g, 1, none⟩ = some (.slice aL L.length capL) := cell_row HG2.out rfl; have hf2 : w2.frozen? ⟨g, 1, none⟩ = false := frozen_of_row _ _ _ _ _ HG2.out; have HO2 : Hid (w2.ownsRow n 3 1 (.slice a2 (L.length + 1) cap2) (L.length + 1) ((L.map (fun k : Nat => Value.int .i64 (k : Int))) ++ [.int .i64 (q : Int)])) := ho2; have HGR : Hid ((w1.alloc (.cells #[.int .i64 (q : Int)] 3)).grownBy w2 (Value.slice aL L.length capL).ownBlock) := hg2; clear ho2 hg2) | fail)
    refine bodyPost_end (results_none rfl _ _ _) rfl ?_
    refine ⟨rfl, ⟨vF, .slice a2 (L.length + 1) cap2, hng, heap_set_row HG2.out rfl, ?_, ?_, ?_⟩, ?_⟩
    · rw [HFE.out]
      have e1 : w2.ownsRow n 5 1 (vF) (F.length * 256) (cellsBl F) := (HFT.out.alloc _).kept HGR.out (rows_apart (HFT.out.alloc _) HLA.out (by decide))
      exact e1.kept (set_grown w2 g 1 _) (.inr (own_ne e1 HG2.out (by decide)))
    · rw [HKE.out, List.length_append, List.map_append]
      exact HO2.out.kept (set_grown w2 g 1 _) (.inr (own_ne HO2.out HG2.out (by decide)))
    · rw [HFE.out]; exact HIT.out
    · have hr := HLA.out.lt
      refine Below.setCell ?_ (show n ≤ g from hng) _
      exact (HBT.out.alloc (by omega) _).grown HGR.out (by simp; omega) (fun k hk => (hr k hk).1)
  · have hp : placeOf F b = -1 := by unfold placeOf; rw [if_neg hm]
    rw [hp]
    obtain ⟨ab, capb, hvb, hcb, hcc⟩ := HBB.out.below HB1.out
    obtain ⟨gb, ob, hab, hgb, _⟩ := hcc 0 (by have := HIB.out.1; omega)
    subst hab
    have hlb := HIB.out.1
    rw [hlb] at hvb
    subst hvb
    have HSRC : Hid (∀ j u, (i8 b)[j]? = some u → w1.cell? ((⟨gb, ob, none⟩ : Addr).add j) = some u) := fun j u hj => by
      have hj' : j < b.length := by have := (List.getElem?_eq_some_iff.1 hj).1; rwa [i8_length] at this
      obtain ⟨g', o', e, _, hc⟩ := hcc j hj'
      obtain ⟨rfl, rfl⟩ : gb = g' ∧ ob = o' := by simpa using e
      rw [i8_get hj'] at hj
      rw [Addr.add_mid, hc, hj]
    have HFE : Hid (F' = F ++ [b]) := by show _ = _; rw [HF'.out, addF_new hm]
    have HKE : Hid (k' = F.length) := by show _ = _; rw [HK'.out, HF'.out, idx_addF hm]
    have hvF := HVF.out
    subst hvF
    have HG1 : Hid (w1.heap[g]? = some (.cells [.slice aF (F.length * 256) capF, .slice aL L.length capL].toArray 85 (0, 0))) := (HB1.out.block g hgl).trans HG.out
    have HF1 : Hid (w1.ownsRow n 5 1 (.slice aF (F.length * 256) capF) (F.length * 256) (cellsBl F)) := ownsRow_below HOF.out HB1.out
    have HL1 : Hid (w1.ownsRow n 3 1 (.slice aL L.length capL) L.length (L.map (fun k : Nat => Value.int .i64 (k : Int)))) := ownsRow_below HOL.out HB1.out
    have HON1 : Hid ((Value.slice aF (F.length * 256) capF).ownBlock ≠ some g) := own_ne HF1.out HG1.out (by decide)
    have HLB : Hid (b.length = 256) := hlb
    have c0 : w1.cell? ⟨g, 0, none⟩ = some (.slice aF (F.length * 256) capF) := cell_row HG1.out rfl
    have HIT : Hid (∀ x ∈ F ++ [b], IsB x) := fun x hx => by
      rcases List.mem_append.1 hx with z | z
      · exact HIS.out x z
      · rw [List.mem_singleton.1 z]; exact HIB.out
    clear hp hm hcc hcb hlb
    go_wp2_with (first | (at_builtin; refine wpList_append_own _ rfl _ _ 37 rfl n 5 iU (.int .u8 0) 1 1 Tryd.undUs hiU hzU0 hzU1 hzU2 rfl (by decide) _ _ _ rfl HF1.out ⟨gb, ob, none⟩ 256 capb (i8 b) rfl (by rw [i8_length, HLB.out]) HSRC.out (i8_one b) (by unfold maxLen; omega) (by omega) (by omega) ?_; intro v3 w3 ho3 hg3 _; obtain ⟨a3, cap3, rfl⟩ := slice_of_row ho3; have HG3 : Hid (w3.heap[g]? = some (.cells [.slice aF (F.length * 256) capF, .slice aL L.length capL].toArray 85 (0, 0))) := (hg3.block g (by omega) (fun e => HON1.out e.symm)).trans HG1.out; have hc3 : w3.cell? ⟨g, 0, none⟩ = some (.slice aF (F.length * 256) capF) := cell_row HG3.out rfl; have hf3 : w3.frozen? ⟨g, 0, none⟩ = false := frozen_of_row _ _ _ _ _ HG3.out; have HO3 : Hid (w3.ownsRow n 5 1 (.slice a3 (F.length * 256 + 256) cap3) (F.length * 256 + 256) (cellsBl F ++ i8 b)) := ho3; have HGR3 : Hid (w1.grownBy w3 (Value.slice aF (F.length * 256) capF).ownBlock) := hg3; clear ho3 hg3 c0; have HGT : Hid ((w3.setCell ⟨g, 0, none⟩ (.slice a3 (F.length * 256 + 256) cap3)).heap[g]? = some (.cells [.slice a3 (F.length * 256 + 256) cap3, .slice aL L.length capL].toArray 85 (0, 0))) := heap_set_row HG3.out rfl; have c1 : (w3.setCell ⟨g, 0, none⟩ (.slice a3 (F.length * 256 + 256) cap3)).cell? ⟨g, 1, none⟩ = some (.slice aL L.length capL) := cell_row HGT.out rfl; have hs3 := HGR3.out.size; have HSZ : Hid ((w3.setCell ⟨g, 0, none⟩ (.slice a3 (F.length * 256 + 256) cap3)).heap.size = w3.heap.size) := (by show _ = _; simp [World.setCell]); have hgt : g < (w3.setCell ⟨g, 0, none⟩ (.slice a3 (F.length * 256 + 256) cap3)).heap.size := (by simp [World.setCell]; omega); have hnt : n ≤ (w3.setCell ⟨g, 0, none⟩ (.slice a3 (F.length * 256 + 256) cap3)).heap.size := (by simp [World.setCell]; omega); have HLT : Hid ((w3.setCell ⟨g, 0, none⟩ (.slice a3 (F.length * 256 + 256) cap3)).ownsRow n 3 1 (.slice aL L.length capL) L.length (L.map (fun k : Nat => Value.int .i64 (k : Int)))) := (HL1.out.kept HGR3.out (rows_apart HL1.out HF1.out (by decide))).kept (set_grown w3 g 0 _) (.inr (own_ne (HL1.out.kept HGR3.out (rows_apart HL1.out HF1.out (by decide))) HG3.out (by decide))); have HFT : Hid ((w3.setCell ⟨g, 0, none⟩ (.slice a3 (F.length * 256 + 256) cap3)).ownsRow n 5 1 (.slice a3 (F.length * 256 + 256) cap3) ((F ++ [b]).length * 256) (cellsBl (F ++ [b]))) := (by rw [List.length_append, cellsBl_snoc, Nat.add_mul]; exact HO3.out.kept (set_grown w3 g 0 _) (.inr (own_ne HO3.out HG3.out (by decide)))); have HBT : Hid (Below n w (w3.setCell ⟨g, 0, none⟩ (.slice a3 (F.length * 256 + 256) cap3))) := Below.setCell ((HB1.out.mono hn).grown HGR3.out (by omega) (fun k hk => (HF1.out.lt k hk).1)) (show n ≤ g from hng) _; have HLA : Hid (((w3.setCell ⟨g, 0, none⟩ (.slice a3 (F.length * 256 + 256) cap3)).alloc (.cells #[.int .i64 (F.length : Int)] 3)).ownsRow n 3 1 (.slice aL L.length capL) L.length (L.map (fun k : Nat => Value.int .i64 (k : Int)))) := HLT.out.alloc _; have HNA : Hid (((w3.setCell ⟨g, 0, none⟩ (.slice a3 (F.length * 256 + 256) cap3)).alloc (.cells #[.int .i64 (F.length : Int)] 3)).heap[w3.heap.size]? = some (.cells #[.int .i64 (F.length : Int)] 3 (0, 0))) := (by rw [← HSZ.out]; exact heap_new' _ _); have HGA : Hid (((w3.setCell ⟨g, 0, none⟩ (.slice a3 (F.length * 256 + 256) cap3)).alloc (.cells #[.int .i64 (F.length : Int)] 3)).heap[g]? = some (.cells [.slice a3 (F.length * 256 + 256) cap3, .slice aL L.length capL].toArray 85 (0, 0))) := (((Below.refl (w3.setCell ⟨g, 0, none⟩ (.slice a3 (F.length * 256 + 256) cap3)).heap.size (w3.setCell ⟨g, 0, none⟩ (.slice a3 (F.length * 256 + 256) cap3))).alloc (Nat.le_refl _) _).block g hgt).trans HGT.out; have HON : Hid ((Value.slice aL L.length capL).ownBlock ≠ some g) := own_ne HLA.out HGA.out (by decide)) | (at_builtin; refine wpList_append_own _ rfl _ _ 22 rfl n 3 iI (.int .i64 0) 1 8 Tryd.undIs hiI hzI0 hzI1 hzI2 rfl (by decide) _ _ _ rfl HLA.out ⟨w3.heap.size, 0, none⟩ 1 1 [.int .i64 (F.length : Int)] rfl rfl (World.news_of_block HNA.out) (by simp [Value.oneCell']) (by unfold maxLen; omega) (by omega) (by simp; omega) ?_; intro v2 w2 ho2 hg2 _; obtain ⟨a2, cap2, rfl⟩ := slice_of_row ho2; have HG2 : Hid (w2.heap[g]? = some (.cells [.slice a3 (F.length * 256 + 256) cap3, .slice aL L.length capL].toArray 85 (0, 0))) := (hg2.block g (by simp; omega) (fun e => HON.out e.symm)).trans HGA.out; have hc2 : w2.cell? ⟨g, 1, none⟩ = some (.slice aL L.length capL) := cell_row HG2.out rfl; have hf2 : w2.frozen? ⟨g, 1, none⟩ = false := frozen_of_row _ _ _ _ _ HG2.out; have HO2 : Hid (w2.ownsRow n 3 1 (.slice a2 (L.length + 1) cap2) (L.length + 1) ((L.map (fun k : Nat => Value.int .i64 (k : Int))) ++ [.int .i64 (F.length : Int)])) := ho2; have HGR : Hid (((w3.setCell ⟨g, 0, none⟩ (.slice a3 (F.length * 256 + 256) cap3)).alloc (.cells #[.int .i64 (F.length : Int)] 3)).grownBy w2 (Value.slice aL L.length capL).ownBlock) := hg2; clear ho2 hg2) | fail)
    refine bodyPost_end (results_none rfl _ _ _) rfl ?_
    refine ⟨rfl, ⟨.slice a3 (F.length * 256 + 256) cap3, .slice a2 (L.length + 1) cap2, hng, heap_set_row HG2.out rfl, ?_, ?_, ?_⟩, ?_⟩
    · rw [HFE.out]
      have e1 : w2.ownsRow n 5 1 (.slice a3 (F.length * 256 + 256) cap3) ((F ++ [b]).length * 256) (cellsBl (F ++ [b])) := (HFT.out.alloc _).kept HGR.out (rows_apart (HFT.out.alloc _) HLA.out (by decide))
      exact e1.kept (set_grown w2 g 1 _) (.inr (own_ne e1 HG2.out (by decide)))
    · rw [HKE.out, List.length_append, List.map_append]
      exact HO2.out.kept (set_grown w2 g 1 _) (.inr (own_ne HO2.out HG2.out (by decide)))
    · rw [HFE.out]; exact HIT.out
    · have hr := HLA.out.lt
      refine Below.setCell ?_ (show n ≤ g from hng) _
      exact (HBT.out.alloc (by omega) _).grown HGR.out (by simp; omega) (fun k hk => (hr k hk).1)
end Go.Proofs.YtpmlbdfdiebkcaaDoor

namespace Go.Proofs.YtpmlbdfdiebkcaaDoor
open Go.RowKit
set_option linter.unusedVariables false

/-- A block while its values are put in. -/
def fillR (f : Int → Int) (k i : Nat) : List Int := (List.range 256).map fun j => if j < i then f ((k * 256 + j : Nat) : Int) else 0
theorem fillR_length (f : Int → Int) (k i : Nat) : (fillR f k i).length = 256 := by simp [fillR]
theorem zeroB_get {i : Nat} (h : i < zeroB.length) : zeroB[i] = 0 := List.eq_of_mem_replicate (n := 256) (List.getElem_mem h : zeroB[i] ∈ List.replicate 256 (0 : Int))
theorem fillR_zero (f : Int → Int) (k : Nat) : fillR f k 0 = zeroB := by
  apply List.ext_getElem
  · rw [fillR_length, zeroB_length]
  · intro i h1 h2
    rw [zeroB_get h2]
    simp only [fillR, List.getElem_map, Nat.not_lt_zero, if_false]
theorem fillR_step (f : Int → Int) {k i : Nat} (h : i < 256) : (fillR f k i).set i (f ((k * 256 + i : Nat) : Int)) = fillR f k (i + 1) := by
  apply List.ext_getElem
  · simp [fillR]
  · intro j h1 h2
    rw [List.getElem_set]
    by_cases e : i = j
    · subst e
      simp [fillR]
    · rw [if_neg e]
      simp only [fillR, List.getElem_map, List.getElem_range]
      by_cases q : j < i
      · rw [if_pos q, if_pos (by omega)]
      · rw [if_neg q, if_neg (by omega)]
theorem fillR_end (f : Int → Int) (k : Nat) : fillR f k 256 = blkF f k := by
  apply List.ext_getElem
  · simp [fillR, blkF]
  · intro j h1 h2
    have : j < 256 := by simpa [blkF] using h2
    simp [fillR, blkF, this]
theorem fill_touch (l : List Pp) (k : Nat) : blkF (valP (touchL l k)) k = blkF (valP l) k := blkF_congr fun r h1 h2 => by
  unfold valP touchL
  refine val_filter l _ r 0 fun p hp h => ?_
  have := hasP_iff.1 h
  exact touchB_iff.2 ⟨by omega, by omega⟩
theorem fill_none (l : List Pp) (k i : Nat) (h : (touchL l k).length = 0) : fillR (valP (touchL l k)) k i = blkF (valP l) k := by
  rw [← fill_touch, List.length_eq_zero_iff.1 h]
  apply List.ext_getElem
  · rw [fillR_length, blkF_length]
  · intro j h1 h2
    simp only [fillR, blkF, List.getElem_map, val_nil, ite_self]
theorem made_zero {iU : TypeInfo} (h : iU.size = 1) : madeCells (Value.int .u8 0).cells (256 * iU.size) = (i8 zeroB).toArray := by
  rw [h, i8_zeroB]
  apply Array.toList_inj.1
  show (madeCells #[Value.int .u8 0] 256).toList = _
  rw [toList_madeCells_one]
theorem RefAt.below {n : Nat} {w w' : World} {g : Nat} {F : List (List Int)} {L : List Nat} (h : RefAt n w g F L) (hb : Below w.heap.size w w') : RefAt n w' g F L := by
  obtain ⟨vF, vL, h1, h2, h3, h4, h5⟩ := h
  exact ⟨vF, vL, h1, (hb.block g (heap_lt h2)).trans h2, ownsRow_below h3 hb, ownsRow_below h4 hb, h5⟩
theorem RefAt.first {n : Nat} {w : World} {g : Nat} {F : List (List Int)} {L : List Nat} (h : RefAt n w g F L) : ∃ aF cap, w.cell? ⟨g, 0, none⟩ = some (.slice aF (F.length * 256) cap) := by
  obtain ⟨vF, vL, h1, h2, h3, h4, h5⟩ := h
  obtain ⟨aF, capF, rfl⟩ := slice_of_row h3
  exact ⟨aF, capF, cell_row h2 rfl⟩

set_option maxRecDepth 100000 in
set_option maxHeartbeats 16000000 in
theorem refBuild_any (l : List Pp) (v : Value) (w : World) (hv : PropsIn w v l) (hby : Bytes l) :
    Calls Tryd.prog 26 #[v] w fun e w' => ∃ pv, e = .returned (.tuple #[pv, .int .i64 (errB l)]) ∧ (errB l ≠ 0 → pv = .pointer none) ∧ (errB l = 0 → ∃ g, pv = .pointer (some ⟨g, 0, none⟩) ∧ RefAt w.heap.size w' g (firstB l) (likeOf (blocksF (valP l)))) ∧ Below w.heap.size w w' := by
  obtain ⟨iU, hiU, hzU0, hzU1, hzU2⟩ := info_parts Tryd.infoByte
  have HV : Hid (PropsIn w v l) := hv
  obtain ⟨a, cap, rfl, hc, hcell⟩ := hv
  have HC : Hid (∀ i, (h : i < l.length) → ∃ g off, a = some ⟨g, off, none⟩ ∧ g < w.heap.size ∧ w.cell? ⟨g, off + i * 3, none⟩ = some (.int .i64 l[i].lo) ∧ w.cell? ⟨g, off + i * 3 + 1, none⟩ = some (.int .i64 l[i].hi) ∧ w.cell? ⟨g, off + i * 3 + 2, none⟩ = some (.int .u8 l[i].v)) := hcell
  clear hcell
  obtain ⟨er, her⟩ : ∃ er, er = errB l := ⟨_, rfl⟩
  rw [← her]
  have HER : Hid (er = errB l) := her
  clear her
  obtain ⟨bs, hbs0⟩ : ∃ bs, bs = blocksF (valP l) := ⟨_, rfl⟩
  have HBS : Hid (bs = blocksF (valP l)) := hbs0
  have HFB : Hid (firstB l = firstsOf bs) := by show _ = _; unfold firstB; rw [hbs0]
  rw [← hbs0]
  have hbl : bs.length = 4352 := by rw [hbs0]; exact blocksF_length _
  have HBL : Hid (bs.length = 4352) := hbl
  clear hbs0 hbl
  by_cases h4 : 4096 < l.length
  · have h4' : (4096 : Int) < (l.length : Int) := by omega
    have e3 : er = 3 := by rw [HER.out]; unfold errB; rw [if_pos h4]
    subst e3
    go_enter Tryd.func26, Tryd.ntmps26
    go_wp2
    go_ret2
    exact ⟨_, rfl, fun _ => rfl, fun h => by omega, Below.refl _ _⟩
  · have h4' : ¬ ((4096 : Int) < (l.length : Int)) := by omega
    go_enter Tryd.func26, Tryd.ntmps26
    go_wp2
    go_loopw [4] (fun x wr => ∃ k : Nat, k ≤ l.length ∧ x = .int .i64 k ∧ (∀ i, (h : i < l.length) → i < k → good1 l[i] = true) ∧ Below w.heap.size w wr) (fun x _ => l.length - (intOf x).toNat)
    case atStart => exact ⟨0, Nat.zero_le _, rfl, fun i h q => by omega, Below.refl _ _⟩
    case round =>
      obtain ⟨k, hk, rfl, hgd, hB⟩ := hrel
      have HGD : Hid (∀ i, (h : i < l.length) → i < k → good1 l[i] = true) := hgd
      have hbs := hB.size
      clear hgd
      by_cases hlt : k < l.length
      · obtain ⟨g, off, rfl, hg, c0, c1, c2⟩ := HC.out k hlt
        obtain ⟨p, hp⟩ : ∃ p, p = l[k] := ⟨_, rfl⟩
        rw [← hp] at c0 c1 c2
        have HP : Hid (p = l[k]) := hp
        have HP0 : Hid (∀ w', Below wr.heap.size wr w' → w'.cell? ⟨g, off + k * 3, none⟩ = some (.int .i64 p.lo)) := fun w' hw' => (hw'.cell (p := ⟨g, _, none⟩) (by show g < _; omega)).trans ((hB.cell (p := ⟨g, _, none⟩) hg).trans c0)
        have HP1 : Hid (∀ w', Below wr.heap.size wr w' → w'.cell? ⟨g, off + k * 3 + 1, none⟩ = some (.int .i64 p.hi)) := fun w' hw' => (hw'.cell (p := ⟨g, _, none⟩) (by show g < _; omega)).trans ((hB.cell (p := ⟨g, _, none⟩) hg).trans c1)
        have HB : Hid (Below w.heap.size w wr) := hB
        have hlt' : (k : Int) < (l.length : Int) := by omega
        clear c0 c1 c2 hp hB
        by_cases hgood : good1 p = true
        · obtain ⟨g1, g2, g3⟩ := good1_iff.1 hgood
          have n1 : ¬ (p.lo < 0) := by omega
          have n2 : ¬ (1114111 < p.hi) := by omega
          have n3 : ¬ (p.hi < p.lo) := by omega
          have HGO : Hid (good1 p = true) := hgood
          clear hgood
          go_wp2_with fail
          refine wp_region_bad (fun w' => Below wr.heap.size wr w') [] (by kernel_rfl) ((Below.refl _ _).drew) (fun hS => ?_)
          have hP0 := HP0.out
          have hP1 := HP1.out
          refine wpAnyB_pure (i := 0) (v := .slice (some ⟨g, off, none⟩) l.length cap) rfl (by kernel_rfl) (fun _ _ _ h => h) (Or.inl ⟨by rfl, fun w _ => by go_simp⟩) hS ?_
          simp only [List.getElem_toArray, List.getElem_cons_zero, Act.put, List.setIfInBounds_toArray, List.set_cons_zero, List.set_cons_succ]
          refine wpAnyB_pure (i := 1) (v := .int .i64 (k : Int)) rfl (by kernel_rfl) (fun _ _ _ h => h) (Or.inl ⟨by rfl, fun w _ => by go_simp⟩) hS ?_
          simp only [List.getElem_toArray, List.getElem_cons_succ, List.getElem_cons_zero, Act.put, List.setIfInBounds_toArray, List.set_cons_zero, List.set_cons_succ]
          refine wpAnyB_pure (i := 2) (v := .pointer (some ⟨g, off + k * 3, none⟩)) rfl (by kernel_rfl) (fun _ _ _ h => h) (Or.inl ⟨by rfl, fun w _ => by go_simp⟩) hS ?_
          simp only [List.getElem_toArray, List.getElem_cons_succ, List.getElem_cons_zero, Act.put, List.setIfInBounds_toArray, List.set_cons_zero, List.set_cons_succ]
          refine wpAnyB_pure (i := 3) (v := .pointer (some ⟨g, off + k * 3, none⟩)) rfl (by kernel_rfl) (fun _ _ _ h => h) (Or.inl ⟨by rfl, fun w _ => by go_simp⟩) hS ?_
          simp only [List.getElem_toArray, List.getElem_cons_succ, List.getElem_cons_zero, Act.put, List.setIfInBounds_toArray, List.set_cons_zero, List.set_cons_succ]
          refine wpAnyB_take [] (i := 4) (v := .int .i64 p.lo) rfl (by kernel_rfl) (fun _ _ _ h => h) (Or.inl ⟨by rfl, fun w hSw => by have := hP0 w hSw; go_simp⟩) hS ?_
          simp only [List.getElem_toArray, List.getElem_cons_succ, List.getElem_cons_zero, Act.put, List.setIfInBounds_toArray, List.set_cons_zero, List.set_cons_succ]
          refine wpAnyB_pure (i := 5) (v := .bool false) rfl (by kernel_rfl) (fun _ _ _ h => h) (Or.inl ⟨by rfl, fun w _ => by go_simp⟩) hS ?_
          simp only [List.getElem_toArray, List.getElem_cons_succ, List.getElem_cons_zero, Act.put, List.setIfInBounds_toArray, List.set_cons_zero, List.set_cons_succ]
          refine wpAnyB_pure (i := 6) (v := .bool false) rfl (by kernel_rfl) (fun _ _ _ h => h) (Or.inl ⟨by rfl, fun w _ => by go_simp⟩) hS ?_
          simp only [List.getElem_toArray, List.getElem_cons_succ, List.getElem_cons_zero, Act.put, List.setIfInBounds_toArray, List.set_cons_zero, List.set_cons_succ]
          refine wpAnyB_pure (i := 7) (v := .slice (some ⟨g, off, none⟩) l.length cap) rfl (by kernel_rfl) (fun _ _ _ h => h) (Or.inl ⟨by rfl, fun w _ => by go_simp⟩) hS ?_
          simp only [List.getElem_toArray, List.getElem_cons_succ, List.getElem_cons_zero, Act.put, List.setIfInBounds_toArray, List.set_cons_zero, List.set_cons_succ]
          refine wpAnyB_pure (i := 8) (v := .int .i64 (k : Int)) rfl (by kernel_rfl) (fun _ _ _ h => h) (Or.inl ⟨by rfl, fun w _ => by go_simp⟩) hS ?_
          simp only [List.getElem_toArray, List.getElem_cons_succ, List.getElem_cons_zero, Act.put, List.setIfInBounds_toArray, List.set_cons_zero, List.set_cons_succ]
          refine wpAnyB_pure (i := 9) (v := .pointer (some ⟨g, off + k * 3, none⟩)) rfl (by kernel_rfl) (fun _ _ _ h => h) (Or.inl ⟨by rfl, fun w _ => by go_simp⟩) hS ?_
          simp only [List.getElem_toArray, List.getElem_cons_succ, List.getElem_cons_zero, Act.put, List.setIfInBounds_toArray, List.set_cons_zero, List.set_cons_succ]
          refine wpAnyB_pure (i := 10) (v := .pointer (some ⟨g, off + k * 3 + 1, none⟩)) rfl (by kernel_rfl) (fun _ _ _ h => h) (Or.inl ⟨by rfl, fun w _ => by go_simp⟩) hS ?_
          simp only [List.getElem_toArray, List.getElem_cons_succ, List.getElem_cons_zero, Act.put, List.setIfInBounds_toArray, List.set_cons_zero, List.set_cons_succ]
          refine wpAnyB_take [] (i := 11) (v := .int .i64 p.hi) rfl (by kernel_rfl) (fun _ _ _ h => h) (Or.inl ⟨by rfl, fun w hSw => by have := hP1 w hSw; go_simp⟩) hS ?_
          simp only [List.getElem_toArray, List.getElem_cons_succ, List.getElem_cons_zero, Act.put, List.setIfInBounds_toArray, List.set_cons_zero, List.set_cons_succ]
          refine wpAnyB_pure (i := 12) (v := .bool false) rfl (by kernel_rfl) (fun _ _ _ h => h) (Or.inl ⟨by rfl, fun w _ => by go_simp⟩) hS ?_
          simp only [List.getElem_toArray, List.getElem_cons_succ, List.getElem_cons_zero, Act.put, List.setIfInBounds_toArray, List.set_cons_zero, List.set_cons_succ]
          refine wpAnyB_pure (i := 13) (v := .bool false) rfl (by kernel_rfl) (fun _ _ _ h => h) (Or.inl ⟨by rfl, fun w _ => by go_simp⟩) hS ?_
          simp only [List.getElem_toArray, List.getElem_cons_succ, List.getElem_cons_zero, Act.put, List.setIfInBounds_toArray, List.set_cons_zero, List.set_cons_succ]
          refine wpAnyB_pure (i := 14) (v := .bool false) rfl (by kernel_rfl) (fun _ _ _ h => h) (Or.inl ⟨by rfl, fun w _ => by go_simp⟩) hS ?_
          simp only [List.getElem_toArray, List.getElem_cons_succ, List.getElem_cons_zero, Act.put, List.setIfInBounds_toArray, List.set_cons_zero, List.set_cons_succ]
          refine wpAnyB_pure (i := 15) (v := .slice (some ⟨g, off, none⟩) l.length cap) rfl (by kernel_rfl) (fun _ _ _ h => h) (Or.inl ⟨by rfl, fun w _ => by go_simp⟩) hS ?_
          simp only [List.getElem_toArray, List.getElem_cons_succ, List.getElem_cons_zero, Act.put, List.setIfInBounds_toArray, List.set_cons_zero, List.set_cons_succ]
          refine wpAnyB_pure (i := 16) (v := .int .i64 (k : Int)) rfl (by kernel_rfl) (fun _ _ _ h => h) (Or.inl ⟨by rfl, fun w _ => by go_simp⟩) hS ?_
          simp only [List.getElem_toArray, List.getElem_cons_succ, List.getElem_cons_zero, Act.put, List.setIfInBounds_toArray, List.set_cons_zero, List.set_cons_succ]
          refine wpAnyB_pure (i := 17) (v := .pointer (some ⟨g, off + k * 3, none⟩)) rfl (by kernel_rfl) (fun _ _ _ h => h) (Or.inl ⟨by rfl, fun w _ => by go_simp⟩) hS ?_
          simp only [List.getElem_toArray, List.getElem_cons_succ, List.getElem_cons_zero, Act.put, List.setIfInBounds_toArray, List.set_cons_zero, List.set_cons_succ]
          refine wpAnyB_pure (i := 18) (v := .pointer (some ⟨g, off + k * 3, none⟩)) rfl (by kernel_rfl) (fun _ _ _ h => h) (Or.inl ⟨by rfl, fun w _ => by go_simp⟩) hS ?_
          simp only [List.getElem_toArray, List.getElem_cons_succ, List.getElem_cons_zero, Act.put, List.setIfInBounds_toArray, List.set_cons_zero, List.set_cons_succ]
          refine wpAnyB_take [] (i := 19) (v := .int .i64 p.lo) rfl (by kernel_rfl) (fun _ _ _ h => h) (Or.inl ⟨by rfl, fun w hSw => by have := hP0 w hSw; go_simp⟩) hS ?_
          simp only [List.getElem_toArray, List.getElem_cons_succ, List.getElem_cons_zero, Act.put, List.setIfInBounds_toArray, List.set_cons_zero, List.set_cons_succ]
          refine wpAnyB_pure (i := 20) (v := .slice (some ⟨g, off, none⟩) l.length cap) rfl (by kernel_rfl) (fun _ _ _ h => h) (Or.inl ⟨by rfl, fun w _ => by go_simp⟩) hS ?_
          simp only [List.getElem_toArray, List.getElem_cons_succ, List.getElem_cons_zero, Act.put, List.setIfInBounds_toArray, List.set_cons_zero, List.set_cons_succ]
          refine wpAnyB_pure (i := 21) (v := .int .i64 (k : Int)) rfl (by kernel_rfl) (fun _ _ _ h => h) (Or.inl ⟨by rfl, fun w _ => by go_simp⟩) hS ?_
          simp only [List.getElem_toArray, List.getElem_cons_succ, List.getElem_cons_zero, Act.put, List.setIfInBounds_toArray, List.set_cons_zero, List.set_cons_succ]
          refine wpAnyB_pure (i := 22) (v := .pointer (some ⟨g, off + k * 3, none⟩)) rfl (by kernel_rfl) (fun _ _ _ h => h) (Or.inl ⟨by rfl, fun w _ => by go_simp⟩) hS ?_
          simp only [List.getElem_toArray, List.getElem_cons_succ, List.getElem_cons_zero, Act.put, List.setIfInBounds_toArray, List.set_cons_zero, List.set_cons_succ]
          refine wpAnyB_pure (i := 23) (v := .pointer (some ⟨g, off + k * 3 + 1, none⟩)) rfl (by kernel_rfl) (fun _ _ _ h => h) (Or.inl ⟨by rfl, fun w _ => by go_simp⟩) hS ?_
          simp only [List.getElem_toArray, List.getElem_cons_succ, List.getElem_cons_zero, Act.put, List.setIfInBounds_toArray, List.set_cons_zero, List.set_cons_succ]
          refine wpAnyB_take [] (i := 24) (v := .int .i64 p.hi) rfl (by kernel_rfl) (fun _ _ _ h => h) (Or.inl ⟨by rfl, fun w hSw => by have := hP1 w hSw; go_simp⟩) hS ?_
          simp only [List.getElem_toArray, List.getElem_cons_succ, List.getElem_cons_zero, Act.put, List.setIfInBounds_toArray, List.set_cons_zero, List.set_cons_succ]
          refine wpAnyB_pure (i := 25) (v := .bool false) rfl (by kernel_rfl) (fun _ _ _ h => h) (Or.inl ⟨by rfl, fun w _ => by go_simp⟩) hS ?_
          simp only [List.getElem_toArray, List.getElem_cons_succ, List.getElem_cons_zero, Act.put, List.setIfInBounds_toArray, List.set_cons_zero, List.set_cons_succ]
          refine wpAnyB_pure (i := 26) (v := .bool false) rfl (by kernel_rfl) (fun _ _ _ h => h) (Or.inl ⟨by rfl, fun w _ => by go_simp⟩) hS ?_
          simp only [List.getElem_toArray, List.getElem_cons_succ, List.getElem_cons_zero, Act.put, List.setIfInBounds_toArray, List.set_cons_zero, List.set_cons_succ]
          refine wpAnyB_done (by kernel_rfl) ?_ _
          refine NoPanic.normal ?_
          clear hP0 hP1
          have HS : Hid (Below wr.heap.size wr wr.drew) := hS
          clear hS
          go_wp2
          go_roundw
          case rel =>
            refine ⟨k + 1, by omega, by go_num, fun i h q => ?_, HB.out.trans (HS.out.mono hbs)⟩
            by_cases e : i = k
            · subst e; rw [← HP.out]; exact HGO.out
            · exact HGD.out i h (by omega)
          case measure => simp [intOf]; omega
        · have e1 : er = 1 := by
            have hall : l.all good1 = false := by
              rw [← Bool.not_eq_true]
              intro h
              exact hgood (by rw [HP.out]; exact List.all_eq_true.1 h _ (List.getElem_mem hlt))
            rw [HER.out]; unfold errB; rw [if_neg h4, if_pos hall]
          subst e1
          have hor : p.lo < 0 ∨ ¬ (p.lo < 0) ∧ 1114111 < p.hi ∨ ¬ (p.lo < 0) ∧ ¬ (1114111 < p.hi) ∧ p.hi < p.lo := by
            rw [good1_iff] at hgood
            omega
          clear hgood
          rcases hor with n1 | ⟨n1, n2⟩ | ⟨n1, n2, n3⟩
          ·
            go_wp2_with fail
            refine wp_region_bad (fun w' => Below wr.heap.size wr w') [] (by kernel_rfl) ((Below.refl _ _).drew) (fun hS => ?_)
            have hP0 := HP0.out
            have hP1 := HP1.out
            refine wpAnyB_pure (i := 0) (v := .slice (some ⟨g, off, none⟩) l.length cap) rfl (by kernel_rfl) (fun _ _ _ h => h) (Or.inl ⟨by rfl, fun w _ => by go_simp⟩) hS ?_
            simp only [List.getElem_toArray, List.getElem_cons_zero, Act.put, List.setIfInBounds_toArray, List.set_cons_zero, List.set_cons_succ]
            refine wpAnyB_pure (i := 1) (v := .int .i64 (k : Int)) rfl (by kernel_rfl) (fun _ _ _ h => h) (Or.inl ⟨by rfl, fun w _ => by go_simp⟩) hS ?_
            simp only [List.getElem_toArray, List.getElem_cons_succ, List.getElem_cons_zero, Act.put, List.setIfInBounds_toArray, List.set_cons_zero, List.set_cons_succ]
            refine wpAnyB_pure (i := 2) (v := .pointer (some ⟨g, off + k * 3, none⟩)) rfl (by kernel_rfl) (fun _ _ _ h => h) (Or.inl ⟨by rfl, fun w _ => by go_simp⟩) hS ?_
            simp only [List.getElem_toArray, List.getElem_cons_succ, List.getElem_cons_zero, Act.put, List.setIfInBounds_toArray, List.set_cons_zero, List.set_cons_succ]
            refine wpAnyB_pure (i := 3) (v := .pointer (some ⟨g, off + k * 3, none⟩)) rfl (by kernel_rfl) (fun _ _ _ h => h) (Or.inl ⟨by rfl, fun w _ => by go_simp⟩) hS ?_
            simp only [List.getElem_toArray, List.getElem_cons_succ, List.getElem_cons_zero, Act.put, List.setIfInBounds_toArray, List.set_cons_zero, List.set_cons_succ]
            refine wpAnyB_take [] (i := 4) (v := .int .i64 p.lo) rfl (by kernel_rfl) (fun _ _ _ h => h) (Or.inl ⟨by rfl, fun w hSw => by have := hP0 w hSw; go_simp⟩) hS ?_
            simp only [List.getElem_toArray, List.getElem_cons_succ, List.getElem_cons_zero, Act.put, List.setIfInBounds_toArray, List.set_cons_zero, List.set_cons_succ]
            refine wpAnyB_pure (i := 5) (v := .bool true) rfl (by kernel_rfl) (fun _ _ _ h => h) (Or.inl ⟨by rfl, fun w _ => by go_simp⟩) hS ?_
            simp only [List.getElem_toArray, List.getElem_cons_succ, List.getElem_cons_zero, Act.put, List.setIfInBounds_toArray, List.set_cons_zero, List.set_cons_succ]
            refine wpAnyB_pure (i := 6) (v := .bool true) rfl (by kernel_rfl) (fun _ _ _ h => h) (Or.inl ⟨by rfl, fun w _ => by go_simp⟩) hS ?_
            simp only [List.getElem_toArray, List.getElem_cons_succ, List.getElem_cons_zero, Act.put, List.setIfInBounds_toArray, List.set_cons_zero, List.set_cons_succ]
            refine wpAnyB_pure (i := 7) (v := undef) rfl (by kernel_rfl) (fun _ _ _ h => h) (Or.inr ⟨by rfl, rfl⟩) hS ?_
            simp only [List.getElem_toArray, List.getElem_cons_succ, List.getElem_cons_zero, Act.put, List.setIfInBounds_toArray, List.set_cons_zero, List.set_cons_succ]
            refine wpAnyB_pure (i := 8) (v := undef) rfl (by kernel_rfl) (fun _ _ _ h => h) (Or.inr ⟨by rfl, rfl⟩) hS ?_
            simp only [List.getElem_toArray, List.getElem_cons_succ, List.getElem_cons_zero, Act.put, List.setIfInBounds_toArray, List.set_cons_zero, List.set_cons_succ]
            refine wpAnyB_pure (i := 9) (v := undef) rfl (by kernel_rfl) (fun _ _ _ h => h) (Or.inr ⟨by rfl, rfl⟩) hS ?_
            simp only [List.getElem_toArray, List.getElem_cons_succ, List.getElem_cons_zero, Act.put, List.setIfInBounds_toArray, List.set_cons_zero, List.set_cons_succ]
            refine wpAnyB_pure (i := 10) (v := undef) rfl (by kernel_rfl) (fun _ _ _ h => h) (Or.inr ⟨by rfl, rfl⟩) hS ?_
            simp only [List.getElem_toArray, List.getElem_cons_succ, List.getElem_cons_zero, Act.put, List.setIfInBounds_toArray, List.set_cons_zero, List.set_cons_succ]
            refine wpAnyB_pure (i := 11) (v := undef) rfl (by kernel_rfl) (fun _ _ _ h => h) (Or.inr ⟨by rfl, rfl⟩) hS ?_
            simp only [List.getElem_toArray, List.getElem_cons_succ, List.getElem_cons_zero, Act.put, List.setIfInBounds_toArray, List.set_cons_zero, List.set_cons_succ]
            refine wpAnyB_pure (i := 12) (v := undef) rfl (by kernel_rfl) (fun _ _ _ h => h) (Or.inr ⟨by rfl, rfl⟩) hS ?_
            simp only [List.getElem_toArray, List.getElem_cons_succ, List.getElem_cons_zero, Act.put, List.setIfInBounds_toArray, List.set_cons_zero, List.set_cons_succ]
            refine wpAnyB_pure (i := 13) (v := .bool true) rfl (by kernel_rfl) (fun _ _ _ h => h) (Or.inl ⟨by rfl, fun w _ => by go_simp⟩) hS ?_
            simp only [List.getElem_toArray, List.getElem_cons_succ, List.getElem_cons_zero, Act.put, List.setIfInBounds_toArray, List.set_cons_zero, List.set_cons_succ]
            refine wpAnyB_pure (i := 14) (v := .bool true) rfl (by kernel_rfl) (fun _ _ _ h => h) (Or.inl ⟨by rfl, fun w _ => by go_simp⟩) hS ?_
            simp only [List.getElem_toArray, List.getElem_cons_succ, List.getElem_cons_zero, Act.put, List.setIfInBounds_toArray, List.set_cons_zero, List.set_cons_succ]
            refine wpAnyB_pure (i := 15) (v := undef) rfl (by kernel_rfl) (fun _ _ _ h => h) (Or.inr ⟨by rfl, rfl⟩) hS ?_
            simp only [List.getElem_toArray, List.getElem_cons_succ, List.getElem_cons_zero, Act.put, List.setIfInBounds_toArray, List.set_cons_zero, List.set_cons_succ]
            refine wpAnyB_pure (i := 16) (v := undef) rfl (by kernel_rfl) (fun _ _ _ h => h) (Or.inr ⟨by rfl, rfl⟩) hS ?_
            simp only [List.getElem_toArray, List.getElem_cons_succ, List.getElem_cons_zero, Act.put, List.setIfInBounds_toArray, List.set_cons_zero, List.set_cons_succ]
            refine wpAnyB_pure (i := 17) (v := undef) rfl (by kernel_rfl) (fun _ _ _ h => h) (Or.inr ⟨by rfl, rfl⟩) hS ?_
            simp only [List.getElem_toArray, List.getElem_cons_succ, List.getElem_cons_zero, Act.put, List.setIfInBounds_toArray, List.set_cons_zero, List.set_cons_succ]
            refine wpAnyB_pure (i := 18) (v := undef) rfl (by kernel_rfl) (fun _ _ _ h => h) (Or.inr ⟨by rfl, rfl⟩) hS ?_
            simp only [List.getElem_toArray, List.getElem_cons_succ, List.getElem_cons_zero, Act.put, List.setIfInBounds_toArray, List.set_cons_zero, List.set_cons_succ]
            refine wpAnyB_pure (i := 19) (v := undef) rfl (by kernel_rfl) (fun _ _ _ h => h) (Or.inr ⟨by rfl, rfl⟩) hS ?_
            simp only [List.getElem_toArray, List.getElem_cons_succ, List.getElem_cons_zero, Act.put, List.setIfInBounds_toArray, List.set_cons_zero, List.set_cons_succ]
            refine wpAnyB_pure (i := 20) (v := undef) rfl (by kernel_rfl) (fun _ _ _ h => h) (Or.inr ⟨by rfl, rfl⟩) hS ?_
            simp only [List.getElem_toArray, List.getElem_cons_succ, List.getElem_cons_zero, Act.put, List.setIfInBounds_toArray, List.set_cons_zero, List.set_cons_succ]
            refine wpAnyB_pure (i := 21) (v := undef) rfl (by kernel_rfl) (fun _ _ _ h => h) (Or.inr ⟨by rfl, rfl⟩) hS ?_
            simp only [List.getElem_toArray, List.getElem_cons_succ, List.getElem_cons_zero, Act.put, List.setIfInBounds_toArray, List.set_cons_zero, List.set_cons_succ]
            refine wpAnyB_pure (i := 22) (v := undef) rfl (by kernel_rfl) (fun _ _ _ h => h) (Or.inr ⟨by rfl, rfl⟩) hS ?_
            simp only [List.getElem_toArray, List.getElem_cons_succ, List.getElem_cons_zero, Act.put, List.setIfInBounds_toArray, List.set_cons_zero, List.set_cons_succ]
            refine wpAnyB_pure (i := 23) (v := undef) rfl (by kernel_rfl) (fun _ _ _ h => h) (Or.inr ⟨by rfl, rfl⟩) hS ?_
            simp only [List.getElem_toArray, List.getElem_cons_succ, List.getElem_cons_zero, Act.put, List.setIfInBounds_toArray, List.set_cons_zero, List.set_cons_succ]
            refine wpAnyB_pure (i := 24) (v := undef) rfl (by kernel_rfl) (fun _ _ _ h => h) (Or.inr ⟨by rfl, rfl⟩) hS ?_
            simp only [List.getElem_toArray, List.getElem_cons_succ, List.getElem_cons_zero, Act.put, List.setIfInBounds_toArray, List.set_cons_zero, List.set_cons_succ]
            refine wpAnyB_pure (i := 25) (v := undef) rfl (by kernel_rfl) (fun _ _ _ h => h) (Or.inr ⟨by rfl, rfl⟩) hS ?_
            simp only [List.getElem_toArray, List.getElem_cons_succ, List.getElem_cons_zero, Act.put, List.setIfInBounds_toArray, List.set_cons_zero, List.set_cons_succ]
            refine wpAnyB_pure (i := 26) (v := .bool true) rfl (by kernel_rfl) (fun _ _ _ h => h) (Or.inl ⟨by rfl, fun w _ => by go_simp⟩) hS ?_
            simp only [List.getElem_toArray, List.getElem_cons_succ, List.getElem_cons_zero, Act.put, List.setIfInBounds_toArray, List.set_cons_zero, List.set_cons_succ]
            refine wpAnyB_done (by kernel_rfl) ?_ _
            refine NoPanic.normal ?_
            clear hP0 hP1
            have HS : Hid (Below wr.heap.size wr wr.drew) := hS
            clear hS
            go_wp2
            go_ret2
            first | exact ⟨_, rfl, fun _ => rfl, fun h => by omega, HB.out.trans (HS.out.mono hbs)⟩ | exact ⟨_, rfl, rfl, HB.out.trans (HS.out.mono hbs)⟩
          ·
            go_wp2_with fail
            refine wp_region_bad (fun w' => Below wr.heap.size wr w') [] (by kernel_rfl) ((Below.refl _ _).drew) (fun hS => ?_)
            have hP0 := HP0.out
            have hP1 := HP1.out
            refine wpAnyB_pure (i := 0) (v := .slice (some ⟨g, off, none⟩) l.length cap) rfl (by kernel_rfl) (fun _ _ _ h => h) (Or.inl ⟨by rfl, fun w _ => by go_simp⟩) hS ?_
            simp only [List.getElem_toArray, List.getElem_cons_zero, Act.put, List.setIfInBounds_toArray, List.set_cons_zero, List.set_cons_succ]
            refine wpAnyB_pure (i := 1) (v := .int .i64 (k : Int)) rfl (by kernel_rfl) (fun _ _ _ h => h) (Or.inl ⟨by rfl, fun w _ => by go_simp⟩) hS ?_
            simp only [List.getElem_toArray, List.getElem_cons_succ, List.getElem_cons_zero, Act.put, List.setIfInBounds_toArray, List.set_cons_zero, List.set_cons_succ]
            refine wpAnyB_pure (i := 2) (v := .pointer (some ⟨g, off + k * 3, none⟩)) rfl (by kernel_rfl) (fun _ _ _ h => h) (Or.inl ⟨by rfl, fun w _ => by go_simp⟩) hS ?_
            simp only [List.getElem_toArray, List.getElem_cons_succ, List.getElem_cons_zero, Act.put, List.setIfInBounds_toArray, List.set_cons_zero, List.set_cons_succ]
            refine wpAnyB_pure (i := 3) (v := .pointer (some ⟨g, off + k * 3, none⟩)) rfl (by kernel_rfl) (fun _ _ _ h => h) (Or.inl ⟨by rfl, fun w _ => by go_simp⟩) hS ?_
            simp only [List.getElem_toArray, List.getElem_cons_succ, List.getElem_cons_zero, Act.put, List.setIfInBounds_toArray, List.set_cons_zero, List.set_cons_succ]
            refine wpAnyB_take [] (i := 4) (v := .int .i64 p.lo) rfl (by kernel_rfl) (fun _ _ _ h => h) (Or.inl ⟨by rfl, fun w hSw => by have := hP0 w hSw; go_simp⟩) hS ?_
            simp only [List.getElem_toArray, List.getElem_cons_succ, List.getElem_cons_zero, Act.put, List.setIfInBounds_toArray, List.set_cons_zero, List.set_cons_succ]
            refine wpAnyB_pure (i := 5) (v := .bool false) rfl (by kernel_rfl) (fun _ _ _ h => h) (Or.inl ⟨by rfl, fun w _ => by go_simp⟩) hS ?_
            simp only [List.getElem_toArray, List.getElem_cons_succ, List.getElem_cons_zero, Act.put, List.setIfInBounds_toArray, List.set_cons_zero, List.set_cons_succ]
            refine wpAnyB_pure (i := 6) (v := .bool false) rfl (by kernel_rfl) (fun _ _ _ h => h) (Or.inl ⟨by rfl, fun w _ => by go_simp⟩) hS ?_
            simp only [List.getElem_toArray, List.getElem_cons_succ, List.getElem_cons_zero, Act.put, List.setIfInBounds_toArray, List.set_cons_zero, List.set_cons_succ]
            refine wpAnyB_pure (i := 7) (v := .slice (some ⟨g, off, none⟩) l.length cap) rfl (by kernel_rfl) (fun _ _ _ h => h) (Or.inl ⟨by rfl, fun w _ => by go_simp⟩) hS ?_
            simp only [List.getElem_toArray, List.getElem_cons_succ, List.getElem_cons_zero, Act.put, List.setIfInBounds_toArray, List.set_cons_zero, List.set_cons_succ]
            refine wpAnyB_pure (i := 8) (v := .int .i64 (k : Int)) rfl (by kernel_rfl) (fun _ _ _ h => h) (Or.inl ⟨by rfl, fun w _ => by go_simp⟩) hS ?_
            simp only [List.getElem_toArray, List.getElem_cons_succ, List.getElem_cons_zero, Act.put, List.setIfInBounds_toArray, List.set_cons_zero, List.set_cons_succ]
            refine wpAnyB_pure (i := 9) (v := .pointer (some ⟨g, off + k * 3, none⟩)) rfl (by kernel_rfl) (fun _ _ _ h => h) (Or.inl ⟨by rfl, fun w _ => by go_simp⟩) hS ?_
            simp only [List.getElem_toArray, List.getElem_cons_succ, List.getElem_cons_zero, Act.put, List.setIfInBounds_toArray, List.set_cons_zero, List.set_cons_succ]
            refine wpAnyB_pure (i := 10) (v := .pointer (some ⟨g, off + k * 3 + 1, none⟩)) rfl (by kernel_rfl) (fun _ _ _ h => h) (Or.inl ⟨by rfl, fun w _ => by go_simp⟩) hS ?_
            simp only [List.getElem_toArray, List.getElem_cons_succ, List.getElem_cons_zero, Act.put, List.setIfInBounds_toArray, List.set_cons_zero, List.set_cons_succ]
            refine wpAnyB_take [] (i := 11) (v := .int .i64 p.hi) rfl (by kernel_rfl) (fun _ _ _ h => h) (Or.inl ⟨by rfl, fun w hSw => by have := hP1 w hSw; go_simp⟩) hS ?_
            simp only [List.getElem_toArray, List.getElem_cons_succ, List.getElem_cons_zero, Act.put, List.setIfInBounds_toArray, List.set_cons_zero, List.set_cons_succ]
            refine wpAnyB_pure (i := 12) (v := .bool true) rfl (by kernel_rfl) (fun _ _ _ h => h) (Or.inl ⟨by rfl, fun w _ => by go_simp⟩) hS ?_
            simp only [List.getElem_toArray, List.getElem_cons_succ, List.getElem_cons_zero, Act.put, List.setIfInBounds_toArray, List.set_cons_zero, List.set_cons_succ]
            refine wpAnyB_pure (i := 13) (v := .bool true) rfl (by kernel_rfl) (fun _ _ _ h => h) (Or.inl ⟨by rfl, fun w _ => by go_simp⟩) hS ?_
            simp only [List.getElem_toArray, List.getElem_cons_succ, List.getElem_cons_zero, Act.put, List.setIfInBounds_toArray, List.set_cons_zero, List.set_cons_succ]
            refine wpAnyB_pure (i := 14) (v := .bool true) rfl (by kernel_rfl) (fun _ _ _ h => h) (Or.inl ⟨by rfl, fun w _ => by go_simp⟩) hS ?_
            simp only [List.getElem_toArray, List.getElem_cons_succ, List.getElem_cons_zero, Act.put, List.setIfInBounds_toArray, List.set_cons_zero, List.set_cons_succ]
            refine wpAnyB_pure (i := 15) (v := undef) rfl (by kernel_rfl) (fun _ _ _ h => h) (Or.inr ⟨by rfl, rfl⟩) hS ?_
            simp only [List.getElem_toArray, List.getElem_cons_succ, List.getElem_cons_zero, Act.put, List.setIfInBounds_toArray, List.set_cons_zero, List.set_cons_succ]
            refine wpAnyB_pure (i := 16) (v := undef) rfl (by kernel_rfl) (fun _ _ _ h => h) (Or.inr ⟨by rfl, rfl⟩) hS ?_
            simp only [List.getElem_toArray, List.getElem_cons_succ, List.getElem_cons_zero, Act.put, List.setIfInBounds_toArray, List.set_cons_zero, List.set_cons_succ]
            refine wpAnyB_pure (i := 17) (v := undef) rfl (by kernel_rfl) (fun _ _ _ h => h) (Or.inr ⟨by rfl, rfl⟩) hS ?_
            simp only [List.getElem_toArray, List.getElem_cons_succ, List.getElem_cons_zero, Act.put, List.setIfInBounds_toArray, List.set_cons_zero, List.set_cons_succ]
            refine wpAnyB_pure (i := 18) (v := undef) rfl (by kernel_rfl) (fun _ _ _ h => h) (Or.inr ⟨by rfl, rfl⟩) hS ?_
            simp only [List.getElem_toArray, List.getElem_cons_succ, List.getElem_cons_zero, Act.put, List.setIfInBounds_toArray, List.set_cons_zero, List.set_cons_succ]
            refine wpAnyB_pure (i := 19) (v := undef) rfl (by kernel_rfl) (fun _ _ _ h => h) (Or.inr ⟨by rfl, rfl⟩) hS ?_
            simp only [List.getElem_toArray, List.getElem_cons_succ, List.getElem_cons_zero, Act.put, List.setIfInBounds_toArray, List.set_cons_zero, List.set_cons_succ]
            refine wpAnyB_pure (i := 20) (v := undef) rfl (by kernel_rfl) (fun _ _ _ h => h) (Or.inr ⟨by rfl, rfl⟩) hS ?_
            simp only [List.getElem_toArray, List.getElem_cons_succ, List.getElem_cons_zero, Act.put, List.setIfInBounds_toArray, List.set_cons_zero, List.set_cons_succ]
            refine wpAnyB_pure (i := 21) (v := undef) rfl (by kernel_rfl) (fun _ _ _ h => h) (Or.inr ⟨by rfl, rfl⟩) hS ?_
            simp only [List.getElem_toArray, List.getElem_cons_succ, List.getElem_cons_zero, Act.put, List.setIfInBounds_toArray, List.set_cons_zero, List.set_cons_succ]
            refine wpAnyB_pure (i := 22) (v := undef) rfl (by kernel_rfl) (fun _ _ _ h => h) (Or.inr ⟨by rfl, rfl⟩) hS ?_
            simp only [List.getElem_toArray, List.getElem_cons_succ, List.getElem_cons_zero, Act.put, List.setIfInBounds_toArray, List.set_cons_zero, List.set_cons_succ]
            refine wpAnyB_pure (i := 23) (v := undef) rfl (by kernel_rfl) (fun _ _ _ h => h) (Or.inr ⟨by rfl, rfl⟩) hS ?_
            simp only [List.getElem_toArray, List.getElem_cons_succ, List.getElem_cons_zero, Act.put, List.setIfInBounds_toArray, List.set_cons_zero, List.set_cons_succ]
            refine wpAnyB_pure (i := 24) (v := undef) rfl (by kernel_rfl) (fun _ _ _ h => h) (Or.inr ⟨by rfl, rfl⟩) hS ?_
            simp only [List.getElem_toArray, List.getElem_cons_succ, List.getElem_cons_zero, Act.put, List.setIfInBounds_toArray, List.set_cons_zero, List.set_cons_succ]
            refine wpAnyB_pure (i := 25) (v := undef) rfl (by kernel_rfl) (fun _ _ _ h => h) (Or.inr ⟨by rfl, rfl⟩) hS ?_
            simp only [List.getElem_toArray, List.getElem_cons_succ, List.getElem_cons_zero, Act.put, List.setIfInBounds_toArray, List.set_cons_zero, List.set_cons_succ]
            refine wpAnyB_pure (i := 26) (v := .bool true) rfl (by kernel_rfl) (fun _ _ _ h => h) (Or.inl ⟨by rfl, fun w _ => by go_simp⟩) hS ?_
            simp only [List.getElem_toArray, List.getElem_cons_succ, List.getElem_cons_zero, Act.put, List.setIfInBounds_toArray, List.set_cons_zero, List.set_cons_succ]
            refine wpAnyB_done (by kernel_rfl) ?_ _
            refine NoPanic.normal ?_
            clear hP0 hP1
            have HS : Hid (Below wr.heap.size wr wr.drew) := hS
            clear hS
            go_wp2
            go_ret2
            first | exact ⟨_, rfl, fun _ => rfl, fun h => by omega, HB.out.trans (HS.out.mono hbs)⟩ | exact ⟨_, rfl, rfl, HB.out.trans (HS.out.mono hbs)⟩
          ·
            go_wp2_with fail
            refine wp_region_bad (fun w' => Below wr.heap.size wr w') [] (by kernel_rfl) ((Below.refl _ _).drew) (fun hS => ?_)
            have hP0 := HP0.out
            have hP1 := HP1.out
            refine wpAnyB_pure (i := 0) (v := .slice (some ⟨g, off, none⟩) l.length cap) rfl (by kernel_rfl) (fun _ _ _ h => h) (Or.inl ⟨by rfl, fun w _ => by go_simp⟩) hS ?_
            simp only [List.getElem_toArray, List.getElem_cons_zero, Act.put, List.setIfInBounds_toArray, List.set_cons_zero, List.set_cons_succ]
            refine wpAnyB_pure (i := 1) (v := .int .i64 (k : Int)) rfl (by kernel_rfl) (fun _ _ _ h => h) (Or.inl ⟨by rfl, fun w _ => by go_simp⟩) hS ?_
            simp only [List.getElem_toArray, List.getElem_cons_succ, List.getElem_cons_zero, Act.put, List.setIfInBounds_toArray, List.set_cons_zero, List.set_cons_succ]
            refine wpAnyB_pure (i := 2) (v := .pointer (some ⟨g, off + k * 3, none⟩)) rfl (by kernel_rfl) (fun _ _ _ h => h) (Or.inl ⟨by rfl, fun w _ => by go_simp⟩) hS ?_
            simp only [List.getElem_toArray, List.getElem_cons_succ, List.getElem_cons_zero, Act.put, List.setIfInBounds_toArray, List.set_cons_zero, List.set_cons_succ]
            refine wpAnyB_pure (i := 3) (v := .pointer (some ⟨g, off + k * 3, none⟩)) rfl (by kernel_rfl) (fun _ _ _ h => h) (Or.inl ⟨by rfl, fun w _ => by go_simp⟩) hS ?_
            simp only [List.getElem_toArray, List.getElem_cons_succ, List.getElem_cons_zero, Act.put, List.setIfInBounds_toArray, List.set_cons_zero, List.set_cons_succ]
            refine wpAnyB_take [] (i := 4) (v := .int .i64 p.lo) rfl (by kernel_rfl) (fun _ _ _ h => h) (Or.inl ⟨by rfl, fun w hSw => by have := hP0 w hSw; go_simp⟩) hS ?_
            simp only [List.getElem_toArray, List.getElem_cons_succ, List.getElem_cons_zero, Act.put, List.setIfInBounds_toArray, List.set_cons_zero, List.set_cons_succ]
            refine wpAnyB_pure (i := 5) (v := .bool false) rfl (by kernel_rfl) (fun _ _ _ h => h) (Or.inl ⟨by rfl, fun w _ => by go_simp⟩) hS ?_
            simp only [List.getElem_toArray, List.getElem_cons_succ, List.getElem_cons_zero, Act.put, List.setIfInBounds_toArray, List.set_cons_zero, List.set_cons_succ]
            refine wpAnyB_pure (i := 6) (v := .bool false) rfl (by kernel_rfl) (fun _ _ _ h => h) (Or.inl ⟨by rfl, fun w _ => by go_simp⟩) hS ?_
            simp only [List.getElem_toArray, List.getElem_cons_succ, List.getElem_cons_zero, Act.put, List.setIfInBounds_toArray, List.set_cons_zero, List.set_cons_succ]
            refine wpAnyB_pure (i := 7) (v := .slice (some ⟨g, off, none⟩) l.length cap) rfl (by kernel_rfl) (fun _ _ _ h => h) (Or.inl ⟨by rfl, fun w _ => by go_simp⟩) hS ?_
            simp only [List.getElem_toArray, List.getElem_cons_succ, List.getElem_cons_zero, Act.put, List.setIfInBounds_toArray, List.set_cons_zero, List.set_cons_succ]
            refine wpAnyB_pure (i := 8) (v := .int .i64 (k : Int)) rfl (by kernel_rfl) (fun _ _ _ h => h) (Or.inl ⟨by rfl, fun w _ => by go_simp⟩) hS ?_
            simp only [List.getElem_toArray, List.getElem_cons_succ, List.getElem_cons_zero, Act.put, List.setIfInBounds_toArray, List.set_cons_zero, List.set_cons_succ]
            refine wpAnyB_pure (i := 9) (v := .pointer (some ⟨g, off + k * 3, none⟩)) rfl (by kernel_rfl) (fun _ _ _ h => h) (Or.inl ⟨by rfl, fun w _ => by go_simp⟩) hS ?_
            simp only [List.getElem_toArray, List.getElem_cons_succ, List.getElem_cons_zero, Act.put, List.setIfInBounds_toArray, List.set_cons_zero, List.set_cons_succ]
            refine wpAnyB_pure (i := 10) (v := .pointer (some ⟨g, off + k * 3 + 1, none⟩)) rfl (by kernel_rfl) (fun _ _ _ h => h) (Or.inl ⟨by rfl, fun w _ => by go_simp⟩) hS ?_
            simp only [List.getElem_toArray, List.getElem_cons_succ, List.getElem_cons_zero, Act.put, List.setIfInBounds_toArray, List.set_cons_zero, List.set_cons_succ]
            refine wpAnyB_take [] (i := 11) (v := .int .i64 p.hi) rfl (by kernel_rfl) (fun _ _ _ h => h) (Or.inl ⟨by rfl, fun w hSw => by have := hP1 w hSw; go_simp⟩) hS ?_
            simp only [List.getElem_toArray, List.getElem_cons_succ, List.getElem_cons_zero, Act.put, List.setIfInBounds_toArray, List.set_cons_zero, List.set_cons_succ]
            refine wpAnyB_pure (i := 12) (v := .bool false) rfl (by kernel_rfl) (fun _ _ _ h => h) (Or.inl ⟨by rfl, fun w _ => by go_simp⟩) hS ?_
            simp only [List.getElem_toArray, List.getElem_cons_succ, List.getElem_cons_zero, Act.put, List.setIfInBounds_toArray, List.set_cons_zero, List.set_cons_succ]
            refine wpAnyB_pure (i := 13) (v := .bool false) rfl (by kernel_rfl) (fun _ _ _ h => h) (Or.inl ⟨by rfl, fun w _ => by go_simp⟩) hS ?_
            simp only [List.getElem_toArray, List.getElem_cons_succ, List.getElem_cons_zero, Act.put, List.setIfInBounds_toArray, List.set_cons_zero, List.set_cons_succ]
            refine wpAnyB_pure (i := 14) (v := .bool false) rfl (by kernel_rfl) (fun _ _ _ h => h) (Or.inl ⟨by rfl, fun w _ => by go_simp⟩) hS ?_
            simp only [List.getElem_toArray, List.getElem_cons_succ, List.getElem_cons_zero, Act.put, List.setIfInBounds_toArray, List.set_cons_zero, List.set_cons_succ]
            refine wpAnyB_pure (i := 15) (v := .slice (some ⟨g, off, none⟩) l.length cap) rfl (by kernel_rfl) (fun _ _ _ h => h) (Or.inl ⟨by rfl, fun w _ => by go_simp⟩) hS ?_
            simp only [List.getElem_toArray, List.getElem_cons_succ, List.getElem_cons_zero, Act.put, List.setIfInBounds_toArray, List.set_cons_zero, List.set_cons_succ]
            refine wpAnyB_pure (i := 16) (v := .int .i64 (k : Int)) rfl (by kernel_rfl) (fun _ _ _ h => h) (Or.inl ⟨by rfl, fun w _ => by go_simp⟩) hS ?_
            simp only [List.getElem_toArray, List.getElem_cons_succ, List.getElem_cons_zero, Act.put, List.setIfInBounds_toArray, List.set_cons_zero, List.set_cons_succ]
            refine wpAnyB_pure (i := 17) (v := .pointer (some ⟨g, off + k * 3, none⟩)) rfl (by kernel_rfl) (fun _ _ _ h => h) (Or.inl ⟨by rfl, fun w _ => by go_simp⟩) hS ?_
            simp only [List.getElem_toArray, List.getElem_cons_succ, List.getElem_cons_zero, Act.put, List.setIfInBounds_toArray, List.set_cons_zero, List.set_cons_succ]
            refine wpAnyB_pure (i := 18) (v := .pointer (some ⟨g, off + k * 3, none⟩)) rfl (by kernel_rfl) (fun _ _ _ h => h) (Or.inl ⟨by rfl, fun w _ => by go_simp⟩) hS ?_
            simp only [List.getElem_toArray, List.getElem_cons_succ, List.getElem_cons_zero, Act.put, List.setIfInBounds_toArray, List.set_cons_zero, List.set_cons_succ]
            refine wpAnyB_take [] (i := 19) (v := .int .i64 p.lo) rfl (by kernel_rfl) (fun _ _ _ h => h) (Or.inl ⟨by rfl, fun w hSw => by have := hP0 w hSw; go_simp⟩) hS ?_
            simp only [List.getElem_toArray, List.getElem_cons_succ, List.getElem_cons_zero, Act.put, List.setIfInBounds_toArray, List.set_cons_zero, List.set_cons_succ]
            refine wpAnyB_pure (i := 20) (v := .slice (some ⟨g, off, none⟩) l.length cap) rfl (by kernel_rfl) (fun _ _ _ h => h) (Or.inl ⟨by rfl, fun w _ => by go_simp⟩) hS ?_
            simp only [List.getElem_toArray, List.getElem_cons_succ, List.getElem_cons_zero, Act.put, List.setIfInBounds_toArray, List.set_cons_zero, List.set_cons_succ]
            refine wpAnyB_pure (i := 21) (v := .int .i64 (k : Int)) rfl (by kernel_rfl) (fun _ _ _ h => h) (Or.inl ⟨by rfl, fun w _ => by go_simp⟩) hS ?_
            simp only [List.getElem_toArray, List.getElem_cons_succ, List.getElem_cons_zero, Act.put, List.setIfInBounds_toArray, List.set_cons_zero, List.set_cons_succ]
            refine wpAnyB_pure (i := 22) (v := .pointer (some ⟨g, off + k * 3, none⟩)) rfl (by kernel_rfl) (fun _ _ _ h => h) (Or.inl ⟨by rfl, fun w _ => by go_simp⟩) hS ?_
            simp only [List.getElem_toArray, List.getElem_cons_succ, List.getElem_cons_zero, Act.put, List.setIfInBounds_toArray, List.set_cons_zero, List.set_cons_succ]
            refine wpAnyB_pure (i := 23) (v := .pointer (some ⟨g, off + k * 3 + 1, none⟩)) rfl (by kernel_rfl) (fun _ _ _ h => h) (Or.inl ⟨by rfl, fun w _ => by go_simp⟩) hS ?_
            simp only [List.getElem_toArray, List.getElem_cons_succ, List.getElem_cons_zero, Act.put, List.setIfInBounds_toArray, List.set_cons_zero, List.set_cons_succ]
            refine wpAnyB_take [] (i := 24) (v := .int .i64 p.hi) rfl (by kernel_rfl) (fun _ _ _ h => h) (Or.inl ⟨by rfl, fun w hSw => by have := hP1 w hSw; go_simp⟩) hS ?_
            simp only [List.getElem_toArray, List.getElem_cons_succ, List.getElem_cons_zero, Act.put, List.setIfInBounds_toArray, List.set_cons_zero, List.set_cons_succ]
            refine wpAnyB_pure (i := 25) (v := .bool true) rfl (by kernel_rfl) (fun _ _ _ h => h) (Or.inl ⟨by rfl, fun w _ => by go_simp⟩) hS ?_
            simp only [List.getElem_toArray, List.getElem_cons_succ, List.getElem_cons_zero, Act.put, List.setIfInBounds_toArray, List.set_cons_zero, List.set_cons_succ]
            refine wpAnyB_pure (i := 26) (v := .bool true) rfl (by kernel_rfl) (fun _ _ _ h => h) (Or.inl ⟨by rfl, fun w _ => by go_simp⟩) hS ?_
            simp only [List.getElem_toArray, List.getElem_cons_succ, List.getElem_cons_zero, Act.put, List.setIfInBounds_toArray, List.set_cons_zero, List.set_cons_succ]
            refine wpAnyB_done (by kernel_rfl) ?_ _
            refine NoPanic.normal ?_
            clear hP0 hP1
            have HS : Hid (Below wr.heap.size wr wr.drew) := hS
            clear hS
            go_wp2
            go_ret2
            first | exact ⟨_, rfl, fun _ => rfl, fun h => by omega, HB.out.trans (HS.out.mono hbs)⟩ | exact ⟨_, rfl, rfl, HB.out.trans (HS.out.mono hbs)⟩
      · have hlt' : ¬ ((k : Int) < (l.length : Int)) := by omega
        have HALL : Hid (∀ p ∈ l, 0 ≤ p.lo ∧ p.hi ≤ 1114111 ∧ p.lo ≤ p.hi) := fun p hp => by
          obtain ⟨i, hi, rfl⟩ := List.getElem_of_mem hp
          exact good1_iff.1 (HGD.out i hi (by omega))
        have HE : Hid (errB l = if 256 < (firstsOf bs).length then 3 else 0) := by
          show _ = _
          have hall : ¬ (l.all good1 = false) := by
            rw [Bool.not_eq_false, List.all_eq_true]
            exact fun p hp => good1_iff.2 (HALL.out p hp)
          unfold errB; rw [if_neg h4, if_neg hall, HFB.out]
        have HB : Hid (Below w.heap.size w wr) := hB
        clear hB HGD
        obtain ⟨w0, rfl⟩ : ∃ w0, w0 = wr := ⟨_, rfl⟩
        have HMZ : Hid (madeCells (Value.int .u8 0).cells (256 * iU.size) = (i8 zeroB).toArray) := made_zero hzU1
        have HR0 : Hid (RefAt w.heap.size (w0.alloc (.cells #[.slice none 0 0, .slice none 0 0] 85)) w0.heap.size [] []) := ⟨.slice none 0 0, .slice none 0 0, hbs, heap_new' w0 _, World.ownsRow_nil _ _ _ _, World.ownsRow_nil _ _ _ _, fun b hb => by cases hb⟩
        have HB0 : Hid (Below w.heap.size w (w0.alloc (.cells #[.slice none 0 0, .slice none 0 0] 85))) := HB.out.alloc hbs _
        go_wp2
        obtain ⟨w1, hw1⟩ : ∃ w1, w1 = w0.alloc (.cells #[.slice none 0 0, .slice none 0 0] 85) := ⟨_, rfl⟩
        rw [← hw1] at HR0 HB0
        rw [← hw1]
        obtain ⟨gt, hgt⟩ : ∃ gt, gt = w0.heap.size := ⟨_, rfl⟩
        rw [← hgt] at HR0
        rw [← hgt]
        clear hw1 hgt HB hbs hlt hlt' hk
        go_loopw [6] (fun x wr => ∃ j : Nat, j ≤ 4352 ∧ x = .int .i64 j ∧ RefAt w.heap.size wr gt (firstsOf (bs.take j)) ((likeOf bs).take j) ∧ (firstsOf (bs.take j)).length ≤ 256 ∧ Below w.heap.size w wr ∧ w.heap.size ≤ wr.heap.size) (fun x _ => 4352 - (intOf x).toNat)
        case atStart => exact ⟨0, Nat.zero_le _, rfl, HR0.out, by simp [firstsOf, firstsF], HB0.out, HB0.out.size⟩
        case round =>
          obtain ⟨j, hj, rfl, hR, hfl, hB, hbs⟩ := hrel
          obtain ⟨wk, rfl⟩ : ∃ wk, wk = wr := ⟨_, rfl⟩
          obtain ⟨HR, HB⟩ : Hid (RefAt w.heap.size wk gt (firstsOf (bs.take j)) ((likeOf bs).take j)) ∧ Hid (Below w.heap.size w wk) := ⟨hR, hB⟩
          clear hR hB HR0 HB0
          by_cases hjl : j < 4352
          · have hjl' : (j : Int) < 4352 := by omega
            have hjb : j < bs.length := by have := HBL.out; omega
            have HBJ : Hid (bs[j] = blkF (valP l) j) := blocks_get' HBS.out hjb
            obtain ⟨b, hb⟩ : ∃ b, b = bs[j] := ⟨_, rfl⟩
            have HBE : Hid (b = blkF (valP l) j) := by show _ = _; rw [hb, HBJ.out]
            have HST : Hid (firstsOf (bs.take (j + 1)) = addF (firstsOf (bs.take j)) b) := by show _ = _; rw [hb]; exact (firsts_step hjb).1
            have HSL : Hid ((likeOf bs).take (j + 1) = (likeOf bs).take j ++ [(addF (firstsOf (bs.take j)) b).idxOf b]) := by
              show _ = _
              rw [List.take_succ_eq_append_getElem (by rw [like_length]; exact hjb), (firsts_step hjb).2, (firsts_step hjb).1, hb]
            have HIB : Hid (IsB b) := ⟨by rw [HBE.out, blkF_length], fun x hx => by
              rw [HBE.out] at hx
              obtain ⟨t, _, rfl⟩ := List.mem_map.1 hx
              exact val_bytes hby _⟩
            have hle : (addF (firstsOf (bs.take j)) b).length ≤ 257 := by have := addF_len (firstsOf (bs.take j)) b; omega
            have HLE : Hid ((addF (firstsOf (bs.take j)) b).length ≤ (firstsOf bs).length) := by show _ ≤ _; rw [← HST.out]; exact firsts_take_le _ _
            obtain ⟨F, hF⟩ : ∃ F, F = firstsOf (bs.take j) := ⟨_, rfl⟩
            obtain ⟨L, hL⟩ : ∃ L, L = (likeOf bs).take j := ⟨_, rfl⟩
            have hLl : L.length ≤ 4352 := by rw [hL, List.length_take, like_length]; omega
            rw [← hF] at HR HST HSL hle HLE hfl
            rw [← hL] at HR HSL
            have hll : l.length ≤ 4096 := by omega
            obtain ⟨tl, htl⟩ : ∃ tl, tl = touchL l j := ⟨_, rfl⟩
            have HTL : Hid (tl = touchL l j) := htl
            have htll : tl.length ≤ 4096 := by have := touch_len l j; rw [htl]; omega
            clear hb hF hL HBJ htl
            go_wp2_with fail
            refine (touched_any l _ j wk ((HV.out.below HB.out).mono HB.out.size) hll hjl).mono ?_
            rintro e w2 ⟨vm, rfl, ho2, hB2⟩
            rw [← HTL.out] at ho2
            obtain ⟨am, capm, rfl⟩ := slice_of_row ho2
            have hs2 := hB2.size
            obtain ⟨HO2, HB2⟩ : Hid (w2.ownsRow wk.heap.size 70 3 (.slice am tl.length capm) tl.length (cellsPs tl)) ∧ Hid (Below wk.heap.size wk w2) := ⟨ho2, hB2⟩
            clear ho2 hB2
            go_wp2_with (first | (at_make; refine wpList_make_full _ rfl _ _ 37 rfl 5 iU _ Tryd.undUs hiU hzU0 256 rfl rfl (by rw [hzU2]; decide) (by unfold maxLen; decide) ?_; rw [HMZ.out]) | fail)
            have HG0 : Hid ((w2.alloc (.cells (i8 zeroB).toArray 5)).heap[w2.heap.size]? = some (.cells (i8 (fillR (valP tl) j 0)).toArray 5 (0, 0))) := by show _ = _; rw [fillR_zero]; exact heap_new' w2 _
            have HO0 : Hid ((w2.alloc (.cells (i8 zeroB).toArray 5)).ownsRow wk.heap.size 70 3 (.slice am tl.length capm) tl.length (cellsPs tl)) := HO2.out.alloc _
            have HB0 : Hid (Below wk.heap.size wk (w2.alloc (.cells (i8 zeroB).toArray 5))) := HB2.out.alloc hs2 _
            obtain ⟨gb, hgb⟩ : ∃ gb, gb = w2.heap.size := ⟨_, rfl⟩
            have hgbl : wk.heap.size ≤ gb := by omega
            rw [← hgb] at HG0
            rw [← hgb]
            clear hgb
            go_loopw [9] (fun x wi => ∃ i : Nat, i ≤ 256 ∧ x = .int .i64 i ∧ wi.heap[gb]? = some (.cells (i8 (fillR (valP tl) j i)).toArray 5 (0, 0)) ∧ wi.ownsRow wk.heap.size 70 3 (.slice am tl.length capm) tl.length (cellsPs tl) ∧ Below wk.heap.size wk wi) (fun x _ => 256 - (intOf x).toNat)
            case atStart => exact ⟨0, Nat.zero_le _, rfl, HG0.out, HO0.out, HB0.out⟩
            case round =>
              obtain ⟨i, hi, rfl, hg, ho, hB⟩ := hrel
              obtain ⟨HG, HO, HBI⟩ : Hid (wr.heap[gb]? = some (.cells (i8 (fillR (valP tl) j i)).toArray 5 (0, 0))) ∧ Hid (wr.ownsRow wk.heap.size 70 3 (.slice am tl.length capm) tl.length (cellsPs tl)) ∧ Hid (Below wk.heap.size wk wr) := ⟨hg, ho, hB⟩
              have hsi := hB.size
              clear hg ho hB HG0 HO0 HB0
              by_cases hgo : i < 256 ∧ 0 < tl.length
              · have hi' : (i : Int) < 256 := by omega
                have ht' : (0 : Int) < (tl.length : Int) := by omega
                have ht'' : 0 < tl.length := hgo.2
                have hw1 : IntKind.i64.wrap ((j : Int) * 256) = (j : Int) * 256 := IntWalk.i64_in _ (by omega)
                have hw2 : IntKind.i64.wrap ((j : Int) * 256 + (i : Int)) = (j : Int) * 256 + (i : Int) := IntWalk.i64_in _ (by omega)
                have hfl2 : (fillR (valP tl) j i).length = 256 := fillR_length _ _ _
                have hcb : wr.cell? ⟨gb, i, none⟩ = some (.int .u8 ((fillR (valP tl) j i)[i]'(by omega))) := cell_row HG.out (i8_get (by omega))
                have hfb : wr.frozen? ⟨gb, i, none⟩ = false := frozen_of_row _ _ _ _ _ HG.out
                have HSET : Hid ((i8 (fillR (valP tl) j i)).set i (.int .u8 (valP tl ((j : Int) * 256 + (i : Int)))) = i8 (fillR (valP tl) j (i + 1))) := by
                  show _ = _
                  have e : ((j : Int) * 256 + (i : Int)) = ((j * 256 + i : Nat) : Int) := by omega
                  rw [e, i8_set, fillR_step _ hgo.1]
                obtain ⟨vv, hvv⟩ : ∃ vv, vv = valP tl ((j : Int) * 256 + (i : Int)) := ⟨_, rfl⟩
                rw [← hvv] at HSET
                have HVV : Hid (vv = valP tl ((j : Int) * 256 + (i : Int))) := hvv
                obtain ⟨ov, hov⟩ : ∃ ov, ov = (fillR (valP tl) j i)[i]'(by omega) := ⟨_, rfl⟩
                rw [← hov] at hcb
                clear hgo hvv hov hfl2
                go_wp2_with fail
                refine (value_any tl _ _ wr (props_of_row HO.out) htll).mono ?_
                rintro e wv ⟨rfl, hwv⟩
                subst hwv
                rw [← HVV.out]
                go_wp2
                go_roundw
                case rel =>
                  refine ⟨i + 1, by omega, by go_num, heap_set_row HG.out HSET.out, HO.out.kept (set_grown _ gb i _) (.inr (own_ne HO.out HG.out (by decide))), HBI.out.setCell (show wk.heap.size ≤ gb from hgbl) _⟩
                case measure => simp [intOf]; omega
              · have HEQ : Hid (fillR (valP tl) j i = b) := by
                  show _ = _
                  rw [HBE.out]
                  by_cases z : tl.length = 0
                  · rw [HTL.out] at z ⊢
                    exact fill_none l j i z
                  · have : i = 256 := by omega
                    rw [this, fillR_end, HTL.out, fill_touch]
                have HGB : Hid (wr.heap[gb]? = some (.cells (i8 b).toArray 5 (0, 0))) := by show _ = _; rw [← HEQ.out]; exact HG.out
                have HBY : Hid (BytesAt wr.heap.size wr (.slice (some ⟨gb, 0, none⟩) 256 256) b) := by
                  have hlb := HIB.out.1
                  refine ⟨some ⟨gb, 0, none⟩, 256, by rw [hlb], by omega, fun t ht => ⟨gb, 0, rfl, heap_lt HGB.out, ?_⟩⟩
                  rw [Nat.zero_add]
                  exact cell_row HGB.out (i8_get ht)
                have HRI : Hid (RefAt w.heap.size wr gt F L) := HR.out.below HBI.out
                have HBW : Hid (Below w.heap.size w wr) := HB.out.trans (HBI.out.mono hbs)
                have hns : w.heap.size ≤ wr.heap.size := by omega
                have hF2 : F.length ≤ 4352 := by omega
                obtain ⟨F', hF'⟩ : ∃ F', F' = addF F b := ⟨_, rfl⟩
                rw [← hF'] at HST HSL hle HLE
                have HF' : Hid (F' = addF F b) := hF'
                clear hF'
                obtain ⟨we, rfl⟩ : ∃ we, we = wr := ⟨_, rfl⟩
                have hgo2 : ((i : Int) < 256 ∧ ¬ ((0 : Int) < (tl.length : Int))) ∨ ¬ ((i : Int) < 256) := by omega
                clear hgo
                rcases hgo2 with ⟨n1, n2⟩ | n1
                · obtain rfl : tl = [] := List.length_eq_zero_iff.1 (by omega)
                  clear n2
                  go_wp2_with fail
                  refine (add_any w.heap.size F L gt b _ we hns HRI.out HBY.out HIB.out hF2 hLl).mono ?_
                  rintro e w4 ⟨rfl, hR4, hB4⟩
                  rw [← HF'.out] at hR4
                  obtain ⟨aF, capF, hc4⟩ := hR4.first
                  obtain ⟨m, hm⟩ : ∃ m, m = F'.length * 256 := ⟨_, rfl⟩
                  rw [← hm] at hc4
                  have hs4 := hB4.size
                  obtain ⟨HR4, HB4⟩ : Hid (RefAt w.heap.size w4 gt F' (L ++ [F'.idxOf b])) ∧ Hid (Below w.heap.size w w4) := ⟨hR4, HBW.out.trans hB4⟩
                  clear hR4 hB4
                  by_cases hff : 256 < F'.length
                  · have hff' : (65536 : Int) < (m : Int) := by omega
                    clear hm
                    have e3 : er = 3 := by rw [HER.out, HE.out, if_pos (by have := HLE.out; omega)]
                    subst e3
                    go_wp2
                    go_ret2
                    first | exact ⟨_, rfl, fun _ => rfl, fun h => by omega, HB4.out⟩ | exact ⟨_, rfl, rfl, HB4.out⟩
                  · have hff' : decide ((65536 : Int) < (m : Int)) = false := by simp; omega
                    have HFF : Hid (F'.length ≤ 256) := by show _ ≤ _; omega
                    clear hm hff hle hfl hF2
                    go_wp2_with fail
                    go_roundw
                    case rel => exact ⟨j + 1, by omega, by go_num, by rw [HST.out, HSL.out]; exact HR4.out, by rw [HST.out]; exact HFF.out, HB4.out, by have := HB4.out.size; omega⟩
                    case measure => simp [intOf]; omega
                · obtain rfl : i = 256 := by omega
                  clear n1
                  go_wp2_with fail
                  refine (add_any w.heap.size F L gt b _ we hns HRI.out HBY.out HIB.out hF2 hLl).mono ?_
                  rintro e w4 ⟨rfl, hR4, hB4⟩
                  rw [← HF'.out] at hR4
                  obtain ⟨aF, capF, hc4⟩ := hR4.first
                  obtain ⟨m, hm⟩ : ∃ m, m = F'.length * 256 := ⟨_, rfl⟩
                  rw [← hm] at hc4
                  have hs4 := hB4.size
                  obtain ⟨HR4, HB4⟩ : Hid (RefAt w.heap.size w4 gt F' (L ++ [F'.idxOf b])) ∧ Hid (Below w.heap.size w w4) := ⟨hR4, HBW.out.trans hB4⟩
                  clear hR4 hB4
                  by_cases hff : 256 < F'.length
                  · have hff' : (65536 : Int) < (m : Int) := by omega
                    clear hm
                    have e3 : er = 3 := by rw [HER.out, HE.out, if_pos (by have := HLE.out; omega)]
                    subst e3
                    go_wp2
                    go_ret2
                    first | exact ⟨_, rfl, fun _ => rfl, fun h => by omega, HB4.out⟩ | exact ⟨_, rfl, rfl, HB4.out⟩
                  · have hff' : decide ((65536 : Int) < (m : Int)) = false := by simp; omega
                    have HFF : Hid (F'.length ≤ 256) := by show _ ≤ _; omega
                    clear hm hff hle hfl hF2
                    go_wp2_with fail
                    go_roundw
                    case rel => exact ⟨j + 1, by omega, by go_num, by rw [HST.out, HSL.out]; exact HR4.out, by rw [HST.out]; exact HFF.out, HB4.out, by have := HB4.out.size; omega⟩
                    case measure => simp [intOf]; omega
          · have hjl' : ¬ ((j : Int) < 4352) := by omega
            have hje : bs.take j = bs := List.take_of_length_le (by have := HBL.out; omega)
            have hje2 : (likeOf bs).take j = likeOf bs := List.take_of_length_le (by rw [like_length]; have := HBL.out; omega)
            rw [hje, hje2] at HR
            rw [hje] at hfl
            have e0 : er = 0 := by rw [HER.out, HE.out, if_neg (by omega)]
            have HRF : Hid (RefAt w.heap.size wk gt (firstB l) (likeOf bs)) := by rw [HFB.out]; exact HR.out
            subst e0
            clear hje hje2
            go_wp2
            go_ret2
            first | exact ⟨_, rfl, fun h => absurd rfl h, fun _ => ⟨gt, rfl, HRF.out⟩, HB.out⟩ | exact ⟨_, rfl, ⟨gt, rfl, HRF.out⟩, HB.out⟩
end Go.Proofs.YtpmlbdfdiebkcaaDoor

namespace Go.Proofs.YtpmlbdfdiebkcaaDoor
open Go.RowKit
set_option linter.unusedVariables false


set_option maxRecDepth 100000 in
set_option maxHeartbeats 8000000 in
theorem refOf_any (n : Nat) (F : List (List Int)) (L : List Nat) (g : Nat) (r : Int) (w : World) (ht : RefAt n w g F L) (hF : F.length ≤ 4352) (hL : L.length = 4352) (hlt : ∀ x ∈ L, x < F.length) :
    Calls Tryd.prog 58 #[.pointer (some ⟨g, 0, none⟩), .int .i64 r] w fun e w' => e = .returned (.int .u8 (ofT (L.map (fun k : Nat => (k : Int))) F r)) ∧ Below w.heap.size w w' := by
  obtain ⟨vF, vL, hng, hg, hoF, hoL, hisF⟩ := ht
  obtain ⟨aF, capF, rfl⟩ := slice_of_row hoF
  obtain ⟨aL, capL, rfl⟩ := slice_of_row hoL
  obtain ⟨u, hu⟩ : ∃ u, u = ofT (L.map (fun k : Nat => (k : Int))) F r := ⟨_, rfl⟩
  rw [← hu]
  have HU : Hid (u = ofT (L.map (fun k : Nat => (k : Int))) F r) := hu
  clear hu
  by_cases n1 : r < 0
  · have e0 : u = 0 := by rw [HU.out]; unfold ofT; rw [if_neg (by omega)]
    subst e0
    go_enter Tryd.func58, Tryd.ntmps58
    go_wp2
    go_ret
    exact ⟨rfl, Below.refl _ _⟩
  by_cases n2 : 1114111 < r
  · have e0 : u = 0 := by rw [HU.out]; unfold ofT; rw [if_neg (by omega)]
    subst e0
    go_enter Tryd.func58, Tryd.ntmps58
    go_wp2
    go_ret
    exact ⟨rfl, Below.refl _ _⟩
  · obtain ⟨r, rfl⟩ : ∃ r' : Nat, r = (r' : Int) := ⟨r.toNat, by omega⟩
    obtain ⟨k, hk⟩ : ∃ k, k = r / 256 := ⟨_, rfl⟩
    obtain ⟨j, hj⟩ : ∃ j, j = r % 256 := ⟨_, rfl⟩
    have hkl : k < L.length := by rw [hL]; omega
    obtain ⟨m, hm⟩ : ∃ m : Nat, m = L[k] := ⟨_, rfl⟩
    have hmF : m < F.length := by rw [hm]; exact hlt _ (List.getElem_mem hkl)
    obtain ⟨gF, rfl, hgF⟩ : ∃ gF, aF = some ⟨gF, 0, none⟩ ∧ gF < w.heap.size := by
      rcases hoF.2 with ⟨_, h0⟩ | ⟨g', cap', cur, e, _, hg', _⟩
      · omega
      · exact ⟨g', by simpa using (by simpa using e : _ ∧ _).1, heap_lt hg'⟩
    obtain ⟨gL, rfl, hgL⟩ : ∃ gL, aL = some ⟨gL, 0, none⟩ ∧ gL < w.heap.size := by
      rcases hoL.2 with ⟨_, h0⟩ | ⟨g', cap', cur, e, _, hg', _⟩
      · omega
      · exact ⟨g', by simpa using (by simpa using e : _ ∧ _).1, heap_lt hg'⟩
    have hfl : F.flatten[m * 256 + j]? = some u := by
      have hb := hisF F[m] (List.getElem_mem hmF)
      have hjb : j < (F[m]).length := by rw [hb.1]; omega
      rw [flat_at (isB_even hisF) hmF (by omega), List.getElem?_eq_getElem hjb]
      congr 1
      rw [HU.out]
      unfold ofT
      rw [if_pos (by omega)]
      have e1 : ((r : Int) / 256).toNat = k := by omega
      have e2 : ((r : Int) % 256).toNat = j := by omega
      rw [e1, e2, List.getElem?_map, List.getElem?_eq_getElem hkl]
      simp only [Option.map_some, Option.getD_some]
      rw [← hm, Int.toNat_natCast, flat_at (isB_even hisF) hmF (by omega), List.getElem?_eq_getElem hjb]
      rfl
    have hgl := heap_lt hg
    have HC0 : Hid (∀ w', Below w.heap.size w w' → w'.cell? ⟨g, 0, none⟩ = some (.slice (some ⟨gF, 0, none⟩) (F.length * 256) capF)) := fun w' hw' => (hw'.cell (p := ⟨g, 0, none⟩) hgl).trans (cell_row hg rfl)
    have HC1 : Hid (∀ w', Below w.heap.size w w' → w'.cell? ⟨g, 1, none⟩ = some (.slice (some ⟨gL, 0, none⟩) 4352 capL)) := fun w' hw' => (hw'.cell (p := ⟨g, 1, none⟩) hgl).trans (cell_row hg (by rw [← hL]; rfl))
    have HCK : Hid (∀ w', Below w.heap.size w w' → w'.cell? ⟨gL, k, none⟩ = some (.int .i64 (m : Int))) := fun w' hw' => (hw'.cell (p := ⟨gL, k, none⟩) hgL).trans (by
      have := hoL.cells (g := gL) rfl k (.int .i64 (m : Int)) (by rw [List.getElem?_map, List.getElem?_eq_getElem hkl, hm]; rfl)
      rw [Addr.add_mid, Nat.zero_add] at this
      exact this)
    have HCU : Hid (∀ w', Below w.heap.size w w' → w'.cell? ⟨gF, m * 256 + j, none⟩ = some (.int .u8 u)) := fun w' hw' => (hw'.cell (p := ⟨gF, m * 256 + j, none⟩) hgF).trans (by
      have := hoF.cells (g := gF) rfl (m * 256 + j) (.int .u8 u) (by unfold cellsBl i8; rw [List.getElem?_map, hfl]; rfl)
      rw [Addr.add_mid, Nat.zero_add] at this
      exact this)
    have hq : (r : Int).tdiv 256 = (k : Int) := by rw [Int.tdiv_eq_ediv_of_nonneg (by omega)]; omega
    have hr : (r : Int).tmod 256 = (j : Int) := by rw [Int.tmod_eq_emod_of_nonneg (by omega)]; omega
    have hk4 : (k : Int) < 4352 := by omega
    have hk5 : k < 4352 := by omega
    have hwk : IntKind.i64.wrap (k : Int) = (k : Int) := IntWalk.i64_in _ (by omega)
    have hwj : IntKind.i64.wrap (j : Int) = (j : Int) := IntWalk.i64_in _ (by omega)
    have hwm : IntKind.i64.wrap ((m : Int) * 256) = (m : Int) * 256 := IntWalk.i64_in _ (by omega)
    have hwa : IntKind.i64.wrap ((m : Int) * 256 + (j : Int)) = (m : Int) * 256 + (j : Int) := IntWalk.i64_in _ (by omega)
    have hi1 : (0 : Int) ≤ (m : Int) * 256 + (j : Int) := by omega
    have hi2 : (m : Int) * 256 + (j : Int) < (F.length : Int) * 256 := by omega
    have hi3 : ((m : Int) * 256 + (j : Int)).toNat = m * 256 + j := by omega
    clear hfl hm hk hj hoF hoL hg hisF hlt
    go_enter Tryd.func58, Tryd.ntmps58
    go_wp2_with fail
    refine wp_region_bad (fun w' => Below w.heap.size w w') [] (by kernel_rfl) ((Below.refl _ _).drew) (fun hS => ?_)
    have hC0 := HC0.out
    have hC1 := HC1.out
    have hCK := HCK.out
    have hCU := HCU.out
    refine wpAnyB_pure (i := 0) (v := .pointer (some ⟨g, 0, none⟩)) rfl (by kernel_rfl) (fun _ _ _ h => h) (Or.inl ⟨by rfl, fun w _ => by go_simp⟩) hS ?_
    simp only [List.getElem_toArray, List.getElem_cons_zero, Act.put, List.setIfInBounds_toArray, List.set_cons_zero, List.set_cons_succ]
    refine wpAnyB_pure (i := 1) (v := .pointer (some ⟨g, 0, none⟩)) rfl (by kernel_rfl) (fun _ _ _ h => h) (Or.inl ⟨by rfl, fun w _ => by go_simp⟩) hS ?_
    simp only [List.getElem_toArray, List.getElem_cons_succ, List.getElem_cons_zero, Act.put, List.setIfInBounds_toArray, List.set_cons_zero, List.set_cons_succ]
    refine wpAnyB_pure (i := 2) (v := .pointer (some ⟨g, 0, none⟩)) rfl (by kernel_rfl) (fun _ _ _ h => h) (Or.inl ⟨by rfl, fun w _ => by go_simp⟩) hS ?_
    simp only [List.getElem_toArray, List.getElem_cons_succ, List.getElem_cons_zero, Act.put, List.setIfInBounds_toArray, List.set_cons_zero, List.set_cons_succ]
    refine wpAnyB_take [] (i := 3) (v := .slice (some ⟨gF, 0, none⟩) (F.length * 256) capF) rfl (by kernel_rfl) (fun _ _ _ h => h) (Or.inl ⟨by rfl, fun w hSw => by have := hC0 w hSw; go_simp⟩) hS ?_
    simp only [List.getElem_toArray, List.getElem_cons_succ, List.getElem_cons_zero, Act.put, List.setIfInBounds_toArray, List.set_cons_zero, List.set_cons_succ]
    refine wpAnyB_pure (i := 4) (v := .pointer (some ⟨g, 0, none⟩)) rfl (by kernel_rfl) (fun _ _ _ h => h) (Or.inl ⟨by rfl, fun w _ => by go_simp⟩) hS ?_
    simp only [List.getElem_toArray, List.getElem_cons_succ, List.getElem_cons_zero, Act.put, List.setIfInBounds_toArray, List.set_cons_zero, List.set_cons_succ]
    refine wpAnyB_pure (i := 5) (v := .pointer (some ⟨g, 0, none⟩)) rfl (by kernel_rfl) (fun _ _ _ h => h) (Or.inl ⟨by rfl, fun w _ => by go_simp⟩) hS ?_
    simp only [List.getElem_toArray, List.getElem_cons_succ, List.getElem_cons_zero, Act.put, List.setIfInBounds_toArray, List.set_cons_zero, List.set_cons_succ]
    refine wpAnyB_pure (i := 6) (v := .pointer (some ⟨g, 1, none⟩)) rfl (by kernel_rfl) (fun _ _ _ h => h) (Or.inl ⟨by rfl, fun w _ => by go_simp⟩) hS ?_
    simp only [List.getElem_toArray, List.getElem_cons_succ, List.getElem_cons_zero, Act.put, List.setIfInBounds_toArray, List.set_cons_zero, List.set_cons_succ]
    refine wpAnyB_take [] (i := 7) (v := .slice (some ⟨gL, 0, none⟩) 4352 capL) rfl (by kernel_rfl) (fun _ _ _ h => h) (Or.inl ⟨by rfl, fun w hSw => by have := hC1 w hSw; go_simp⟩) hS ?_
    simp only [List.getElem_toArray, List.getElem_cons_succ, List.getElem_cons_zero, Act.put, List.setIfInBounds_toArray, List.set_cons_zero, List.set_cons_succ]
    refine wpAnyB_pure (i := 8) (v := .int .i64 (r : Int)) rfl (by kernel_rfl) (fun _ _ _ h => h) (Or.inl ⟨by rfl, fun w _ => by go_simp⟩) hS ?_
    simp only [List.getElem_toArray, List.getElem_cons_succ, List.getElem_cons_zero, Act.put, List.setIfInBounds_toArray, List.set_cons_zero, List.set_cons_succ]
    refine wpAnyB_pure (i := 9) (v := .int .i64 (k : Int)) rfl (by kernel_rfl) (fun _ _ _ h => h) (Or.inl ⟨by rfl, fun w _ => by go_simp⟩) hS ?_
    simp only [List.getElem_toArray, List.getElem_cons_succ, List.getElem_cons_zero, Act.put, List.setIfInBounds_toArray, List.set_cons_zero, List.set_cons_succ]
    refine wpAnyB_pure (i := 10) (v := .pointer (some ⟨gL, k, none⟩)) rfl (by kernel_rfl) (fun _ _ _ h => h) (Or.inl ⟨by rfl, fun w _ => by go_simp⟩) hS ?_
    simp only [List.getElem_toArray, List.getElem_cons_succ, List.getElem_cons_zero, Act.put, List.setIfInBounds_toArray, List.set_cons_zero, List.set_cons_succ]
    refine wpAnyB_take [] (i := 11) (v := .int .i64 (m : Int)) rfl (by kernel_rfl) (fun _ _ _ h => h) (Or.inl ⟨by rfl, fun w hSw => by have := hCK w hSw; go_simp⟩) hS ?_
    simp only [List.getElem_toArray, List.getElem_cons_succ, List.getElem_cons_zero, Act.put, List.setIfInBounds_toArray, List.set_cons_zero, List.set_cons_succ]
    refine wpAnyB_pure (i := 12) (v := .int .i64 ((m : Int) * 256)) rfl (by kernel_rfl) (fun _ _ _ h => h) (Or.inl ⟨by rfl, fun w _ => by go_simp⟩) hS ?_
    simp only [List.getElem_toArray, List.getElem_cons_succ, List.getElem_cons_zero, Act.put, List.setIfInBounds_toArray, List.set_cons_zero, List.set_cons_succ]
    refine wpAnyB_pure (i := 13) (v := .int .i64 (r : Int)) rfl (by kernel_rfl) (fun _ _ _ h => h) (Or.inl ⟨by rfl, fun w _ => by go_simp⟩) hS ?_
    simp only [List.getElem_toArray, List.getElem_cons_succ, List.getElem_cons_zero, Act.put, List.setIfInBounds_toArray, List.set_cons_zero, List.set_cons_succ]
    refine wpAnyB_pure (i := 14) (v := .int .i64 (j : Int)) rfl (by kernel_rfl) (fun _ _ _ h => h) (Or.inl ⟨by rfl, fun w _ => by go_simp⟩) hS ?_
    simp only [List.getElem_toArray, List.getElem_cons_succ, List.getElem_cons_zero, Act.put, List.setIfInBounds_toArray, List.set_cons_zero, List.set_cons_succ]
    refine wpAnyB_pure (i := 15) (v := .int .i64 ((m : Int) * 256 + (j : Int))) rfl (by kernel_rfl) (fun _ _ _ h => h) (Or.inl ⟨by rfl, fun w _ => by go_simp⟩) hS ?_
    simp only [List.getElem_toArray, List.getElem_cons_succ, List.getElem_cons_zero, Act.put, List.setIfInBounds_toArray, List.set_cons_zero, List.set_cons_succ]
    refine wpAnyB_pure (i := 16) (v := .pointer (some ⟨gF, m * 256 + j, none⟩)) rfl (by kernel_rfl) (fun _ _ _ h => h) (Or.inl ⟨by rfl, fun w _ => by go_simp⟩) hS ?_
    simp only [List.getElem_toArray, List.getElem_cons_succ, List.getElem_cons_zero, Act.put, List.setIfInBounds_toArray, List.set_cons_zero, List.set_cons_succ]
    refine wpAnyB_take [] (i := 17) (v := .int .u8 u) rfl (by kernel_rfl) (fun _ _ _ h => h) (Or.inl ⟨by rfl, fun w hSw => by have := hCU w hSw; go_simp⟩) hS ?_
    simp only [List.getElem_toArray, List.getElem_cons_succ, List.getElem_cons_zero, Act.put, List.setIfInBounds_toArray, List.set_cons_zero, List.set_cons_succ]
    refine wpAnyB_pure (i := 18) (v := .int .u8 u) rfl (by kernel_rfl) (fun _ _ _ h => h) (Or.inl ⟨by rfl, fun w _ => by go_simp⟩) hS ?_
    simp only [List.getElem_toArray, List.getElem_cons_succ, List.getElem_cons_zero, Act.put, List.setIfInBounds_toArray, List.set_cons_zero, List.set_cons_succ]
    refine wpAnyB_done (by kernel_rfl) ?_ _
    refine NoPanic.normal ?_
    clear hC0 hC1 hCK hCU
    have HS : Hid (Below w.heap.size w w.drew) := hS
    clear hS
    go_wp2
    go_ret
    exact ⟨rfl, HS.out⟩
end Go.Proofs.YtpmlbdfdiebkcaaDoor
