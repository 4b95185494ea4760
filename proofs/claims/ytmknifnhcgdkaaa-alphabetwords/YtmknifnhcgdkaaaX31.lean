/-
  scansionref03.value: the value of a number by entries. trie.Trie.Save: the bytes of a trie.
-/
import Derived.Test.YtmknifnhcgdkaaaX30
import Derived.Test.YtmknifnhcgdkaaaX29
namespace Go.Proofs.Ytmknifnhcgdkaaa.S3
open Go.RowKit
set_option linter.unusedVariables false

theorem val_take {l : List Pp} {k : Nat} (h : k < l.length) (r : Int) : valP (l.take (k + 1)) r = if hasP l[k] r = true then l[k].v else valP (l.take k) r := by
  rw [List.take_succ_eq_append_getElem h, val_snoc]

set_option maxRecDepth 100000 in
set_option maxHeartbeats 8000000 in
theorem value_any (l : List Pp) (v : Value) (r : Int) (w : World) (hv : PropsIn w v l) (hn : l.length ≤ 4096) :
    Calls Try.prog 47 #[v, .int .i64 r] w fun e w' => e = .returned (.int .u8 (valP l r)) ∧ w' = w := by
  obtain ⟨a, cap, rfl, hc, hcl⟩ := hv
  have HC : Hid (∀ i, (h : i < l.length) → ∃ g off, a = some ⟨g, off, none⟩ ∧ g < w.heap.size ∧ w.cell? ⟨g, off + i * 3, none⟩ = some (.int .i64 l[i].lo) ∧ w.cell? ⟨g, off + i * 3 + 1, none⟩ = some (.int .i64 l[i].hi) ∧ w.cell? ⟨g, off + i * 3 + 2, none⟩ = some (.int .u8 l[i].v)) := hcl
  clear hcl
  have HALL : Hid (∀ k, k = l.length → valP (l.take k) r = valP l r) := fun k e => by rw [e, List.take_length]
  go_enter Try.func47, Try.ntmps47
  go_wp2
  go_loopw [5, 6] (fun y x wr => ∃ k : Nat, k ≤ l.length ∧ x = .int .i64 k ∧ y = .int .u8 (valP (l.take k) r) ∧ wr = w) (fun _ x _ => l.length - (intOf x).toNat)
  case atStart => exact ⟨0, Nat.zero_le _, rfl, rfl, rfl⟩
  case round =>
    obtain ⟨k, hk, rfl, rfl, rfl⟩ := hrel
    by_cases hlt : k < l.length
    · obtain ⟨g, off, rfl, hg, c0, c1, c2⟩ := HC.out k hlt
      obtain ⟨p, hp⟩ : ∃ p, p = l[k] := ⟨_, rfl⟩
      have HST : Hid (valP (l.take (k + 1)) r = if hasP p r = true then p.v else valP (l.take k) r) := by show _ = _; rw [val_take hlt, hp]
      rw [← hp] at c0 c1 c2
      have hlt' : (k : Int) < (l.length : Int) := by omega
      clear hp
      by_cases n1 : p.lo ≤ r
      · by_cases n2 : r ≤ p.hi
        · have HL : Hid (hasP p r = true) := hasP_iff.2 ⟨n1, n2⟩
          go_wp2
          go_roundw
          case rel => exact ⟨k + 1, by omega, by go_num, by rw [HST.out, if_pos HL.out], trivial⟩
          case measure => simp [intOf]; omega
        · have HL : Hid (¬ hasP p r = true) := fun h => n2 (hasP_iff.1 h).2
          go_wp2
          go_roundw
          case rel => exact ⟨k + 1, by omega, by go_num, by rw [HST.out, if_neg HL.out], trivial⟩
          case measure => simp [intOf]; omega
      · have HL : Hid (¬ hasP p r = true) := fun h => n1 (hasP_iff.1 h).1
        go_wp2
        go_roundw
        case rel => exact ⟨k + 1, by omega, by go_num, by rw [HST.out, if_neg HL.out], trivial⟩
        case measure => simp [intOf]; omega
    · have hlt' : ¬ ((k : Int) < (l.length : Int)) := by omega
      have HKL : Hid (k = l.length) := by show _ = _; omega
      go_wp2
      go_ret
      exact ⟨by simp [HALL.out k HKL.out], rfl⟩

def touchB (k : Int) (p : Pp) : Bool := decide (k * 256 ≤ p.hi) && decide (p.lo < (k + 1) * 256)
theorem touchB_iff {k : Int} {p : Pp} : touchB k p = true ↔ k * 256 ≤ p.hi ∧ p.lo < (k + 1) * 256 := by simp [touchB]
def touchL (l : List Pp) (k : Int) : List Pp := l.filter (touchB k)
theorem touch_step {l : List Pp} {i : Nat} {k : Int} (h : i < l.length) : touchL (l.take (i + 1)) k = if touchB k l[i] = true then touchL (l.take i) k ++ [l[i]] else touchL (l.take i) k := by
  unfold touchL
  rw [List.take_succ_eq_append_getElem h, List.filter_append]
  by_cases q : touchB k l[i] = true
  · rw [if_pos q]; simp [q]
  · rw [if_neg q]; simp [q]
theorem touch_len (l : List Pp) (k : Int) : (touchL l k).length ≤ l.length := List.length_filter_le _ _

set_option maxRecDepth 100000 in
set_option maxHeartbeats 8000000 in
theorem touched_any (l : List Pp) (v : Value) (n : Nat) (w : World) (hv : PropsIn w v l) (hl : l.length ≤ 4096) (hn : n < 4352) :
    Calls Try.prog 46 #[v, .int .i64 n] w fun e w' => ∃ v', e = .returned v' ∧ w'.ownsRow w.heap.size 66 3 v' (touchL l n).length (cellsPs (touchL l n)) ∧ Below w.heap.size w w' := by
  obtain ⟨iP, hiP, hzP0, hzP1, hzP2⟩ := info_parts Try.infoProp
  obtain ⟨a, cap, rfl, hc, hcl⟩ := hv
  have HC : Hid (∀ i, (h : i < l.length) → ∃ g off, a = some ⟨g, off, none⟩ ∧ g < w.heap.size ∧ w.cell? ⟨g, off + i * 3, none⟩ = some (.int .i64 l[i].lo) ∧ w.cell? ⟨g, off + i * 3 + 1, none⟩ = some (.int .i64 l[i].hi) ∧ w.cell? ⟨g, off + i * 3 + 2, none⟩ = some (.int .u8 l[i].v)) := hcl
  clear hcl
  have HALL : Hid (∀ k, k = l.length → touchL (l.take k) n = touchL l n) := fun k e => by rw [e, List.take_length]
  go_enter Try.func46, Try.ntmps46
  go_wp2
  go_loopw [5, 6] (fun y x wr => ∃ k : Nat, k ≤ l.length ∧ x = .int .i64 k ∧ wr.ownsRow w.heap.size 66 3 y (touchL (l.take k) n).length (cellsPs (touchL (l.take k) n)) ∧ Below w.heap.size w wr ∧ w.heap.size ≤ wr.heap.size) (fun _ x _ => l.length - (intOf x).toNat)
  case atStart => exact ⟨0, Nat.zero_le _, rfl, World.ownsRow_nil _ _ _ _, Below.refl _ _, Nat.le_refl _⟩
  case round =>
    obtain ⟨k, hk, rfl, hown, hB, hbs⟩ := hrel
    have htl : (touchL (l.take k) n).length ≤ k := Nat.le_trans (touch_len _ _) (by rw [List.length_take]; omega)
    by_cases hlt : k < l.length
    · obtain ⟨g, off, rfl, hg, c0, c1, c2⟩ := HC.out k hlt
      obtain ⟨p, hp⟩ : ∃ p, p = l[k] := ⟨_, rfl⟩
      have HST : Hid (touchL (l.take (k + 1)) n = if touchB n p = true then touchL (l.take k) n ++ [p] else touchL (l.take k) n) := by show _ = _; rw [touch_step hlt, hp]
      rw [← hp] at c0 c1 c2
      have q0 : wr.cell? ⟨g, off + k * 3, none⟩ = some (.int .i64 p.lo) := (hB.cell (p := ⟨g, _, none⟩) hg).trans c0
      have q1 : wr.cell? ⟨g, off + k * 3 + 1, none⟩ = some (.int .i64 p.hi) := (hB.cell (p := ⟨g, _, none⟩) hg).trans c1
      have q2 : wr.cell? ⟨g, off + k * 3 + 2, none⟩ = some (.int .u8 p.v) := (hB.cell (p := ⟨g, _, none⟩) hg).trans c2
      have hlt' : (k : Int) < (l.length : Int) := by omega
      have hw1 : IntKind.i64.wrap ((n : Int) * 256) = (n : Int) * 256 := IntWalk.i64_in _ (by omega)
      have hw2 : IntKind.i64.wrap ((n : Int) + 1) = (n : Int) + 1 := IntWalk.i64_in _ (by omega)
      have hw3 : IntKind.i64.wrap (((n : Int) + 1) * 256) = ((n : Int) + 1) * 256 := IntWalk.i64_in _ (by omega)
      obtain ⟨HOWN, HB⟩ : Hid (wr.ownsRow w.heap.size 66 3 u5 (touchL (l.take k) n).length (cellsPs (touchL (l.take k) n))) ∧ Hid (Below w.heap.size w wr) := ⟨hown, hB⟩
      clear hp c0 c1 c2 hown hB
      by_cases n1 : (n : Int) * 256 ≤ p.hi
      · by_cases n2 : p.lo < ((n : Int) + 1) * 256
        · have HL : Hid (touchB n p = true) := touchB_iff.2 ⟨n1, n2⟩
          have HOQ : Hid ((wr.alloc (.cells #[.int .i64 p.lo, .int .i64 p.hi, .int .u8 p.v] 66)).ownsRow w.heap.size 66 3 u5 (touchL (l.take k) n).length (cellsPs (touchL (l.take k) n))) := HOWN.out.alloc _
          have HNQ : Hid ((wr.alloc (.cells #[.int .i64 p.lo, .int .i64 p.hi, .int .u8 p.v] 66)).heap[wr.heap.size]? = some (.cells #[.int .i64 p.lo, .int .i64 p.hi, .int .u8 p.v] 66 (0, 0))) := heap_new' wr _
          go_wp2_with (first | (at_builtin; refine wpList_append_own _ rfl _ _ 62 rfl w.heap.size 66 iP (.agg #[.int .i64 0, .int .i64 0, .int .u8 0]) 3 24 Try.undPs hiP hzP0 hzP1 hzP2 rfl (by decide) _ _ _ rfl HOQ.out ⟨wr.heap.size, 0, none⟩ 1 1 (cellsP p) rfl rfl (World.news_of_block HNQ.out) (by simp [cellsP, Value.oneCell']) (by unfold maxLen; omega) (by omega) (by simp; omega) ?_; intro v2 w2 ho2 hg2 _) | fail)
          go_roundw
          case rel =>
            have hg2s := hg2.size
            refine ⟨k + 1, by omega, by go_num, ?_, ?_, by simp at hg2s; omega⟩
            · rw [HST.out, if_pos HL.out, List.length_append, cellsPs_snoc]
              exact ho2
            · refine (HB.out.alloc (by omega) _).grown hg2 (by simp; omega) (fun j e => (HOQ.out.lt j e).1)
          case measure => simp [intOf]; omega
        · have HL : Hid (¬ touchB n p = true) := fun h => n2 (touchB_iff.1 h).2
          go_wp2
          go_roundw
          case rel => exact ⟨k + 1, by omega, by go_num, by rw [HST.out, if_neg HL.out]; exact HOWN.out, HB.out, hbs⟩
          case measure => simp [intOf]; omega
      · have HL : Hid (¬ touchB n p = true) := fun h => n1 (touchB_iff.1 h).1
        go_wp2
        go_roundw
        case rel => exact ⟨k + 1, by omega, by go_num, by rw [HST.out, if_neg HL.out]; exact HOWN.out, HB.out, hbs⟩
        case measure => simp [intOf]; omega
    · have hlt' : ¬ ((k : Int) < (l.length : Int)) := by omega
      have HKL : Hid (touchL (l.take k) n = touchL l n) := HALL.out k (by omega)
      go_wp2
      go_ret
      rw [HKL.out] at hown
      exact ⟨_, rfl, hown, hB⟩
end Go.Proofs.Ytmknifnhcgdkaaa.S3

namespace Go.Proofs.Ytmknifnhcgdkaaa.S3
open Go.RowKit
set_option linter.unusedVariables false

/-- The bytes of a trie by its parts. -/
def rawSave (like : List Int) (F : List (List Int)) : List Int := ((F.length : Int) - 1) :: (like ++ F.flatten)
theorem rawB (l : List Pp) : rawSave (likeB l) (firstB l) = saveL (blocksF (valP l)) := rfl
/-- The bytes up to the k-th first block. -/
def rawTo (like : List Int) (F : List (List Int)) (k : Nat) : List Int := ((F.length : Int) - 1) :: (like ++ (F.take k).flatten)
theorem rawTo_step {like : List Int} {F : List (List Int)} {k : Nat} (h : k < F.length) : rawTo like F (k + 1) = rawTo like F k ++ F[k] := by
  unfold rawTo
  rw [List.take_succ_eq_append_getElem h, List.flatten_append]
  simp
theorem rawTo_end (like : List Int) (F : List (List Int)) : rawTo like F F.length = rawSave like F := by
  unfold rawTo rawSave
  rw [List.take_length]
theorem rawTo_length {like : List Int} {F : List (List Int)} {k : Nat} (hf : Fine like F) (h : k ≤ F.length) : (rawTo like F k).length = 4353 + 256 * k := by
  unfold rawTo
  rw [List.length_cons, List.length_append, hf.len, flat_length (fun x hx => (hf.isB x (List.mem_of_mem_take hx)).1), List.length_take]
  have : min k F.length = k := by omega
  rw [this]; omega
theorem Try.undBy : Try.prog.underlying 86 = some (.slice 5) := by kernel_rfl

end Go.Proofs.Ytmknifnhcgdkaaa.S3
