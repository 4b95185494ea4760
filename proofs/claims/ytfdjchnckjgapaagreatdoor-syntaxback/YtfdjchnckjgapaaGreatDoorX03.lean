/-
  Slices of ranges in memory: what a slice holds, and how it is kept. What utf.size and scansionref01.IsRune answer, for every number. What utf.head and utf.point answer, for all bytes.
-/
import Derived.Test.YtfdjchnckjgapaaGreatDoorRows
import Derived.Test.YtfdjchnckjgapaaGreatDoorX02
import Derived.WalkKit
import Derived.WalkSpells
import Derived.OwnWalk
import Derived.Outline
import Derived.Maps.AppendAt
import Derived.Deep.RegionHeld3
import Derived.Deep.AppendLies
import Derived.Laws.Rows
import Derived.Laws.AppendOwnNone
import Derived.RangeFuncBox
import Derived.Deep.QuietTactic
import Derived.Test.YtfdjchnckjgapaaGreatDoorX00
namespace Go.Proofs.YtfdjchnckjgapaaGreatDoor
open Go.RowKit
set_option linter.unusedVariables false

/-- The cells of a range, and of ranges. -/
def cellsR (r : Rg) : List Value := [.int .i64 r.lo, .int .i64 r.hi]
def cellsRs (l : List Rg) : List Value := l.flatMap cellsR
theorem cellsRs_snoc (l : List Rg) (r : Rg) : cellsRs (l ++ [r]) = cellsRs l ++ cellsR r := by simp [cellsRs]
theorem cellsRs_append (l m : List Rg) : cellsRs (l ++ m) = cellsRs l ++ cellsRs m := by simp [cellsRs]
theorem cellsRs_length : ∀ (l : List Rg), (cellsRs l).length = l.length * 2
  | [] => rfl
  | r :: l => by
    have e : cellsRs (r :: l) = cellsR r ++ cellsRs l := rfl
    rw [e, List.length_append, cellsRs_length l]
    simp [cellsR]; omega
theorem cellsRs_at : ∀ (l : List Rg) (i j : Nat) (h : i < l.length), j < 2 → (cellsRs l)[i * 2 + j]? = (cellsR l[i])[j]?
  | u :: us, 0, j, h, hj => by
    have e : cellsRs (u :: us) = cellsR u ++ cellsRs us := rfl
    rw [e, Nat.zero_mul, Nat.zero_add, List.getElem?_append_left (by simpa [cellsR] using hj)]
    rfl
  | u :: us, i + 1, j, h, hj => by
    have e : cellsRs (u :: us) = cellsR u ++ cellsRs us := rfl
    rw [e, List.getElem?_append_right (by simp [cellsR]; omega)]
    have e2 : (i + 1) * 2 + j - (cellsR u).length = i * 2 + j := by simp [cellsR]; omega
    rw [e2, cellsRs_at us i j (by simpa using h) hj]
    rfl
theorem cellsRs_one (l : List Rg) : ∀ u ∈ cellsRs l, u.oneCell' = true := fun u hu => by
  obtain ⟨r, _, h⟩ := List.mem_flatMap.1 hu
  simp [cellsR] at h
  rcases h with rfl | rfl <;> rfl

/-- The slice value v holds the ranges l, in a block below n. -/
def RngAt (n : Nat) (w : World) (v : Value) (l : List Rg) : Prop :=
  ∃ a cap, v = .slice a l.length cap ∧ l.length ≤ cap ∧ ∀ i, (h : i < l.length) → ∃ g off, a = some ⟨g, off, none⟩ ∧ g < n ∧ w.cell? ⟨g, off + i * 2, none⟩ = some (.int .i64 l[i].lo) ∧ w.cell? ⟨g, off + i * 2 + 1, none⟩ = some (.int .i64 l[i].hi)
/-- The slice value v holds the ranges l. -/
abbrev RngIn (w : World) (v : Value) (l : List Rg) : Prop := RngAt w.heap.size w v l

theorem RngAt.below {n : Nat} {w w' : World} {v : Value} {l : List Rg} (h : RngAt n w v l) (hb : Below n w w') : RngAt n w' v l := by
  obtain ⟨a, cap, rfl, hc, hi⟩ := h
  refine ⟨a, cap, rfl, hc, fun i hlt => ?_⟩
  obtain ⟨g, off, rfl, hg, h0, h1⟩ := hi i hlt
  exact ⟨g, off, rfl, hg, (hb.cell (p := ⟨g, off + i * 2, none⟩) hg).trans h0, (hb.cell (p := ⟨g, off + i * 2 + 1, none⟩) hg).trans h1⟩
theorem RngAt.mono {n m : Nat} {w : World} {v : Value} {l : List Rg} (h : RngAt n w v l) (hm : n ≤ m) : RngAt m w v l := by
  obtain ⟨a, cap, rfl, hc, hi⟩ := h
  refine ⟨a, cap, rfl, hc, fun i hlt => ?_⟩
  obtain ⟨g, off, rfl, hg, h0, h1⟩ := hi i hlt
  exact ⟨g, off, rfl, by omega, h0, h1⟩

theorem add_lit' (g j : Nat) : (⟨g, 0, none⟩ : Addr).add j = ⟨g, 0 + j, none⟩ := by unfold Addr.add; split <;> simp_all

theorem rng_of_row {w : World} {base : Nat} {v : Value} {l : List Rg} (h : w.ownsRow base 94 2 v l.length (cellsRs l)) : RngIn w v l := by
  rcases h.2 with ⟨rfl, h0⟩ | ⟨g, cap, cur, rfl, hb, hg, hc, hm, hs, ht⟩
  · exact ⟨none, 0, by rw [h0], by omega, fun i hi => by omega⟩
  · refine ⟨_, cap, rfl, hc, fun i hi => ⟨g, 0, rfl, (Array.getElem?_eq_some_iff.1 hg).1, ?_, ?_⟩⟩
    · have hx := cellsRs_at l i 0 hi (by omega)
      have := h.cells (g := g) rfl (i * 2 + 0) (.int .i64 l[i].lo) (by rw [hx]; rfl)
      rw [add_lit'] at this
      exact this
    · have hx := cellsRs_at l i 1 hi (by omega)
      have := h.cells (g := g) rfl (i * 2 + 1) (.int .i64 l[i].hi) (by rw [hx]; rfl)
      rw [add_lit'] at this
      exact this

theorem RngIn.below {w w' : World} {v : Value} {l : List Rg} (h : RngIn w v l) (hb : Below w.heap.size w w') : RngIn w' v l := (RngAt.below h hb).mono hb.size
theorem RngAt.nil (n : Nat) (w : World) : RngAt n w (.slice none 0 0) [] := ⟨none, 0, rfl, Nat.le_refl _, fun i hi => by cases hi⟩
theorem RngAt.empty {n : Nat} {w : World} (a : Option Addr) (cap : Nat) : RngAt n w (.slice a 0 cap) [] := ⟨a, cap, rfl, Nat.zero_le _, fun i hi => by cases hi⟩

theorem RngAt.tail {n : Nat} {w : World} {g off cap : Nat} {r : Rg} {l : List Rg} (h : RngAt n w (.slice (some ⟨g, off, none⟩) (l.length + 1) cap) (r :: l)) : RngAt n w (.slice (some ⟨g, off + 2, none⟩) l.length (cap - 1)) l := by
  obtain ⟨a, c, e, hc, hi⟩ := h
  obtain ⟨rfl, _, rfl⟩ : some ⟨g, off, none⟩ = a ∧ l.length + 1 = (r :: l).length ∧ cap = c := by simpa using e
  refine ⟨_, _, rfl, by simp at hc; omega, fun i hlt => ?_⟩
  obtain ⟨g', off', e2, hg, h0, h1⟩ := hi (i + 1) (by simpa using hlt)
  obtain ⟨rfl, rfl⟩ : g = g' ∧ off = off' := by simpa using e2
  refine ⟨g, off + 2, rfl, hg, ?_, ?_⟩
  · have : off + 2 + i * 2 = off + (i + 1) * 2 := by omega
    rw [this]; simpa using h0
  · have : off + 2 + i * 2 + 1 = off + (i + 1) * 2 + 1 := by omega
    rw [this]; simpa using h1

theorem ownsRow_below {w w' : World} {base e size n : Nat} {v : Value} {xs : List Value} (h : w.ownsRow base e size v n xs) (hb : Below w.heap.size w w') : w'.ownsRow base e size v n xs :=
  World.ownsRow.kept (row := none) h ⟨hb.os, hb.tape, hb.output, hb.size, fun k hk _ => hb.block k hk⟩ (by cases v.ownBlock <;> simp)
theorem below_drewN' {B : Nat} {a w : World} (h : Below B a w) : ∀ k, Below B a (w.drewN k)
  | 0 => h
  | k + 1 => (below_drewN' h k).drew
theorem ownsRow_drewN {w : World} {base e size n : Nat} {v : Value} {xs : List Value} (h : w.ownsRow base e size v n xs) (k : Nat) : (w.drewN k).ownsRow base e size v n xs :=
  ownsRow_below h (below_drewN' (Below.refl _ _) k)
theorem heap_new' (w : World) (o : Obj) : (w.alloc o).heap[w.heap.size]? = some o := World.alloc_heap_new w o

/-- The last range of a row grows. -/
theorem own_grow {w : World} {base g cap : Nat} {ini : List Rg} {s : Rg} (h : w.ownsRow base 94 2 (.slice (some ⟨g, 0, none⟩) (ini ++ [s]).length cap) (ini ++ [s]).length (cellsRs (ini ++ [s]))) (hi : Int) :
    (w.setCell ⟨g, ini.length * 2 + 1, none⟩ (.int .i64 hi)).ownsRow base 94 2 (.slice (some ⟨g, 0, none⟩) (ini ++ [s]).length cap) (ini ++ [(⟨s.lo, hi⟩ : Rg)]).length (cellsRs (ini ++ [⟨s.lo, hi⟩])) := by
  have hl : (ini ++ [(⟨s.lo, hi⟩ : Rg)]).length = (ini ++ [s]).length := by simp
  refine ⟨by rw [cellsRs_length], .inr ?_⟩
  rcases h.2 with ⟨e, _⟩ | ⟨g', cap', cur, e, hb, hg, hc, hm, hs, ht⟩
  · cases e
  · obtain ⟨rfl, rfl⟩ : g = g' ∧ cap = cap' := by simpa using e
    refine ⟨g, cap, cur.setIfInBounds (ini.length * 2 + 1) (.int .i64 hi), by rw [hl], hb, heap_setCell_same _ _ _ _ _ _ hg, by rw [hl]; exact hc, hm, by simp [hs], ?_⟩
    rw [hl]
    have e1 : (cur.setIfInBounds (ini.length * 2 + 1) (.int .i64 hi)).toList = cur.toList.set (ini.length * 2 + 1) (.int .i64 hi) := by simp
    rw [e1, List.take_set, ht, cellsRs_snoc, cellsRs_snoc, List.set_append_right _ _ (by rw [cellsRs_length]; omega), cellsRs_length]
    have e2 : ini.length * 2 + 1 - ini.length * 2 = 1 := by omega
    rw [e2]
    rfl

theorem Tryz.infoRange : (Tryz.prog.info? 94).map (fun i => (i.zero, i.size, i.bytes)) = some (some (.agg #[.int .i64 0, .int .i64 0]), 2, 16) := by kernel_rfl
theorem Tryz.infoInt : (Tryz.prog.info? 3).map (fun i => (i.zero, i.size, i.bytes)) = some (some (.int .i64 0), 1, 8) := by kernel_rfl
end Go.Proofs.YtfdjchnckjgapaaGreatDoor

namespace Go.Proofs.YtfdjchnckjgapaaGreatDoor.S1
open Go.RowKit
set_option linter.unusedVariables false

theorem size_any (r : Int) (w : World) : Calls Tryz.prog 140 #[.int .i64 r] w fun e w' => e = .returned (.int .i64 (szR r)) ∧ w' = w := by
  by_cases h0 : r < 0
  · go_enter Tryz.func140, Tryz.ntmps140
    go_wp2
    go_ret
    exact ⟨by simp [szR, h0], rfl⟩
  by_cases h1 : 1114111 < r
  · go_enter Tryz.func140, Tryz.ntmps140
    go_wp2
    go_ret
    exact ⟨by simp [szR, h1], rfl⟩
  by_cases h2 : 55296 ≤ r ∧ r ≤ 57343
  · obtain ⟨h2, h3⟩ := h2
    go_enter Tryz.func140, Tryz.ntmps140
    go_wp2
    go_ret
    exact ⟨by simp [szR, h2, h3], rfl⟩
  have e : szR r = if r < 128 then 1 else if r < 2048 then 2 else if r < 65536 then 3 else 4 := by
    unfold szR; rw [if_neg h0, if_neg h1, if_neg h2]
  rw [e]
  clear e
  rcases (show r < 55296 ∨ 57343 < r by omega) with h3 | h3
  all_goals
    clear h2
    go_enter Tryz.func140, Tryz.ntmps140
    go_wp2
    all_goals
      go_ret
      refine ⟨?_, rfl⟩
      repeat' split
      all_goals first | rfl | omega

theorem isRune_any (r : Int) (w : World) : Calls Tryz.prog 148 #[.int .i64 r] w fun e w' => e = .returned (.bool (isR r)) ∧ w' = w := by
  have hd : isR r = decide (0 ≤ r ∧ r ≤ 1114111 ∧ (r < 55296 ∨ 57343 < r)) := rfl
  by_cases h0 : 0 ≤ r
  · by_cases h1 : r ≤ 1114111
    · by_cases h2 : r < 55296
      · have e : isR r = true := by rw [hd]; simp; omega
        rw [e]; clear hd e
        go_enter Tryz.func148, Tryz.ntmps148
        go_wp2
        all_goals
          go_ret
          exact ⟨rfl, rfl⟩
      · by_cases h3 : 57343 < r
        · have e : isR r = true := by rw [hd]; simp; omega
          rw [e]; clear hd e
          go_enter Tryz.func148, Tryz.ntmps148
          go_wp2
          all_goals
            go_ret
            exact ⟨rfl, rfl⟩
        · have e : isR r = false := by rw [hd]; simp; omega
          rw [e]; clear hd e
          go_enter Tryz.func148, Tryz.ntmps148
          go_wp2
          all_goals
            go_ret
            exact ⟨rfl, rfl⟩
    · have e : isR r = false := by rw [hd]; simp; omega
      rw [e]; clear hd e
      go_enter Tryz.func148, Tryz.ntmps148
      go_wp2
      all_goals
        go_ret
        exact ⟨rfl, rfl⟩
  · have e : isR r = false := by rw [hd]; simp; omega
    rw [e]; clear hd e
    go_enter Tryz.func148, Tryz.ntmps148
    go_wp2
    all_goals
      go_ret
      exact ⟨rfl, rfl⟩
end Go.Proofs.YtfdjchnckjgapaaGreatDoor.S1

namespace Go.Proofs.YtfdjchnckjgapaaGreatDoor.S1
open Go.RowKit
set_option linter.unusedVariables false

theorem head_any (c : Int) (h0 : 0 ≤ c) (h1 : c ≤ 255) (w : World) : Calls Tryz.prog 139 #[.int .u8 c] w fun e w' => e = .returned (.tuple #[.int .i64 (hdB c), .int .i64 (hdW c : Int)]) ∧ w = w' := by
  by_cases a1 : c < 128
  · have e1 : hdB c = c := by simp [hdB, a1]
    have e2 : hdW c = 1 := by simp [hdW, a1]
    rw [e1, e2]; clear e1 e2
    go_enter Tryz.func139, Tryz.ntmps139
    go_wp2
    go_ret2
    exact ⟨rfl, rfl⟩
  by_cases a2 : c < 192
  · have e1 : hdB c = 0 := by simp [hdB, a1, a2]
    have e2 : hdW c = 0 := by simp [hdW, a1, a2]
    rw [e1, e2]; clear e1 e2
    go_enter Tryz.func139, Tryz.ntmps139
    go_wp2
    go_ret2
    exact ⟨rfl, rfl⟩
  by_cases a3 : c < 224
  · have e1 : hdB c = c % 32 := by simp [hdB, a1, a2, a3]; omega
    have e2 : hdW c = 2 := by simp [hdW, a1, a2, a3]
    rw [e1, e2]; clear e1 e2
    go_enter Tryz.func139, Tryz.ntmps139
    go_wp2
    go_ret2
    exact ⟨rfl, rfl⟩
  by_cases a4 : c < 240
  · have e1 : hdB c = c % 16 := by simp [hdB, a1, a2, a3, a4]; omega
    have e2 : hdW c = 3 := by simp [hdW, a1, a2, a3, a4]
    rw [e1, e2]; clear e1 e2
    go_enter Tryz.func139, Tryz.ntmps139
    go_wp2
    go_ret2
    exact ⟨rfl, rfl⟩
  by_cases a5 : c < 248
  · have e1 : hdB c = c % 8 := by simp [hdB, a1, a2, a3, a4, a5]; omega
    have e2 : hdW c = 4 := by simp [hdW, a1, a2, a3, a4, a5]
    rw [e1, e2]; clear e1 e2
    go_enter Tryz.func139, Tryz.ntmps139
    go_wp2
    go_ret2
    exact ⟨rfl, rfl⟩
  · have e1 : hdB c = 0 := by simp [hdB, a1, a2, a3, a4, a5]
    have e2 : hdW c = 0 := by simp [hdW, a1, a2, a3, a4, a5]
    rw [e1, e2]; clear e1 e2
    go_enter Tryz.func139, Tryz.ntmps139
    go_wp2
    go_ret2
    exact ⟨rfl, rfl⟩

/-- How great the number may be when k bytes have come. -/
def bdR (k : Nat) : Int := 2 * 64 ^ k
theorem bdR_step (k : Nat) : bdR (k + 1) = 64 * bdR k := by unfold bdR; rw [Int.pow_succ]; omega
theorem bdR_1 : bdR 1 = 128 := rfl
theorem bdR_le (k : Nat) (h : k ≤ 4) : bdR k ≤ 33554432 := by
  match k, h with
  | 0, _ => decide
  | 1, _ => decide
  | 2, _ => decide
  | 3, _ => decide
  | 4, _ => decide

theorem hdB_bd (c : Int) (h0 : 0 ≤ c) (h1 : c ≤ 255) : 0 ≤ hdB c ∧ hdB c < 128 := by
  unfold hdB
  repeat' split
  all_goals omega
theorem hdW_bd (c : Int) : hdW c ≤ 4 := by
  unfold hdW
  repeat' split
  all_goals omega

theorem drop_cons (l : List Int) (k : Nat) (h : k < l.length) : l.drop k = l[k]?.getD 0 :: l.drop (k + 1) := by
  rw [List.drop_eq_getElem_cons h]; simp [h]

theorem byt_get {l : List Int} (hl : Byt l) (j : Nat) : (0 : Int) ≤ l[j]?.getD 0 ∧ (l[j]?.getD 0 : Int) ≤ 255 := by
  by_cases h : j < l.length
  · have := hl _ (List.getElem_mem h); simpa [h] using this
  · rw [List.getElem?_eq_none (Nat.le_of_not_lt h)]; simp

theorem tail_all : ∀ c : Fin 256, (bits BinOp.andNot .u8 c.1 63 == 128) = decide (128 ≤ c.1 ∧ c.1 < 192) := by decide +kernel
theorem tail_of (c : Int) (h0 : 0 ≤ c) (h1 : c ≤ 255) : (bits BinOp.andNot .u8 c 63 == 128) = decide (128 ≤ c ∧ c < 192) := by
  have h := tail_all ⟨c.toNat, by omega⟩
  have e : ((c.toNat : Nat) : Int) = c := by omega
  simp only [e] at h
  rw [h]
  apply decide_eq_decide.2
  omega

theorem join_of (x y : Int) (h0 : 0 ≤ x) (h1 : x < 33554432) (h2 : 0 ≤ y) (h3 : y < 64) : bits BinOp.or .i64 (x * 64) y = x * 64 + y := by
  obtain ⟨a, rfl⟩ := Int.eq_ofNat_of_zero_le h0
  obtain ⟨b, rfl⟩ := Int.eq_ofNat_of_zero_le h2
  have e : ((a : Int) * 64) = ((a * 64 : Nat) : Int) := by omega
  rw [e]
  have hj := nat_join 6 (a * 64) b (by omega) (by omega)
  show IntKind.i64.wrap ((BitVec.ofInt 64 ((a * 64 : Nat) : Int) ||| BitVec.ofInt 64 (b : Int)).toNat : Int) = _
  rw [BitVec.toNat_or, ofInt_u64 (a * 64) (by omega), ofInt_u64 b (by omega), hj]
  have hw' : IntKind.i64.wrap ((a * 64 + b : Nat) : Int) = ((a * 64 + b : Nat) : Int) := by
    have h : IntKind.i64.wrap ((a * 64 + b : Nat) : Int) = wrap64 ((a * 64 + b : Nat) : Int) := by simp [IntKind.wrap, IntKind.bits, IntKind.signed, wrap64]; omega
    rw [h, IntWalk.wrap64_in _ ⟨by omega, by omega⟩]
  rw [hw']
  omega

/-- What the loop over the bytes holds when k of them have been gone through. -/
def PtInv (l : List Int) (k : Nat) (r : Int) (wd : Nat) : Prop :=
  (k = 0 ∧ r = 0 ∧ wd = 0) ∨ (1 ≤ k ∧ k ≤ 4 ∧ 0 ≤ r ∧ r < bdR k ∧ wd = hdW (l[0]?.getD 0) ∧ wd ≤ 4 ∧ (k = 1 ∨ k ≤ wd) ∧ pts wd (l.drop k) r k = pts wd (l.drop 1) (hdB (l[0]?.getD 0)) 1)

theorem ptR_of {l : List Int} {r : Int} {wd : Nat} (h1 : 1 ≤ l.length) (hw : wd = hdW (l[0]?.getD 0)) (hr : r = pts wd (l.drop 1) (hdB (l[0]?.getD 0)) 1) :
    ptR l = if szR r = (wd : Int) then (r, wd) else (0, 0) := by
  match l, h1 with
  | c :: t, _ => subst hr; subst hw; simp [ptR]

set_option maxHeartbeats 1000000 in
theorem point_any (l : List Int) (hl : Byt l) (h1 : 1 ≤ l.length) (hlen : l.length ≤ 65536) (b off cap : Nat) (w : World) (hc : ∀ j, j < l.length → w.cell? ⟨b, off + j, none⟩ = some (.int .u8 (l[j]?.getD 0))) :
    Calls Tryz.prog 107 #[.slice (some ⟨b, off, none⟩) l.length cap] w fun e w' => e = .returned (.tuple #[.int .i64 (ptR l).1, .int .i64 ((ptR l).2 : Int)]) ∧ w = w' := by
  obtain ⟨L, hL⟩ : ∃ L, L = l.length := ⟨_, rfl⟩
  rw [← hL]
  rw [← hL] at h1 hlen
  have HL : Hid (L = l.length) := hL
  have HC : Hid (∀ j, j < L → w.cell? ⟨b, off + j, none⟩ = some (.int .u8 (l[j]?.getD 0))) := fun j hj => hc j (by omega)
  have HBY : Hid (∀ j : Nat, (0 : Int) ≤ l[j]?.getD 0 ∧ (l[j]?.getD 0 : Int) ≤ 255) := byt_get hl
  clear hL hc hl
  go_enter Tryz.func107, Tryz.ntmps107
  go_wp2
  go_step3
  go_wp2
  go_step3
  go_wp2
  go_loop [2, 3, 8] (fun r wd i => ∃ (k : Nat) (ρ : Int) (W : Nat), k ≤ L ∧ i = .int .i64 k ∧ r = .int .i64 ρ ∧ wd = .int .i64 (W : Int) ∧ PtInv l k ρ W) (fun _ _ i => L - (intOf i).toNat)
  case atStart => exact ⟨0, 0, 0, Nat.zero_le _, rfl, rfl, rfl, .inl ⟨rfl, rfl, rfl⟩⟩
  case round =>
    obtain ⟨k, ρ, W, hk, rfl, rfl, rfl, hinv⟩ := hrel
    have HI : Hid (PtInv l k ρ W) := hinv
    clear hinv
    by_cases hlt : k < L
    · have hb := HBY.out k
      have hcx := HC.out k hlt
      by_cases hk0 : k = 0
      · subst hk0
        have hcx0 : w.cell? ⟨b, off, none⟩ = some (.int .u8 (l[0]?.getD 0)) := hcx
        clear hcx
        have HH := head_any (l[0]?.getD 0) hb.1 hb.2
        have hbd := hdB_bd (l[0]?.getD 0) hb.1 hb.2
        have hwd := hdW_bd (l[0]?.getD 0)
        go_wp2_with (go_at_call 139; refine (HH _).mono ?_; rintro e w' ⟨rfl, rfl⟩)
        go_round
        case rel => exact ⟨1, hdB (l[0]?.getD 0), hdW (l[0]?.getD 0), by omega, rfl, rfl, rfl, .inr ⟨by omega, by omega, hbd.1, by rw [bdR_1]; exact hbd.2, rfl, hwd, .inl rfl, rfl⟩⟩
        case measure => simp [intOf]; omega
      · obtain ⟨j1, j2, j3, j4, j5, j6, j7, j8⟩ : 1 ≤ k ∧ k ≤ 4 ∧ 0 ≤ ρ ∧ ρ < bdR k ∧ W = hdW (l[0]?.getD 0) ∧ W ≤ 4 ∧ (k = 1 ∨ k ≤ W) ∧ pts W (l.drop k) ρ k = pts W (l.drop 1) (hdB (l[0]?.getD 0)) 1 := by
          rcases HI.out with h | h
          · omega
          · exact h
        have hkb : ((k : Int) == 0) = false := by simp; omega
        have hbk := bdR_le k j2
        have hdr := drop_cons l k (by have := HL.out; omega)
        have HD : Hid (l.drop k = l[k]?.getD 0 :: l.drop (k + 1)) := hdr
        have H5 : Hid (W = hdW (l[0]?.getD 0)) := j5
        have H8 : Hid (pts W (l.drop k) ρ k = pts W (l.drop 1) (hdB (l[0]?.getD 0)) 1) := j8
        have H4 : Hid (ρ < bdR k) := j4
        have hρ : ρ < 33554432 := by omega
        clear hdr j5 j8 j4 hbk HI
        by_cases hkw : (k : Int) < (W : Int)
        · have htl := tail_of _ hb.1 hb.2
          by_cases ht : 128 ≤ (l[k]?.getD 0 : Int) ∧ (l[k]?.getD 0 : Int) < 192
          · have htt : (bits BinOp.andNot IntKind.u8 (l[k]?.getD 0) 63 == 128) = true := by rw [htl]; simpa using ht
            have hjn := join_of ρ (l[k]?.getD 0 % 64) j3 hρ (by omega) (by omega)
            have HN : Hid (pts W (l.drop k) ρ k = pts W (l.drop (k + 1)) (ρ * 64 + l[k]?.getD 0 % 64) (k + 1)) := by
              rw [HD.out]
              simp only [pts]
              rw [if_pos ⟨by omega, ht⟩]
              rfl
            clear htl
            go_wp2
            go_round
            case rel =>
              have hst := bdR_step k
              have h4 := H4.out
              refine ⟨k + 1, ρ * 64 + l[k]?.getD 0 % 64, W, by omega, by go_num, rfl, rfl, .inr ⟨by omega, by omega, by omega, by omega, H5.out, j6, .inr (by omega), ?_⟩⟩
              rw [← HN.out]; exact H8.out
            case measure => simp [intOf]; omega
          · have htt : (bits BinOp.andNot IntKind.u8 (l[k]?.getD 0) 63 == 128) = false := by rw [htl]; simpa using ht
            have HN : Hid (pts W (l.drop k) ρ k = ρ) := by
              show pts W (l.drop k) ρ k = ρ
              rw [HD.out]
              simp only [pts]
              rw [if_neg (by omega)]
            clear htl ht
            have HR : Hid (ptR l = if szR ρ = (W : Int) then (ρ, W) else (0, 0)) := ptR_of (by have := HL.out; omega) H5.out (by rw [← H8.out, HN.out])
            by_cases hz : szR ρ = (W : Int)
            · have hzb : (szR ρ != (W : Int)) = false := by simp [hz]
              have HZ : Hid (szR ρ = (W : Int)) := hz
              clear hz
              go_wp2_with (go_at_call 140; refine (size_any _ _).mono ?_; rintro e w' ⟨rfl, rfl⟩)
              try rw [Exit.noGoto_ret]
              go_ret2
              exact ⟨by rw [HR.out, if_pos HZ.out]; rfl, rfl⟩
            · have hzb : (szR ρ != (W : Int)) = true := by simp [hz]
              have HZ : Hid (¬ szR ρ = (W : Int)) := hz
              clear hz
              go_wp2_with (go_at_call 140; refine (size_any _ _).mono ?_; rintro e w' ⟨rfl, rfl⟩)
              try rw [Exit.noGoto_ret]
              go_ret2
              exact ⟨by rw [HR.out, if_neg HZ.out]; rfl, rfl⟩
        · have HN : Hid (pts W (l.drop k) ρ k = ρ) := by
            show pts W (l.drop k) ρ k = ρ
            rw [HD.out]
            simp only [pts]
            rw [if_neg (by omega)]
          have HR : Hid (ptR l = if szR ρ = (W : Int) then (ρ, W) else (0, 0)) := ptR_of (by have := HL.out; omega) H5.out (by rw [← H8.out, HN.out])
          by_cases hz : szR ρ = (W : Int)
          · have hzb : (szR ρ != (W : Int)) = false := by simp [hz]
            have HZ : Hid (szR ρ = (W : Int)) := hz
            clear hz
            go_wp2_with (go_at_call 140; refine (size_any _ _).mono ?_; rintro e w' ⟨rfl, rfl⟩)
            try rw [Exit.noGoto_ret]
            go_ret2
            exact ⟨by rw [HR.out, if_pos HZ.out]; rfl, rfl⟩
          · have hzb : (szR ρ != (W : Int)) = true := by simp [hz]
            have HZ : Hid (¬ szR ρ = (W : Int)) := hz
            clear hz
            go_wp2_with (go_at_call 140; refine (size_any _ _).mono ?_; rintro e w' ⟨rfl, rfl⟩)
            try rw [Exit.noGoto_ret]
            go_ret2
            exact ⟨by rw [HR.out, if_neg HZ.out]; rfl, rfl⟩
    · obtain ⟨j1, j2, j3, j4, j5, j6, j7, j8⟩ : 1 ≤ k ∧ k ≤ 4 ∧ 0 ≤ ρ ∧ ρ < bdR k ∧ W = hdW (l[0]?.getD 0) ∧ W ≤ 4 ∧ (k = 1 ∨ k ≤ W) ∧ pts W (l.drop k) ρ k = pts W (l.drop 1) (hdB (l[0]?.getD 0)) 1 := by
        rcases HI.out with h | h
        · omega
        · exact h
      have hn : l.drop k = [] := List.drop_eq_nil_of_le (by have := HL.out; omega)
      have HR : Hid (ptR l = if szR ρ = (W : Int) then (ρ, W) else (0, 0)) := ptR_of (by have := HL.out; omega) j5 (by rw [← j8, hn]; rfl)
      clear j1 j2 j4 j5 j6 j7 j8 hn HI
      by_cases hz : szR ρ = (W : Int)
      · have hzb : (szR ρ != (W : Int)) = false := by simp [hz]
        have HZ : Hid (szR ρ = (W : Int)) := hz
        clear hz
        go_wp2_with (go_at_call 140; refine (size_any _ _).mono ?_; rintro e w' ⟨rfl, rfl⟩)
        try rw [Exit.noGoto_ret]
        go_ret2
        exact ⟨by rw [HR.out, if_pos HZ.out]; rfl, rfl⟩
      · have hzb : (szR ρ != (W : Int)) = true := by simp [hz]
        have HZ : Hid (¬ szR ρ = (W : Int)) := hz
        clear hz
        go_wp2_with (go_at_call 140; refine (size_any _ _).mono ?_; rintro e w' ⟨rfl, rfl⟩)
        try rw [Exit.noGoto_ret]
        go_ret2
        exact ⟨by rw [HR.out, if_neg HZ.out]; rfl, rfl⟩
end Go.Proofs.YtfdjchnckjgapaaGreatDoor.S1
