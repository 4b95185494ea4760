/-
  What the walks of the second part lean on: worlds behind draws, slices of bytes and of ints that came in, what utf.Text and utf.Runes answer.
-/
import Derived.Test.YtahgjhpcfmjjkabDoorEnc
import Derived.Test.YtahgjhpcfmjjkabDoorLay
import Derived.Test.YtahgjhpcfmjjkabDoorRunes
import Derived.Test.YtahgjhpcfmjjkabDoorBack
import Derived.Deep.QuietTactic
import Derived.BigQuiet
namespace Go.Proofs.YtahgjhpcfmjjkabDoor
open Go.ChangeShapes Go.WideShapes Go.ChangeAt Go.RowKit
set_option linter.unusedVariables false

theorem below_drewN' {B : Nat} {a w : World} (h : Below B a w) : ∀ k, Below B a (w.drewN k)
  | 0 => h
  | k + 1 => (below_drewN' h k).drew

theorem byt_take {l : List Int} (h : Byt l) (n : Nat) : Byt (l.take n) := fun c hc => h c (List.mem_of_mem_take hc)

theorem heap_new' (w : World) (o : Obj) : (w.alloc o).heap[w.heap.size]? = some o := by
  show (w.heap.push o)[w.heap.size]? = _
  simp

theorem ownsRow_below {w w' : World} {base e size n : Nat} {v : Value} {xs : List Value} (h : w.ownsRow base e size v n xs) (hb : Below w.heap.size w w') : w'.ownsRow base e size v n xs :=
  World.ownsRow.kept (row := none) h ⟨hb.os, hb.tape, hb.output, hb.size, fun k hk _ => hb.block k hk⟩ (by cases v.ownBlock <;> simp)

theorem cellsUs_at : ∀ (us : List U) (i j : Nat) (h : i < us.length), j < 4 → (cellsUs us)[i * 4 + j]? = (cellsU us[i])[j]?
  | u :: us, 0, j, h, hj => by
    have e : cellsUs (u :: us) = cellsU u ++ cellsUs us := rfl
    rw [e, Nat.zero_mul, Nat.zero_add, List.getElem?_append_left (by simpa [cellsU] using hj)]
    rfl
  | u :: us, i + 1, j, h, hj => by
    have e : cellsUs (u :: us) = cellsU u ++ cellsUs us := rfl
    rw [e, List.getElem?_append_right (by simp [cellsU]; omega)]
    have e2 : (i + 1) * 4 + j - (cellsU u).length = i * 4 + j := by simp [cellsU]; omega
    rw [e2, cellsUs_at us i j (by simpa using h) hj]
    rfl

/-- The slice value v holds the units us. -/
def UnitsIn (w : World) (v : Value) (us : List U) : Prop :=
  ∃ a cap, v = .slice a us.length cap ∧ us.length ≤ cap ∧ ∀ i, (h : i < us.length) → ∃ g off, a = some ⟨g, off, none⟩ ∧ g < w.heap.size ∧ ∀ j, j < 4 → w.cell? ⟨g, off + i * 4 + j, none⟩ = (cellsU us[i])[j]?

theorem units_of_row {w : World} {base : Nat} {v : Value} {us : List U} (h : w.ownsRow base 34 4 v us.length (cellsUs us)) : UnitsIn w v us := by
  rcases h.2 with ⟨rfl, h0⟩ | ⟨g, cap, cur, rfl, hb, hg, hc, hm, hs, ht⟩
  · exact ⟨none, 0, by rw [h0], by omega, fun i hi => by omega⟩
  · refine ⟨_, cap, rfl, hc, fun i hi => ⟨g, 0, rfl, (Array.getElem?_eq_some_iff.1 hg).1, fun j hj => ?_⟩⟩
    have hx := cellsUs_at us i j hi hj
    have hy : (cellsU us[i])[j]? = some ((cellsU us[i])[j]'(by simpa [cellsU] using hj)) := by simp [cellsU, hj]
    rw [hy] at hx ⊢
    have := h.cells (g := g) rfl (i * 4 + j) _ hx
    have hp : (⟨g, 0, none⟩ : Addr).add (i * 4 + j) = ⟨g, 0 + i * 4 + j, none⟩ := by unfold Addr.add; split <;> simp_all
    rw [hp] at this
    exact this

theorem UnitsIn.below {w w' : World} {v : Value} {us : List U} (h : UnitsIn w v us) (hb : Below w.heap.size w w') : UnitsIn w' v us := by
  obtain ⟨a, cap, rfl, hc, hi⟩ := h
  refine ⟨a, cap, rfl, hc, fun i hlt => ?_⟩
  obtain ⟨g, off, rfl, hg, hj⟩ := hi i hlt
  exact ⟨g, off, rfl, Nat.lt_of_lt_of_le hg hb.size, fun j h4 => (hb.cell (p := ⟨g, off + i * 4 + j, none⟩) hg).trans (hj j h4)⟩

/-- The slice value v holds the ints zs. -/
def IntsIn (w : World) (v : Value) (zs : List Int) : Prop :=
  ∃ a cap, v = .slice a zs.length cap ∧ zs.length ≤ cap ∧ ∀ i, i < zs.length → ∃ g off, a = some ⟨g, off, none⟩ ∧ g < w.heap.size ∧ w.cell? ⟨g, off + i, none⟩ = some (.int .i64 (zs[i]?.getD 0))

theorem ints_of_row {w : World} {base : Nat} {v : Value} {zs : List Int} (h : w.ownsRow base 3 1 v zs.length (zs.map (Value.int .i64))) : IntsIn w v zs := by
  rcases h.2 with ⟨rfl, h0⟩ | ⟨g, cap, cur, rfl, hb, hg, hc, hm, hs, ht⟩
  · exact ⟨none, 0, by rw [h0], by omega, fun i hi => by omega⟩
  · refine ⟨_, cap, rfl, hc, fun i hi => ⟨g, 0, rfl, (Array.getElem?_eq_some_iff.1 hg).1, ?_⟩⟩
    have := h.cells (g := g) rfl i (.int .i64 (zs[i]?.getD 0)) (by simp [hi])
    have hp : (⟨g, 0, none⟩ : Addr).add i = ⟨g, 0 + i, none⟩ := by unfold Addr.add; split <;> simp_all
    rw [hp] at this
    exact this

theorem IntsIn.below {w w' : World} {v : Value} {zs : List Int} (h : IntsIn w v zs) (hb : Below w.heap.size w w') : IntsIn w' v zs := by
  obtain ⟨a, cap, rfl, hc, hi⟩ := h
  refine ⟨a, cap, rfl, hc, fun i hlt => ?_⟩
  obtain ⟨g, off, rfl, hg, hj⟩ := hi i hlt
  exact ⟨g, off, rfl, Nat.lt_of_lt_of_le hg hb.size, (hb.cell (p := ⟨g, off + i, none⟩) hg).trans hj⟩

set_option maxRecDepth 100000 in
set_option maxHeartbeats 2000000 in
theorem sameInts_any (zs : List Int) (hlen : zs.length ≤ 10000) (va vb : Value) (w : World) (ha : IntsIn w va zs) (hb : IntsIn w vb zs) :
    Calls Tryd.prog 8 #[va, vb] w fun e w' => e = .returned (.bool true) ∧ Below w.heap.size w w' := by
  obtain ⟨a, ca, rfl, hca, hia⟩ := ha
  obtain ⟨b, cb, rfl, hcb, hib⟩ := hb
  have HA : Hid (∀ i, i < zs.length → ∃ g off, a = some ⟨g, off, none⟩ ∧ g < w.heap.size ∧ w.cell? ⟨g, off + i, none⟩ = some (.int .i64 (zs[i]?.getD 0))) := hia
  have HB : Hid (∀ i, i < zs.length → ∃ g off, b = some ⟨g, off, none⟩ ∧ g < w.heap.size ∧ w.cell? ⟨g, off + i, none⟩ = some (.int .i64 (zs[i]?.getD 0))) := hib
  clear hia hib
  have hneq : ((zs.length : Int) != (zs.length : Int)) = false := by simp
  go_enter Tryd.func8, Tryd.ntmps8
  go_wp2
  go_loopw [5] (fun i wr => ∃ k : Nat, k ≤ zs.length ∧ i = .int .i64 k ∧ ∃ nd, wr = w.drewN nd) (fun i _ => zs.length - (intOf i).toNat)
  case atStart => exact ⟨0, Nat.zero_le _, rfl, 0, rfl⟩
  case round =>
    obtain ⟨k, hk, rfl, nd, rfl⟩ := hrel
    by_cases hlt : k < zs.length
    · obtain ⟨ga, oa, rfl, hga, a0⟩ := HA.out k hlt
      obtain ⟨gb, ob, rfl, hgb, b0⟩ := HB.out k hlt
      obtain ⟨z, hz⟩ : ∃ z : Int, z = zs[k]?.getD 0 := ⟨_, rfl⟩
      rw [← hz] at a0 b0
      clear hz
      have hk0 : (0 : Int) ≤ (k : Int) := by omega
      have hk1 : (k : Int) < (zs.length : Int) := by omega
      have hzz : (z != z) = false := by simp
      go_wp2
      go_quiet (fail)
      go_wp2
      go_roundw
      case rel => exact ⟨k + 1, by omega, by go_num, _, rfl⟩
      case measure => simp [intOf]; omega
    · obtain rfl : k = zs.length := by omega
      go_wp2
      go_ret
      exact ⟨rfl, below_drewN' (Below.refl _ _) _⟩

/-- WHAT IS KNOWN OF A SLICE OF INTEGERS THAT CAME IN: it is nil; or it leads to a row of 'cap' cells, the numbers 'zs' (the first 'len' are its elements). -/
def IsRow (k : IntKind) (w : World) (a : Option Addr) (len cap : Nat) (zs : List Int) : Prop :=
  (a = none ∧ len = 0 ∧ cap = 0 ∧ zs = []) ∨
  ∃ x, a = some x ∧ len ≤ cap ∧ cap ≤ maxLen ∧ zs.length = cap ∧ (∀ i, i < zs.length → w.cell? (x.add i) = some (.int k (zs.getD i 0))) ∧ ∀ n ∈ zs, (Lit.int k n).wf = true

theorem cell_some_lt {w : World} {a : Addr} {v : Value} (h : w.cell? a = some v) : a.block < w.heap.size := by
  rcases Nat.lt_or_ge a.block w.heap.size with q | q
  · exact q
  · simp [World.cell?, Array.getElem?_eq_none q] at h

theorem IsRow.take {k : IntKind} {w : World} {a : Option Addr} {len cap : Nat} {zs : List Int} (h : IsRow k w a len cap zs) : (zs.take len).length = len ∧ len ≤ cap ∧ ((zs.take len = [] ∧ len = 0) ∨ ∃ b off, a = some ⟨b, off, none⟩ ∧ b < w.heap.size ∧ ∀ j, j < len → w.cell? ⟨b, off + j, none⟩ = some (.int k ((zs.take len)[j]?.getD 0))) := by
  rcases h with ⟨rfl, rfl, rfl, rfl⟩ | ⟨x, rfl, hl, hm, hz, hc, hw⟩
  · exact ⟨rfl, Nat.le_refl _, .inl ⟨rfl, rfl⟩⟩
  · refine ⟨by rw [List.length_take]; omega, hl, ?_⟩
    by_cases h0 : len = 0
    · exact .inl ⟨by rw [h0]; simp, h0⟩
    · right
      obtain ⟨b, off, spot⟩ := x
      have hc0 := hc 0 (by omega)
      obtain rfl : spot = none := by simpa [Addr.add] using World.cell?_spot hc0
      have hadd : ∀ j, (⟨b, off, none⟩ : Addr).add j = ⟨b, off + j, none⟩ := fun j => by unfold Addr.add; split <;> simp_all
      refine ⟨b, off, rfl, by have := cell_some_lt hc0; rwa [hadd] at this, fun j hj => ?_⟩
      have := hc j (by omega)
      rw [hadd] at this
      rw [this]
      simp [List.getD, hj]

theorem IsRow.bytes {w : World} {a : Option Addr} {len cap : Nat} {zs : List Int} (h : IsRow .u8 w a len cap zs) : ∃ l, l.length = len ∧ Byt l ∧ BytesAt w.heap.size w (.slice a len cap) l := by
  have hb : Byt zs := by
    rcases h with ⟨_, _, _, rfl⟩ | ⟨x, _, _, _, _, _, hw⟩
    · intro c hc; cases hc
    · intro c hc
      have := hw c hc
      simpa [Lit.wf, IntKind.min, IntKind.max, IntKind.signed, IntKind.bits] using this
  obtain ⟨h1, h2, h3⟩ := h.take
  refine ⟨zs.take len, h1, byt_take hb len, ?_⟩
  rcases h3 with ⟨q1, q2⟩ | ⟨b, off, rfl, hlt, hc⟩
  · exact .inl ⟨a, cap, by rw [q2], q1⟩
  · exact .inr ⟨b, off, cap, by rw [h1], by omega, hlt, fun j hj => hc j (by omega)⟩

theorem IsRow.ints {w : World} {a : Option Addr} {len cap : Nat} {zs : List Int} (h : IsRow .i64 w a len cap zs) : ∃ l, l.length = len ∧ IntsIn w (.slice a len cap) l := by
  obtain ⟨h1, h2, h3⟩ := h.take
  refine ⟨zs.take len, h1, a, cap, by rw [h1], by omega, fun i hi => ?_⟩
  rcases h3 with ⟨q1, q2⟩ | ⟨b, off, rfl, hlt, hc⟩
  · omega
  · exact ⟨b, off, rfl, hlt, hc i (by omega)⟩

theorem take_snoc' {α : Type} (l : List α) (k : Nat) (h : k < l.length) : l.take (k + 1) = l.take k ++ [l[k]] := by
  rw [List.take_succ_eq_append_getElem h]

/-- Are all of them code points? -/
def allR (l : List Int) : Bool := l.all isR

/-- The bytes of all, one behind the other. -/
def textL (l : List Int) : List Int := l.flatMap encR

/-- What is told of numbers: their bytes, if all are code points. -/
def textT (l : List Int) : List Int := if allR l = true then textL l else []

def textE (l : List Int) : Int := if allR l = true then 0 else 1

theorem textL_snoc (l : List Int) (r : Int) : textL (l ++ [r]) = textL l ++ encR r := by simp [textL]

theorem allR_snoc (l : List Int) (r : Int) : allR (l ++ [r]) = (allR l && isR r) := by simp [allR]

theorem encR_le4 (r : Int) : 1 ≤ (encR r).length ∧ (encR r).length ≤ 4 := by
  unfold encR
  repeat' split
  all_goals simp

theorem textL_le : ∀ l : List Int, (textL l).length ≤ 4 * l.length
  | [] => by simp [textL]
  | r :: l => by
    have h1 := encR_le4 r
    have h2 := textL_le l
    have e : textL (r :: l) = encR r ++ textL l := rfl
    rw [e, List.length_append, List.length_cons]
    omega

theorem allR_bad {l : List Int} {k : Nat} (h : k < l.length) (hb : isR (l[k]?.getD 0) = false) : allR l = false := by
  unfold allR
  rw [List.all_eq_false]
  exact ⟨l[k], List.getElem_mem h, by simpa [h] using hb⟩

set_option maxRecDepth 100000 in
set_option maxHeartbeats 2000000 in
theorem text_any (zs : List Int) (hlen : zs.length ≤ 10000) (sv : Value) (w : World) (hm : Marks w) (h1 : 1 ≤ w.heap.size) (hI : IntsIn w sv zs) :
    Calls Tryd.prog 6 #[sv] w fun e w' => ∃ v, e = .returned (.tuple #[v, .int .i64 (textE zs)]) ∧ Told w' w.heap.size v (textT zs) ∧ Below w.heap.size w w' := by
  obtain ⟨a, cap, rfl, hcap, hi⟩ := hI
  have HI : Hid (∀ i, i < zs.length → ∃ g off, a = some ⟨g, off, none⟩ ∧ g < w.heap.size ∧ w.cell? ⟨g, off + i, none⟩ = some (.int .i64 (zs[i]?.getD 0))) := hi
  have HM : Hid (Marks w) := hm
  clear hi hm
  go_enter Tryd.func6, Tryd.ntmps6
  go_wp2
  go_loopw [4, 9] (fun v i wr => ∃ k : Nat, k ≤ zs.length ∧ i = .int .i64 k ∧ Told wr w.heap.size v (textL (zs.take k)) ∧ allR (zs.take k) = true ∧ Below w.heap.size w wr) (fun _ i _ => zs.length - (intOf i).toNat)
  case atStart => exact ⟨0, Nat.zero_le _, rfl, Told.nil _ _, rfl, Below.refl _ _⟩
  case round =>
    obtain ⟨k, hk, rfl, hrow, hall, hB⟩ := hrel
    have hbs := hB.size
    have HA : Hid (allR (zs.take k) = true) := hall
    clear hall
    by_cases hlt : k < zs.length
    · obtain ⟨g, off, rfl, hg, hc⟩ := HI.out k hlt
      obtain ⟨r, hr⟩ : ∃ r : Int, r = zs[k]?.getD 0 := ⟨_, rfl⟩
      have c0 : wr.cell? ⟨g, off + k, none⟩ = some (.int .i64 r) := by rw [hr]; exact (hB.cell (p := ⟨g, off + k, none⟩) hg).trans hc
      have ht : zs.take (k + 1) = zs.take k ++ [r] := by rw [take_snoc' zs k hlt, hr]; simp [hlt]
      have HT : Hid (zs.take (k + 1) = zs.take k ++ [r]) := ht
      have HRd : Hid (r = zs[k]?.getD 0) := hr
      clear hc ht hr
      by_cases hR : isR r = true
      · have h2 : szR r ≠ 0 := fun e => by rw [szR_zero.1 e] at hR; cases hR
        have h3 : (szR r == 0) = false := by simp [h2]
        have hp := put_any r hR u4 (textL (zs.take k)).length ((textL (zs.take k)).map (Value.int .u8)) w.heap.size wr (HM.out.below hB h1) hrow (by have := textL_le (zs.take k); rw [List.length_take] at this; omega) hbs h1
        have HP : Hid (Calls Tryd.prog 12 #[u4, .int .i64 r] wr fun e w' => ∃ v', e = .returned v' ∧ w'.ownsRow w.heap.size 5 1 v' ((textL (zs.take k)).length + (encR r).length) ((textL (zs.take k)).map (Value.int .u8) ++ encV r) ∧ Below w.heap.size wr w') := hp
        have HR : Hid (isR r = true) := hR
        clear hp hR h2
        go_wp2_with (first | (go_at_call 11; refine (size_any r _).mono ?_; rintro e w' ⟨rfl, rfl⟩) | (go_at_call 12; refine HP.out.mono ?_; rintro e w2 ⟨v2, rfl, ho2, hB2⟩))
        go_roundw
        case rel => exact ⟨k + 1, by omega, by go_num, by rw [HT.out, textL_snoc]; simpa [Told, encV] using ho2, by rw [HT.out, allR_snoc, HA.out, HR.out]; rfl, hB.trans hB2⟩
        case measure => simp [intOf]; omega
      · have hR' : isR r = false := by simpa using hR
        have h2 : szR r = 0 := szR_zero.2 hR'
        have hs := size_any r
        rw [h2] at hs
        have HE : Hid (allR zs = false) := allR_bad hlt (by rw [← HRd.out]; exact hR')
        clear hR hR' h2
        go_wp2_with (go_at_call 11; refine (hs _).mono ?_; rintro e w' ⟨rfl, rfl⟩)
        go_ret2
        refine ⟨_, by unfold textE; rw [HE.out]; rfl, ?_, hB⟩
        unfold textT; rw [HE.out]
        exact Told.nil _ _
    · obtain rfl : k = zs.length := by omega
      have HE : Hid (allR zs = true) := by have := HA.out; rwa [List.take_length] at this
      rw [List.take_length] at hrow
      go_wp2
      go_ret2
      refine ⟨_, by unfold textE; rw [HE.out]; rfl, ?_, hB⟩
      unfold textT; rw [HE.out]
      exact hrow

theorem runes_any (zs : List Int) (hby : Byt zs) (hlen : zs.length ≤ 10000) (a : Option Addr) (len cap : Nat) (w : World) (hI : BytesAt w.heap.size w (.slice a len cap) zs) :
    Calls Tryd.prog 7 #[.slice a len cap] w fun e w' => ∃ v us, e = .returned v ∧ Run zs 0 us zs.length ∧ w'.ownsRow w.heap.size 3 1 v us.length (runesV us) ∧ Below w.heap.size w w' :=
  callsIn_wide.1 (runes_in 3 (Nat.le_refl _) _ a len cap rfl zs hby hlen w hI)

theorem ints_of_runes {w : World} {base : Nat} {v : Value} {us : List U} (h : w.ownsRow base 3 1 v us.length (runesV us)) : IntsIn w v (us.map U.r) :=
  ints_of_row (base := base) (by simpa [runesV] using h)

theorem BytesAt.later {w w' : World} {sv : Value} {l : List Int} (h : BytesAt w.heap.size w sv l) (hb : Below w.heap.size w w') : BytesAt w'.heap.size w' sv l := (h.below hb).mono hb.size

theorem decode_any (zs : List Int) (hby : Byt zs) (hlen : zs.length ≤ 10000) (a : Option Addr) (len cap : Nat) (w : World) (hI : BytesAt w.heap.size w (.slice a len cap) zs) :
    Calls Tryd.prog 9 #[.slice a len cap] w fun e w' => ∃ v us, e = .returned v ∧ Run zs 0 us zs.length ∧ w'.ownsRow w.heap.size 34 4 v us.length (cellsUs us) ∧ Below w.heap.size w w' :=
  callsIn_wide.1 (decode_in 3 (Nat.le_refl _) _ a len cap rfl zs hby hlen w hI)

theorem allR_mem {l : List Int} (h : allR l = true) : ∀ r ∈ l, isR r = true := by
  unfold allR at h
  exact List.all_eq_true.1 h

theorem byt_text {l : List Int} (h : allR l = true) : Byt (textL l) := by
  intro c hc
  unfold textL at hc
  obtain ⟨r, hr, hcr⟩ := List.mem_flatMap.1 hc
  exact encR_byte (allR_mem h r hr) c hcr

/-- Bytes that are told, as bytes that may be handed on. -/
theorem Told.form {w : World} {base : Nat} {v : Value} {l : List Int} (h : Told w base v l) : ∃ a cap, v = .slice a l.length cap ∧ BytesAt w.heap.size w v l := by
  rcases h.2 with ⟨rfl, h0⟩ | ⟨g, cap, cur, rfl, hb, hg, hc, hm, hs, ht⟩
  · obtain rfl : l = [] := List.length_eq_zero_iff.1 h0
    exact ⟨none, 0, rfl, .inl ⟨none, 0, rfl, rfl⟩⟩
  · refine ⟨_, cap, rfl, .inr ⟨g, 0, cap, rfl, hc, (Array.getElem?_eq_some_iff.1 hg).1, fun j hj => ?_⟩⟩
    have := World.ownsRow.cells h (g := g) rfl j (.int .u8 (l[j]?.getD 0)) (by simp [hj])
    have hp : (⟨g, 0, none⟩ : Addr).add j = ⟨g, 0 + j, none⟩ := by unfold Addr.add; split <;> simp_all
    rw [hp] at this
    exact this

end Go.Proofs.YtahgjhpcfmjjkabDoor
