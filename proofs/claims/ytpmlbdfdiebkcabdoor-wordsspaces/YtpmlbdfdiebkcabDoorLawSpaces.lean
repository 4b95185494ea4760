/-
  The law WordsSpaces: true, for every number of signs, and every sign.
-/
import Derived.Test.YtpmlbdfdiebkcabDoorApp6
namespace Go.Proofs.YtpmlbdfdiebkcabDoor
open Go.RowKit
set_option linter.unusedVariables false

set_option maxRecDepth 100000 in
theorem space_is : wdV 32 = 18 := by kernel_rfl
/-- What the slice y leads to is not what z leads to. -/
def Asunder (y z : Value) : Prop := y.ownBlock = none ∨ y.ownBlock ≠ z.ownBlock
theorem asunder_left {y y' z : Value} {H : Nat} (hat : y'.ownBlock = y.ownBlock ∨ y'.ownBlock = some H) (h : Asunder y z) (hz : ∀ r, z.ownBlock = some r → r < H) : Asunder y' z := by
  rcases hat with e | e
  · unfold Asunder; rw [e]; exact h
  · refine .inr (fun q => ?_)
    rw [e] at q
    have := hz H q.symm
    omega
theorem asunder_right {y z z' : Value} {H : Nat} (hat : z'.ownBlock = z.ownBlock ∨ z'.ownBlock = some H) (h : Asunder y z) (hy : ∀ r, y.ownBlock = some r → r < H) : Asunder y z' := by
  rcases hat with e | e
  · unfold Asunder; rw [e]; exact h
  · cases hv : y.ownBlock with
    | none => exact .inl hv
    | some r =>
      refine .inr (fun q => ?_)
      rw [e] at q
      have := hy H q
      omega
theorem row_lt1 {w : World} {b e s n : Nat} {v : Value} {xs : List Value} (h : w.ownsRow b e s v n xs) {o : Obj} : ∀ r, v.ownBlock = some r → r < (w.alloc o).heap.size := fun r hr => by
  have := (h.lt r hr).2
  simp
  omega
theorem row_ge {w : World} {b e s n : Nat} {v : Value} {xs : List Value} (h : w.ownsRow b e s v n xs) : ∀ r, v.ownBlock = some r → b ≤ r := fun r hr => (h.lt r hr).1
theorem grow_below {B : Nat} {w W W' : World} {o : Obj} {row : Option Nat} (h : Below B w W) (hg : (W.alloc o).grownBy W' row) (hr : ∀ r, row = some r → B ≤ r) (hw : B ≤ w.heap.size := by exact Nat.le_refl _) : Below B w W' ∧ B ≤ W'.heap.size := by
  have hs := h.size
  have hs2 := hg.size
  rw [World.size_alloc] at hs2
  exact ⟨(h.alloc (by omega) _).grown hg (by simp; omega) hr, by omega⟩
theorem rep_snoc (k : Nat) (x : Int) : cellI (List.replicate (k + 1) x) = cellI (List.replicate k x) ++ [.int .i64 x] := by
  rw [List.replicate_succ']; simp [cellI]
theorem range_snoc (k : Nat) : cellsP5 (List.range (k + 1)) = cellsP5 (List.range k) ++ [.int .i64 (k : Int)] := by
  rw [List.range_succ, cellsP5_snoc]
theorem one_row (w : World) : (w.alloc (.cells #[.int .i64 0] 3)).ownsRow w.heap.size 3 1 (.slice (some ⟨w.heap.size, 0, none⟩) 1 1) 1 (cellsP5 (List.range 1)) :=
  ⟨rfl, .inr ⟨w.heap.size, 1, _, rfl, Nat.le_refl _, heap_new' w _, Nat.le_refl _, by decide, rfl, rfl⟩⟩

set_option maxRecDepth 100000 in
set_option maxHeartbeats 16000000 in
theorem wordsSpaces_any (n r : Int) (w : World) (hs : Scripts w) (h0 : 0 < w.heap.size) :
    Calls Tryd.prog 3 #[.int .i64 n, .int .i64 r] w fun e w' => e = .returned (.bool true) ∧ Below w.heap.size w w' := by
  obtain ⟨iI, hiI, hzI0, hzI1, hzI2⟩ := info_parts Tryd.infoInt
  have HS : Hid (Scripts w) := hs
  have HH0 : Hid (0 < w.heap.size) := h0
  clear hs h0
  go_enter Tryd.func3, Tryd.ntmps3
  go_wp2_with fail
  refine (awake_w w HS.out HH0.out).mono ?_
  rintro e w0 ⟨rfl, hB0⟩
  have HB0 : Hid (Below w.heap.size w w0) := hB0
  have HS0 : Hid (Scripts w0 ∧ 0 < w0.heap.size) := ⟨HS.out.below HH0.out hB0, by have := HH0.out; have := hB0.size; omega⟩
  clear hB0
  go_wp2_with fail
  refine (new_ship w0 HS0.out.1 HS0.out.2).mono ?_
  rintro e w1 ⟨g, rfl, hd, hB1⟩
  obtain ⟨HD1, HB1⟩ : Hid (Ship w1 g) ∧ Hid (Below w.heap.size w w1) := ⟨hd, HB0.out.trans (hB1.mono HB0.out.size)⟩
  clear hd hB1 HB0 HS0
  by_cases n1 : n < 1
  · go_wp2
    go_ret
    exact ⟨rfl, HB1.out⟩
  have n1' : decide (n < 1) = false := decide_eq_false n1
  by_cases n2 : 100 < n
  · clear n1
    go_wp2
    go_ret
    exact ⟨rfl, HB1.out⟩
  have n2' : decide (100 < n) = false := decide_eq_false n2
  obtain ⟨N, rfl⟩ : ∃ N : Nat, n = (N : Int) := ⟨n.toNat, by omega⟩
  have HNN : Hid (N ≤ 100 ∧ 1 ≤ N) := ⟨by omega, by omega⟩
  have n1n : decide (N < 1) = false := decide_eq_false (by omega)
  have n2n : decide (100 < N) = false := decide_eq_false (by omega)
  clear n1 n2
  go_wp2
  go_loopw [7, 8, 9, 10] (fun y7 y8 y9 x wr => ∃ k : Nat, k ≤ N ∧ x = .int .i64 (k : Int) ∧ wr.ownsRow w1.heap.size 3 1 y7 k (cellI (List.replicate k 32)) ∧ wr.ownsRow w1.heap.size 3 1 y8 k (cellI (List.replicate k r)) ∧ wr.ownsRow w1.heap.size 3 1 y9 (k + 1) (cellsP5 (List.range (k + 1))) ∧ (Asunder y7 y8 ∧ Asunder y7 y9 ∧ Asunder y8 y7 ∧ Asunder y8 y9 ∧ Asunder y9 y7 ∧ Asunder y9 y8) ∧ Below w1.heap.size w1 wr) (fun _ _ _ x _ => N - (intOf x).toNat)
  case atStart => exact ⟨0, Nat.zero_le _, rfl, World.ownsRow_nil _ _ _ _, World.ownsRow_nil _ _ _ _, one_row w1, ⟨.inl rfl, .inl rfl, .inl rfl, .inl rfl, .inr (fun e => by cases e), .inr (fun e => by cases e)⟩, (Below.refl _ _).alloc (Nat.le_refl _) _⟩
  case round =>
    obtain ⟨k, hk, rfl, ho7, ho8, ho9, hap, hB⟩ := hrel
    obtain ⟨HO7, HO8, HO9, HAP, HB⟩ : Hid (wr.ownsRow w1.heap.size 3 1 u7 k (cellI (List.replicate k 32))) ∧ Hid (wr.ownsRow w1.heap.size 3 1 u8 k (cellI (List.replicate k r))) ∧ Hid (wr.ownsRow w1.heap.size 3 1 u9 (k + 1) (cellsP5 (List.range (k + 1)))) ∧ Hid (Asunder u7 u8 ∧ Asunder u7 u9 ∧ Asunder u8 u7 ∧ Asunder u8 u9 ∧ Asunder u9 u7 ∧ Asunder u9 u8) ∧ Hid (Below w1.heap.size w1 wr) := ⟨ho7, ho8, ho9, hap, hB⟩
    have HSZ : Hid (w1.heap.size ≤ wr.heap.size) := hB.size
    clear ho7 ho8 ho9 hap hB
    by_cases hlt : k < N
    · have hlt' : (k : Int) < (N : Int) := by omega
      have HN : Hid (k < N ∧ N ≤ 100) := ⟨hlt, HNN.out.1⟩
      have HWN : Hid (wrap64 ((k : Int) + 1) = ((k + 1 : Nat) : Int)) := wrap_next (by have := HN.out; omega)
      have hwn2 : IntKind.i64.wrap ((k : Int) + 1) = ((k + 1 : Nat) : Int) := (IntWalk.i64_in _ (by have := HN.out; omega)).trans (by omega)
      go_wp2_with (first | (at_builtin; refine wpList_append_own_at _ rfl (.tmp 36) (.tmp 37) 25 rfl w1.heap.size 3 iI (.int .i64 0) 1 8 Tryd.underlying25 hiI hzI0 hzI1 hzI2 rfl (by decide) _ _ _ rfl (HO7.out.alloc _) ⟨wr.heap.size, 0, none⟩ 1 1 [.int .i64 32] rfl rfl (World.news_of_block (World.alloc_heap_new _ _)) (by simp [Value.oneCell']) (by unfold maxLen; have := HN.out; omega) (by have := HN.out; omega) (by simp; have := HSZ.out; omega) ?_; intro v1 p1 ho hg _ hat; have HQ7 : Hid (p1.ownsRow w1.heap.size 3 1 v1 (k + 1) (cellI (List.replicate k 32) ++ [.int .i64 32])) := ho; have HQ8 : Hid (p1.ownsRow w1.heap.size 3 1 u8 k (cellI (List.replicate k r))) := (HO8.out.alloc _).kept hg HAP.out.2.2.1; have HQ9 : Hid (p1.ownsRow w1.heap.size 3 1 u9 (k + 1) (cellsP5 (List.range (k + 1)))) := (HO9.out.alloc _).kept hg HAP.out.2.2.2.2.1; have HAQ : Hid (Asunder v1 u8 ∧ Asunder v1 u9 ∧ Asunder u8 v1 ∧ Asunder u8 u9 ∧ Asunder u9 v1 ∧ Asunder u9 u8) := ⟨asunder_left hat HAP.out.1 (row_lt1 HO8.out), asunder_left hat HAP.out.2.1 (row_lt1 HO9.out), asunder_right hat HAP.out.2.2.1 (row_lt1 HO8.out), HAP.out.2.2.2.1, asunder_right hat HAP.out.2.2.2.2.1 (row_lt1 HO9.out), HAP.out.2.2.2.2.2⟩; have HP1 : Hid (Below w1.heap.size w1 p1 ∧ w1.heap.size ≤ p1.heap.size) := grow_below HB.out hg (row_ge HO7.out); have HSZ : Hid (w1.heap.size ≤ p1.heap.size) := HP1.out.2; clear ho hg hat) | (at_builtin; refine wpList_append_own_at _ rfl (.tmp 39) (.tmp 41) 25 rfl w1.heap.size 3 iI (.int .i64 0) 1 8 Tryd.underlying25 hiI hzI0 hzI1 hzI2 rfl (by decide) _ _ _ rfl (HQ8.out.alloc _) ⟨p1.heap.size, 0, none⟩ 1 1 [.int .i64 r] rfl rfl (World.news_of_block (World.alloc_heap_new _ _)) (by simp [Value.oneCell']) (by unfold maxLen; have := HN.out; omega) (by have := HN.out; omega) (by simp; have := HSZ.out; omega) ?_; intro v2 p2 ho hg _ hat; have HR8 : Hid (p2.ownsRow w1.heap.size 3 1 v2 (k + 1) (cellI (List.replicate k r) ++ [.int .i64 r])) := ho; have HR7 : Hid (p2.ownsRow w1.heap.size 3 1 v1 (k + 1) (cellI (List.replicate k 32) ++ [.int .i64 32])) := (HQ7.out.alloc _).kept hg HAQ.out.1; have HR9 : Hid (p2.ownsRow w1.heap.size 3 1 u9 (k + 1) (cellsP5 (List.range (k + 1)))) := (HQ9.out.alloc _).kept hg HAQ.out.2.2.2.2.2; have HAR : Hid (Asunder v1 v2 ∧ Asunder v1 u9 ∧ Asunder v2 v1 ∧ Asunder v2 u9 ∧ Asunder u9 v1 ∧ Asunder u9 v2) := ⟨asunder_right hat HAQ.out.1 (row_lt1 HQ7.out), HAQ.out.2.1, asunder_left hat HAQ.out.2.2.1 (row_lt1 HQ7.out), asunder_left hat HAQ.out.2.2.2.1 (row_lt1 HQ9.out), HAQ.out.2.2.2.2.1, asunder_right hat HAQ.out.2.2.2.2.2 (row_lt1 HQ9.out)⟩; have HP2 : Hid (Below w1.heap.size w1 p2 ∧ w1.heap.size ≤ p2.heap.size) := grow_below HP1.out.1 hg (row_ge HQ8.out); have HSZ : Hid (w1.heap.size ≤ p2.heap.size) := HP2.out.2; clear ho hg hat) | (at_builtin; refine wpList_append_own_at _ rfl (.tmp 43) (.tmp 46) 25 rfl w1.heap.size 3 iI (.int .i64 0) 1 8 Tryd.underlying25 hiI hzI0 hzI1 hzI2 rfl (by decide) _ _ _ rfl (HR9.out.alloc _) ⟨p2.heap.size, 0, none⟩ 1 1 [.int .i64 ((k + 1 : Nat) : Int)] rfl rfl (World.news_of_block (World.alloc_heap_new _ _)) (by simp [Value.oneCell']) (by unfold maxLen; have := HN.out; omega) (by have := HN.out; omega) (by simp; have := HSZ.out; omega) ?_; intro v3 p3 ho hg _ hat; have HT9 : Hid (p3.ownsRow w1.heap.size 3 1 v3 (k + 1 + 1) (cellsP5 (List.range (k + 1)) ++ [.int .i64 ((k + 1 : Nat) : Int)])) := ho; have HT7 : Hid (p3.ownsRow w1.heap.size 3 1 v1 (k + 1) (cellI (List.replicate k 32) ++ [.int .i64 32])) := (HR7.out.alloc _).kept hg HAR.out.2.1; have HT8 : Hid (p3.ownsRow w1.heap.size 3 1 v2 (k + 1) (cellI (List.replicate k r) ++ [.int .i64 r])) := (HR8.out.alloc _).kept hg HAR.out.2.2.2.1; have HAT : Hid (Asunder v1 v2 ∧ Asunder v1 v3 ∧ Asunder v2 v1 ∧ Asunder v2 v3 ∧ Asunder v3 v1 ∧ Asunder v3 v2) := ⟨HAR.out.1, asunder_right hat HAR.out.2.1 (row_lt1 HR7.out), HAR.out.2.2.1, asunder_right hat HAR.out.2.2.2.1 (row_lt1 HR8.out), asunder_left hat HAR.out.2.2.2.2.1 (row_lt1 HR7.out), asunder_left hat HAR.out.2.2.2.2.2 (row_lt1 HR8.out)⟩; have HP3 : Hid (Below w1.heap.size w1 p3 ∧ w1.heap.size ≤ p3.heap.size) := grow_below HP2.out.1 hg (row_ge HR9.out); clear ho hg hat) | fail)
      go_roundw
      case rel => exact ⟨k + 1, by omega, by first | rfl | rw [HWN.out], by rw [rep_snoc]; exact HT7.out, by rw [rep_snoc]; exact HT8.out, by rw [range_snoc (k + 1)]; exact HT9.out, HAT.out, HP3.out.1⟩
      case measure => first | exact meas_up hlt (by have := HN.out; omega) | exact meas_up' hlt
    · obtain rfl : k = N := by omega
      have hge : ¬ ((k : Int) < (k : Int)) := by omega
      have HI7 : Hid (IntsAt wr.heap.size wr u7 (List.replicate k 32)) := row_ints (base := w1.heap.size) (by rw [List.length_replicate]; exact HO7.out)
      have HI8 : Hid (IntsAt wr.heap.size wr u8 (List.replicate k r)) := row_ints (base := w1.heap.size) (by rw [List.length_replicate]; exact HO8.out)
      have HI9 : Hid (IntsAt wr.heap.size wr u9 (intsP (List.range (k + 1)))) := all_row (base := w1.heap.size) (by rw [List.length_range]; exact HO9.out)
      have HBW : Hid (Below w.heap.size w wr) := HB1.out.trans (HB.out.mono HB1.out.size)
      have HA1 : Hid (intsP (allL (List.replicate k 32)) = [0, (k : Int)]) := by show _ = _; rw [all_spaces space_is (by have := HNN.out; omega)]; rfl
      have HDR : Hid (Ship wr g) := HD1.out.below HB.out
      clear hlt hk HO7 HO8 HO9 HAP
      go_wp2_with fail
      refine (all_any g _ (List.replicate k 32) (by rw [List.length_replicate]; have := HNN.out; omega) wr HDR.out HI7.out).mono ?_
      rintro e w2 ⟨v2, rfl, ho2, hB2⟩
      have hI2 := all_row ho2
      rw [HA1.out] at hI2
      have HI2 : Hid (IntsAt w2.heap.size w2 v2 [0, (k : Int)]) := hI2
      have HB2 : Hid (Below wr.heap.size wr w2) := hB2
      clear ho2 hB2 hI2
      go_wp2_with fail
      have hBb : Below w2.heap.size w2 (w2.alloc (.cells #[.int .i64 0, .int .i64 (k : Int)] 3)) := (Below.refl _ _).alloc (Nat.le_refl _) _
      refine (sameInts_any [0, (k : Int)] (by simp) v2 _ _ (HI2.out.on hBb) (ints_new w2 [0, (k : Int)] #[.int .i64 0, .int .i64 (k : Int)] rfl)).mono ?_
      rintro e w4 ⟨rfl, hB4⟩
      have HB4 : Hid (Below wr.heap.size wr w4) := HB2.out.trans ((hBb.trans (hB4.mono hBb.size)).mono HB2.out.size)
      have HBW4 : Hid (Below w.heap.size w w4) := HBW.out.trans (HB4.out.mono HBW.out.size)
      clear hB4 hBb
      go_wp2_with fail
      refine (ship_wd w4 g r (HDR.out.below HB4.out)).mono ?_
      rintro e w5 ⟨rfl, hB5⟩
      have HB5 : Hid (Below wr.heap.size wr w5) := HB4.out.trans (hB5.mono HB4.out.size)
      have HBW5 : Hid (Below w.heap.size w w5) := HBW4.out.trans (hB5.mono HBW4.out.size)
      clear hB5
      obtain ⟨q, hq⟩ : ∃ q, q = wdV r := ⟨_, rfl⟩
      have HQ : Hid (q = wdV r) := hq
      rw [← hq]
      clear hq
      have HPC : Hid (Calls Tryd.prog 9 #[.pointer (some ⟨g, 0, none⟩), .int .i64 r] w5 fun e w' => e = .returned (.bool (piV r)) ∧ Below w5.heap.size w5 w') := ship_pic w5 g r (HDR.out.below HB5.out)
      obtain ⟨pb, hpb⟩ : ∃ pb, pb = piV r := ⟨_, rfl⟩
      rw [← hpb] at HPC
      clear hpb
      by_cases q0 : q = 0
      · subst q0
        have HDL : Hid (Dull (wdV r)) := by rw [← HQ.out]; exact .inl rfl
        go_wp2_with fail
        refine HPC.out.mono ?_
        rintro e w6 ⟨rfl, hB6⟩
        have HB6 : Hid (Below wr.heap.size wr w6) := HB5.out.trans (hB6.mono HB5.out.size)
        have HBW6 : Hid (Below w.heap.size w w6) := HBW5.out.trans (hB6.mono HBW5.out.size)
        clear hB6
        cases pb with
        | true =>
          go_wp2
          go_ret
          exact ⟨rfl, HBW6.out⟩
        | false =>
          go_wp2_with fail
          refine (all_any g _ (List.replicate k r) (by rw [List.length_replicate]; have := HNN.out; omega) w6 (HDR.out.below HB6.out) (HI8.out.on HB6.out)).mono ?_
          rintro e w7 ⟨v7, rfl, ho7, hB7⟩
          have hI7 := all_row ho7
          rw [all_dull HDL.out] at hI7
          have HI77 : Hid (IntsAt w7.heap.size w7 v7 (intsP (List.range (k + 1)))) := hI7
          have HB7 : Hid (Below wr.heap.size wr w7) := HB6.out.trans (hB7.mono HB6.out.size)
          have HBW7 : Hid (Below w.heap.size w w7) := HBW6.out.trans (hB7.mono HBW6.out.size)
          clear ho7 hB7 hI7
          go_wp2_with fail
          refine (sameInts_any _ (by rw [intsP_length, List.length_range]; have := HNN.out; omega) v7 u9 w7 HI77.out (HI9.out.on HB7.out)).mono ?_
          rintro e w8 ⟨rfl, hB8⟩
          have HBW8 : Hid (Below w.heap.size w w8) := HBW7.out.trans (hB8.mono HBW7.out.size)
          clear hB8
          go_wp2
          go_ret
          exact ⟨rfl, HBW8.out⟩
      have e0 : (q != 0) = true := by simpa using q0
      have e00 : (q == 0) = false := by simpa using q0
      by_cases q11 : q < 11
      · clear q0
        go_wp2
        go_ret
        exact ⟨rfl, HBW5.out⟩
      have e11 : decide (q < 11) = false := decide_eq_false q11
      by_cases q15 : 15 < q
      · clear q0 q11
        go_wp2
        go_ret
        exact ⟨rfl, HBW5.out⟩
      have e15 : decide (15 < q) = false := decide_eq_false q15
      have HDL : Hid (Dull (wdV r)) := by rw [← HQ.out]; exact .inr ⟨by omega, by omega⟩
      clear q0 q11 q15
      go_wp2_with fail
      refine HPC.out.mono ?_
      rintro e w6 ⟨rfl, hB6⟩
      have HB6 : Hid (Below wr.heap.size wr w6) := HB5.out.trans (hB6.mono HB5.out.size)
      have HBW6 : Hid (Below w.heap.size w w6) := HBW5.out.trans (hB6.mono HBW5.out.size)
      clear hB6
      cases pb with
      | true =>
        go_wp2
        go_ret
        exact ⟨rfl, HBW6.out⟩
      | false =>
        go_wp2_with fail
        refine (all_any g _ (List.replicate k r) (by rw [List.length_replicate]; have := HNN.out; omega) w6 (HDR.out.below HB6.out) (HI8.out.on HB6.out)).mono ?_
        rintro e w7 ⟨v7, rfl, ho7, hB7⟩
        have hI7 := all_row ho7
        rw [all_dull HDL.out] at hI7
        have HI77 : Hid (IntsAt w7.heap.size w7 v7 (intsP (List.range (k + 1)))) := hI7
        have HB7 : Hid (Below wr.heap.size wr w7) := HB6.out.trans (hB7.mono HB6.out.size)
        have HBW7 : Hid (Below w.heap.size w w7) := HBW6.out.trans (hB7.mono HBW6.out.size)
        clear ho7 hB7 hI7
        go_wp2_with fail
        refine (sameInts_any _ (by rw [intsP_length, List.length_range]; have := HNN.out; omega) v7 u9 w7 HI77.out (HI9.out.on HB7.out)).mono ?_
        rintro e w8 ⟨rfl, hB8⟩
        have HBW8 : Hid (Below w.heap.size w w8) := HBW7.out.trans (hB8.mono HBW7.out.size)
        clear hB8
        go_wp2
        go_ret
        exact ⟨rfl, HBW8.out⟩
end Go.Proofs.YtpmlbdfdiebkcabDoor
