/-
  What signOf, signs, kindOf and joined answer.
-/
import Derived.Test.YtfdjchnckjgapaaGreatDoorY16
namespace Go.Proofs.YtfdjchnckjgapaaGreatDoor
open Go.RowKit Go.Shelf S1
set_option linter.unusedVariables false

/-- The sign of a kind. -/
def signT (k : Int) : List Int := if k = 3 then [42] else if k = 4 then [43] else if k = 5 then [63] else []
theorem signOf_any (k : Int) (w : World) : Calls Tryz.prog 64 #[.int .i64 k] w fun e w' => e = .returned (.string (strOfNums (signT k))) ∧ w = w' := by
  by_cases h3 : k = 3
  · subst h3
    go_enter Tryz.func64, Tryz.ntmps64
    go_wp2
    go_ret
    exact ⟨rfl, rfl⟩
  by_cases h4 : k = 4
  · subst h4
    go_enter Tryz.func64, Tryz.ntmps64
    go_wp2
    go_ret
    exact ⟨rfl, rfl⟩
  by_cases h5 : k = 5
  · subst h5
    go_enter Tryz.func64, Tryz.ntmps64
    go_wp2
    go_ret
    exact ⟨rfl, rfl⟩
  have e : signT k = [] := by simp [signT, h3, h4, h5]
  rw [e]
  have k3 : (k == 3) = false := by simpa using h3
  have k4 : (k == 4) = false := by simpa using h4
  have k5 : (k == 5) = false := by simpa using h5
  clear e h3 h4 h5
  go_enter Tryz.func64, Tryz.ntmps64
  go_wp2
  go_ret
  exact ⟨rfl, rfl⟩
theorem signT_some {k : Int} (h : signK k = true) : (strOfNums (signT k)).toList.isEmpty = false := by
  simp only [signK, Bool.or_eq_true, beq_iff_eq] at h
  rcases h with (rfl | rfl) | rfl <;> simp [strL, signT]
theorem signT_none {k : Int} (h : signK k = false) : signT k = [] := by
  simp only [signK, Bool.or_eq_false_iff, beq_eq_false_iff_ne] at h
  simp [signT, h.1.1, h.1.2, h.2]

set_option maxRecDepth 100000 in
set_option maxHeartbeats 4000000 in
theorem signs_any (Q : Nat → Prop) (c : Nat) (hc3 : c ≤ 3) (n : Nd) (z : Value) (w : World) (hq : ∀ k, Q k → k < w.heap.size) (hz : KdX Q w z n.kids) (hc : Chain c n) :
    Calls Tryz.prog 211 #[ndV n z] w fun e w' => e = .returned (.int .i64 (c : Int)) ∧ Below w.heap.size w w' := by
  obtain ⟨za, zc, rfl, _⟩ := hz.slice
  unfold ndV
  have HB0 : Hid (Below w.heap.size w (w.alloc (.cells #[.int .i64 n.k, .int .i64 n.s, .slice za n.kids.length zc] 39))) := below_alloc _ _
  have HE0 : Hid ((w.alloc (.cells #[.int .i64 n.k, .int .i64 n.s, .slice za n.kids.length zc] 39)).heap[w.heap.size]? = some (.cells #[.int .i64 n.k, .int .i64 n.s, .slice za n.kids.length zc] 39 (0, 0))) := heap_new' _ _
  have HZ : Hid (KdX Q w (.slice za n.kids.length zc) n.kids) := hz
  have HQ : Hid (∀ k, Q k → k < w.heap.size) := hq
  have HC : Hid (Chain c n) := hc
  clear hz hq hc
  go_enter Tryz.func211, Tryz.ntmps211
  go_wp2
  go_loopw [3] (fun x wr => ∃ (j : Nat) (m : Nd) (a : Option Addr) (cp : Nat), j ≤ c ∧ x = .int .i64 (j : Int) ∧ Hid (Chain (c - j) m) ∧ wr.heap[w.heap.size]? = some (.cells #[.int .i64 m.k, .int .i64 m.s, .slice a m.kids.length cp] 39 (0, 0)) ∧ Hid (KdX Q w (.slice a m.kids.length cp) m.kids) ∧ Below w.heap.size w wr) (fun x _ => 4 - (intOf x).toNat)
  case atStart => exact ⟨0, n, za, zc, Nat.zero_le _, rfl, HC, HE0.out, HZ, HB0.out⟩
  case round =>
    obtain ⟨j, m, a, cp, hj, rfl, HCm, hE, HZm, hB⟩ := hrel
    have hlt : w.heap.size < wr.heap.size := (Array.getElem?_eq_some_iff.1 hE).1
    have d0 : wr.cell? ⟨w.heap.size, 0, none⟩ = some (.int .i64 m.k) := cell_of_row _ _ 0 _ _ _ hE
    have f0 : wr.frozen? ⟨w.heap.size, 0, none⟩ = false := frozen_of_row _ _ 0 _ _ hE
    have d1 : wr.cell? ⟨w.heap.size, 1, none⟩ = some (.int .i64 m.s) := cell_of_row _ _ 1 _ _ _ hE
    have f1 : wr.frozen? ⟨w.heap.size, 1, none⟩ = false := frozen_of_row _ _ 1 _ _ hE
    have d2 : wr.cell? ⟨w.heap.size, 2, none⟩ = some (.slice a m.kids.length cp) := cell_of_row _ _ 2 _ _ _ hE
    have f2 : wr.frozen? ⟨w.heap.size, 2, none⟩ = false := frozen_of_row _ _ 2 _ _ hE
    have h1 := signOf_any m.k wr
    have HE : Hid (wr.heap[w.heap.size]? = some (.cells #[.int .i64 m.k, .int .i64 m.s, .slice a m.kids.length cp] 39 (0, 0))) := hE
    clear hE
    by_cases hjc : j = c
    · have hsk : signK m.k = false := by have := HCm.out; rw [hjc, Nat.sub_self] at this; exact this
      rw [signT_none hsk] at h1
      have h1' : Calls Tryz.prog 64 #[.int .i64 m.k] wr fun e w' => e = .returned (.string ⟨#[]⟩) ∧ wr = w' := h1
      have HJ : Hid (j = c) := hjc
      clear h1 hjc hsk
      go_wp2_with fail
      refine h1'.mono ?_
      rintro e w1 ⟨rfl, rfl⟩
      go_wp2
      go_ret
      exact ⟨by rw [HJ.out]; rfl, hB⟩
    · obtain ⟨e, he⟩ : ∃ e, c - j = e + 1 := ⟨c - j - 1, by omega⟩
      have hch := HCm.out
      rw [he] at hch
      obtain ⟨hsk, x, hx, hcx⟩ := hch
      have HCX : Hid (Chain (c - (j + 1)) x) := by rw [show c - (j + 1) = e by omega]; exact hcx
      have hne := signT_some hsk
      obtain ⟨sg, hsg⟩ : ∃ sg, sg = strOfNums (signT m.k) := ⟨_, rfl⟩
      rw [← hsg] at hne h1
      have hzz := HZm.out
      rw [hx] at hzz d2
      obtain ⟨g, off, cap, z', e1, e2, e3, e4, e5, e6, e7⟩ := hzz.at 0 (by simp)
      simp only [List.getElem_cons_zero, Nat.zero_mul, Nat.add_zero] at e4 e5 e6 e7
      obtain ⟨rfl, _, rfl⟩ : a = some ⟨g, off, none⟩ ∧ [x].length = [x].length ∧ cp = cap := by simpa using e1
      obtain ⟨xa, xc, rfl, _⟩ := e7.slice
      have hgl := HQ.out g e3
      have e4' : wr.cell? ⟨g, off, none⟩ = some (.int .i64 x.k) := (hB.cell (p := ⟨g, _, none⟩) hgl).trans e4
      have e5' : wr.cell? ⟨g, off + 1, none⟩ = some (.int .i64 x.s) := (hB.cell (p := ⟨g, _, none⟩) hgl).trans e5
      have e6' : wr.cell? ⟨g, off + 2, none⟩ = some (.slice xa x.kids.length xc) := (hB.cell (p := ⟨g, _, none⟩) hgl).trans e6
      have hgne : g ≠ w.heap.size := by omega
      have HE7 : Hid (KdX Q w (.slice xa x.kids.length xc) x.kids) := e7
      simp only [List.length_cons, List.length_nil, Nat.zero_add] at d2
      have hcp : 1 ≤ cp := by simpa using e2
      clear hzz e1 e4 e5 e6 e7 hsg hcx hsk he hx HCm HZm
      go_wp2_with fail
      refine h1.mono ?_
      rintro e w1 ⟨rfl, rfl⟩
      clear h1
      go_wp2
      go_roundw
      case rel =>
        refine ⟨j + 1, x, xa, xc, by omega, by go_num, HCX, ?_, HE7, ?_⟩
        · exact heap_set (heap_set (heap_set HE.out _) _) _
        · exact ((hB.setCell (by simp) _).setCell (by simp) _).setCell (by simp) _
      case measure => simp [intOf]; omega

set_option maxRecDepth 100000 in
set_option maxHeartbeats 4000000 in
theorem kindOf_any (t : Tok) (v : Value) (hv : ∃ a n c, v = .slice a n c) (hb : Byt t.t) (w : World) : Calls Tryz.prog 212 #[tokV t v] w fun e w' => e = .returned (.tuple #[.int .i64 (kindT t), .bool (kindT t != 0)]) ∧ Below w.heap.size w w' := by
  obtain ⟨va, vn, vc, rfl⟩ := hv
  unfold tokV
  have HB0 : Hid (Below w.heap.size w (w.alloc (.cells #[.int .i64 t.k, .int .i64 (t.p : Int), .string (strOfNums t.t), .slice va vn vc] 54))) := below_alloc _ _
  have s42 : ((strOfNums t.t).toList == ([42] : List UInt8)) = decide (t.t = [42]) := by
    have := strNums_eq hb (y := [42]) (fun y hy => by simp at hy; omega)
    rw [strL [42]] at this
    exact this
  have s43 : ((strOfNums t.t).toList == ([43] : List UInt8)) = decide (t.t = [43]) := by
    have := strNums_eq hb (y := [43]) (fun y hy => by simp at hy; omega)
    rw [strL [43]] at this
    exact this
  have s63 : ((strOfNums t.t).toList == ([63] : List UInt8)) = decide (t.t = [63]) := by
    have := strNums_eq hb (y := [63]) (fun y hy => by simp at hy; omega)
    rw [strL [63]] at this
    exact this
  obtain ⟨kk, hkk⟩ : ∃ kk, kk = kindT t := ⟨_, rfl⟩
  rw [← hkk]
  have HK : Hid (kk = kindT t) := hkk
  clear hkk hb
  by_cases h2 : t.k = 2
  · have h2' : (t.k != 2) = false := by simpa using h2
    by_cases q42 : t.t = [42]
    · have HE : Hid (kk = 3) := by show _ = _; rw [HK.out]; simp [kindT, tkSign, h2, q42]
      rw [decide_eq_true q42] at s42
      clear q42 s43 s63 h2
      go_enter Tryz.func212, Tryz.ntmps212
      go_wp2
      go_ret2
      rw [HE.out]
      exact ⟨rfl, HB0.out⟩
    · rw [decide_eq_false q42] at s42
      by_cases q43 : t.t = [43]
      · have HE : Hid (kk = 4) := by show _ = _; rw [HK.out]; simp [kindT, tkSign, h2, q43]
        rw [decide_eq_true q43] at s43
        clear q43 s63 h2 q42
        go_enter Tryz.func212, Tryz.ntmps212
        go_wp2
        go_ret2
        rw [HE.out]
        exact ⟨rfl, HB0.out⟩
      · rw [decide_eq_false q43] at s43
        by_cases q63 : t.t = [63]
        · have HE : Hid (kk = 5) := by show _ = _; rw [HK.out]; simp [kindT, tkSign, h2, q63]
          rw [decide_eq_true q63] at s63
          clear q63 h2 q42 q43
          go_enter Tryz.func212, Tryz.ntmps212
          go_wp2
          go_ret2
          rw [HE.out]
          exact ⟨rfl, HB0.out⟩
        · rw [decide_eq_false q63] at s63
          have HE : Hid (kk = 0) := by show _ = _; rw [HK.out]; simp [kindT, tkSign, q42, q43, q63]
          clear q63 h2 q42 q43
          go_enter Tryz.func212, Tryz.ntmps212
          go_wp2
          go_ret2
          rw [HE.out]
          exact ⟨rfl, HB0.out⟩
  · have h2' : (t.k != 2) = true := by simpa using h2
    have HE : Hid (kk = 0) := by show _ = _; rw [HK.out]; simp [kindT, tkSign, h2]
    clear h2 s42 s43 s63
    go_enter Tryz.func212, Tryz.ntmps212
    go_wp2
    go_ret2
    rw [HE.out]
    exact ⟨rfl, HB0.out⟩

set_option maxRecDepth 100000 in
set_option maxHeartbeats 4000000 in
theorem joined_any (Q : Nat → Prop) (k : Int) (l : List Nd) (v : Value) (w : World) (hq : ∀ k, Q k → k < w.heap.size) (hv : KdX Q w v l) (hl : l.length ≤ 80000) :
    Calls Tryz.prog 147 #[.int .i64 k, v] w fun e w' => ∃ z, e = .returned (ndV (joinN k l) z) ∧ KdX Q w z (joinN k l).kids ∧ Below w.heap.size w w' := by
  obtain ⟨va, vc, rfl, _⟩ := hv.slice
  by_cases h1 : l.length = 1
  · obtain ⟨x, rfl⟩ := List.length_eq_one_iff.1 h1
    obtain ⟨g, off, cap, z', e1, e2, e3, e4, e5, e6, e7⟩ := hv.at 0 (by simp)
    simp only [List.getElem_cons_zero, Nat.zero_mul, Nat.add_zero] at e4 e5 e6 e7
    obtain ⟨rfl, _, rfl⟩ : va = some ⟨g, off, none⟩ ∧ [x].length = [x].length ∧ vc = cap := by simpa using e1
    obtain ⟨xa, xc, rfl, _⟩ := e7.slice
    have hgl := hq g e3
    have hcp : 1 ≤ vc := by simpa using e2
    have HE7 : Hid (KdX Q w (.slice xa x.kids.length xc) x.kids) := e7
    have HJ : Hid (joinN k [x] = x) := rfl
    simp only [List.length_cons, List.length_nil, Nat.zero_add]
    obtain ⟨jn, hjn⟩ : ∃ jn, jn = joinN k [x] := ⟨_, rfl⟩
    rw [← hjn]
    have HJN : Hid (jn = x) := hjn
    clear hv hq e1 e7 h1 hjn
    go_enter Tryz.func147, Tryz.ntmps147
    go_wp2
    refine bodyPost_ret (results_row_one rfl _ _ w.heap.size 39 #[.int .i64 x.k, .int .i64 x.s, .slice xa x.kids.length xc] (0, 0) _ rfl ?_ Tryz.underlying39 rfl (by kernel_rfl)) rfl ?_
    · exact heap_new' w _
    rw [HJN.out]
    exact ⟨_, rfl, HE7.out, below_alloc _ _⟩
  · have h1' : ((l.length : Int) == 1) = false := by simp; omega
    have HJ : Hid (joinN k l = ⟨k, 0, l⟩) := by
      show _ = _
      match l, h1 with
      | [], _ => rfl
      | [x], h => exact absurd rfl h
      | x :: y :: m, _ => rfl
    have HV : Hid (KdX Q w (.slice va l.length vc) l) := hv
    obtain ⟨jn, hjn⟩ : ∃ jn, jn = joinN k l := ⟨_, rfl⟩
    rw [← hjn]
    have HJN : Hid (jn = ⟨k, 0, l⟩) := hjn.trans HJ.out
    clear hv hq h1 hjn
    go_enter Tryz.func147, Tryz.ntmps147
    go_wp2
    refine bodyPost_ret (results_row_one rfl _ _ w.heap.size 39 #[.int .i64 k, .int .i64 0, .slice va l.length vc] (0, 0) _ rfl ?_ Tryz.underlying39 rfl (by kernel_rfl)) rfl ?_
    · exact heap_new' w _
    rw [HJN.out]
    exact ⟨_, rfl, HV.out, below_alloc _ _⟩
end Go.Proofs.YtfdjchnckjgapaaGreatDoor
