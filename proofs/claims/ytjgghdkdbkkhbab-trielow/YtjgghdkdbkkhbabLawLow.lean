/-
  The law TrieLow: true, for all entries.
-/
import Derived.Test.YtjgghdkdbkkhbabProps
namespace Go.Proofs.Ytjgghdkdbkkhbab
open Go.RowKit
set_option linter.unusedVariables false

def isLow (p : Pp) : Bool := decide (0 ≤ p.lo) && decide (p.lo ≤ p.hi) && decide (p.hi < 1024)
theorem isLow_iff {p : Pp} : isLow p = true ↔ 0 ≤ p.lo ∧ p.lo ≤ p.hi ∧ p.hi < 1024 := by simp [isLow, and_assoc]
def lowF (l : List Pp) (k : Nat) : List Pp := (l.take k).filter isLow
theorem lowF_step {l : List Pp} {k : Nat} (h : k < l.length) : lowF l (k + 1) = if isLow l[k] = true then lowF l k ++ [l[k]] else lowF l k := by
  unfold lowF
  rw [List.take_succ_eq_append_getElem h, List.filter_append]
  by_cases q : isLow l[k] = true
  · rw [if_pos q]; simp [q]
  · rw [if_neg q]; simp [q]
theorem lowF_len (l : List Pp) (k : Nat) : (lowF l k).length ≤ k := by
  unfold lowF
  refine Nat.le_trans (List.length_filter_le _ _) ?_
  rw [List.length_take]; omega
theorem lowF_all {l : List Pp} {k : Nat} : ∀ p ∈ lowF l k, 0 ≤ p.lo ∧ p.lo ≤ p.hi ∧ p.hi < 1024 := fun p hp => isLow_iff.1 (List.mem_filter.1 hp).2
theorem lowF_mem {l : List Pp} {k : Nat} : ∀ p ∈ lowF l k, p ∈ l := fun p hp => List.mem_of_mem_take (List.mem_filter.1 hp).1

set_option maxRecDepth 100000 in
set_option maxHeartbeats 8000000 in
theorem trieLow_any (l : List Pp) (v : Value) (r : Int) (w : World) (hv : PropsIn w v l) (hby : Bytes l) :
    Calls Try.prog 3 #[v, .int .i64 r] w fun e w' => e = .returned (.bool true) ∧ Below w.heap.size w w' := by
  obtain ⟨iP, hiP, hzP0, hzP1, hzP2⟩ := info_parts Try.infoProp
  obtain ⟨a, cap, rfl, hc, hcl⟩ := hv
  have HC : Hid (∀ i, (h : i < l.length) → ∃ g off, a = some ⟨g, off, none⟩ ∧ g < w.heap.size ∧ w.cell? ⟨g, off + i * 3, none⟩ = some (.int .i64 l[i].lo) ∧ w.cell? ⟨g, off + i * 3 + 1, none⟩ = some (.int .i64 l[i].hi) ∧ w.cell? ⟨g, off + i * 3 + 2, none⟩ = some (.int .u8 l[i].v)) := hcl
  clear hcl
  go_enter Try.func3, Try.ntmps3
  go_wp2_with fail
  refine (awake_any w).mono ?_
  rintro e w1 ⟨rfl, hB1⟩
  have hs1 := hB1.size
  by_cases h30 : 30 < l.length
  · have h30' : (30 : Int) < (l.length : Int) := by omega
    go_wp2
    go_ret
    exact ⟨rfl, hB1⟩
  · have h30' : ¬ (30 : Int) < (l.length : Int) := by omega
    have HB1 : Hid (Below w.heap.size w w1) := hB1
    clear hB1
    go_wp2
    go_loopw [6, 7] (fun y x wr => ∃ k : Nat, k ≤ l.length ∧ x = .int .i64 k ∧ wr.ownsRow w.heap.size 25 3 y (lowF l k).length (cellsPs (lowF l k)) ∧ Below w.heap.size w wr ∧ w.heap.size ≤ wr.heap.size) (fun _ x _ => l.length - (intOf x).toNat)
    case atStart => exact ⟨0, Nat.zero_le _, rfl, World.ownsRow_nil _ _ _ _, HB1.out, hs1⟩
    case round =>
      obtain ⟨k, hk, rfl, hown, hB, hbs⟩ := hrel
      have hlk := lowF_len l k
      by_cases hlt : k < l.length
      · obtain ⟨g, off, rfl, hg, c0, c1, c2⟩ := HC.out k hlt
        obtain ⟨p, hp⟩ : ∃ p, p = l[k] := ⟨_, rfl⟩
        rw [← hp] at c0 c1 c2
        have q0 : wr.cell? ⟨g, off + k * 3, none⟩ = some (.int .i64 p.lo) := (hB.cell (p := ⟨g, _, none⟩) hg).trans c0
        have q1 : wr.cell? ⟨g, off + k * 3 + 1, none⟩ = some (.int .i64 p.hi) := (hB.cell (p := ⟨g, _, none⟩) hg).trans c1
        have q2 : wr.cell? ⟨g, off + k * 3 + 2, none⟩ = some (.int .u8 p.v) := (hB.cell (p := ⟨g, _, none⟩) hg).trans c2
        have hlt' : (k : Int) < (l.length : Int) := by omega
        have HST : Hid (lowF l (k + 1) = if isLow p = true then lowF l k ++ [p] else lowF l k) := by show _ = _; rw [lowF_step hlt, hp]
        obtain ⟨HOWN, HB⟩ : Hid (wr.ownsRow w.heap.size 25 3 u6 (lowF l k).length (cellsPs (lowF l k))) ∧ Hid (Below w.heap.size w wr) := ⟨hown, hB⟩
        clear c0 c1 c2 hp hown hB
        by_cases n1 : 0 ≤ p.lo
        · have d1 : decide (0 ≤ p.lo) = true := by simpa using n1
          by_cases n2 : p.lo ≤ p.hi
          · have d2 : decide (p.lo ≤ p.hi) = true := by simpa using n2
            by_cases n3 : p.hi < 1024
            · have d3 : decide (p.hi < 1024) = true := by simpa using n3
              have HL : Hid (isLow p = true) := isLow_iff.2 ⟨n1, n2, n3⟩
              clear n1 n2 n3
              go_wp2_with fail
              go_quiet (fail)
              obtain ⟨wq, hwq⟩ : ∃ wq, wq = wr.drewN nq := ⟨_, rfl⟩
              have hBq : Below wr.heap.size wr wq := by rw [hwq]; exact below_drewN' (Below.refl _ _) nq
              have HSQ : Hid (wq.heap.size = wr.heap.size) := by show _ = _; rw [hwq]; exact size_drewN wr nq
              have q0' : wq.cell? ⟨g, off + k * 3, none⟩ = some (.int .i64 p.lo) := (hBq.cell (p := ⟨g, _, none⟩) (by show g < _; omega)).trans q0
              have q1' : wq.cell? ⟨g, off + k * 3 + 1, none⟩ = some (.int .i64 p.hi) := (hBq.cell (p := ⟨g, _, none⟩) (by show g < _; omega)).trans q1
              have q2' : wq.cell? ⟨g, off + k * 3 + 2, none⟩ = some (.int .u8 p.v) := (hBq.cell (p := ⟨g, _, none⟩) (by show g < _; omega)).trans q2
              have HOQ : Hid ((wq.alloc (.cells #[.int .i64 p.lo, .int .i64 p.hi, .int .u8 p.v] 25)).ownsRow w.heap.size 25 3 u6 (lowF l k).length (cellsPs (lowF l k))) := (ownsRow_below HOWN.out hBq).alloc _
              have HNQ : Hid ((wq.alloc (.cells #[.int .i64 p.lo, .int .i64 p.hi, .int .u8 p.v] 25)).heap[wq.heap.size]? = some (.cells #[.int .i64 p.lo, .int .i64 p.hi, .int .u8 p.v] 25 (0, 0))) := heap_new' wq _
              have HBQ : Hid (Below w.heap.size w wq) := HB.out.trans (hBq.mono hbs)
              rw [← hwq]
              clear hwq hBq q0 q1 q2
              go_wp2_with (first | (at_builtin; refine wpList_append_own _ rfl _ _ 22 rfl w.heap.size 25 iP (.agg #[.int .i64 0, .int .i64 0, .int .u8 0]) 3 24 Try.undPs hiP hzP0 hzP1 hzP2 rfl (by decide) _ _ _ rfl HOQ.out ⟨wq.heap.size, 0, none⟩ 1 1 (cellsP p) rfl rfl (World.news_of_block HNQ.out) (by simp [cellsP, Value.oneCell']) (by unfold maxLen; omega) (by omega) (by simp; have := HSQ.out; omega) ?_; intro v2 w2 ho2 hg2 _) | fail)
              go_roundw
              case rel =>
                have hg2s := hg2.size
                refine ⟨k + 1, by omega, by go_num, ?_, ?_, by simp at hg2s; have := HSQ.out; omega⟩
                · rw [HST.out, if_pos HL.out, List.length_append, cellsPs_snoc]
                  exact ho2
                · refine (HBQ.out.alloc (by have := HSQ.out; omega) _).grown hg2 (by simp; have := HSQ.out; omega) (fun j e => (HOQ.out.lt j e).1)
              case measure => simp [intOf]; omega
            · have d3 : decide (p.hi < 1024) = false := by simpa using n3
              have HL : Hid (¬ isLow p = true) := fun h => n3 (isLow_iff.1 h).2.2
              clear n1 n2 n3
              go_wp2_with fail
              go_quiet (fail)
              obtain ⟨wq, hwq⟩ : ∃ wq, wq = wr.drewN nq := ⟨_, rfl⟩
              have hBq : Below wr.heap.size wr wq := by rw [hwq]; exact below_drewN' (Below.refl _ _) nq
              have HSQ : Hid (wq.heap.size = wr.heap.size) := by show _ = _; rw [hwq]; exact size_drewN wr nq
              rw [← hwq]
              clear hwq
              go_wp2
              go_roundw
              case rel =>
                refine ⟨k + 1, by omega, by go_num, ?_, HB.out.trans (hBq.mono hbs), by have := HSQ.out; omega⟩
                rw [HST.out, if_neg HL.out]
                exact ownsRow_below HOWN.out hBq
              case measure => simp [intOf]; omega
          · have d2 : decide (p.lo ≤ p.hi) = false := by simpa using n2
            have HL : Hid (¬ isLow p = true) := fun h => n2 (isLow_iff.1 h).2.1
            clear n1 n2
            go_wp2_with fail
            have HQ0 : Hid (∀ w', Below wr.heap.size wr w' → w'.cell? ⟨g, off + k * 3, none⟩ = some (.int .i64 p.lo)) := fun w' hw' => (hw'.cell (p := ⟨g, _, none⟩) (by show g < _; omega)).trans q0
            have HQ1 : Hid (∀ w', Below wr.heap.size wr w' → w'.cell? ⟨g, off + k * 3 + 1, none⟩ = some (.int .i64 p.hi)) := fun w' hw' => (hw'.cell (p := ⟨g, _, none⟩) (by show g < _; omega)).trans q1
            refine wp_region_bad (fun w' => Below wr.heap.size wr w') [] (by kernel_rfl) ((Below.refl _ _).drew) (fun hS => ?_)
            have hQ0 := HQ0.out
            have hQ1 := HQ1.out
            refine wpAnyB_pure (i := 0) (v := .slice (some ⟨g, off, none⟩) l.length cap) rfl (by kernel_rfl) (fun _ _ _ h => h) (Or.inl ⟨by rfl, fun w _ => by go_simp⟩) hS ?_
            simp only [List.getElem_toArray, List.getElem_cons_zero, Act.put, List.setIfInBounds_toArray, List.set_cons_zero, List.set_cons_succ]
            refine wpAnyB_pure (i := 1) (v := .int .i64 (k : Int)) rfl (by kernel_rfl) (fun _ _ _ h => h) (Or.inl ⟨by rfl, fun w _ => by go_simp⟩) hS ?_
            simp only [List.getElem_toArray, List.getElem_cons_succ, List.getElem_cons_zero, Act.put, List.setIfInBounds_toArray, List.set_cons_zero, List.set_cons_succ]
            refine wpAnyB_pure (i := 2) (v := .pointer (some ⟨g, off + k * 3, none⟩)) rfl (by kernel_rfl) (fun _ _ _ h => h) (Or.inl ⟨by rfl, fun w _ => by go_simp⟩) hS ?_
            simp only [List.getElem_toArray, List.getElem_cons_succ, List.getElem_cons_zero, Act.put, List.setIfInBounds_toArray, List.set_cons_zero, List.set_cons_succ]
            refine wpAnyB_pure (i := 3) (v := .pointer (some ⟨g, off + k * 3, none⟩)) rfl (by kernel_rfl) (fun _ _ _ h => h) (Or.inl ⟨by rfl, fun w _ => by go_simp⟩) hS ?_
            simp only [List.getElem_toArray, List.getElem_cons_succ, List.getElem_cons_zero, Act.put, List.setIfInBounds_toArray, List.set_cons_zero, List.set_cons_succ]
            refine wpAnyB_take [] (i := 4) (v := .int .i64 p.lo) rfl (by kernel_rfl) (fun _ _ _ h => h) (Or.inl ⟨by rfl, fun w hSw => by have := hQ0 w hSw; go_simp⟩) hS ?_
            simp only [List.getElem_toArray, List.getElem_cons_succ, List.getElem_cons_zero, Act.put, List.setIfInBounds_toArray, List.set_cons_zero, List.set_cons_succ]
            refine wpAnyB_pure (i := 5) (v := .bool true) rfl (by kernel_rfl) (fun _ _ _ h => h) (Or.inl ⟨by rfl, fun w _ => by go_simp⟩) hS ?_
            simp only [List.getElem_toArray, List.getElem_cons_succ, List.getElem_cons_zero, Act.put, List.setIfInBounds_toArray, List.set_cons_zero, List.set_cons_succ]
            refine wpAnyB_pure (i := 6) (v := .bool true) rfl (by kernel_rfl) (fun _ _ _ h => h) (Or.inl ⟨by rfl, fun w _ => by go_simp⟩) hS ?_
            simp only [List.getElem_toArray, List.getElem_cons_succ, List.getElem_cons_zero, Act.put, List.setIfInBounds_toArray, List.set_cons_zero, List.set_cons_succ]
            refine wpAnyB_pure (i := 7) (v := .slice (some ⟨g, off, none⟩) l.length cap) rfl (by kernel_rfl) (fun _ _ _ h => h) (Or.inl ⟨by rfl, fun w _ => by go_simp⟩) hS ?_
            simp only [List.getElem_toArray, List.getElem_cons_succ, List.getElem_cons_zero, Act.put, List.setIfInBounds_toArray, List.set_cons_zero, List.set_cons_succ]
            refine wpAnyB_pure (i := 8) (v := .int .i64 (k : Int)) rfl (by kernel_rfl) (fun _ _ _ h => h) (Or.inl ⟨by rfl, fun w _ => by go_simp⟩) hS ?_
            simp only [List.getElem_toArray, List.getElem_cons_succ, List.getElem_cons_zero, Act.put, List.setIfInBounds_toArray, List.set_cons_zero, List.set_cons_succ]
            refine wpAnyB_pure (i := 9) (v := .pointer (some ⟨g, off + k * 3, none⟩)) rfl (by kernel_rfl) (fun _ _ _ h => h) (Or.inl ⟨by rfl, fun w _ => by go_simp⟩) hS ?_
            simp only [List.getElem_toArray, List.getElem_cons_succ, List.getElem_cons_zero, Act.put, List.setIfInBounds_toArray, List.set_cons_zero, List.set_cons_succ]
            refine wpAnyB_pure (i := 10) (v := .pointer (some ⟨g, off + k * 3, none⟩)) rfl (by kernel_rfl) (fun _ _ _ h => h) (Or.inl ⟨by rfl, fun w _ => by go_simp⟩) hS ?_
            simp only [List.getElem_toArray, List.getElem_cons_succ, List.getElem_cons_zero, Act.put, List.setIfInBounds_toArray, List.set_cons_zero, List.set_cons_succ]
            refine wpAnyB_take [] (i := 11) (v := .int .i64 p.lo) rfl (by kernel_rfl) (fun _ _ _ h => h) (Or.inl ⟨by rfl, fun w hSw => by have := hQ0 w hSw; go_simp⟩) hS ?_
            simp only [List.getElem_toArray, List.getElem_cons_succ, List.getElem_cons_zero, Act.put, List.setIfInBounds_toArray, List.set_cons_zero, List.set_cons_succ]
            refine wpAnyB_pure (i := 12) (v := .slice (some ⟨g, off, none⟩) l.length cap) rfl (by kernel_rfl) (fun _ _ _ h => h) (Or.inl ⟨by rfl, fun w _ => by go_simp⟩) hS ?_
            simp only [List.getElem_toArray, List.getElem_cons_succ, List.getElem_cons_zero, Act.put, List.setIfInBounds_toArray, List.set_cons_zero, List.set_cons_succ]
            refine wpAnyB_pure (i := 13) (v := .int .i64 (k : Int)) rfl (by kernel_rfl) (fun _ _ _ h => h) (Or.inl ⟨by rfl, fun w _ => by go_simp⟩) hS ?_
            simp only [List.getElem_toArray, List.getElem_cons_succ, List.getElem_cons_zero, Act.put, List.setIfInBounds_toArray, List.set_cons_zero, List.set_cons_succ]
            refine wpAnyB_pure (i := 14) (v := .pointer (some ⟨g, off + k * 3, none⟩)) rfl (by kernel_rfl) (fun _ _ _ h => h) (Or.inl ⟨by rfl, fun w _ => by go_simp⟩) hS ?_
            simp only [List.getElem_toArray, List.getElem_cons_succ, List.getElem_cons_zero, Act.put, List.setIfInBounds_toArray, List.set_cons_zero, List.set_cons_succ]
            refine wpAnyB_pure (i := 15) (v := .pointer (some ⟨g, off + k * 3 + 1, none⟩)) rfl (by kernel_rfl) (fun _ _ _ h => h) (Or.inl ⟨by rfl, fun w _ => by go_simp⟩) hS ?_
            simp only [List.getElem_toArray, List.getElem_cons_succ, List.getElem_cons_zero, Act.put, List.setIfInBounds_toArray, List.set_cons_zero, List.set_cons_succ]
            refine wpAnyB_take [] (i := 16) (v := .int .i64 p.hi) rfl (by kernel_rfl) (fun _ _ _ h => h) (Or.inl ⟨by rfl, fun w hSw => by have := hQ1 w hSw; go_simp⟩) hS ?_
            simp only [List.getElem_toArray, List.getElem_cons_succ, List.getElem_cons_zero, Act.put, List.setIfInBounds_toArray, List.set_cons_zero, List.set_cons_succ]
            refine wpAnyB_pure (i := 17) (v := .bool false) rfl (by kernel_rfl) (fun _ _ _ h => h) (Or.inl ⟨by rfl, fun w _ => by go_simp⟩) hS ?_
            simp only [List.getElem_toArray, List.getElem_cons_succ, List.getElem_cons_zero, Act.put, List.setIfInBounds_toArray, List.set_cons_zero, List.set_cons_succ]
            refine wpAnyB_pure (i := 18) (v := .bool false) rfl (by kernel_rfl) (fun _ _ _ h => h) (Or.inl ⟨by rfl, fun w _ => by go_simp⟩) hS ?_
            simp only [List.getElem_toArray, List.getElem_cons_succ, List.getElem_cons_zero, Act.put, List.setIfInBounds_toArray, List.set_cons_zero, List.set_cons_succ]
            refine wpAnyB_pure (i := 19) (v := .bool false) rfl (by kernel_rfl) (fun _ _ _ h => h) (Or.inl ⟨by rfl, fun w _ => by go_simp⟩) hS ?_
            simp only [List.getElem_toArray, List.getElem_cons_succ, List.getElem_cons_zero, Act.put, List.setIfInBounds_toArray, List.set_cons_zero, List.set_cons_succ]
            refine wpAnyB_pure (i := 20) (v := undef) rfl (by kernel_rfl) (fun _ _ _ h => h) (Or.inr ⟨by rfl, rfl⟩) hS ?_
            simp only [List.getElem_toArray, List.getElem_cons_succ, List.getElem_cons_zero, Act.put, List.setIfInBounds_toArray, List.set_cons_zero, List.set_cons_succ]
            refine wpAnyB_pure (i := 21) (v := undef) rfl (by kernel_rfl) (fun _ _ _ h => h) (Or.inr ⟨by rfl, rfl⟩) hS ?_
            simp only [List.getElem_toArray, List.getElem_cons_succ, List.getElem_cons_zero, Act.put, List.setIfInBounds_toArray, List.set_cons_zero, List.set_cons_succ]
            refine wpAnyB_pure (i := 22) (v := undef) rfl (by kernel_rfl) (fun _ _ _ h => h) (Or.inr ⟨by rfl, rfl⟩) hS ?_
            simp only [List.getElem_toArray, List.getElem_cons_succ, List.getElem_cons_zero, Act.put, List.setIfInBounds_toArray, List.set_cons_zero, List.set_cons_succ]
            refine wpAnyB_pure (i := 23) (v := undef) rfl (by kernel_rfl) (fun _ _ _ h => h) (Or.inr ⟨by rfl, rfl⟩) hS ?_
            simp only [List.getElem_toArray, List.getElem_cons_succ, List.getElem_cons_zero, Act.put, List.setIfInBounds_toArray, List.set_cons_zero, List.set_cons_succ]
            refine wpAnyB_pure (i := 24) (v := undef) rfl (by kernel_rfl) (fun _ _ _ h => h) (Or.inr ⟨by rfl, rfl⟩) hS ?_
            simp only [List.getElem_toArray, List.getElem_cons_succ, List.getElem_cons_zero, Act.put, List.setIfInBounds_toArray, List.set_cons_zero, List.set_cons_succ]
            refine wpAnyB_pure (i := 25) (v := undef) rfl (by kernel_rfl) (fun _ _ _ h => h) (Or.inr ⟨by rfl, rfl⟩) hS ?_
            simp only [List.getElem_toArray, List.getElem_cons_succ, List.getElem_cons_zero, Act.put, List.setIfInBounds_toArray, List.set_cons_zero, List.set_cons_succ]
            refine wpAnyB_pure (i := 26) (v := .bool false) rfl (by kernel_rfl) (fun _ _ _ h => h) (Or.inl ⟨by rfl, fun w _ => by go_simp⟩) hS ?_
            simp only [List.getElem_toArray, List.getElem_cons_succ, List.getElem_cons_zero, Act.put, List.setIfInBounds_toArray, List.set_cons_zero, List.set_cons_succ]
            refine wpAnyB_done (by kernel_rfl) ?_ _
            refine NoPanic.normal ?_
            clear hQ0 hQ1
            obtain ⟨wq, hwq⟩ : ∃ wq, wq = wr.drew := ⟨_, rfl⟩
            have hBq : Below wr.heap.size wr wq := by rw [hwq]; exact hS
            have HSQ : Hid (wq.heap.size = wr.heap.size) := by show _ = _; rw [hwq]; rfl
            rw [← hwq]
            clear hwq
            go_wp2
            go_roundw
            case rel =>
              refine ⟨k + 1, by omega, by go_num, ?_, HB.out.trans (hBq.mono hbs), by have := HSQ.out; omega⟩
              rw [HST.out, if_neg HL.out]
              exact ownsRow_below HOWN.out hBq
            case measure => simp [intOf]; omega
        · have d1 : decide (0 ≤ p.lo) = false := by simpa using n1
          have HL : Hid (¬ isLow p = true) := fun h => n1 (isLow_iff.1 h).1
          clear n1
          go_wp2_with fail
          have HQ0 : Hid (∀ w', Below wr.heap.size wr w' → w'.cell? ⟨g, off + k * 3, none⟩ = some (.int .i64 p.lo)) := fun w' hw' => (hw'.cell (p := ⟨g, _, none⟩) (by show g < _; omega)).trans q0
          have HQ1 : Hid (∀ w', Below wr.heap.size wr w' → w'.cell? ⟨g, off + k * 3 + 1, none⟩ = some (.int .i64 p.hi)) := fun w' hw' => (hw'.cell (p := ⟨g, _, none⟩) (by show g < _; omega)).trans q1
          refine wp_region_bad (fun w' => Below wr.heap.size wr w') [] (by kernel_rfl) ((Below.refl _ _).drew) (fun hS => ?_)
          have hQ0 := HQ0.out
          have hQ1 := HQ1.out
          refine wpAnyB_pure (i := 0) (v := .slice (some ⟨g, off, none⟩) l.length cap) rfl (by kernel_rfl) (fun _ _ _ h => h) (Or.inl ⟨by rfl, fun w _ => by go_simp⟩) hS ?_
          simp only [List.getElem_toArray, List.getElem_cons_zero, Act.put, List.setIfInBounds_toArray, List.set_cons_zero, List.set_cons_succ]
          refine wpAnyB_pure (i := 1) (v := .int .i64 (k : Int)) rfl (by kernel_rfl) (fun _ _ _ h => h) (Or.inl ⟨by rfl, fun w _ => by go_simp⟩) hS ?_
          simp only [List.getElem_toArray, List.getElem_cons_succ, List.getElem_cons_zero, Act.put, List.setIfInBounds_toArray, List.set_cons_zero, List.set_cons_succ]
          refine wpAnyB_pure (i := 2) (v := .pointer (some ⟨g, off + k * 3, none⟩)) rfl (by kernel_rfl) (fun _ _ _ h => h) (Or.inl ⟨by rfl, fun w _ => by go_simp⟩) hS ?_
          simp only [List.getElem_toArray, List.getElem_cons_succ, List.getElem_cons_zero, Act.put, List.setIfInBounds_toArray, List.set_cons_zero, List.set_cons_succ]
          refine wpAnyB_pure (i := 3) (v := .pointer (some ⟨g, off + k * 3, none⟩)) rfl (by kernel_rfl) (fun _ _ _ h => h) (Or.inl ⟨by rfl, fun w _ => by go_simp⟩) hS ?_
          simp only [List.getElem_toArray, List.getElem_cons_succ, List.getElem_cons_zero, Act.put, List.setIfInBounds_toArray, List.set_cons_zero, List.set_cons_succ]
          refine wpAnyB_take [] (i := 4) (v := .int .i64 p.lo) rfl (by kernel_rfl) (fun _ _ _ h => h) (Or.inl ⟨by rfl, fun w hSw => by have := hQ0 w hSw; go_simp⟩) hS ?_
          simp only [List.getElem_toArray, List.getElem_cons_succ, List.getElem_cons_zero, Act.put, List.setIfInBounds_toArray, List.set_cons_zero, List.set_cons_succ]
          refine wpAnyB_pure (i := 5) (v := .bool false) rfl (by kernel_rfl) (fun _ _ _ h => h) (Or.inl ⟨by rfl, fun w _ => by go_simp⟩) hS ?_
          simp only [List.getElem_toArray, List.getElem_cons_succ, List.getElem_cons_zero, Act.put, List.setIfInBounds_toArray, List.set_cons_zero, List.set_cons_succ]
          refine wpAnyB_pure (i := 6) (v := .bool false) rfl (by kernel_rfl) (fun _ _ _ h => h) (Or.inl ⟨by rfl, fun w _ => by go_simp⟩) hS ?_
          simp only [List.getElem_toArray, List.getElem_cons_succ, List.getElem_cons_zero, Act.put, List.setIfInBounds_toArray, List.set_cons_zero, List.set_cons_succ]
          refine wpAnyB_pure (i := 7) (v := undef) rfl (by kernel_rfl) (fun _ _ _ h => h) (Or.inr ⟨by rfl, rfl⟩) hS ?_
          simp only [List.getElem_toArray, List.getElem_cons_succ, List.getElem_cons_zero, Act.put, List.setIfInBounds_toArray, List.set_cons_zero, List.set_cons_succ]
          refine wpAnyB_pure (i := 8) (v := undef) rfl (by kernel_rfl) (fun _ _ _ h => h) (Or.inr ⟨by rfl, rfl⟩) hS ?_
          simp only [List.getElem_toArray, List.getElem_cons_succ, List.getElem_cons_zero, Act.put, List.setIfInBounds_toArray, List.set_cons_zero, List.set_cons_succ]
          refine wpAnyB_pure (i := 9) (v := undef) rfl (by kernel_rfl) (fun _ _ _ h => h) (Or.inr ⟨by rfl, rfl⟩) hS ?_
          simp only [List.getElem_toArray, List.getElem_cons_succ, List.getElem_cons_zero, Act.put, List.setIfInBounds_toArray, List.set_cons_zero, List.set_cons_succ]
          refine wpAnyB_pure (i := 10) (v := undef) rfl (by kernel_rfl) (fun _ _ _ h => h) (Or.inr ⟨by rfl, rfl⟩) hS ?_
          simp only [List.getElem_toArray, List.getElem_cons_succ, List.getElem_cons_zero, Act.put, List.setIfInBounds_toArray, List.set_cons_zero, List.set_cons_succ]
          refine wpAnyB_pure (i := 11) (v := undef) rfl (by kernel_rfl) (fun _ _ _ h => h) (Or.inr ⟨by rfl, rfl⟩) hS ?_
          simp only [List.getElem_toArray, List.getElem_cons_succ, List.getElem_cons_zero, Act.put, List.setIfInBounds_toArray, List.set_cons_zero, List.set_cons_succ]
          refine wpAnyB_pure (i := 12) (v := undef) rfl (by kernel_rfl) (fun _ _ _ h => h) (Or.inr ⟨by rfl, rfl⟩) hS ?_
          simp only [List.getElem_toArray, List.getElem_cons_succ, List.getElem_cons_zero, Act.put, List.setIfInBounds_toArray, List.set_cons_zero, List.set_cons_succ]
          refine wpAnyB_pure (i := 13) (v := undef) rfl (by kernel_rfl) (fun _ _ _ h => h) (Or.inr ⟨by rfl, rfl⟩) hS ?_
          simp only [List.getElem_toArray, List.getElem_cons_succ, List.getElem_cons_zero, Act.put, List.setIfInBounds_toArray, List.set_cons_zero, List.set_cons_succ]
          refine wpAnyB_pure (i := 14) (v := undef) rfl (by kernel_rfl) (fun _ _ _ h => h) (Or.inr ⟨by rfl, rfl⟩) hS ?_
          simp only [List.getElem_toArray, List.getElem_cons_succ, List.getElem_cons_zero, Act.put, List.setIfInBounds_toArray, List.set_cons_zero, List.set_cons_succ]
          refine wpAnyB_pure (i := 15) (v := undef) rfl (by kernel_rfl) (fun _ _ _ h => h) (Or.inr ⟨by rfl, rfl⟩) hS ?_
          simp only [List.getElem_toArray, List.getElem_cons_succ, List.getElem_cons_zero, Act.put, List.setIfInBounds_toArray, List.set_cons_zero, List.set_cons_succ]
          refine wpAnyB_pure (i := 16) (v := undef) rfl (by kernel_rfl) (fun _ _ _ h => h) (Or.inr ⟨by rfl, rfl⟩) hS ?_
          simp only [List.getElem_toArray, List.getElem_cons_succ, List.getElem_cons_zero, Act.put, List.setIfInBounds_toArray, List.set_cons_zero, List.set_cons_succ]
          refine wpAnyB_pure (i := 17) (v := undef) rfl (by kernel_rfl) (fun _ _ _ h => h) (Or.inr ⟨by rfl, rfl⟩) hS ?_
          simp only [List.getElem_toArray, List.getElem_cons_succ, List.getElem_cons_zero, Act.put, List.setIfInBounds_toArray, List.set_cons_zero, List.set_cons_succ]
          refine wpAnyB_pure (i := 18) (v := .bool false) rfl (by kernel_rfl) (fun _ _ _ h => h) (Or.inl ⟨by rfl, fun w _ => by go_simp⟩) hS ?_
          simp only [List.getElem_toArray, List.getElem_cons_succ, List.getElem_cons_zero, Act.put, List.setIfInBounds_toArray, List.set_cons_zero, List.set_cons_succ]
          refine wpAnyB_pure (i := 19) (v := .bool false) rfl (by kernel_rfl) (fun _ _ _ h => h) (Or.inl ⟨by rfl, fun w _ => by go_simp⟩) hS ?_
          simp only [List.getElem_toArray, List.getElem_cons_succ, List.getElem_cons_zero, Act.put, List.setIfInBounds_toArray, List.set_cons_zero, List.set_cons_succ]
          refine wpAnyB_pure (i := 20) (v := undef) rfl (by kernel_rfl) (fun _ _ _ h => h) (Or.inr ⟨by rfl, rfl⟩) hS ?_
          simp only [List.getElem_toArray, List.getElem_cons_succ, List.getElem_cons_zero, Act.put, List.setIfInBounds_toArray, List.set_cons_zero, List.set_cons_succ]
          refine wpAnyB_pure (i := 21) (v := undef) rfl (by kernel_rfl) (fun _ _ _ h => h) (Or.inr ⟨by rfl, rfl⟩) hS ?_
          simp only [List.getElem_toArray, List.getElem_cons_succ, List.getElem_cons_zero, Act.put, List.setIfInBounds_toArray, List.set_cons_zero, List.set_cons_succ]
          refine wpAnyB_pure (i := 22) (v := undef) rfl (by kernel_rfl) (fun _ _ _ h => h) (Or.inr ⟨by rfl, rfl⟩) hS ?_
          simp only [List.getElem_toArray, List.getElem_cons_succ, List.getElem_cons_zero, Act.put, List.setIfInBounds_toArray, List.set_cons_zero, List.set_cons_succ]
          refine wpAnyB_pure (i := 23) (v := undef) rfl (by kernel_rfl) (fun _ _ _ h => h) (Or.inr ⟨by rfl, rfl⟩) hS ?_
          simp only [List.getElem_toArray, List.getElem_cons_succ, List.getElem_cons_zero, Act.put, List.setIfInBounds_toArray, List.set_cons_zero, List.set_cons_succ]
          refine wpAnyB_pure (i := 24) (v := undef) rfl (by kernel_rfl) (fun _ _ _ h => h) (Or.inr ⟨by rfl, rfl⟩) hS ?_
          simp only [List.getElem_toArray, List.getElem_cons_succ, List.getElem_cons_zero, Act.put, List.setIfInBounds_toArray, List.set_cons_zero, List.set_cons_succ]
          refine wpAnyB_pure (i := 25) (v := undef) rfl (by kernel_rfl) (fun _ _ _ h => h) (Or.inr ⟨by rfl, rfl⟩) hS ?_
          simp only [List.getElem_toArray, List.getElem_cons_succ, List.getElem_cons_zero, Act.put, List.setIfInBounds_toArray, List.set_cons_zero, List.set_cons_succ]
          refine wpAnyB_pure (i := 26) (v := .bool false) rfl (by kernel_rfl) (fun _ _ _ h => h) (Or.inl ⟨by rfl, fun w _ => by go_simp⟩) hS ?_
          simp only [List.getElem_toArray, List.getElem_cons_succ, List.getElem_cons_zero, Act.put, List.setIfInBounds_toArray, List.set_cons_zero, List.set_cons_succ]
          refine wpAnyB_done (by kernel_rfl) ?_ _
          refine NoPanic.normal ?_
          clear hQ0 hQ1
          obtain ⟨wq, hwq⟩ : ∃ wq, wq = wr.drew := ⟨_, rfl⟩
          have hBq : Below wr.heap.size wr wq := by rw [hwq]; exact hS
          have HSQ : Hid (wq.heap.size = wr.heap.size) := by show _ = _; rw [hwq]; rfl
          rw [← hwq]
          clear hwq
          go_wp2
          go_roundw
          case rel =>
            refine ⟨k + 1, by omega, by go_num, ?_, HB.out.trans (hBq.mono hbs), by have := HSQ.out; omega⟩
            rw [HST.out, if_neg HL.out]
            exact ownsRow_below HOWN.out hBq
          case measure => simp [intOf]; omega
      · have hlt' : ¬ ((k : Int) < (l.length : Int)) := by omega
        obtain ⟨ll, hll⟩ : ∃ ll, ll = lowF l k := ⟨_, rfl⟩
        rw [← hll] at hown hlk
        have hps := props_of_row hown
        have hlow : ∀ p ∈ ll, 0 ≤ p.lo ∧ p.lo ≤ p.hi ∧ p.hi < 1024 := by rw [hll]; exact lowF_all
        have hbl : Bytes ll := fun p hp => hby p (by rw [hll] at hp; exact lowF_mem p hp)
        have h5 : (firstB ll).length ≤ 5 := blocks_low (fun p hp => ⟨(hlow p hp).1, (hlow p hp).2.2⟩)
        have her : errB ll = 0 := errB_mk (by omega) (fun p hp => by have := hlow p hp; omega) (by omega)
        have hfin : Fine (likeB ll) (firstB ll) := fineB hbl (by omega)
        have HV0 : Hid (r < 0 ∨ 1024 ≤ r → ofT (likeB ll) (firstB ll) r = 0) := fun hr => by
          rw [of_val' (fun p hp => by have := hlow p hp; omega)]
          exact val_none (fun p hp => by
            have := hlow p hp
            cases z : hasP p r with
            | false => rfl
            | true => have := hasP_iff.1 z; omega)
        obtain ⟨HPS, HB, HFIN⟩ : Hid (PropsIn wr u6 ll) ∧ Hid (Below w.heap.size w wr) ∧ Hid (Fine (likeB ll) (firstB ll)) := ⟨hps, hB, hfin⟩
        clear hown hB hps hll HC hfin hlow
        go_wp2_with fail
        refine (build_any ll _ _ HPS.out hbl).mono ?_
        rintro e w2 ⟨pv, rfl, _, ht, hB2⟩
        rw [her] at ht ⊢
        have ht2 := ht rfl
        obtain ⟨gt, rfl⟩ := ht2.ptr
        have HT2 : Hid (TrieAt w2.heap.size w2 (.pointer (some ⟨gt, 0, none⟩)) (likeB ll) (firstB ll)) := ht2
        have HB2 : Hid (Below w.heap.size w w2) := HB.out.trans (hB2.mono hbs)
        clear ht ht2 hB2 her
        go_wp2_with fail
        refine (blocks_any _ _ _ w2 HT2.out HFIN.out).mono ?_
        rintro e w3 ⟨rfl, hB3⟩
        have HT3 : Hid (TrieAt w3.heap.size w3 (.pointer (some ⟨gt, 0, none⟩)) (likeB ll) (firstB ll)) := (HT2.out.below hB3).mono hB3.size
        have HB3 : Hid (Below w.heap.size w w3) := HB2.out.trans (hB3.mono HB2.out.size)
        clear hB3
        have h5' : ((firstB ll).length : Int) ≤ 5 := by omega
        obtain ⟨nF, hnF⟩ : ∃ nF : Nat, nF = (firstB ll).length := ⟨_, rfl⟩
        rw [← hnF] at h5' ⊢
        clear hnF h5
        by_cases r0 : 0 ≤ r
        · by_cases r1 : r < 1024
          · go_wp2_with fail
            go_ret
            exact ⟨rfl, HB3.out⟩
          · have r2 : ¬ (r < 1024) := r1
            go_wp2_with fail
            refine (of_any _ _ _ r w3 HT3.out HFIN.out).mono ?_
            rintro e w4 ⟨rfl, hB4⟩
            rw [HV0.out (by omega)]
            have HB4 : Hid (Below w.heap.size w w4) := HB3.out.trans (hB4.mono HB3.out.size)
            clear hB4
            go_wp2
            go_ret
            exact ⟨rfl, HB4.out⟩
        · go_wp2_with fail
          refine (of_any _ _ _ r w3 HT3.out HFIN.out).mono ?_
          rintro e w4 ⟨rfl, hB4⟩
          rw [HV0.out (by omega)]
          have HB4 : Hid (Below w.heap.size w w4) := HB3.out.trans (hB4.mono HB3.out.size)
          clear hB4
          go_wp2
          go_ret
          exact ⟨rfl, HB4.out⟩
end Go.Proofs.Ytjgghdkdbkkhbab
