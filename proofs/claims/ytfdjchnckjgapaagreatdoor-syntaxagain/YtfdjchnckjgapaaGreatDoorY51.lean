/-
  What Same of the document answers of two programs that are the same. What SyntaxAgain wants besides: where an error stands, what was parsed is few, a text too long, a program less.
-/
import Derived.Test.YtfdjchnckjgapaaGreatDoorY35
import Derived.Test.YtfdjchnckjgapaaGreatDoorY38
import Derived.Test.YtfdjchnckjgapaaGreatDoorY50
import Derived.Test.YtfdjchnckjgapaaGreatDoorY39
namespace Go.Proofs.YtfdjchnckjgapaaGreatDoor
open Go.RowKit Go.Shelf S1
set_option linter.unusedVariables false

set_option maxRecDepth 100000 in
set_option maxHeartbeats 16000000 in
theorem same_any8 (rl : List Rl) (st : Sts) (hrl : rl.length ≤ 70000) (hsl : st.length ≤ 70000) (hst : ∀ s ∈ st, s.length ≤ 600000) (hwd : ∀ x ∈ rl, WdR x) (sv rv sv' rv' : Value) (w : World) (h : SetIn w sv st) (h' : SetIn w sv' st) (k : RulIn w rv rl) (k' : RulIn w rv' rl) :
    Calls Tryz.prog 11 #[.agg #[sv, rv], .agg #[sv', rv']] w fun e w' => e = .returned (.bool true) ∧ Below w.heap.size w w' := by
  have HSA : Hid (SetIn w sv st) := h
  have HSB : Hid (SetIn w sv' st) := h'
  have HRA : Hid (RulIn w rv rl) := k
  have HRB : Hid (RulIn w rv' rl) := k'
  have HST : Hid (∀ s ∈ st, s.length ≤ 600000) := hst
  have HWD : Hid (∀ x ∈ rl, WdR x) := hwd
  obtain ⟨za, ca, rfl, hca, _⟩ := h
  obtain ⟨zb, cb, rfl, hcb, _⟩ := h'
  obtain ⟨ya, da, rfl, hda, _⟩ := k
  obtain ⟨yb, db, rfl, hdb, _⟩ := k'
  obtain ⟨ns, hns⟩ : ∃ x, x = st.length := ⟨_, rfl⟩
  obtain ⟨nr, hnr⟩ : ∃ x, x = rl.length := ⟨_, rfl⟩
  rw [← hns] at hsl HSA HSB hca hcb ⊢
  rw [← hnr] at hrl HRA HRB hda hdb ⊢
  have HNS : Hid (ns = st.length) := hns
  have HNR : Hid (nr = rl.length) := hnr
  have hss : ((ns : Int) != (ns : Int)) = false := by simp
  have hrr : ((nr : Int) != (nr : Int)) = false := by simp
  have HB0 : Hid (Below w.heap.size w ((w.alloc (.cells #[.slice za ns ca, .slice ya nr da] 27)).alloc (.cells #[.slice zb ns cb, .slice yb nr db] 27))) := below_after (below_alloc _ _) (below_alloc _ _)
  have HEB : Hid (((w.alloc (.cells #[.slice za ns ca, .slice ya nr da] 27)).alloc (.cells #[.slice zb ns cb, .slice yb nr db] 27)).heap[w.heap.size + 1]? = some (.cells #[.slice zb ns cb, .slice yb nr db] 27 (0, 0))) := by
    have := heap_new' (w.alloc (.cells #[.slice za ns ca, .slice ya nr da] 27)) (.cells #[.slice zb ns cb, .slice yb nr db] 27)
    rw [World.size_alloc] at this
    exact this
  have HEA : Hid (((w.alloc (.cells #[.slice za ns ca, .slice ya nr da] 27)).alloc (.cells #[.slice zb ns cb, .slice yb nr db] 27)).heap[w.heap.size]? = some (.cells #[.slice za ns ca, .slice ya nr da] 27 (0, 0))) := ((below_alloc (w.alloc _) _).block _ (by simp)).trans (heap_new' w _)
  clear hst hwd hns hnr
  go_enter Tryz.func11, Tryz.ntmps11
  go_wp2
  go_loopw [5] (fun x wr => ∃ (j : Nat), j ≤ ns ∧ x = .int .i64 (j : Int) ∧ wr.heap[w.heap.size]? = some (.cells #[.slice za ns ca, .slice ya nr da] 27 (0, 0)) ∧ wr.heap[w.heap.size + 1]? = some (.cells #[.slice zb ns cb, .slice yb nr db] 27 (0, 0)) ∧ Below w.heap.size w wr) (fun x _ => ns - (intOf x).toNat)
  case atStart => exact ⟨0, Nat.zero_le _, rfl, HEA.out, HEB.out, HB0.out⟩
  case round =>
    obtain ⟨j, hj, rfl, hEA, hEB, hB⟩ := hrel
    have hlt : w.heap.size + 1 < wr.heap.size := (Array.getElem?_eq_some_iff.1 hEB).1
    have hlt0 : w.heap.size < wr.heap.size := (Array.getElem?_eq_some_iff.1 hEA).1
    have a0 : wr.cell? ⟨w.heap.size, 0, none⟩ = some (.slice za ns ca) := cell_of_row _ _ 0 _ _ _ hEA
    have b0 : wr.cell? ⟨w.heap.size + 1, 0, none⟩ = some (.slice zb ns cb) := cell_of_row _ _ 0 _ _ _ hEB
    have a1 : wr.cell? ⟨w.heap.size, 1, none⟩ = some (.slice ya nr da) := cell_of_row _ _ 1 _ _ _ hEA
    have b1 : wr.cell? ⟨w.heap.size + 1, 1, none⟩ = some (.slice yb nr db) := cell_of_row _ _ 1 _ _ _ hEB
    have HEA' : Hid (wr.heap[w.heap.size]? = some (.cells #[.slice za ns ca, .slice ya nr da] 27 (0, 0))) := hEA
    have HEB' : Hid (wr.heap[w.heap.size + 1]? = some (.cells #[.slice zb ns cb, .slice yb nr db] 27 (0, 0))) := hEB
    clear hEA hEB
    by_cases hjl : j < ns
    · obtain ⟨ga, oa, xa, xca, gb, ob, xb, xcb, yl, rfl, rfl, hga, hgb, r0, s0, hcall⟩ : ∃ (ga oa : Nat) (xa : Option Addr) (xca : Nat) (gb ob : Nat) (xb : Option Addr) (xcb yl : Nat), za = some ⟨ga, oa, none⟩ ∧ zb = some ⟨gb, ob, none⟩ ∧ ga < wr.heap.size ∧ gb < wr.heap.size ∧ wr.cell? ⟨ga, oa + j, none⟩ = some (.slice xa yl xca) ∧ wr.cell? ⟨gb, ob + j, none⟩ = some (.slice xb yl xcb) ∧ ∀ W, Below wr.heap.size wr W → Calls Tryz.prog 24 #[.slice xa yl xca, .slice xb yl xcb] W fun e w'' => e = .returned (.bool true) ∧ Below W.heap.size W w'' := by
        obtain ⟨a, ca', e1, _, hi⟩ := HSA.out.below hB
        obtain ⟨b, cb', e2, _, hi'⟩ := HSB.out.below hB
        have hjs : j < st.length := by have := HNS.out; omega
        obtain ⟨ga, oa, x, rfl, hga, h0, h1⟩ := hi j hjs
        obtain ⟨gb, ob, y, rfl, hgb, k0, k1⟩ := hi' j hjs
        have h1' := h1
        have k1' := k1
        obtain ⟨xa, xca, rfl, _⟩ := h1'
        obtain ⟨xb, xcb, rfl, _⟩ := k1'
        have e1' : za = some ⟨ga, oa, none⟩ := by simp at e1; exact e1.1
        have e2' : zb = some ⟨gb, ob, none⟩ := by simp at e2; exact e2.1
        refine ⟨ga, oa, xa, xca, gb, ob, xb, xcb, _, e1', e2', hga, hgb, h0, k0, fun W hW => ?_⟩
        have hc := sameG_any st[j] st[j] (HST.out _ (List.getElem_mem hjs)) _ _ W (h1.below hW) (k1.below hW)
        rw [sameS_iff.2 rfl] at hc
        exact hc
      have hj0 : (0 : Int) ≤ (j : Int) := by omega
      have hj1 : (j : Int) < (ns : Int) := by omega
      have HCALL : Hid (∀ W, Below wr.heap.size wr W → Calls Tryz.prog 24 #[.slice xa yl xca, .slice xb yl xcb] W fun e w'' => e = .returned (.bool true) ∧ Below W.heap.size W w'') := hcall
      have HKEEP : Hid (∀ w', Below (wr.drewN 1).heap.size (wr.drewN 1) w' → w'.cell? ⟨w.heap.size, 0, none⟩ = some (.slice (some ⟨ga, oa, none⟩) ns ca) ∧ w'.cell? ⟨w.heap.size + 1, 0, none⟩ = some (.slice (some ⟨gb, ob, none⟩) ns cb) ∧ w'.cell? ⟨ga, oa + j, none⟩ = some (.slice xa yl xca) ∧ w'.cell? ⟨gb, ob + j, none⟩ = some (.slice xb yl xcb)) := fun W hW => by
        have hk : Below wr.heap.size wr W := (below_drewN' (Below.refl _ _) 1).trans hW
        exact ⟨(hk.cell (p := ⟨_, _, none⟩) hlt0).trans a0, (hk.cell (p := ⟨_, _, none⟩) hlt).trans b0, (hk.cell (p := ⟨ga, _, none⟩) hga).trans r0, (hk.cell (p := ⟨gb, _, none⟩) hgb).trans s0⟩
      clear hcall a1 b1
      go_wp2
      go_region_held3 (fun w' => w'.cell? ⟨w.heap.size, 0, none⟩ = some (.slice (some ⟨ga, oa, none⟩) ns ca) ∧ w'.cell? ⟨w.heap.size + 1, 0, none⟩ = some (.slice (some ⟨gb, ob, none⟩) ns cb) ∧ w'.cell? ⟨ga, oa + j, none⟩ = some (.slice xa yl xca) ∧ w'.cell? ⟨gb, ob + j, none⟩ = some (.slice xb yl xcb)) (first | go_keep | exact HKEEP.out _ hB1) ((go_at_call 24; refine (HCALL.out _ (by exact below_drewN' (Below.refl _ _) 1)).mono ?_; rintro e w1 ⟨rfl, hB1⟩))
      have hk : Below wr.heap.size wr w1 := (below_drewN' (Below.refl _ _) 1).trans hB1
      clear hB1
      go_wp2
      go_roundw
      case rel => exact ⟨j + 1, by omega, by go_num, (hk.block _ hlt0).trans HEA'.out, (hk.block _ hlt).trans HEB'.out, below_after hB hk⟩
      case measure => simp [intOf]; omega
    · obtain rfl : ns = j := by omega
      clear hjl
      have HB1 : Hid (Below w.heap.size w wr) := hB
      clear hB
      go_wp2
      go_loopw [7] (fun x wr => ∃ (j : Nat), j ≤ nr ∧ x = .int .i64 (j : Int) ∧ wr.heap[w.heap.size]? = some (.cells #[.slice za ns ca, .slice ya nr da] 27 (0, 0)) ∧ wr.heap[w.heap.size + 1]? = some (.cells #[.slice zb ns cb, .slice yb nr db] 27 (0, 0)) ∧ Below w.heap.size w wr) (fun x _ => nr - (intOf x).toNat)
      case atStart => exact ⟨0, Nat.zero_le _, rfl, HEA'.out, HEB'.out, HB1.out⟩
      case round =>
        obtain ⟨j, hj, rfl, hEA, hEB, hB⟩ := hrel
        have hlt : w.heap.size + 1 < wr.heap.size := (Array.getElem?_eq_some_iff.1 hEB).1
        have hlt0 : w.heap.size < wr.heap.size := (Array.getElem?_eq_some_iff.1 hEA).1
        have a1 : wr.cell? ⟨w.heap.size, 1, none⟩ = some (.slice ya nr da) := cell_of_row _ _ 1 _ _ _ hEA
        have b1 : wr.cell? ⟨w.heap.size + 1, 1, none⟩ = some (.slice yb nr db) := cell_of_row _ _ 1 _ _ _ hEB
        have HEA2 : Hid (wr.heap[w.heap.size]? = some (.cells #[.slice za ns ca, .slice ya nr da] 27 (0, 0))) := hEA
        have HEB2 : Hid (wr.heap[w.heap.size + 1]? = some (.cells #[.slice zb ns cb, .slice yb nr db] 27 (0, 0))) := hEB
        clear hEA hEB
        by_cases hjl : j < nr
        · obtain ⟨ga, oa, gb, ob, bb, lk, ls, la, ln, lca, lb, lcb, rk, rs, ra, rn, rca, rb, rcb, rfl, rfl, hga, hgb, hbA, hbB, ⟨l0, l1, l2, m0, m1, m2⟩, ⟨r0, r1, r2, s0, s1, s2⟩, hcl, hcr⟩ : ∃ (ga oa gb ob : Nat) (bb : Bool) (lk ls : Int) (la : Option Addr) (ln lca : Nat) (lb : Option Addr) (lcb : Nat) (rk rs : Int) (ra : Option Addr) (rn rca : Nat) (rb : Option Addr) (rcb : Nat), ya = some ⟨ga, oa, none⟩ ∧ yb = some ⟨gb, ob, none⟩ ∧ ga < wr.heap.size ∧ gb < wr.heap.size ∧ wr.cell? ⟨ga, oa + j * 7, none⟩ = some (.bool bb) ∧ wr.cell? ⟨gb, ob + j * 7, none⟩ = some (.bool bb) ∧ (wr.cell? ⟨ga, oa + j * 7 + 1, none⟩ = some (.int .i64 lk) ∧ wr.cell? ⟨ga, oa + j * 7 + 2, none⟩ = some (.int .i64 ls) ∧ wr.cell? ⟨ga, oa + j * 7 + 3, none⟩ = some (.slice la ln lca) ∧ wr.cell? ⟨gb, ob + j * 7 + 1, none⟩ = some (.int .i64 lk) ∧ wr.cell? ⟨gb, ob + j * 7 + 2, none⟩ = some (.int .i64 ls) ∧ wr.cell? ⟨gb, ob + j * 7 + 3, none⟩ = some (.slice lb ln lcb)) ∧ (wr.cell? ⟨ga, oa + j * 7 + 4, none⟩ = some (.int .i64 rk) ∧ wr.cell? ⟨ga, oa + j * 7 + 5, none⟩ = some (.int .i64 rs) ∧ wr.cell? ⟨ga, oa + j * 7 + 6, none⟩ = some (.slice ra rn rca) ∧ wr.cell? ⟨gb, ob + j * 7 + 4, none⟩ = some (.int .i64 rk) ∧ wr.cell? ⟨gb, ob + j * 7 + 5, none⟩ = some (.int .i64 rs) ∧ wr.cell? ⟨gb, ob + j * 7 + 6, none⟩ = some (.slice rb rn rcb)) ∧ (∀ W, Below wr.heap.size wr W → Calls Tryz.prog 17 #[.agg #[.int .i64 lk, .int .i64 ls, .slice la ln lca], .agg #[.int .i64 lk, .int .i64 ls, .slice lb ln lcb]] W fun e w'' => e = .returned (.bool true) ∧ Below W.heap.size W w'') ∧ (∀ W, Below wr.heap.size wr W → Calls Tryz.prog 17 #[.agg #[.int .i64 rk, .int .i64 rs, .slice ra rn rca], .agg #[.int .i64 rk, .int .i64 rs, .slice rb rn rcb]] W fun e w'' => e = .returned (.bool true) ∧ Below W.heap.size W w'') := by
            obtain ⟨a, ca', e1, _, hi⟩ := HRA.out.below hB
            obtain ⟨b, cb', e2, _, hi'⟩ := HRB.out.below hB
            have hjs : j < rl.length := by have := HNR.out; omega
            obtain ⟨ga, oa, zl, zr, rfl, hga, c0, c1, c2, c3, c4, c5, c6, c7, c8⟩ := hi j hjs
            obtain ⟨gb, ob, yl, yr, rfl, hgb, d0, d1, d2, d3, d4, d5, d6, d7, d8⟩ := hi' j hjs
            obtain ⟨x1, x2, rfl, _⟩ := c7.slice
            obtain ⟨x3, x4, rfl, _⟩ := c8.slice
            obtain ⟨x5, x6, rfl, _⟩ := d7.slice
            obtain ⟨x7, x8, rfl, _⟩ := d8.slice
            have hw := HWD.out _ (List.getElem_mem hjs)
            have e1' : ya = some ⟨ga, oa, none⟩ := by simp at e1; exact e1.1
            have e2' : yb = some ⟨gb, ob, none⟩ := by simp at e2; exact e2.1
            have hq : ∀ W, Below wr.heap.size wr W → ∀ k, k < wr.heap.size → W.heap[k]? = wr.heap[k]? ∧ k < W.heap.size := fun W hW k hk => ⟨hW.block k hk, Nat.lt_of_lt_of_le hk hW.size⟩
            exact ⟨ga, oa, gb, ob, _, _, _, x1, _, x2, x5, x6, _, _, x3, _, x4, x7, x8, e1', e2', hga, hgb, c0, d0, ⟨c1, c2, c3, d1, d2, d3⟩, ⟨c4, c5, c6, d4, d5, d6⟩, fun W hW => sameNode_of (n := rl[j].l) (c7.to (hq W hW)) (d7.to (hq W hW)) hw.1, fun W hW => sameNode_of (n := rl[j].r) (c8.to (hq W hW)) (d8.to (hq W hW)) hw.2⟩
          have hj0 : (0 : Int) ≤ (j : Int) := by omega
          have hj1 : (j : Int) < (nr : Int) := by omega
          have hbb : (bb != bb) = false := by simp
          have HCL : Hid (∀ W, Below wr.heap.size wr W → Calls Tryz.prog 17 #[.agg #[.int .i64 lk, .int .i64 ls, .slice la ln lca], .agg #[.int .i64 lk, .int .i64 ls, .slice lb ln lcb]] W fun e w'' => e = .returned (.bool true) ∧ Below W.heap.size W w'') := hcl
          have HCR : Hid (∀ W, Below wr.heap.size wr W → Calls Tryz.prog 17 #[.agg #[.int .i64 rk, .int .i64 rs, .slice ra rn rca], .agg #[.int .i64 rk, .int .i64 rs, .slice rb rn rcb]] W fun e w'' => e = .returned (.bool true) ∧ Below W.heap.size W w'') := hcr
          have HBA : Hid (wr.cell? ⟨ga, oa + j * 7, none⟩ = some (.bool bb) ∧ wr.cell? ⟨gb, ob + j * 7, none⟩ = some (.bool bb)) := ⟨hbA, hbB⟩
          have HRC : Hid (∀ W, Below wr.heap.size wr W → W.cell? ⟨w.heap.size, 1, none⟩ = some (.slice (some ⟨ga, oa, none⟩) nr da) ∧ W.cell? ⟨w.heap.size + 1, 1, none⟩ = some (.slice (some ⟨gb, ob, none⟩) nr db) ∧ W.cell? ⟨ga, oa + j * 7 + 4, none⟩ = some (.int .i64 rk) ∧ W.cell? ⟨ga, oa + j * 7 + 5, none⟩ = some (.int .i64 rs) ∧ W.cell? ⟨ga, oa + j * 7 + 6, none⟩ = some (.slice ra rn rca) ∧ W.cell? ⟨gb, ob + j * 7 + 4, none⟩ = some (.int .i64 rk) ∧ W.cell? ⟨gb, ob + j * 7 + 5, none⟩ = some (.int .i64 rs) ∧ W.cell? ⟨gb, ob + j * 7 + 6, none⟩ = some (.slice rb rn rcb)) := fun W hk => ⟨(hk.cell (p := ⟨_, _, none⟩) hlt0).trans a1, (hk.cell (p := ⟨_, _, none⟩) hlt).trans b1, (hk.cell (p := ⟨ga, _, none⟩) hga).trans r0, (hk.cell (p := ⟨ga, _, none⟩) hga).trans r1, (hk.cell (p := ⟨ga, _, none⟩) hga).trans r2, (hk.cell (p := ⟨gb, _, none⟩) hgb).trans s0, (hk.cell (p := ⟨gb, _, none⟩) hgb).trans s1, (hk.cell (p := ⟨gb, _, none⟩) hgb).trans s2⟩
          have HLC : Hid (∀ W, Below (wr.drewN 1).heap.size (wr.drewN 1) W → W.cell? ⟨w.heap.size, 1, none⟩ = some (.slice (some ⟨ga, oa, none⟩) nr da) ∧ W.cell? ⟨w.heap.size + 1, 1, none⟩ = some (.slice (some ⟨gb, ob, none⟩) nr db) ∧ W.cell? ⟨ga, oa + j * 7 + 1, none⟩ = some (.int .i64 lk) ∧ W.cell? ⟨ga, oa + j * 7 + 2, none⟩ = some (.int .i64 ls) ∧ W.cell? ⟨ga, oa + j * 7 + 3, none⟩ = some (.slice la ln lca) ∧ W.cell? ⟨gb, ob + j * 7 + 1, none⟩ = some (.int .i64 lk) ∧ W.cell? ⟨gb, ob + j * 7 + 2, none⟩ = some (.int .i64 ls) ∧ W.cell? ⟨gb, ob + j * 7 + 3, none⟩ = some (.slice lb ln lcb)) := fun W hW => by
            have hk : Below wr.heap.size wr W := (below_drewN' (Below.refl _ _) 1).trans hW
            exact ⟨(hk.cell (p := ⟨_, _, none⟩) hlt0).trans a1, (hk.cell (p := ⟨_, _, none⟩) hlt).trans b1, (hk.cell (p := ⟨ga, _, none⟩) hga).trans l0, (hk.cell (p := ⟨ga, _, none⟩) hga).trans l1, (hk.cell (p := ⟨ga, _, none⟩) hga).trans l2, (hk.cell (p := ⟨gb, _, none⟩) hgb).trans m0, (hk.cell (p := ⟨gb, _, none⟩) hgb).trans m1, (hk.cell (p := ⟨gb, _, none⟩) hgb).trans m2⟩
          clear hcl hcr r0 r1 r2 s0 s1 s2 hbA hbB
          go_wp2
          go_region_held3 (fun w' => w'.cell? ⟨w.heap.size, 1, none⟩ = some (.slice (some ⟨ga, oa, none⟩) nr da) ∧ w'.cell? ⟨w.heap.size + 1, 1, none⟩ = some (.slice (some ⟨gb, ob, none⟩) nr db) ∧ w'.cell? ⟨ga, oa + j * 7 + 1, none⟩ = some (.int .i64 lk) ∧ w'.cell? ⟨ga, oa + j * 7 + 2, none⟩ = some (.int .i64 ls) ∧ w'.cell? ⟨ga, oa + j * 7 + 3, none⟩ = some (.slice la ln lca) ∧ w'.cell? ⟨gb, ob + j * 7 + 1, none⟩ = some (.int .i64 lk) ∧ w'.cell? ⟨gb, ob + j * 7 + 2, none⟩ = some (.int .i64 ls) ∧ w'.cell? ⟨gb, ob + j * 7 + 3, none⟩ = some (.slice lb ln lcb)) (first | go_keep | exact HLC.out _ hB1) ((go_at_call 17; refine (HCL.out _ (by exact below_drewN' (Below.refl _ _) 1)).mono ?_; rintro e w1 ⟨rfl, hB1⟩))
          have hk1 : Below wr.heap.size wr w1 := (below_drewN' (Below.refl _ _) 1).trans hB1
          obtain ⟨t0, t1, u0, u1, u2, v0, v1, v2⟩ := HRC.out _ hk1
          have hs1 := hk1.size
          have HRD : Hid (∀ W, Below (w1.drewN 1).heap.size (w1.drewN 1) W → W.cell? ⟨w.heap.size, 1, none⟩ = some (.slice (some ⟨ga, oa, none⟩) nr da) ∧ W.cell? ⟨w.heap.size + 1, 1, none⟩ = some (.slice (some ⟨gb, ob, none⟩) nr db) ∧ W.cell? ⟨ga, oa + j * 7 + 4, none⟩ = some (.int .i64 rk) ∧ W.cell? ⟨ga, oa + j * 7 + 5, none⟩ = some (.int .i64 rs) ∧ W.cell? ⟨ga, oa + j * 7 + 6, none⟩ = some (.slice ra rn rca) ∧ W.cell? ⟨gb, ob + j * 7 + 4, none⟩ = some (.int .i64 rk) ∧ W.cell? ⟨gb, ob + j * 7 + 5, none⟩ = some (.int .i64 rs) ∧ W.cell? ⟨gb, ob + j * 7 + 6, none⟩ = some (.slice rb rn rcb)) := fun W hW => HRC.out W (below_after hk1 ((below_drewN' (Below.refl _ _) 1).trans hW))
          have HCR1 : Hid (∀ W, Below w1.heap.size w1 W → Calls Tryz.prog 17 #[.agg #[.int .i64 rk, .int .i64 rs, .slice ra rn rca], .agg #[.int .i64 rk, .int .i64 rs, .slice rb rn rcb]] W fun e w'' => e = .returned (.bool true) ∧ Below W.heap.size W w'') := fun W hW => HCR.out W (below_after hk1 hW)
          have hga1 : ga < w1.heap.size := by omega
          have hgb1 : gb < w1.heap.size := by omega
          have hlt1 : w.heap.size + 1 < w1.heap.size := by omega
          have HK1 : Hid (Below wr.heap.size wr w1) := hk1
          clear hB1 hk1 a1 b1 l0 l1 l2 m0 m1 m2 HRC HLC hs1
          go_wp2
          go_region_held3 (fun w' => w'.cell? ⟨w.heap.size, 1, none⟩ = some (.slice (some ⟨ga, oa, none⟩) nr da) ∧ w'.cell? ⟨w.heap.size + 1, 1, none⟩ = some (.slice (some ⟨gb, ob, none⟩) nr db) ∧ w'.cell? ⟨ga, oa + j * 7 + 4, none⟩ = some (.int .i64 rk) ∧ w'.cell? ⟨ga, oa + j * 7 + 5, none⟩ = some (.int .i64 rs) ∧ w'.cell? ⟨ga, oa + j * 7 + 6, none⟩ = some (.slice ra rn rca) ∧ w'.cell? ⟨gb, ob + j * 7 + 4, none⟩ = some (.int .i64 rk) ∧ w'.cell? ⟨gb, ob + j * 7 + 5, none⟩ = some (.int .i64 rs) ∧ w'.cell? ⟨gb, ob + j * 7 + 6, none⟩ = some (.slice rb rn rcb)) (first | go_keep | exact HRD.out _ hB2) ((go_at_call 17; refine (HCR1.out _ (by exact below_drewN' (Below.refl _ _) 1)).mono ?_; rintro e w2 ⟨rfl, hB2⟩))
          have hk2 : Below wr.heap.size wr w2 := below_after HK1.out ((below_drewN' (Below.refl _ _) 1).trans hB2)
          obtain ⟨t0', t1', _⟩ := HRD.out _ hB2
          have o0 : w2.cell? ⟨ga, oa + j * 7, none⟩ = some (.bool bb) := (hk2.cell (p := ⟨ga, _, none⟩) hga).trans HBA.out.1
          have o1 : w2.cell? ⟨gb, ob + j * 7, none⟩ = some (.bool bb) := (hk2.cell (p := ⟨gb, _, none⟩) hgb).trans HBA.out.2
          have hs2 := hk2.size
          have hga2 : ga < w2.heap.size := by omega
          have hgb2 : gb < w2.heap.size := by omega
          have hlt2 : w.heap.size + 1 < w2.heap.size := by omega
          have HK2 : Hid (Below wr.heap.size wr w2) := hk2
          clear hB2 hk2 t0 t1 u0 u1 u2 v0 v1 v2 hs2 hga1 hgb1 hlt1
          go_wp2
          go_quiet (fail)
          go_wp2
          go_roundw
          case rel => exact ⟨j + 1, by omega, by go_num, (HK2.out.block _ hlt0).trans HEA2.out, (HK2.out.block _ hlt).trans HEB2.out, below_drewN' (below_after hB HK2.out) _⟩
          case measure => simp [intOf]; omega
        · obtain rfl : nr = j := by omega
          go_wp2
          go_ret
          exact ⟨rfl, hB⟩
end Go.Proofs.YtfdjchnckjgapaaGreatDoor

namespace Go.Proofs.YtfdjchnckjgapaaGreatDoor
open Go.RowKit Go.Shelf S1
set_option linter.unusedVariables false

theorem nameM_e {N : Nms} {ts r : List Tok} {e : Int} (h : nameM N ts = .inl (r, e)) : ∀ t ∈ r, t ∈ ts := by
  unfold nameM at h
  split at h
  · cases h; exact fun _ q => q
  · split at h
    · cases h; exact fun _ q => q
    · split at h
      · cases h; exact fun _ q => List.mem_of_mem_tail q
      · have hq := endQ_left (c := 59) (sumM_left N 20 ts.tail.tail)
        split at h
        · rename_i e1 he
          obtain rfl : e1 = (r, e) := by simpa using h
          rw [he] at hq
          exact fun t q => List.mem_of_mem_tail (List.mem_of_mem_tail (hq.2.2 t q))
        · cases h
theorem nameM_s {N N' : Nms} {ts r : List Tok} (h : nameM N ts = .inr (N', r)) : ∀ t ∈ r, t ∈ ts := by
  unfold nameM at h
  split at h
  · cases h
  · split at h
    · cases h
    · split at h
      · cases h
      · have hq := endQ_left (c := 59) (sumM_left N 20 ts.tail.tail)
        split at h
        · cases h
        · rename_i s r1 he
          obtain ⟨_, rfl⟩ : _ ∧ r1 = r := by simpa using h
          rw [he] at hq
          exact fun t q => List.mem_of_mem_tail (List.mem_of_mem_tail (hq.2.2 t q))
theorem ruleM_e {N : Nms} {ts r : List Tok} {st : Sts} {e : Int} (h : ruleM N ts st = .inl (r, e)) : ∀ t ∈ r, t ∈ ts := by
  unfold ruleM at h
  have hq := endN_left (c := 47) (regexM_left N 20 ts.tail st)
  split at h
  · rename_i e1 he
    obtain rfl : e1 = (r, e) := by simpa using h
    rw [he] at hq
    exact fun t q => List.mem_of_mem_tail (hq.2.2 t q)
  · rename_i l r1 st1 he
    rw [he] at hq
    have hq2 := endN_left (c := 59) (regexM_left N 20 r1 st1)
    split at h
    · rename_i e1 he2
      obtain rfl : e1 = (r, e) := by simpa using h
      rw [he2] at hq2
      exact fun t q => List.mem_of_mem_tail (hq.2.2 t (hq2.2.2 t q))
    · cases h
theorem ruleM_s {N : Nms} {ts r : List Tok} {st st' : Sts} {x : Rl} (h : ruleM N ts st = .inr (x, r, st')) : ∀ t ∈ r, t ∈ ts := by
  unfold ruleM at h
  have hq := endN_left (c := 47) (regexM_left N 20 ts.tail st)
  split at h
  · cases h
  · rename_i l r1 st1 he
    rw [he] at hq
    have hq2 := endN_left (c := 59) (regexM_left N 20 r1 st1)
    split at h
    · cases h
    · rename_i n r2 st2 he2
      obtain ⟨_, rfl, _⟩ : _ ∧ r2 = r ∧ st2 = st' := by simpa using h
      rw [he2] at hq2
      exact fun t q => List.mem_of_mem_tail (hq.2.2 t (hq2.2.2 t q))
theorem textF_e : ∀ (f : Nat) (N : Nms) (rs : List Rl) (ts : List Tok) (st : Sts) {r : List Tok} {e : Int}, textF f N rs ts st = .inl (r, e) → ∀ t ∈ r, t ∈ ts
  | 0, N, rs, ts, st, r, e, h => by cases h
  | f + 1, N, rs, ts, st, r, e, h => by
    unfold textF at h
    split at h
    · cases h
    · split at h
      · split at h
        · rename_i e1 hn
          obtain rfl : e1 = (r, e) := by simpa using h
          exact fun t q => List.mem_of_mem_tail (nameM_e hn t q)
        · rename_i N' r1 hn
          exact fun t q => List.mem_of_mem_tail (nameM_s hn t (textF_e f _ _ _ _ h t q))
      · split at h
        · cases h; exact fun _ q => q
        · split at h
          · cases h; exact fun _ q => q
          · split at h
            · rename_i e1 hn
              obtain rfl : e1 = (r, e) := by simpa using h
              exact ruleM_e hn
            · rename_i x r1 st1 hn
              exact fun t q => ruleM_s hn t (textF_e f _ _ _ _ h t q)
theorem placed_le {zs : List Int} : ∀ {l : List Tok} {a : Nat}, Placed zs a l → ∀ t ∈ l, t.p ≤ zs.length
  | [], a, h, t, ht => by cases ht
  | u :: l, a, h, t, ht => by
    obtain ⟨h1, h2, h3, h4, h5⟩ := h
    rcases List.mem_cons.1 ht with q | q
    · subst q; omega
    · rcases h5 with ⟨_, rfl, _⟩ | ⟨_, _, h6⟩
      · cases q
      · exact placed_le h6 t q
/-- An error stands within the text. -/
theorem parseL_at {zs : List Int} {us : List U} (hr : Run zs 0 us zs.length) {a : Nat} {x : Int} (h : parseL (toksL zs.length us) = .inl (a, x)) : a ≤ zs.length := by
  cases ht : toksL zs.length us with
  | inl e =>
    obtain ⟨b, y⟩ := e
    rw [ht] at h
    obtain ⟨rfl, rfl⟩ : b = a ∧ y = x := by simpa [parseL] using h
    exact (toksF_at (zs := zs) (k := us.length + 1) (by omega) ⟨0, hr⟩ ht).1
  | inr l =>
    rw [ht] at h
    have hpl : Placed zs 0 l := toksF_placed (k := us.length + 1) ⟨0, hr⟩ (Nat.zero_le _) ht
    unfold parseL at h
    simp only at h
    split at h
    · rename_i r e he
      obtain ⟨rfl, rfl⟩ : (hdT r).p = a ∧ e = x := by simpa using h
      have hs := textF_e _ _ _ _ _ he
      cases r with
      | nil => exact Nat.zero_le _
      | cons t r =>
        obtain ⟨u, hu, rfl⟩ := List.mem_map.1 (hs t (by simp))
        exact placed_le hpl u hu
    · cases h
/-- What was parsed is few, and may be. -/
theorem dp_of {K : Nat} (hK : K ≤ 3099) : ∀ {d : Nat} {n : Nd}, HtK d n.kids → (∀ f, Sz f n ≤ K) → Dp d n.kids
  | 0, n, h, _ => h
  | d + 1, n, h, hz => by
    have hlen : ∀ (l : List Nd) (g : Nd → Nat), (∀ x ∈ l, 1 ≤ g x) → l.length ≤ (l.map g).sum := fun l g => by
      induction l with
      | nil => intro _; simp
      | cons x l ih =>
        intro hx
        have h1 := hx x (by simp)
        have h2 := ih (fun y hy => hx y (by simp [hy]))
        simp only [List.length_cons, List.map_cons, List.sum_cons]; omega
    have hone : ∀ (f : Nat) (x : Nd), 1 ≤ Sz f x := fun f x => by
      cases f with
      | zero => exact Nat.le_refl _
      | succ f => show 1 ≤ 1 + _; omega
    refine ⟨?_, fun x hx => dp_of hK (h x hx) (fun f => ?_)⟩
    · have h1 := hz 1
      have h2 := hlen n.kids (Sz 0) (fun x _ => hone 0 x)
      have h3 : Sz 1 n = 1 + (n.kids.map (Sz 0)).sum := rfl
      omega
    · have h1 := hz (f + 1)
      have h3 : Sz (f + 1) n = 1 + (n.kids.map (Sz f)).sum := rfl
      have h4 : Sz f x ≤ (n.kids.map (Sz f)).sum := by
        have : ∀ (l : List Nd), x ∈ l → Sz f x ≤ (l.map (Sz f)).sum := fun l => by
          induction l with
          | nil => intro q; cases q
          | cons y l ih =>
            intro q
            simp only [List.map_cons, List.sum_cons]
            rcases List.mem_cons.1 q with q | q
            · subst q; omega
            · have := ih q; omega
        exact this _ hx
      omega
theorem mayRf_eq : ∀ (m : Nat) (l : List Rl), mayRf 120 m l = mayR m l
  | m, [] => rfl
  | m, x :: l => by
    unfold mayRf mayR
    cases mayN 120 0 0 m x.l with
    | none => rfl
    | some m1 =>
      simp only
      cases mayN 120 0 0 m1 x.r with
      | none => rfl
      | some m2 => exact mayRf_eq m2 l
theorem PrgA.few_ok {E : List Int} {K : Nat} {rl : List Rl} {st : Sts} (h : PrgA E 120 K rl st) (hK : K ≤ 3099) (hE : E.length ≤ 3099) : FewOk st rl := by
  have key : ∀ {n : Nd}, NdA K n → Dp 120 n.kids ∧ Sz 120 n < 3100 := fun {n} hn => ⟨dp_of hK (hn.1.more (by omega)) hn.2, by have := hn.2 120; omega⟩
  refine ⟨by have := h.sts.2.2; omega, by have := h.few; omega, fun s hs => by have := h.len s hs; omega, fun x hx => ⟨key (h.nds x hx).1, key (h.nds x hx).2⟩⟩
theorem PrgA.right {E : List Int} {K : Nat} {rl : List Rl} {st : Sts} (h : PrgA E 120 K rl st) : rightB st rl = true := by
  unfold rightB
  rw [h.sets, ← mayRf_eq, h.may]
  have h1 := h.sts.2.2
  have h2 := h.few
  simp [h1, h2]
/-- All of it. -/
theorem parseL_few {zs : List Int} {us : List U} (hr : Run zs 0 us zs.length) (hz : zs.length ≤ 1500) {rl : List Rl} {st : Sts} (h : parseL (toksL zs.length us) = .inr (rl, st)) : FewOk st rl ∧ rightB st rl = true := by
  cases ht : toksL zs.length us with
  | inl e => rw [ht] at h; cases h
  | inr l =>
    have h1 := toks_few hr ht
    have h2 := toks_count hr ht
    have h3 := (toks_ok hr ht).2
    rw [ht] at h
    have hp := parseL_a (f := 120) (K := 3099) (fun t q => (h3 t q).1) (by omega) (by omega) h
    exact ⟨hp.few_ok (Nat.le_refl _) (by rw [edgesOf_len]; omega), hp.right⟩
/-- A text too long. -/
theorem tokens_long8 (a : Option Addr) (n cap : Nat) (w : World) (h : 65536 < n) : Calls Tryz.prog 18 #[.slice a n cap] w fun e w' => e = .returned (.tuple #[.slice none 0 0, .int .i64 0, .int .i64 3]) ∧ w' = w := by
  have hbig : decide (65536 < (n : Int)) = true := by simp; omega
  go_enter Tryz.func18, Tryz.ntmps18
  go_wp2
  go_ret3
  exact ⟨rfl, rfl⟩
set_option maxRecDepth 100000 in
set_option maxHeartbeats 4000000 in
theorem parse_long8 (a : Option Addr) (n cap : Nat) (w : World) (h : 65536 < n) : Calls Tryz.prog 9 #[.slice a n cap] w fun e w' => e = .returned (.tuple #[.agg #[.slice none 0 0, .slice none 0 0], .int .i64 0, .int .i64 3]) ∧ Below w.heap.size w w' := by
  have hB0 := below_alloc w (.cells #[.slice none 0 0, .slice none 0 0] 27)
  have h1 := tokens_long8 a n cap (w.alloc (.cells #[.slice none 0 0, .slice none 0 0] 27)) h
  have HB0 : Hid (Below w.heap.size w (w.alloc (.cells #[.slice none 0 0, .slice none 0 0] 27))) := hB0
  have HE0 : Hid ((w.alloc (.cells #[.slice none 0 0, .slice none 0 0] 27)).heap[w.heap.size]? = some (.cells #[.slice none 0 0, .slice none 0 0] 27 (0, 0))) := heap_new' _ _
  have HSZ0 : Hid ((w.alloc (.cells #[.slice none 0 0, .slice none 0 0] 27)).heap.size = w.heap.size + 1) := by show _ = _; simp
  clear hB0
  go_enter Tryz.func9, Tryz.ntmps9
  go_wp2_with fail
  refine h1.mono ?_
  rintro e w1 ⟨rfl, hw1⟩
  have hR : w1.heap[w.heap.size]? = some (.cells #[.slice none 0 0, .slice none 0 0] 27 (0, 0)) := by rw [hw1]; exact HE0.out
  have HR : Hid (w1.heap[w.heap.size]? = some (.cells #[.slice none 0 0, .slice none 0 0] 27 (0, 0))) := hR
  have hlw : w.heap.size < w1.heap.size := (Array.getElem?_eq_some_iff.1 hR).1
  have HB1 : Hid (Below w.heap.size w w1) := by rw [hw1]; exact HB0.out
  have d0 : w1.cell? ⟨w.heap.size, 0, none⟩ = some (.slice none 0 0) := cell_of_row _ _ 0 _ _ _ hR
  have df0 : w1.frozen? ⟨w.heap.size, 0, none⟩ = false := frozen_of_row _ _ 0 _ _ hR
  have d1 : w1.cell? ⟨w.heap.size, 1, none⟩ = some (.slice none 0 0) := cell_of_row _ _ 1 _ _ _ hR
  have df1 : w1.frozen? ⟨w.heap.size, 1, none⟩ = false := frozen_of_row _ _ 1 _ _ hR
  clear h1 hR hw1
  go_wp2
  refine bodyPost_ret (results_row_tmp2 rfl _ _ w.heap.size 27 #[.slice none 0 0, .slice none 0 0] (0, 0) _ rfl ?_ Tryz.underlying27 rfl (by kernel_rfl)) rfl ?_
  · exact heap_set (heap_set HR.out _) _
  exact ⟨rfl, (HB1.out.setCell (by simp) _).setCell (by simp) _⟩
set_option maxRecDepth 100000 in
set_option maxHeartbeats 4000000 in
/-- A program of some rules is not the empty one. -/
theorem same_less (za ya : Option Addr) (ns ca nr da : Nat) (hr : 0 < nr) (hr2 : nr ≤ 70000) (hs : ns ≤ 70000) (w : World) :
    Calls Tryz.prog 11 #[.agg #[.slice za ns ca, .slice ya nr da], .agg #[.slice none 0 0, .slice none 0 0]] w fun e w' => e = .returned (.bool false) ∧ Below w.heap.size w w' := by
  have HB0 : Hid (Below w.heap.size w ((w.alloc (.cells #[.slice za ns ca, .slice ya nr da] 27)).alloc (.cells #[.slice none 0 0, .slice none 0 0] 27))) := below_after (below_alloc _ _) (below_alloc _ _)
  have hEB : ((w.alloc (.cells #[.slice za ns ca, .slice ya nr da] 27)).alloc (.cells #[.slice none 0 0, .slice none 0 0] 27)).heap[w.heap.size + 1]? = some (.cells #[.slice none 0 0, .slice none 0 0] 27 (0, 0)) := by
    have := heap_new' (w.alloc (.cells #[.slice za ns ca, .slice ya nr da] 27)) (.cells #[.slice none 0 0, .slice none 0 0] 27)
    rw [World.size_alloc] at this
    exact this
  have hrr : ((nr : Int) != 0) = true := by simp; omega
  by_cases h0 : ns = 0
  · have hss : ((ns : Int) != 0) = false := by simp; omega
    clear hEB h0
    go_enter Tryz.func11, Tryz.ntmps11
    go_wp2
    go_ret
    exact ⟨rfl, HB0.out⟩
  · have hss : ((ns : Int) != 0) = true := by simp; omega
    clear hEB h0
    go_enter Tryz.func11, Tryz.ntmps11
    go_wp2
    go_ret
    exact ⟨rfl, HB0.out⟩
end Go.Proofs.YtfdjchnckjgapaaGreatDoor
