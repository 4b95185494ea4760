/-
  SamP2 Aw8
-/
import Derived.Test.YtfdjchnckjgapaaGreatDoorX33
import Derived.Test.YtfdjchnckjgapaaGreatDoorX32
namespace Go.Proofs.YtfdjchnckjgapaaGreatDoor
open Go.RowKit Go.Shelf S1
set_option linter.unusedVariables false
set_option maxRecDepth 100000 in
set_option maxHeartbeats 16000000 in
theorem same_any8 (rl : List Rl) (st : Sts) (hrl : rl.length ≤ 70000) (hsl : st.length ≤ 70000) (hst : ∀ s ∈ st, s.length ≤ 600000) (hwd : ∀ x ∈ rl, WdR x) (sv rv sv' rv' : Value) (w : World) (h : SetIn w sv st) (h' : SetIn w sv' st) (k : RulIn w rv rl) (k' : RulIn w rv' rl) :
    Calls Tryz.prog 11 #[.agg #[sv, rv], .agg #[sv', rv']] w fun e w' => e = .returned (.bool true) ∧ Below w.heap.size w w' := by
  have HSA : Hid (SetIn w sv st) := h
  have HSB : Hid (SetIn w sv' st) := h'
  have HRA : Hid (RulIn w rv rl) := k
  have HRB : Hid (RulIn w rv' rl) := k'
  have HST : Hid (∀ s ∈ st, s.length ≤ 600000) := hst
  have HWD : Hid (∀ x ∈ rl, WdR x) := hwd
  obtain ⟨za, ca, rfl, hca, _⟩ := h
  obtain ⟨zb, cb, rfl, hcb, _⟩ := h'
  obtain ⟨ya, da, rfl, hda, _⟩ := k
  obtain ⟨yb, db, rfl, hdb, _⟩ := k'
  obtain ⟨ns, hns⟩ : ∃ x, x = st.length := ⟨_, rfl⟩
  obtain ⟨nr, hnr⟩ : ∃ x, x = rl.length := ⟨_, rfl⟩
  rw [← hns] at hsl HSA HSB hca hcb ⊢
  rw [← hnr] at hrl HRA HRB hda hdb ⊢
  have HNS : Hid (ns = st.length) := hns
  have HNR : Hid (nr = rl.length) := hnr
  have hss : ((ns : Int) != (ns : Int)) = false := by simp
  have hrr : ((nr : Int) != (nr : Int)) = false := by simp
  have HB0 : Hid (Below w.heap.size w ((w.alloc (.cells #[.slice za ns ca, .slice ya nr da] 27)).alloc (.cells #[.slice zb ns cb, .slice yb nr db] 27))) := below_after (below_alloc _ _) (below_alloc _ _)
  have HEB : Hid (((w.alloc (.cells #[.slice za ns ca, .slice ya nr da] 27)).alloc (.cells #[.slice zb ns cb, .slice yb nr db] 27)).heap[w.heap.size + 1]? = some (.cells #[.slice zb ns cb, .slice yb nr db] 27 (0, 0))) := by
    have := heap_new' (w.alloc (.cells #[.slice za ns ca, .slice ya nr da] 27)) (.cells #[.slice zb ns cb, .slice yb nr db] 27)
    rw [World.size_alloc] at this
    exact this
  have HEA : Hid (((w.alloc (.cells #[.slice za ns ca, .slice ya nr da] 27)).alloc (.cells #[.slice zb ns cb, .slice yb nr db] 27)).heap[w.heap.size]? = some (.cells #[.slice za ns ca, .slice ya nr da] 27 (0, 0))) := ((below_alloc (w.alloc _) _).block _ (by simp)).trans (heap_new' w _)
  clear hst hwd hns hnr
  go_enter Tryz.func11, Tryz.ntmps11
  go_wp2
  go_loopw [5] (fun x wr => ∃ (j : Nat), j ≤ ns ∧ x = .int .i64 (j : Int) ∧ wr.heap[w.heap.size]? = some (.cells #[.slice za ns ca, .slice ya nr da] 27 (0, 0)) ∧ wr.heap[w.heap.size + 1]? = some (.cells #[.slice zb ns cb, .slice yb nr db] 27 (0, 0)) ∧ Below w.heap.size w wr) (fun x _ => ns - (intOf x).toNat)
  case atStart => exact ⟨0, Nat.zero_le _, rfl, HEA.out, HEB.out, HB0.out⟩
  case round =>
    obtain ⟨j, hj, rfl, hEA, hEB, hB⟩ := hrel
    have hlt : w.heap.size + 1 < wr.heap.size := (Array.getElem?_eq_some_iff.1 hEB).1
    have hlt0 : w.heap.size < wr.heap.size := (Array.getElem?_eq_some_iff.1 hEA).1
    have a0 : wr.cell? ⟨w.heap.size, 0, none⟩ = some (.slice za ns ca) := cell_of_row _ _ 0 _ _ _ hEA
    have b0 : wr.cell? ⟨w.heap.size + 1, 0, none⟩ = some (.slice zb ns cb) := cell_of_row _ _ 0 _ _ _ hEB
    have a1 : wr.cell? ⟨w.heap.size, 1, none⟩ = some (.slice ya nr da) := cell_of_row _ _ 1 _ _ _ hEA
    have b1 : wr.cell? ⟨w.heap.size + 1, 1, none⟩ = some (.slice yb nr db) := cell_of_row _ _ 1 _ _ _ hEB
    have HEA' : Hid (wr.heap[w.heap.size]? = some (.cells #[.slice za ns ca, .slice ya nr da] 27 (0, 0))) := hEA
    have HEB' : Hid (wr.heap[w.heap.size + 1]? = some (.cells #[.slice zb ns cb, .slice yb nr db] 27 (0, 0))) := hEB
    clear hEA hEB
    by_cases hjl : j < ns
    · obtain ⟨ga, oa, xa, xca, gb, ob, xb, xcb, yl, rfl, rfl, hga, hgb, r0, s0, hcall⟩ : ∃ (ga oa : Nat) (xa : Option Addr) (xca : Nat) (gb ob : Nat) (xb : Option Addr) (xcb yl : Nat), za = some ⟨ga, oa, none⟩ ∧ zb = some ⟨gb, ob, none⟩ ∧ ga < wr.heap.size ∧ gb < wr.heap.size ∧ wr.cell? ⟨ga, oa + j, none⟩ = some (.slice xa yl xca) ∧ wr.cell? ⟨gb, ob + j, none⟩ = some (.slice xb yl xcb) ∧ ∀ W, Below wr.heap.size wr W → Calls Tryz.prog 24 #[.slice xa yl xca, .slice xb yl xcb] W fun e w'' => e = .returned (.bool true) ∧ Below W.heap.size W w'' := by
        obtain ⟨a, ca', e1, _, hi⟩ := HSA.out.below hB
        obtain ⟨b, cb', e2, _, hi'⟩ := HSB.out.below hB
        have hjs : j < st.length := by have := HNS.out; omega
        obtain ⟨ga, oa, x, rfl, hga, h0, h1⟩ := hi j hjs
        obtain ⟨gb, ob, y, rfl, hgb, k0, k1⟩ := hi' j hjs
        have h1' := h1
        have k1' := k1
        obtain ⟨xa, xca, rfl, _⟩ := h1'
        obtain ⟨xb, xcb, rfl, _⟩ := k1'
        have e1' : za = some ⟨ga, oa, none⟩ := by simp at e1; exact e1.1
        have e2' : zb = some ⟨gb, ob, none⟩ := by simp at e2; exact e2.1
        refine ⟨ga, oa, xa, xca, gb, ob, xb, xcb, _, e1', e2', hga, hgb, h0, k0, fun W hW => ?_⟩
        have hc := sameG_any st[j] st[j] (HST.out _ (List.getElem_mem hjs)) _ _ W (h1.below hW) (k1.below hW)
        rw [sameS_iff.2 rfl] at hc
        exact hc
      have hj0 : (0 : Int) ≤ (j : Int) := by omega
      have hj1 : (j : Int) < (ns : Int) := by omega
      have HCALL : Hid (∀ W, Below wr.heap.size wr W → Calls Tryz.prog 24 #[.slice xa yl xca, .slice xb yl xcb] W fun e w'' => e = .returned (.bool true) ∧ Below W.heap.size W w'') := hcall
      have HKEEP : Hid (∀ w', Below (wr.drewN 1).heap.size (wr.drewN 1) w' → w'.cell? ⟨w.heap.size, 0, none⟩ = some (.slice (some ⟨ga, oa, none⟩) ns ca) ∧ w'.cell? ⟨w.heap.size + 1, 0, none⟩ = some (.slice (some ⟨gb, ob, none⟩) ns cb) ∧ w'.cell? ⟨ga, oa + j, none⟩ = some (.slice xa yl xca) ∧ w'.cell? ⟨gb, ob + j, none⟩ = some (.slice xb yl xcb)) := fun W hW => by
        have hk : Below wr.heap.size wr W := (below_drewN' (Below.refl _ _) 1).trans hW
        exact ⟨(hk.cell (p := ⟨_, _, none⟩) hlt0).trans a0, (hk.cell (p := ⟨_, _, none⟩) hlt).trans b0, (hk.cell (p := ⟨ga, _, none⟩) hga).trans r0, (hk.cell (p := ⟨gb, _, none⟩) hgb).trans s0⟩
      clear hcall a1 b1
      go_wp2
      go_region_held3 (fun w' => w'.cell? ⟨w.heap.size, 0, none⟩ = some (.slice (some ⟨ga, oa, none⟩) ns ca) ∧ w'.cell? ⟨w.heap.size + 1, 0, none⟩ = some (.slice (some ⟨gb, ob, none⟩) ns cb) ∧ w'.cell? ⟨ga, oa + j, none⟩ = some (.slice xa yl xca) ∧ w'.cell? ⟨gb, ob + j, none⟩ = some (.slice xb yl xcb)) (first | go_keep | exact HKEEP.out _ hB1) ((go_at_call 24; refine (HCALL.out _ (by exact below_drewN' (Below.refl _ _) 1)).mono ?_; rintro e w1 ⟨rfl, hB1⟩))
      have hk : Below wr.heap.size wr w1 := (below_drewN' (Below.refl _ _) 1).trans hB1
      clear hB1
      go_wp2
      go_roundw
      case rel => exact ⟨j + 1, by omega, by go_num, (hk.block _ hlt0).trans HEA'.out, (hk.block _ hlt).trans HEB'.out, below_after hB hk⟩
      case measure => simp [intOf]; omega
    · obtain rfl : ns = j := by omega
      clear hjl
      have HB1 : Hid (Below w.heap.size w wr) := hB
      clear hB
      go_wp2
      go_loopw [7] (fun x wr => ∃ (j : Nat), j ≤ nr ∧ x = .int .i64 (j : Int) ∧ wr.heap[w.heap.size]? = some (.cells #[.slice za ns ca, .slice ya nr da] 27 (0, 0)) ∧ wr.heap[w.heap.size + 1]? = some (.cells #[.slice zb ns cb, .slice yb nr db] 27 (0, 0)) ∧ Below w.heap.size w wr) (fun x _ => nr - (intOf x).toNat)
      case atStart => exact ⟨0, Nat.zero_le _, rfl, HEA'.out, HEB'.out, HB1.out⟩
      case round =>
        obtain ⟨j, hj, rfl, hEA, hEB, hB⟩ := hrel
        have hlt : w.heap.size + 1 < wr.heap.size := (Array.getElem?_eq_some_iff.1 hEB).1
        have hlt0 : w.heap.size < wr.heap.size := (Array.getElem?_eq_some_iff.1 hEA).1
        have a1 : wr.cell? ⟨w.heap.size, 1, none⟩ = some (.slice ya nr da) := cell_of_row _ _ 1 _ _ _ hEA
        have b1 : wr.cell? ⟨w.heap.size + 1, 1, none⟩ = some (.slice yb nr db) := cell_of_row _ _ 1 _ _ _ hEB
        have HEA2 : Hid (wr.heap[w.heap.size]? = some (.cells #[.slice za ns ca, .slice ya nr da] 27 (0, 0))) := hEA
        have HEB2 : Hid (wr.heap[w.heap.size + 1]? = some (.cells #[.slice zb ns cb, .slice yb nr db] 27 (0, 0))) := hEB
        clear hEA hEB
        by_cases hjl : j < nr
        · obtain ⟨ga, oa, gb, ob, bb, lk, ls, la, ln, lca, lb, lcb, rk, rs, ra, rn, rca, rb, rcb, rfl, rfl, hga, hgb, hbA, hbB, ⟨l0, l1, l2, m0, m1, m2⟩, ⟨r0, r1, r2, s0, s1, s2⟩, hcl, hcr⟩ : ∃ (ga oa gb ob : Nat) (bb : Bool) (lk ls : Int) (la : Option Addr) (ln lca : Nat) (lb : Option Addr) (lcb : Nat) (rk rs : Int) (ra : Option Addr) (rn rca : Nat) (rb : Option Addr) (rcb : Nat), ya = some ⟨ga, oa, none⟩ ∧ yb = some ⟨gb, ob, none⟩ ∧ ga < wr.heap.size ∧ gb < wr.heap.size ∧ wr.cell? ⟨ga, oa + j * 7, none⟩ = some (.bool bb) ∧ wr.cell? ⟨gb, ob + j * 7, none⟩ = some (.bool bb) ∧ (wr.cell? ⟨ga, oa + j * 7 + 1, none⟩ = some (.int .i64 lk) ∧ wr.cell? ⟨ga, oa + j * 7 + 2, none⟩ = some (.int .i64 ls) ∧ wr.cell? ⟨ga, oa + j * 7 + 3, none⟩ = some (.slice la ln lca) ∧ wr.cell? ⟨gb, ob + j * 7 + 1, none⟩ = some (.int .i64 lk) ∧ wr.cell? ⟨gb, ob + j * 7 + 2, none⟩ = some (.int .i64 ls) ∧ wr.cell? ⟨gb, ob + j * 7 + 3, none⟩ = some (.slice lb ln lcb)) ∧ (wr.cell? ⟨ga, oa + j * 7 + 4, none⟩ = some (.int .i64 rk) ∧ wr.cell? ⟨ga, oa + j * 7 + 5, none⟩ = some (.int .i64 rs) ∧ wr.cell? ⟨ga, oa + j * 7 + 6, none⟩ = some (.slice ra rn rca) ∧ wr.cell? ⟨gb, ob + j * 7 + 4, none⟩ = some (.int .i64 rk) ∧ wr.cell? ⟨gb, ob + j * 7 + 5, none⟩ = some (.int .i64 rs) ∧ wr.cell? ⟨gb, ob + j * 7 + 6, none⟩ = some (.slice rb rn rcb)) ∧ (∀ W, Below wr.heap.size wr W → Calls Tryz.prog 17 #[.agg #[.int .i64 lk, .int .i64 ls, .slice la ln lca], .agg #[.int .i64 lk, .int .i64 ls, .slice lb ln lcb]] W fun e w'' => e = .returned (.bool true) ∧ Below W.heap.size W w'') ∧ (∀ W, Below wr.heap.size wr W → Calls Tryz.prog 17 #[.agg #[.int .i64 rk, .int .i64 rs, .slice ra rn rca], .agg #[.int .i64 rk, .int .i64 rs, .slice rb rn rcb]] W fun e w'' => e = .returned (.bool true) ∧ Below W.heap.size W w'') := by
            obtain ⟨a, ca', e1, _, hi⟩ := HRA.out.below hB
            obtain ⟨b, cb', e2, _, hi'⟩ := HRB.out.below hB
            have hjs : j < rl.length := by have := HNR.out; omega
            obtain ⟨ga, oa, zl, zr, rfl, hga, c0, c1, c2, c3, c4, c5, c6, c7, c8⟩ := hi j hjs
            obtain ⟨gb, ob, yl, yr, rfl, hgb, d0, d1, d2, d3, d4, d5, d6, d7, d8⟩ := hi' j hjs
            obtain ⟨x1, x2, rfl, _⟩ := c7.slice
            obtain ⟨x3, x4, rfl, _⟩ := c8.slice
            obtain ⟨x5, x6, rfl, _⟩ := d7.slice
            obtain ⟨x7, x8, rfl, _⟩ := d8.slice
            have hw := HWD.out _ (List.getElem_mem hjs)
            have e1' : ya = some ⟨ga, oa, none⟩ := by simp at e1; exact e1.1
            have e2' : yb = some ⟨gb, ob, none⟩ := by simp at e2; exact e2.1
            have hq : ∀ W, Below wr.heap.size wr W → ∀ k, k < wr.heap.size → W.heap[k]? = wr.heap[k]? ∧ k < W.heap.size := fun W hW k hk => ⟨hW.block k hk, Nat.lt_of_lt_of_le hk hW.size⟩
            exact ⟨ga, oa, gb, ob, _, _, _, x1, _, x2, x5, x6, _, _, x3, _, x4, x7, x8, e1', e2', hga, hgb, c0, d0, ⟨c1, c2, c3, d1, d2, d3⟩, ⟨c4, c5, c6, d4, d5, d6⟩, fun W hW => sameNode_of (n := rl[j].l) (c7.to (hq W hW)) (d7.to (hq W hW)) hw.1, fun W hW => sameNode_of (n := rl[j].r) (c8.to (hq W hW)) (d8.to (hq W hW)) hw.2⟩
          have hj0 : (0 : Int) ≤ (j : Int) := by omega
          have hj1 : (j : Int) < (nr : Int) := by omega
          have hbb : (bb != bb) = false := by simp
          have HCL : Hid (∀ W, Below wr.heap.size wr W → Calls Tryz.prog 17 #[.agg #[.int .i64 lk, .int .i64 ls, .slice la ln lca], .agg #[.int .i64 lk, .int .i64 ls, .slice lb ln lcb]] W fun e w'' => e = .returned (.bool true) ∧ Below W.heap.size W w'') := hcl
          have HCR : Hid (∀ W, Below wr.heap.size wr W → Calls Tryz.prog 17 #[.agg #[.int .i64 rk, .int .i64 rs, .slice ra rn rca], .agg #[.int .i64 rk, .int .i64 rs, .slice rb rn rcb]] W fun e w'' => e = .returned (.bool true) ∧ Below W.heap.size W w'') := hcr
          have HBA : Hid (wr.cell? ⟨ga, oa + j * 7, none⟩ = some (.bool bb) ∧ wr.cell? ⟨gb, ob + j * 7, none⟩ = some (.bool bb)) := ⟨hbA, hbB⟩
          have HRC : Hid (∀ W, Below wr.heap.size wr W → W.cell? ⟨w.heap.size, 1, none⟩ = some (.slice (some ⟨ga, oa, none⟩) nr da) ∧ W.cell? ⟨w.heap.size + 1, 1, none⟩ = some (.slice (some ⟨gb, ob, none⟩) nr db) ∧ W.cell? ⟨ga, oa + j * 7 + 4, none⟩ = some (.int .i64 rk) ∧ W.cell? ⟨ga, oa + j * 7 + 5, none⟩ = some (.int .i64 rs) ∧ W.cell? ⟨ga, oa + j * 7 + 6, none⟩ = some (.slice ra rn rca) ∧ W.cell? ⟨gb, ob + j * 7 + 4, none⟩ = some (.int .i64 rk) ∧ W.cell? ⟨gb, ob + j * 7 + 5, none⟩ = some (.int .i64 rs) ∧ W.cell? ⟨gb, ob + j * 7 + 6, none⟩ = some (.slice rb rn rcb)) := fun W hk => ⟨(hk.cell (p := ⟨_, _, none⟩) hlt0).trans a1, (hk.cell (p := ⟨_, _, none⟩) hlt).trans b1, (hk.cell (p := ⟨ga, _, none⟩) hga).trans r0, (hk.cell (p := ⟨ga, _, none⟩) hga).trans r1, (hk.cell (p := ⟨ga, _, none⟩) hga).trans r2, (hk.cell (p := ⟨gb, _, none⟩) hgb).trans s0, (hk.cell (p := ⟨gb, _, none⟩) hgb).trans s1, (hk.cell (p := ⟨gb, _, none⟩) hgb).trans s2⟩
          have HLC : Hid (∀ W, Below (wr.drewN 1).heap.size (wr.drewN 1) W → W.cell? ⟨w.heap.size, 1, none⟩ = some (.slice (some ⟨ga, oa, none⟩) nr da) ∧ W.cell? ⟨w.heap.size + 1, 1, none⟩ = some (.slice (some ⟨gb, ob, none⟩) nr db) ∧ W.cell? ⟨ga, oa + j * 7 + 1, none⟩ = some (.int .i64 lk) ∧ W.cell? ⟨ga, oa + j * 7 + 2, none⟩ = some (.int .i64 ls) ∧ W.cell? ⟨ga, oa + j * 7 + 3, none⟩ = some (.slice la ln lca) ∧ W.cell? ⟨gb, ob + j * 7 + 1, none⟩ = some (.int .i64 lk) ∧ W.cell? ⟨gb, ob + j * 7 + 2, none⟩ = some (.int .i64 ls) ∧ W.cell? ⟨gb, ob + j * 7 + 3, none⟩ = some (.slice lb ln lcb)) := fun W hW => by
            have hk : Below wr.heap.size wr W := (below_drewN' (Below.refl _ _) 1).trans hW
            exact ⟨(hk.cell (p := ⟨_, _, none⟩) hlt0).trans a1, (hk.cell (p := ⟨_, _, none⟩) hlt).trans b1, (hk.cell (p := ⟨ga, _, none⟩) hga).trans l0, (hk.cell (p := ⟨ga, _, none⟩) hga).trans l1, (hk.cell (p := ⟨ga, _, none⟩) hga).trans l2, (hk.cell (p := ⟨gb, _, none⟩) hgb).trans m0, (hk.cell (p := ⟨gb, _, none⟩) hgb).trans m1, (hk.cell (p := ⟨gb, _, none⟩) hgb).trans m2⟩
          clear hcl hcr r0 r1 r2 s0 s1 s2 hbA hbB
          go_wp2
          go_region_held3 (fun w' => w'.cell? ⟨w.heap.size, 1, none⟩ = some (.slice (some ⟨ga, oa, none⟩) nr da) ∧ w'.cell? ⟨w.heap.size + 1, 1, none⟩ = some (.slice (some ⟨gb, ob, none⟩) nr db) ∧ w'.cell? ⟨ga, oa + j * 7 + 1, none⟩ = some (.int .i64 lk) ∧ w'.cell? ⟨ga, oa + j * 7 + 2, none⟩ = some (.int .i64 ls) ∧ w'.cell? ⟨ga, oa + j * 7 + 3, none⟩ = some (.slice la ln lca) ∧ w'.cell? ⟨gb, ob + j * 7 + 1, none⟩ = some (.int .i64 lk) ∧ w'.cell? ⟨gb, ob + j * 7 + 2, none⟩ = some (.int .i64 ls) ∧ w'.cell? ⟨gb, ob + j * 7 + 3, none⟩ = some (.slice lb ln lcb)) (first | go_keep | exact HLC.out _ hB1) ((go_at_call 17; refine (HCL.out _ (by exact below_drewN' (Below.refl _ _) 1)).mono ?_; rintro e w1 ⟨rfl, hB1⟩))
          have hk1 : Below wr.heap.size wr w1 := (below_drewN' (Below.refl _ _) 1).trans hB1
          obtain ⟨t0, t1, u0, u1, u2, v0, v1, v2⟩ := HRC.out _ hk1
          have hs1 := hk1.size
          have HRD : Hid (∀ W, Below (w1.drewN 1).heap.size (w1.drewN 1) W → W.cell? ⟨w.heap.size, 1, none⟩ = some (.slice (some ⟨ga, oa, none⟩) nr da) ∧ W.cell? ⟨w.heap.size + 1, 1, none⟩ = some (.slice (some ⟨gb, ob, none⟩) nr db) ∧ W.cell? ⟨ga, oa + j * 7 + 4, none⟩ = some (.int .i64 rk) ∧ W.cell? ⟨ga, oa + j * 7 + 5, none⟩ = some (.int .i64 rs) ∧ W.cell? ⟨ga, oa + j * 7 + 6, none⟩ = some (.slice ra rn rca) ∧ W.cell? ⟨gb, ob + j * 7 + 4, none⟩ = some (.int .i64 rk) ∧ W.cell? ⟨gb, ob + j * 7 + 5, none⟩ = some (.int .i64 rs) ∧ W.cell? ⟨gb, ob + j * 7 + 6, none⟩ = some (.slice rb rn rcb)) := fun W hW => HRC.out W (below_after hk1 ((below_drewN' (Below.refl _ _) 1).trans hW))
          have HCR1 : Hid (∀ W, Below w1.heap.size w1 W → Calls Tryz.prog 17 #[.agg #[.int .i64 rk, .int .i64 rs, .slice ra rn rca], .agg #[.int .i64 rk, .int .i64 rs, .slice rb rn rcb]] W fun e w'' => e = .returned (.bool true) ∧ Below W.heap.size W w'') := fun W hW => HCR.out W (below_after hk1 hW)
          have hga1 : ga < w1.heap.size := by omega
          have hgb1 : gb < w1.heap.size := by omega
          have hlt1 : w.heap.size + 1 < w1.heap.size := by omega
          have HK1 : Hid (Below wr.heap.size wr w1) := hk1
          clear hB1 hk1 a1 b1 l0 l1 l2 m0 m1 m2 HRC HLC hs1
          go_wp2
          go_region_held3 (fun w' => w'.cell? ⟨w.heap.size, 1, none⟩ = some (.slice (some ⟨ga, oa, none⟩) nr da) ∧ w'.cell? ⟨w.heap.size + 1, 1, none⟩ = some (.slice (some ⟨gb, ob, none⟩) nr db) ∧ w'.cell? ⟨ga, oa + j * 7 + 4, none⟩ = some (.int .i64 rk) ∧ w'.cell? ⟨ga, oa + j * 7 + 5, none⟩ = some (.int .i64 rs) ∧ w'.cell? ⟨ga, oa + j * 7 + 6, none⟩ = some (.slice ra rn rca) ∧ w'.cell? ⟨gb, ob + j * 7 + 4, none⟩ = some (.int .i64 rk) ∧ w'.cell? ⟨gb, ob + j * 7 + 5, none⟩ = some (.int .i64 rs) ∧ w'.cell? ⟨gb, ob + j * 7 + 6, none⟩ = some (.slice rb rn rcb)) (first | go_keep | exact HRD.out _ hB2) ((go_at_call 17; refine (HCR1.out _ (by exact below_drewN' (Below.refl _ _) 1)).mono ?_; rintro e w2 ⟨rfl, hB2⟩))
          have hk2 : Below wr.heap.size wr w2 := below_after HK1.out ((below_drewN' (Below.refl _ _) 1).trans hB2)
          obtain ⟨t0', t1', _⟩ := HRD.out _ hB2
          have o0 : w2.cell? ⟨ga, oa + j * 7, none⟩ = some (.bool bb) := (hk2.cell (p := ⟨ga, _, none⟩) hga).trans HBA.out.1
          have o1 : w2.cell? ⟨gb, ob + j * 7, none⟩ = some (.bool bb) := (hk2.cell (p := ⟨gb, _, none⟩) hgb).trans HBA.out.2
          have hs2 := hk2.size
          have hga2 : ga < w2.heap.size := by omega
          have hgb2 : gb < w2.heap.size := by omega
          have hlt2 : w.heap.size + 1 < w2.heap.size := by omega
          have HK2 : Hid (Below wr.heap.size wr w2) := hk2
          clear hB2 hk2 t0 t1 u0 u1 u2 v0 v1 v2 hs2 hga1 hgb1 hlt1
          go_wp2
          go_quiet (fail)
          go_wp2
          go_roundw
          case rel => exact ⟨j + 1, by omega, by go_num, (HK2.out.block _ hlt0).trans HEA2.out, (HK2.out.block _ hlt).trans HEB2.out, below_drewN' (below_after hB HK2.out) _⟩
          case measure => simp [intOf]; omega
        · obtain rfl : nr = j := by omega
          go_wp2
          go_ret
          exact ⟨rfl, hB⟩
end Go.Proofs.YtfdjchnckjgapaaGreatDoor

namespace Go.Proofs.YtfdjchnckjgapaaGreatDoor
open Go.RowKit Go.Shelf S1
set_option linter.unusedVariables false
def aw8 : List Int := 115 :: 101 :: 116 :: 32 :: 97 :: 32 :: 61 :: 32 :: 91 :: 97 :: 45 :: 122 :: 93 :: 32 :: 45 :: 32 :: 91 :: 120 :: 93 :: 59 :: 32 :: 107 :: 101 :: 101 :: 112 :: 32 :: 97 :: 32 :: 47 :: 32 :: 97 :: 42 :: 59 :: []
theorem aw8_parse : parseL (toksL 33 (ascU 0 aw8)) = .inr ([⟨false, ⟨1, 0, []⟩, ⟨3, 0, [⟨1, 0, []⟩]⟩⟩], [[⟨97, 119⟩, ⟨121, 122⟩]]) := by kernel_rfl
theorem aw8_byt : Byt aw8 := by intro c hc; simp [aw8] at hc; omega
set_option maxRecDepth 100000 in
set_option maxHeartbeats 4000000 in
theorem awake8_any (w : World) (hsv : SynV w) : Calls Tryz.prog 8 #[] w fun e w' => e = .returned (.bool true) ∧ Below w.heap.size w w' := by
  have hcv := Go.Lib.run_convert_bytes_const (P := Tryz.prog) w 22 5 (aw8.map (Value.int .u8)).toArray 33 33 Tryz.underlying22 Tryz.underlying5
  have hbl := bytes_lit (w := w) aw8 5 (33, 34) 33 (Nat.le_refl _)
  have hB1 : Below w.heap.size w (w.alloc (.cells (aw8.map (Value.int .u8)).toArray 5 (33, 34))) := (Below.refl _ w).alloc (Nat.le_refl _) _
  have htk := parse_any8 aw8 aw8_byt (by decide) (ascU 0 aw8) (run_ascii (by intro c hc; simp [aw8] at hc; omega)) (some ⟨w.heap.size, 0, none⟩) 33 (w.alloc (.cells (aw8.map (Value.int .u8)).toArray 5 (33, 34))) (hsv.grown (World.grownBy_alloc _ _ none) (by simp)) (by rw [World.size_alloc]; exact hbl)
  have e33 : aw8.length = 33 := rfl
  rw [e33, aw8_parse] at htk
  have HB1 : Hid (Below w.heap.size w (w.alloc (.cells (aw8.map (Value.int .u8)).toArray 5 (33, 34)))) := hB1
  obtain ⟨W1, hW1⟩ : ∃ W1, W1 = w.alloc (.cells (aw8.map (Value.int .u8)).toArray 5 (33, 34)) := ⟨_, rfl⟩
  have hcv' : (convert 22 22 (.slice (some ⟨w.heap.size, 0, none⟩) 33 33)).run Tryz.prog (w.alloc (.cells (List.toArray (.int .u8 115 :: .int .u8 101 :: .int .u8 116 :: .int .u8 32 :: .int .u8 97 :: .int .u8 32 :: .int .u8 61 :: .int .u8 32 :: .int .u8 91 :: .int .u8 97 :: .int .u8 45 :: .int .u8 122 :: .int .u8 93 :: .int .u8 32 :: .int .u8 45 :: .int .u8 32 :: .int .u8 91 :: .int .u8 120 :: .int .u8 93 :: .int .u8 59 :: .int .u8 32 :: .int .u8 107 :: .int .u8 101 :: .int .u8 101 :: .int .u8 112 :: .int .u8 32 :: .int .u8 97 :: .int .u8 32 :: .int .u8 47 :: .int .u8 32 :: .int .u8 97 :: .int .u8 42 :: .int .u8 59 :: [])) 5)) = .ok (.slice (some ⟨w.heap.size, 0, none⟩) 33 33) W1 := by rw [hW1]; exact hcv
  rw [← hW1] at htk HB1
  clear hW1 hcv hbl hB1 e33
  go_enter Tryz.func8, Tryz.ntmps8
  go_wp2_with fail
  refine htk.mono ?_
  rintro e w2 ⟨hB2, (⟨a, x, h, _⟩ | ⟨rs, st, sv, rv, hl, rfl, hpg⟩)⟩
  · cases h
  · have hl := Sum.inr.inj hl
    obtain ⟨hl1, hl2⟩ := Prod.mk.inj hl
    have hss := hpg.sets
    have hrr := hpg.rules
    rw [← hl1] at hrr
    rw [← hl2] at hss
    obtain ⟨sa, sc, rfl, hsc, hs⟩ := hss
    obtain ⟨ra, rc, rfl, hrc, hr⟩ := hrr
    obtain ⟨gs, os, x, rfl, hgs, s0, hx⟩ := hs 0 (by simp)
    obtain ⟨gr, or, zl, zr, rfl, hgr, c0, c1, c2, c3, c4, c5, c6, _⟩ := hr 0 (by simp)
    obtain ⟨xa, xc, rfl, _⟩ := hx
    simp only [List.length_cons, List.length_nil, Nat.zero_add, List.getElem_cons_zero, Nat.add_zero, Nat.zero_mul] at s0 c4 hsc hrc ⊢
    have hB : Below w.heap.size w w2 := HB1.out.trans (hB2.mono HB1.out.size)
    clear htk hcv' hs hr hpg hl hl1 hl2 c0 c1 c2 c3 c5 c6 hB2
    go_wp2
    go_ret
    exact ⟨rfl, below_after hB (below_alloc _ _)⟩
end Go.Proofs.YtfdjchnckjgapaaGreatDoor
