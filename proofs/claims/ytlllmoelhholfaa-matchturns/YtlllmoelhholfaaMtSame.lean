/-
  Two expressions of the same content are the same for the document.
-/
import Derived.Test.YtlllmoelhholfaaMtTurnR
import Derived.Deep.RegionHeld3
namespace Go.Proofs.Ytlllmoelhholfaa
open Go.RowKit Go.Shelf
set_option linter.unusedVariables false

set_option maxRecDepth 100000 in
set_option maxHeartbeats 8000000 in
theorem sameNode_body (n : Nd) (za zb : Option Addr) (ca cb : Nat) (w : World) (hl : n.kids.length ≤ 70000)
    (HR : ∀ i, (h : i < n.kids.length) → n.kids.length ≤ ca ∧ n.kids.length ≤ cb ∧ ∃ ga oa gb ob xa ka xb kb, za = some ⟨ga, oa, none⟩ ∧ zb = some ⟨gb, ob, none⟩ ∧ ga < w.heap.size ∧ gb < w.heap.size ∧ w.cell? ⟨ga, oa + i * 3, none⟩ = some (.int .i64 n.kids[i].k) ∧ w.cell? ⟨ga, oa + i * 3 + 1, none⟩ = some (.int .i64 n.kids[i].s) ∧ w.cell? ⟨ga, oa + i * 3 + 2, none⟩ = some (.slice xa n.kids[i].kids.length ka) ∧
      w.cell? ⟨gb, ob + i * 3, none⟩ = some (.int .i64 n.kids[i].k) ∧ w.cell? ⟨gb, ob + i * 3 + 1, none⟩ = some (.int .i64 n.kids[i].s) ∧ w.cell? ⟨gb, ob + i * 3 + 2, none⟩ = some (.slice xb n.kids[i].kids.length kb) ∧
      ∀ w', Below w.heap.size w w' → Calls Try.prog 20 #[.agg #[.int .i64 n.kids[i].k, .int .i64 n.kids[i].s, .slice xa n.kids[i].kids.length ka], .agg #[.int .i64 n.kids[i].k, .int .i64 n.kids[i].s, .slice xb n.kids[i].kids.length kb]] w' fun e w'' => e = .returned (.bool true) ∧ Below w'.heap.size w' w'') :
    Calls Try.prog 20 #[.agg #[.int .i64 n.k, .int .i64 n.s, .slice za n.kids.length ca], .agg #[.int .i64 n.k, .int .i64 n.s, .slice zb n.kids.length cb]] w fun e w' => e = .returned (.bool true) ∧ Below w.heap.size w w' := by
  obtain ⟨len, hlen⟩ : ∃ len, len = n.kids.length := ⟨_, rfl⟩
  obtain ⟨nk, hnk⟩ : ∃ x, x = n.k := ⟨_, rfl⟩
  obtain ⟨ns, hns⟩ : ∃ x, x = n.s := ⟨_, rfl⟩
  have HHR : Hid (∀ i, i < len → len ≤ ca ∧ len ≤ cb ∧ ∃ (ga oa gb ob : Nat) (xa : Option Addr) (ka : Nat) (xb : Option Addr) (kb : Nat) (yk ys : Int) (yl : Nat), za = some ⟨ga, oa, none⟩ ∧ zb = some ⟨gb, ob, none⟩ ∧ ga < w.heap.size ∧ gb < w.heap.size ∧ w.cell? ⟨ga, oa + i * 3, none⟩ = some (.int .i64 yk) ∧ w.cell? ⟨ga, oa + i * 3 + 1, none⟩ = some (.int .i64 ys) ∧ w.cell? ⟨ga, oa + i * 3 + 2, none⟩ = some (.slice xa yl ka) ∧
      w.cell? ⟨gb, ob + i * 3, none⟩ = some (.int .i64 yk) ∧ w.cell? ⟨gb, ob + i * 3 + 1, none⟩ = some (.int .i64 ys) ∧ w.cell? ⟨gb, ob + i * 3 + 2, none⟩ = some (.slice xb yl kb) ∧
      ∀ w', Below w.heap.size w w' → Calls Try.prog 20 #[.agg #[.int .i64 yk, .int .i64 ys, .slice xa yl ka], .agg #[.int .i64 yk, .int .i64 ys, .slice xb yl kb]] w' fun e w'' => e = .returned (.bool true) ∧ Below w'.heap.size w' w'') := fun i hi => by
    obtain ⟨h1, h2, ga, oa, gb, ob, xa, ka, xb, kb, h⟩ := HR i (by omega)
    exact ⟨by omega, by omega, ga, oa, gb, ob, xa, ka, xb, kb, _, _, _, h⟩
  rw [← hlen, ← hnk, ← hns]
  have hll : len ≤ 70000 := by omega
  have hkk : (nk != nk) = false := by simp
  have hss : (ns != ns) = false := by simp
  have hee : ((len : Int) != (len : Int)) = false := by simp
  have HB0 : Hid (Below w.heap.size w ((w.alloc (.cells #[.int .i64 nk, .int .i64 ns, .slice za len ca] 24)).alloc (.cells #[.int .i64 nk, .int .i64 ns, .slice zb len cb] 24))) := below_after (below_alloc _ _) (below_alloc _ _)
  have HEB : Hid (((w.alloc (.cells #[.int .i64 nk, .int .i64 ns, .slice za len ca] 24)).alloc (.cells #[.int .i64 nk, .int .i64 ns, .slice zb len cb] 24)).heap[w.heap.size + 1]? = some (.cells #[.int .i64 nk, .int .i64 ns, .slice zb len cb] 24 (0, 0))) := by
    have := heap_new' (w.alloc (.cells #[.int .i64 nk, .int .i64 ns, .slice za len ca] 24)) (.cells #[.int .i64 nk, .int .i64 ns, .slice zb len cb] 24)
    rw [World.size_alloc] at this
    exact this
  have HEA : Hid (((w.alloc (.cells #[.int .i64 nk, .int .i64 ns, .slice za len ca] 24)).alloc (.cells #[.int .i64 nk, .int .i64 ns, .slice zb len cb] 24)).heap[w.heap.size]? = some (.cells #[.int .i64 nk, .int .i64 ns, .slice za len ca] 24 (0, 0))) := ((below_alloc (w.alloc _) _).block _ (by simp)).trans (heap_new' w _)
  clear HR hlen hnk hns hl
  go_enter Try.func20, Try.ntmps20
  go_wp2
  go_loopw [5] (fun x wr => ∃ (j : Nat), j ≤ len ∧ x = .int .i64 (j : Int) ∧ wr.heap[w.heap.size]? = some (.cells #[.int .i64 nk, .int .i64 ns, .slice za len ca] 24 (0, 0)) ∧ wr.heap[w.heap.size + 1]? = some (.cells #[.int .i64 nk, .int .i64 ns, .slice zb len cb] 24 (0, 0)) ∧ Below w.heap.size w wr) (fun x _ => len - (intOf x).toNat)
  case atStart => exact ⟨0, Nat.zero_le _, rfl, HEA.out, HEB.out, HB0.out⟩
  case round =>
    obtain ⟨j, hj, rfl, hEA, hEB, hB⟩ := hrel
    have hlt : w.heap.size + 1 < wr.heap.size := (Array.getElem?_eq_some_iff.1 hEB).1
    have a2 : wr.cell? ⟨w.heap.size, 2, none⟩ = some (.slice za len ca) := cell_of_row _ _ 2 _ _ _ hEA
    have b2 : wr.cell? ⟨w.heap.size + 1, 2, none⟩ = some (.slice zb len cb) := cell_of_row _ _ 2 _ _ _ hEB
    have HEA' : Hid (wr.heap[w.heap.size]? = some (.cells #[.int .i64 nk, .int .i64 ns, .slice za len ca] 24 (0, 0))) := hEA
    have HEB' : Hid (wr.heap[w.heap.size + 1]? = some (.cells #[.int .i64 nk, .int .i64 ns, .slice zb len cb] 24 (0, 0))) := hEB
    clear hEA hEB
    by_cases hjl : j < len
    · obtain ⟨hca, hcb, ga, oa, gb, ob, xa, ka, xb, kb, yk, ys, yl, rfl, rfl, hga, hgb, p0, p1, p2, q0, q1, q2, hcall⟩ := HHR.out j hjl
      have r0 : wr.cell? ⟨ga, oa + j * 3, none⟩ = some (.int .i64 yk) := (hB.cell (p := ⟨ga, _, none⟩) hga).trans p0
      have r1 : wr.cell? ⟨ga, oa + j * 3 + 1, none⟩ = some (.int .i64 ys) := (hB.cell (p := ⟨ga, _, none⟩) hga).trans p1
      have r2 : wr.cell? ⟨ga, oa + j * 3 + 2, none⟩ = some (.slice xa yl ka) := (hB.cell (p := ⟨ga, _, none⟩) hga).trans p2
      have s0 : wr.cell? ⟨gb, ob + j * 3, none⟩ = some (.int .i64 yk) := (hB.cell (p := ⟨gb, _, none⟩) hgb).trans q0
      have s1 : wr.cell? ⟨gb, ob + j * 3 + 1, none⟩ = some (.int .i64 ys) := (hB.cell (p := ⟨gb, _, none⟩) hgb).trans q1
      have s2 : wr.cell? ⟨gb, ob + j * 3 + 2, none⟩ = some (.slice xb yl kb) := (hB.cell (p := ⟨gb, _, none⟩) hgb).trans q2
      have hga' : ga < wr.heap.size := by omega
      have hgb' : gb < wr.heap.size := by omega
      have hj0 : (0 : Int) ≤ (j : Int) := by omega
      have hj1 : (j : Int) < (len : Int) := by omega
      have HCALL : Hid (∀ W, Below wr.heap.size wr W → Calls Try.prog 20 #[.agg #[.int .i64 yk, .int .i64 ys, .slice xa yl ka], .agg #[.int .i64 yk, .int .i64 ys, .slice xb yl kb]] W fun e w'' => e = .returned (.bool true) ∧ Below W.heap.size W w'') := fun W hW => hcall W (hB.trans (hW.mono hB.size))
      have HKEEP : Hid (∀ w', Below (wr.drewN 1).heap.size (wr.drewN 1) w' → w'.cell? ⟨w.heap.size, 2, none⟩ = some (.slice (some ⟨ga, oa, none⟩) len ca) ∧ w'.cell? ⟨w.heap.size + 1, 2, none⟩ = some (.slice (some ⟨gb, ob, none⟩) len cb) ∧ w'.cell? ⟨ga, oa + j * 3, none⟩ = some (.int .i64 yk) ∧ w'.cell? ⟨ga, oa + j * 3 + 1, none⟩ = some (.int .i64 ys) ∧ w'.cell? ⟨ga, oa + j * 3 + 2, none⟩ = some (.slice xa yl ka) ∧ w'.cell? ⟨gb, ob + j * 3, none⟩ = some (.int .i64 yk) ∧ w'.cell? ⟨gb, ob + j * 3 + 1, none⟩ = some (.int .i64 ys) ∧ w'.cell? ⟨gb, ob + j * 3 + 2, none⟩ = some (.slice xb yl kb)) := fun W hW => by
        have hk : Below wr.heap.size wr W := (below_drewN' (Below.refl _ _) 1).trans hW
        exact ⟨(hk.cell (p := ⟨_, _, none⟩) (show w.heap.size < _ by omega)).trans a2, (hk.cell (p := ⟨_, _, none⟩) hlt).trans b2, (hk.cell (p := ⟨ga, _, none⟩) hga').trans r0, (hk.cell (p := ⟨ga, _, none⟩) hga').trans r1, (hk.cell (p := ⟨ga, _, none⟩) hga').trans r2, (hk.cell (p := ⟨gb, _, none⟩) hgb').trans s0, (hk.cell (p := ⟨gb, _, none⟩) hgb').trans s1, (hk.cell (p := ⟨gb, _, none⟩) hgb').trans s2⟩
      clear p0 p1 p2 q0 q1 q2 hcall
      go_wp2
      go_region_held3 (fun w' => w'.cell? ⟨w.heap.size, 2, none⟩ = some (.slice (some ⟨ga, oa, none⟩) len ca) ∧ w'.cell? ⟨w.heap.size + 1, 2, none⟩ = some (.slice (some ⟨gb, ob, none⟩) len cb) ∧ w'.cell? ⟨ga, oa + j * 3, none⟩ = some (.int .i64 yk) ∧ w'.cell? ⟨ga, oa + j * 3 + 1, none⟩ = some (.int .i64 ys) ∧ w'.cell? ⟨ga, oa + j * 3 + 2, none⟩ = some (.slice xa yl ka) ∧ w'.cell? ⟨gb, ob + j * 3, none⟩ = some (.int .i64 yk) ∧ w'.cell? ⟨gb, ob + j * 3 + 1, none⟩ = some (.int .i64 ys) ∧ w'.cell? ⟨gb, ob + j * 3 + 2, none⟩ = some (.slice xb yl kb)) (first | go_keep | exact HKEEP.out _ hB1) ((go_at_call 20; refine (HCALL.out _ (by exact below_drewN' (Below.refl _ _) 1)).mono ?_; rintro e w1 ⟨rfl, hB1⟩))
      have hk : Below wr.heap.size wr w1 := (below_drewN' (Below.refl _ _) 1).trans hB1
      clear hB1
      go_wp2
      go_roundw
      case rel => exact ⟨j + 1, by omega, by go_num, (hk.block _ (by omega)).trans HEA'.out, (hk.block _ hlt).trans HEB'.out, below_after hB hk⟩
      case measure => simp [intOf]; omega
    · obtain rfl : j = len := by omega
      go_wp2
      go_ret
      exact ⟨rfl, hB⟩


theorem sameNode_any : ∀ (d : Nat) (n : Nd) (za zb : Value) (w : World), Dp d n.kids → KdX (fun k => k < w.heap.size) w za n.kids → KdX (fun k => k < w.heap.size) w zb n.kids → Calls Try.prog 20 #[ndV n za, ndV n zb] w fun e w' => e = .returned (.bool true) ∧ Below w.heap.size w w'
  | d, n, za, zb, w, hd, ha, hb => by
    obtain ⟨a, ca, rfl, _⟩ := ha.slice
    obtain ⟨b, cb, rfl, _⟩ := hb.slice
    refine sameNode_body n a b ca cb w (by have := hd.len; omega) (fun i hi => ?_)
    obtain ⟨g, off, cap, z', e1, e2, e3, e4, e5, e6, e7⟩ := ha.at i hi
    obtain ⟨rfl, _, rfl⟩ : a = some ⟨g, off, none⟩ ∧ n.kids.length = n.kids.length ∧ ca = cap := by simpa using e1
    obtain ⟨xa, xc, rfl, _⟩ := e7.slice
    obtain ⟨g2, off2, cap2, z2, f1, f2, f3, f4, f5, f6, f7⟩ := hb.at i hi
    obtain ⟨rfl, _, rfl⟩ : b = some ⟨g2, off2, none⟩ ∧ n.kids.length = n.kids.length ∧ cb = cap2 := by simpa using f1
    obtain ⟨ya, yc, rfl, _⟩ := f7.slice
    refine ⟨e2, f2, g, off, g2, off2, xa, xc, ya, yc, rfl, rfl, e3, f3, e4, e5, e6, f4, f5, f6, fun W hB => ?_⟩
    match d, hd with
    | 0, hd =>
      have h0 : n.kids = [] := hd
      rw [h0] at hi
      cases hi
    | d + 1, hd => exact sameNode_any d n.kids[i] _ _ W (hd.2 _ (List.getElem_mem hi)) (kdx_below e7 hB) (kdx_below f7 hB)
end Go.Proofs.Ytlllmoelhholfaa
