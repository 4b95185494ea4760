/-
  What SameNode and Same of the document answer of two that are the same. What Same of the document answers of two programs that are the same.
-/
import Derived.Test.YtfdjchnckjgapaaGreatDoorX32
import Derived.Test.YtfdjchnckjgapaaGreatDoorX29
import Derived.Test.YtfdjchnckjgapaaGreatDoorX28
import Derived.Deep.RegionHeld3
namespace Go.Proofs.YtfdjchnckjgapaaGreatDoor
open Go.RowKit Go.Shelf S1
set_option linter.unusedVariables false

set_option maxRecDepth 100000 in
set_option maxHeartbeats 8000000 in
theorem sameNode_body (n : Nd) (za zb : Option Addr) (ca cb : Nat) (w : World) (hl : n.kids.length ≤ 70000)
    (HR : ∀ i, (h : i < n.kids.length) → n.kids.length ≤ ca ∧ n.kids.length ≤ cb ∧ ∃ ga oa gb ob xa ka xb kb, za = some ⟨ga, oa, none⟩ ∧ zb = some ⟨gb, ob, none⟩ ∧ ga < w.heap.size ∧ gb < w.heap.size ∧ w.cell? ⟨ga, oa + i * 3, none⟩ = some (.int .i64 n.kids[i].k) ∧ w.cell? ⟨ga, oa + i * 3 + 1, none⟩ = some (.int .i64 n.kids[i].s) ∧ w.cell? ⟨ga, oa + i * 3 + 2, none⟩ = some (.slice xa n.kids[i].kids.length ka) ∧
      w.cell? ⟨gb, ob + i * 3, none⟩ = some (.int .i64 n.kids[i].k) ∧ w.cell? ⟨gb, ob + i * 3 + 1, none⟩ = some (.int .i64 n.kids[i].s) ∧ w.cell? ⟨gb, ob + i * 3 + 2, none⟩ = some (.slice xb n.kids[i].kids.length kb) ∧
      ∀ w', Below w.heap.size w w' → Calls Tryz.prog 17 #[.agg #[.int .i64 n.kids[i].k, .int .i64 n.kids[i].s, .slice xa n.kids[i].kids.length ka], .agg #[.int .i64 n.kids[i].k, .int .i64 n.kids[i].s, .slice xb n.kids[i].kids.length kb]] w' fun e w'' => e = .returned (.bool true) ∧ Below w'.heap.size w' w'') :
    Calls Tryz.prog 17 #[.agg #[.int .i64 n.k, .int .i64 n.s, .slice za n.kids.length ca], .agg #[.int .i64 n.k, .int .i64 n.s, .slice zb n.kids.length cb]] w fun e w' => e = .returned (.bool true) ∧ Below w.heap.size w w' := by
  obtain ⟨len, hlen⟩ : ∃ len, len = n.kids.length := ⟨_, rfl⟩
  obtain ⟨nk, hnk⟩ : ∃ x, x = n.k := ⟨_, rfl⟩
  obtain ⟨ns, hns⟩ : ∃ x, x = n.s := ⟨_, rfl⟩
  have HHR : Hid (∀ i, i < len → len ≤ ca ∧ len ≤ cb ∧ ∃ (ga oa gb ob : Nat) (xa : Option Addr) (ka : Nat) (xb : Option Addr) (kb : Nat) (yk ys : Int) (yl : Nat), za = some ⟨ga, oa, none⟩ ∧ zb = some ⟨gb, ob, none⟩ ∧ ga < w.heap.size ∧ gb < w.heap.size ∧ w.cell? ⟨ga, oa + i * 3, none⟩ = some (.int .i64 yk) ∧ w.cell? ⟨ga, oa + i * 3 + 1, none⟩ = some (.int .i64 ys) ∧ w.cell? ⟨ga, oa + i * 3 + 2, none⟩ = some (.slice xa yl ka) ∧
      w.cell? ⟨gb, ob + i * 3, none⟩ = some (.int .i64 yk) ∧ w.cell? ⟨gb, ob + i * 3 + 1, none⟩ = some (.int .i64 ys) ∧ w.cell? ⟨gb, ob + i * 3 + 2, none⟩ = some (.slice xb yl kb) ∧
      ∀ w', Below w.heap.size w w' → Calls Tryz.prog 17 #[.agg #[.int .i64 yk, .int .i64 ys, .slice xa yl ka], .agg #[.int .i64 yk, .int .i64 ys, .slice xb yl kb]] w' fun e w'' => e = .returned (.bool true) ∧ Below w'.heap.size w' w'') := fun i hi => by
    obtain ⟨h1, h2, ga, oa, gb, ob, xa, ka, xb, kb, h⟩ := HR i (by omega)
    exact ⟨by omega, by omega, ga, oa, gb, ob, xa, ka, xb, kb, _, _, _, h⟩
  rw [← hlen, ← hnk, ← hns]
  have hll : len ≤ 70000 := by omega
  have hkk : (nk != nk) = false := by simp
  have hss : (ns != ns) = false := by simp
  have hee : ((len : Int) != (len : Int)) = false := by simp
  have HB0 : Hid (Below w.heap.size w ((w.alloc (.cells #[.int .i64 nk, .int .i64 ns, .slice za len ca] 39)).alloc (.cells #[.int .i64 nk, .int .i64 ns, .slice zb len cb] 39))) := below_after (below_alloc _ _) (below_alloc _ _)
  have HEB : Hid (((w.alloc (.cells #[.int .i64 nk, .int .i64 ns, .slice za len ca] 39)).alloc (.cells #[.int .i64 nk, .int .i64 ns, .slice zb len cb] 39)).heap[w.heap.size + 1]? = some (.cells #[.int .i64 nk, .int .i64 ns, .slice zb len cb] 39 (0, 0))) := by
    have := heap_new' (w.alloc (.cells #[.int .i64 nk, .int .i64 ns, .slice za len ca] 39)) (.cells #[.int .i64 nk, .int .i64 ns, .slice zb len cb] 39)
    rw [World.size_alloc] at this
    exact this
  have HEA : Hid (((w.alloc (.cells #[.int .i64 nk, .int .i64 ns, .slice za len ca] 39)).alloc (.cells #[.int .i64 nk, .int .i64 ns, .slice zb len cb] 39)).heap[w.heap.size]? = some (.cells #[.int .i64 nk, .int .i64 ns, .slice za len ca] 39 (0, 0))) := ((below_alloc (w.alloc _) _).block _ (by simp)).trans (heap_new' w _)
  clear HR hlen hnk hns hl
  go_enter Tryz.func17, Tryz.ntmps17
  go_wp2
  go_loopw [5] (fun x wr => ∃ (j : Nat), j ≤ len ∧ x = .int .i64 (j : Int) ∧ wr.heap[w.heap.size]? = some (.cells #[.int .i64 nk, .int .i64 ns, .slice za len ca] 39 (0, 0)) ∧ wr.heap[w.heap.size + 1]? = some (.cells #[.int .i64 nk, .int .i64 ns, .slice zb len cb] 39 (0, 0)) ∧ Below w.heap.size w wr) (fun x _ => len - (intOf x).toNat)
  case atStart => exact ⟨0, Nat.zero_le _, rfl, HEA.out, HEB.out, HB0.out⟩
  case round =>
    obtain ⟨j, hj, rfl, hEA, hEB, hB⟩ := hrel
    have hlt : w.heap.size + 1 < wr.heap.size := (Array.getElem?_eq_some_iff.1 hEB).1
    have a2 : wr.cell? ⟨w.heap.size, 2, none⟩ = some (.slice za len ca) := cell_of_row _ _ 2 _ _ _ hEA
    have b2 : wr.cell? ⟨w.heap.size + 1, 2, none⟩ = some (.slice zb len cb) := cell_of_row _ _ 2 _ _ _ hEB
    have HEA' : Hid (wr.heap[w.heap.size]? = some (.cells #[.int .i64 nk, .int .i64 ns, .slice za len ca] 39 (0, 0))) := hEA
    have HEB' : Hid (wr.heap[w.heap.size + 1]? = some (.cells #[.int .i64 nk, .int .i64 ns, .slice zb len cb] 39 (0, 0))) := hEB
    clear hEA hEB
    by_cases hjl : j < len
    · obtain ⟨hca, hcb, ga, oa, gb, ob, xa, ka, xb, kb, yk, ys, yl, rfl, rfl, hga, hgb, p0, p1, p2, q0, q1, q2, hcall⟩ := HHR.out j hjl
      have r0 : wr.cell? ⟨ga, oa + j * 3, none⟩ = some (.int .i64 yk) := (hB.cell (p := ⟨ga, _, none⟩) hga).trans p0
      have r1 : wr.cell? ⟨ga, oa + j * 3 + 1, none⟩ = some (.int .i64 ys) := (hB.cell (p := ⟨ga, _, none⟩) hga).trans p1
      have r2 : wr.cell? ⟨ga, oa + j * 3 + 2, none⟩ = some (.slice xa yl ka) := (hB.cell (p := ⟨ga, _, none⟩) hga).trans p2
      have s0 : wr.cell? ⟨gb, ob + j * 3, none⟩ = some (.int .i64 yk) := (hB.cell (p := ⟨gb, _, none⟩) hgb).trans q0
      have s1 : wr.cell? ⟨gb, ob + j * 3 + 1, none⟩ = some (.int .i64 ys) := (hB.cell (p := ⟨gb, _, none⟩) hgb).trans q1
      have s2 : wr.cell? ⟨gb, ob + j * 3 + 2, none⟩ = some (.slice xb yl kb) := (hB.cell (p := ⟨gb, _, none⟩) hgb).trans q2
      have hga' : ga < wr.heap.size := by omega
      have hgb' : gb < wr.heap.size := by omega
      have hj0 : (0 : Int) ≤ (j : Int) := by omega
      have hj1 : (j : Int) < (len : Int) := by omega
      have HCALL : Hid (∀ W, Below wr.heap.size wr W → Calls Tryz.prog 17 #[.agg #[.int .i64 yk, .int .i64 ys, .slice xa yl ka], .agg #[.int .i64 yk, .int .i64 ys, .slice xb yl kb]] W fun e w'' => e = .returned (.bool true) ∧ Below W.heap.size W w'') := fun W hW => hcall W (hB.trans (hW.mono hB.size))
      have HKEEP : Hid (∀ w', Below (wr.drewN 1).heap.size (wr.drewN 1) w' → w'.cell? ⟨w.heap.size, 2, none⟩ = some (.slice (some ⟨ga, oa, none⟩) len ca) ∧ w'.cell? ⟨w.heap.size + 1, 2, none⟩ = some (.slice (some ⟨gb, ob, none⟩) len cb) ∧ w'.cell? ⟨ga, oa + j * 3, none⟩ = some (.int .i64 yk) ∧ w'.cell? ⟨ga, oa + j * 3 + 1, none⟩ = some (.int .i64 ys) ∧ w'.cell? ⟨ga, oa + j * 3 + 2, none⟩ = some (.slice xa yl ka) ∧ w'.cell? ⟨gb, ob + j * 3, none⟩ = some (.int .i64 yk) ∧ w'.cell? ⟨gb, ob + j * 3 + 1, none⟩ = some (.int .i64 ys) ∧ w'.cell? ⟨gb, ob + j * 3 + 2, none⟩ = some (.slice xb yl kb)) := fun W hW => by
        have hk : Below wr.heap.size wr W := (below_drewN' (Below.refl _ _) 1).trans hW
        exact ⟨(hk.cell (p := ⟨_, _, none⟩) (show w.heap.size < _ by omega)).trans a2, (hk.cell (p := ⟨_, _, none⟩) hlt).trans b2, (hk.cell (p := ⟨ga, _, none⟩) hga').trans r0, (hk.cell (p := ⟨ga, _, none⟩) hga').trans r1, (hk.cell (p := ⟨ga, _, none⟩) hga').trans r2, (hk.cell (p := ⟨gb, _, none⟩) hgb').trans s0, (hk.cell (p := ⟨gb, _, none⟩) hgb').trans s1, (hk.cell (p := ⟨gb, _, none⟩) hgb').trans s2⟩
      clear p0 p1 p2 q0 q1 q2 hcall
      go_wp2
      go_region_held3 (fun w' => w'.cell? ⟨w.heap.size, 2, none⟩ = some (.slice (some ⟨ga, oa, none⟩) len ca) ∧ w'.cell? ⟨w.heap.size + 1, 2, none⟩ = some (.slice (some ⟨gb, ob, none⟩) len cb) ∧ w'.cell? ⟨ga, oa + j * 3, none⟩ = some (.int .i64 yk) ∧ w'.cell? ⟨ga, oa + j * 3 + 1, none⟩ = some (.int .i64 ys) ∧ w'.cell? ⟨ga, oa + j * 3 + 2, none⟩ = some (.slice xa yl ka) ∧ w'.cell? ⟨gb, ob + j * 3, none⟩ = some (.int .i64 yk) ∧ w'.cell? ⟨gb, ob + j * 3 + 1, none⟩ = some (.int .i64 ys) ∧ w'.cell? ⟨gb, ob + j * 3 + 2, none⟩ = some (.slice xb yl kb)) (first | go_keep | exact HKEEP.out _ hB1) ((go_at_call 17; refine (HCALL.out _ (by exact below_drewN' (Below.refl _ _) 1)).mono ?_; rintro e w1 ⟨rfl, hB1⟩))
      have hk : Below wr.heap.size wr w1 := (below_drewN' (Below.refl _ _) 1).trans hB1
      clear hB1
      go_wp2
      go_roundw
      case rel => exact ⟨j + 1, by omega, by go_num, (hk.block _ (by omega)).trans HEA'.out, (hk.block _ hlt).trans HEB'.out, below_after hB hk⟩
      case measure => simp [intOf]; omega
    · obtain rfl : j = len := by omega
      go_wp2
      go_ret
      exact ⟨rfl, hB⟩

theorem KidS.slice {Q : Nat → Prop} {w : World} {f : Nat} {z : Value} {l : List Nd} (h : KidS Q w f z l) : ∃ a cap, z = .slice a l.length cap := by
  cases f with
  | zero => obtain ⟨rfl, a, cap, e⟩ := h; exact ⟨a, cap, e⟩
  | succ f => obtain ⟨a, cap, e, hc, _⟩ := h; exact ⟨a, cap, e⟩
theorem sameNode_any : ∀ (f : Nat) (n : Nd) (z z' : Value) (w : World), KidS (fun k => k < w.heap.size) w f z n.kids → KidS (fun k => k < w.heap.size) w f z' n.kids → Wid f n.kids →
    Calls Tryz.prog 17 #[ndV n z, ndV n z'] w fun e w' => e = .returned (.bool true) ∧ Below w.heap.size w w'
  | 0, n, z, z', w, h, h', hw => by
    obtain ⟨a, ca, rfl⟩ := h.slice
    obtain ⟨b, cb, rfl⟩ := h'.slice
    have h0 : n.kids = [] := h.1
    exact sameNode_body n a b ca cb w (by rw [h0]; simp) (fun i hi => by rw [h0] at hi; cases hi)
  | f + 1, n, z, z', w, h, h', hw => by
    obtain ⟨a, ca, rfl, hca, hia⟩ := h
    obtain ⟨b, cb, rfl, hcb, hib⟩ := h'
    refine sameNode_body n a b ca cb w hw.1 (fun i hi => ?_)
    obtain ⟨ga, oa, xa, rfl, hga, p0, p1, p2, p3⟩ := hia i hi
    obtain ⟨gb, ob, xb, rfl, hgb, q0, q1, q2, q3⟩ := hib i hi
    obtain ⟨ya, ka, rfl⟩ := p3.slice
    obtain ⟨yb, kb, rfl⟩ := q3.slice
    refine ⟨hca, hcb, ga, oa, gb, ob, ya, ka, yb, kb, rfl, rfl, hga, hgb, p0, p1, p2, q0, q1, q2, fun w' hB => ?_⟩
    have hq : ∀ k, k < w.heap.size → w'.heap[k]? = w.heap[k]? ∧ k < w'.heap.size := fun k hk => ⟨hB.block k hk, Nat.lt_of_lt_of_le hk hB.size⟩
    exact sameNode_any f n.kids[i] _ _ w' (p3.to hq) (q3.to hq) (hw.2 _ (List.getElem_mem hi))
theorem sameNode_of {n : Nd} {z z' : Value} {w : World} (h : KdX (fun k => k < w.heap.size) w z n.kids) (h' : KdX (fun k => k < w.heap.size) w z' n.kids) (hw : WdN n) :
    Calls Tryz.prog 17 #[ndV n z, ndV n z'] w fun e w' => e = .returned (.bool true) ∧ Below w.heap.size w w' := by
  obtain ⟨f, h⟩ := h
  obtain ⟨g, h'⟩ := h'
  have h2 := h'.le f
  rw [Nat.add_comm] at h2
  exact sameNode_any (f + g) n z z' w (h.le g) h2 (hw _)

/-- The slice value sv holds the slices of the sets st. -/
def SetIn (w : World) (sv : Value) (st : Sts) : Prop :=
  ∃ a cap, sv = .slice a st.length cap ∧ st.length ≤ cap ∧ ∀ i, (h : i < st.length) → ∃ g off x, a = some ⟨g, off, none⟩ ∧ g < w.heap.size ∧ w.cell? ⟨g, off + i, none⟩ = some x ∧ RngIn w x st[i]
/-- The slice value rv holds the rules rl. -/
def RulIn (w : World) (rv : Value) (rl : List Rl) : Prop :=
  ∃ a cap, rv = .slice a rl.length cap ∧ rl.length ≤ cap ∧ ∀ i, (h : i < rl.length) → ∃ g off zl zr, a = some ⟨g, off, none⟩ ∧ g < w.heap.size ∧ w.cell? ⟨g, off + i * 7, none⟩ = some (.bool rl[i].b) ∧ w.cell? ⟨g, off + i * 7 + 1, none⟩ = some (.int .i64 rl[i].l.k) ∧ w.cell? ⟨g, off + i * 7 + 2, none⟩ = some (.int .i64 rl[i].l.s) ∧ w.cell? ⟨g, off + i * 7 + 3, none⟩ = some zl ∧
    w.cell? ⟨g, off + i * 7 + 4, none⟩ = some (.int .i64 rl[i].r.k) ∧ w.cell? ⟨g, off + i * 7 + 5, none⟩ = some (.int .i64 rl[i].r.s) ∧ w.cell? ⟨g, off + i * 7 + 6, none⟩ = some zr ∧ KdX (fun k => k < w.heap.size) w zl rl[i].l.kids ∧ KdX (fun k => k < w.heap.size) w zr rl[i].r.kids
theorem SetIn.below {w w' : World} {v : Value} {st : Sts} (h : SetIn w v st) (hb : Below w.heap.size w w') : SetIn w' v st := by
  obtain ⟨a, cap, rfl, hc, hi⟩ := h
  refine ⟨a, cap, rfl, hc, fun i hlt => ?_⟩
  obtain ⟨g, off, x, rfl, hg, h0, h1⟩ := hi i hlt
  exact ⟨g, off, x, rfl, Nat.lt_of_lt_of_le hg hb.size, (hb.cell (p := ⟨g, _, none⟩) hg).trans h0, h1.below hb⟩
theorem RulIn.below {w w' : World} {v : Value} {rl : List Rl} (h : RulIn w v rl) (hb : Below w.heap.size w w') : RulIn w' v rl := by
  obtain ⟨a, cap, rfl, hc, hi⟩ := h
  refine ⟨a, cap, rfl, hc, fun i hlt => ?_⟩
  have hq : ∀ k, k < w.heap.size → w'.heap[k]? = w.heap[k]? ∧ k < w'.heap.size := fun k hk => ⟨hb.block k hk, Nat.lt_of_lt_of_le hk hb.size⟩
  obtain ⟨g, off, zl, zr, rfl, hg, h0, h1, h2, h3, h4, h5, h6, h7, h8⟩ := hi i hlt
  exact ⟨g, off, zl, zr, rfl, Nat.lt_of_lt_of_le hg hb.size, (hb.cell (p := ⟨g, _, none⟩) hg).trans h0, (hb.cell (p := ⟨g, _, none⟩) hg).trans h1, (hb.cell (p := ⟨g, _, none⟩) hg).trans h2, (hb.cell (p := ⟨g, _, none⟩) hg).trans h3, (hb.cell (p := ⟨g, _, none⟩) hg).trans h4, (hb.cell (p := ⟨g, _, none⟩) hg).trans h5, (hb.cell (p := ⟨g, _, none⟩) hg).trans h6, h7.to hq, h8.to hq⟩
theorem cellsRls_at : ∀ (l : List RlV) (i j : Nat) (h : i < l.length), j < 7 → (cellsRls l)[i * 7 + j]? = (cellsRl l[i])[j]?
  | u :: us, 0, j, h, hj => by
    have e : cellsRls (u :: us) = cellsRl u ++ cellsRls us := rfl
    rw [e, Nat.zero_mul, Nat.zero_add, List.getElem?_append_left (by simpa [cellsRl] using hj)]
    rfl
  | u :: us, i + 1, j, h, hj => by
    have e : cellsRls (u :: us) = cellsRl u ++ cellsRls us := rfl
    rw [e, List.getElem?_append_right (by simp [cellsRl]; omega)]
    have e2 : (i + 1) * 7 + j - (cellsRl u).length = i * 7 + j := by simp [cellsRl]; omega
    rw [e2, cellsRls_at us i j (by simpa using h) hj]
    rfl
theorem PrgAt.sets {base : Nat} {w : World} {sv rv : Value} {rs : List RlV} {st : Sts} (h : PrgAt base w sv rv rs st) : SetIn w sv st := by
  obtain ⟨⟨vs, e6, e6'⟩, _⟩ := h
  have e6'' := e6
  rcases e6.2 with ⟨rfl, h0⟩ | ⟨g, cap, cur, rfl, hb, hg, hc2, hm, hs, ht⟩
  · obtain rfl : st = [] := List.length_eq_zero_iff.1 h0
    exact ⟨none, 0, rfl, by simp, fun i hi => (by cases hi)⟩
  · refine ⟨_, cap, rfl, hc2, fun i hi => ?_⟩
    obtain ⟨x, q1, q2, q3⟩ := e6'.2 i hi
    have := e6''.cells (g := g) rfl i x q1
    rw [add_lit'] at this
    exact ⟨g, 0, x, rfl, (Array.getElem?_eq_some_iff.1 hg).1, this, q2.rng (fun k hk => hk)⟩
theorem PrgAt.rules {base : Nat} {w : World} {sv rv : Value} {rs : List RlV} {st : Sts} (h : PrgAt base w sv rv rs st) : RulIn w rv (rs.map Prod.fst) := by
  obtain ⟨_, h, hx, _⟩ := h
  rcases h.2 with ⟨rfl, h0⟩ | ⟨g, cap, cur, rfl, hb, hg, hc, hm, hs, ht⟩
  · obtain rfl : rs = [] := List.length_eq_zero_iff.1 h0
    exact ⟨none, 0, rfl, by simp, fun i hi => (by cases hi)⟩
  · have key : ∀ i j x, i < rs.length → (cellsRls rs)[i * 7 + j]? = some x → w.cell? ⟨g, 0 + i * 7 + j, none⟩ = some x := fun i j x hi hx => by
      have := h.cells (g := g) rfl (i * 7 + j) x hx
      rw [add_lit'] at this
      rw [Nat.add_assoc]
      exact this
    refine ⟨some ⟨g, 0, none⟩, cap, by simp, by simpa using hc, fun i hi => ?_⟩
    have hi' : i < rs.length := by simpa using hi
    have el : (rs.map Prod.fst)[i] = rs[i].1 := by simp
    rw [el]
    obtain ⟨x1, x2⟩ := hx rs[i] (List.getElem_mem hi')
    exact ⟨g, 0, rs[i].2.1, rs[i].2.2, rfl, (Array.getElem?_eq_some_iff.1 hg).1, key i 0 _ hi' (by rw [cellsRls_at rs i 0 hi' (by omega)]; rfl), key i 1 _ hi' (by rw [cellsRls_at rs i 1 hi' (by omega)]; rfl), key i 2 _ hi' (by rw [cellsRls_at rs i 2 hi' (by omega)]; rfl), key i 3 _ hi' (by rw [cellsRls_at rs i 3 hi' (by omega)]; rfl), key i 4 _ hi' (by rw [cellsRls_at rs i 4 hi' (by omega)]; rfl), key i 5 _ hi' (by rw [cellsRls_at rs i 5 hi' (by omega)]; rfl), key i 6 _ hi' (by rw [cellsRls_at rs i 6 hi' (by omega)]; rfl), x1, x2⟩
end Go.Proofs.YtfdjchnckjgapaaGreatDoor

namespace Go.Proofs.YtfdjchnckjgapaaGreatDoor
open Go.RowKit Go.Shelf S1
set_option linter.unusedVariables false

set_option maxRecDepth 100000 in
set_option maxHeartbeats 16000000 in
theorem same_any8 (rl : List Rl) (st : Sts) (hrl : rl.length ≤ 70000) (hsl : st.length ≤ 70000) (hst : ∀ s ∈ st, s.length ≤ 600000) (hwd : ∀ x ∈ rl, WdR x) (sv rv sv' rv' : Value) (w : World) (h : SetIn w sv st) (h' : SetIn w sv' st) (k : RulIn w rv rl) (k' : RulIn w rv' rl) :
    Calls Tryz.prog 11 #[.agg #[sv, rv], .agg #[sv', rv']] w fun e w' => e = .returned (.bool true) ∧ Below w.heap.size w w' := by
  have HSA : Hid (SetIn w sv st) := h
  have HSB : Hid (SetIn w sv' st) := h'
  have HRA : Hid (RulIn w rv rl) := k
  have HRB : Hid (RulIn w rv' rl) := k'
  have HST : Hid (∀ s ∈ st, s.length ≤ 600000) := hst
  have HWD : Hid (∀ x ∈ rl, WdR x) := hwd
  obtain ⟨za, ca, rfl, hca, _⟩ := h
  obtain ⟨zb, cb, rfl, hcb, _⟩ := h'
  obtain ⟨ya, da, rfl, hda, _⟩ := k
  obtain ⟨yb, db, rfl, hdb, _⟩ := k'
  obtain ⟨ns, hns⟩ : ∃ x, x = st.length := ⟨_, rfl⟩
  obtain ⟨nr, hnr⟩ : ∃ x, x = rl.length := ⟨_, rfl⟩
  rw [← hns] at hsl HSA HSB hca hcb ⊢
  rw [← hnr] at hrl HRA HRB hda hdb ⊢
  have HNS : Hid (ns = st.length) := hns
  have HNR : Hid (nr = rl.length) := hnr
  have hss : ((ns : Int) != (ns : Int)) = false := by simp
  have hrr : ((nr : Int) != (nr : Int)) = false := by simp
  have HB0 : Hid (Below w.heap.size w ((w.alloc (.cells #[.slice za ns ca, .slice ya nr da] 27)).alloc (.cells #[.slice zb ns cb, .slice yb nr db] 27))) := below_after (below_alloc _ _) (below_alloc _ _)
  have HEB : Hid (((w.alloc (.cells #[.slice za ns ca, .slice ya nr da] 27)).alloc (.cells #[.slice zb ns cb, .slice yb nr db] 27)).heap[w.heap.size + 1]? = some (.cells #[.slice zb ns cb, .slice yb nr db] 27 (0, 0))) := by
    have := heap_new' (w.alloc (.cells #[.slice za ns ca, .slice ya nr da] 27)) (.cells #[.slice zb ns cb, .slice yb nr db] 27)
    rw [World.size_alloc] at this
    exact this
  have HEA : Hid (((w.alloc (.cells #[.slice za ns ca, .slice ya nr da] 27)).alloc (.cells #[.slice zb ns cb, .slice yb nr db] 27)).heap[w.heap.size]? = some (.cells #[.slice za ns ca, .slice ya nr da] 27 (0, 0))) := ((below_alloc (w.alloc _) _).block _ (by simp)).trans (heap_new' w _)
  clear hst hwd hns hnr
  go_enter Tryz.func11, Tryz.ntmps11
  go_wp2
  go_loopw [5] (fun x wr => ∃ (j : Nat), j ≤ ns ∧ x = .int .i64 (j : Int) ∧ wr.heap[w.heap.size]? = some (.cells #[.slice za ns ca, .slice ya nr da] 27 (0, 0)) ∧ wr.heap[w.heap.size + 1]? = some (.cells #[.slice zb ns cb, .slice yb nr db] 27 (0, 0)) ∧ Below w.heap.size w wr) (fun x _ => ns - (intOf x).toNat)
  case atStart => exact ⟨0, Nat.zero_le _, rfl, HEA.out, HEB.out, HB0.out⟩
  case round =>
    obtain ⟨j, hj, rfl, hEA, hEB, hB⟩ := hrel
    have hlt : w.heap.size + 1 < wr.heap.size := (Array.getElem?_eq_some_iff.1 hEB).1
    have hlt0 : w.heap.size < wr.heap.size := (Array.getElem?_eq_some_iff.1 hEA).1
    have a0 : wr.cell? ⟨w.heap.size, 0, none⟩ = some (.slice za ns ca) := cell_of_row _ _ 0 _ _ _ hEA
    have b0 : wr.cell? ⟨w.heap.size + 1, 0, none⟩ = some (.slice zb ns cb) := cell_of_row _ _ 0 _ _ _ hEB
    have a1 : wr.cell? ⟨w.heap.size, 1, none⟩ = some (.slice ya nr da) := cell_of_row _ _ 1 _ _ _ hEA
    have b1 : wr.cell? ⟨w.heap.size + 1, 1, none⟩ = some (.slice yb nr db) := cell_of_row _ _ 1 _ _ _ hEB
    have HEA' : Hid (wr.heap[w.heap.size]? = some (.cells #[.slice za ns ca, .slice ya nr da] 27 (0, 0))) := hEA
    have HEB' : Hid (wr.heap[w.heap.size + 1]? = some (.cells #[.slice zb ns cb, .slice yb nr db] 27 (0, 0))) := hEB
    clear hEA hEB
    by_cases hjl : j < ns
    · obtain ⟨ga, oa, xa, xca, gb, ob, xb, xcb, yl, rfl, rfl, hga, hgb, r0, s0, hcall⟩ : ∃ (ga oa : Nat) (xa : Option Addr) (xca : Nat) (gb ob : Nat) (xb : Option Addr) (xcb yl : Nat), za = some ⟨ga, oa, none⟩ ∧ zb = some ⟨gb, ob, none⟩ ∧ ga < wr.heap.size ∧ gb < wr.heap.size ∧ wr.cell? ⟨ga, oa + j, none⟩ = some (.slice xa yl xca) ∧ wr.cell? ⟨gb, ob + j, none⟩ = some (.slice xb yl xcb) ∧ ∀ W, Below wr.heap.size wr W → Calls Tryz.prog 24 #[.slice xa yl xca, .slice xb yl xcb] W fun e w'' => e = .returned (.bool true) ∧ Below W.heap.size W w'' := by
        obtain ⟨a, ca', e1, _, hi⟩ := HSA.out.below hB
        obtain ⟨b, cb', e2, _, hi'⟩ := HSB.out.below hB
        have hjs : j < st.length := by have := HNS.out; omega
        obtain ⟨ga, oa, x, rfl, hga, h0, h1⟩ := hi j hjs
        obtain ⟨gb, ob, y, rfl, hgb, k0, k1⟩ := hi' j hjs
        have h1' := h1
        have k1' := k1
        obtain ⟨xa, xca, rfl, _⟩ := h1'
        obtain ⟨xb, xcb, rfl, _⟩ := k1'
        have e1' : za = some ⟨ga, oa, none⟩ := by simp at e1; exact e1.1
        have e2' : zb = some ⟨gb, ob, none⟩ := by simp at e2; exact e2.1
        refine ⟨ga, oa, xa, xca, gb, ob, xb, xcb, _, e1', e2', hga, hgb, h0, k0, fun W hW => ?_⟩
        have hc := sameG_any st[j] st[j] (HST.out _ (List.getElem_mem hjs)) _ _ W (h1.below hW) (k1.below hW)
        rw [sameS_iff.2 rfl] at hc
        exact hc
      have hj0 : (0 : Int) ≤ (j : Int) := by omega
      have hj1 : (j : Int) < (ns : Int) := by omega
      have HCALL : Hid (∀ W, Below wr.heap.size wr W → Calls Tryz.prog 24 #[.slice xa yl xca, .slice xb yl xcb] W fun e w'' => e = .returned (.bool true) ∧ Below W.heap.size W w'') := hcall
      have HKEEP : Hid (∀ w', Below (wr.drewN 1).heap.size (wr.drewN 1) w' → w'.cell? ⟨w.heap.size, 0, none⟩ = some (.slice (some ⟨ga, oa, none⟩) ns ca) ∧ w'.cell? ⟨w.heap.size + 1, 0, none⟩ = some (.slice (some ⟨gb, ob, none⟩) ns cb) ∧ w'.cell? ⟨ga, oa + j, none⟩ = some (.slice xa yl xca) ∧ w'.cell? ⟨gb, ob + j, none⟩ = some (.slice xb yl xcb)) := fun W hW => by
        have hk : Below wr.heap.size wr W := (below_drewN' (Below.refl _ _) 1).trans hW
        exact ⟨(hk.cell (p := ⟨_, _, none⟩) hlt0).trans a0, (hk.cell (p := ⟨_, _, none⟩) hlt).trans b0, (hk.cell (p := ⟨ga, _, none⟩) hga).trans r0, (hk.cell (p := ⟨gb, _, none⟩) hgb).trans s0⟩
      clear hcall a1 b1
      go_wp2
      go_region_held3 (fun w' => w'.cell? ⟨w.heap.size, 0, none⟩ = some (.slice (some ⟨ga, oa, none⟩) ns ca) ∧ w'.cell? ⟨w.heap.size + 1, 0, none⟩ = some (.slice (some ⟨gb, ob, none⟩) ns cb) ∧ w'.cell? ⟨ga, oa + j, none⟩ = some (.slice xa yl xca) ∧ w'.cell? ⟨gb, ob + j, none⟩ = some (.slice xb yl xcb)) (first | go_keep | exact HKEEP.out _ hB1) ((go_at_call 24; refine (HCALL.out _ (by exact below_drewN' (Below.refl _ _) 1)).mono ?_; rintro e w1 ⟨rfl, hB1⟩))
      have hk : Below wr.heap.size wr w1 := (below_drewN' (Below.refl _ _) 1).trans hB1
      clear hB1
      go_wp2
      go_roundw
      case rel => exact ⟨j + 1, by omega, by go_num, (hk.block _ hlt0).trans HEA'.out, (hk.block _ hlt).trans HEB'.out, below_after hB hk⟩
      case measure => simp [intOf]; omega
    · obtain rfl : ns = j := by omega
      clear hjl
      have HB1 : Hid (Below w.heap.size w wr) := hB
      clear hB
      go_wp2
      go_loopw [7] (fun x wr => ∃ (j : Nat), j ≤ nr ∧ x = .int .i64 (j : Int) ∧ wr.heap[w.heap.size]? = some (.cells #[.slice za ns ca, .slice ya nr da] 27 (0, 0)) ∧ wr.heap[w.heap.size + 1]? = some (.cells #[.slice zb ns cb, .slice yb nr db] 27 (0, 0)) ∧ Below w.heap.size w wr) (fun x _ => nr - (intOf x).toNat)
      case atStart => exact ⟨0, Nat.zero_le _, rfl, HEA'.out, HEB'.out, HB1.out⟩
      case round =>
        obtain ⟨j, hj, rfl, hEA, hEB, hB⟩ := hrel
        have hlt : w.heap.size + 1 < wr.heap.size := (Array.getElem?_eq_some_iff.1 hEB).1
        have hlt0 : w.heap.size < wr.heap.size := (Array.getElem?_eq_some_iff.1 hEA).1
        have a1 : wr.cell? ⟨w.heap.size, 1, none⟩ = some (.slice ya nr da) := cell_of_row _ _ 1 _ _ _ hEA
        have b1 : wr.cell? ⟨w.heap.size + 1, 1, none⟩ = some (.slice yb nr db) := cell_of_row _ _ 1 _ _ _ hEB
        have HEA2 : Hid (wr.heap[w.heap.size]? = some (.cells #[.slice za ns ca, .slice ya nr da] 27 (0, 0))) := hEA
        have HEB2 : Hid (wr.heap[w.heap.size + 1]? = some (.cells #[.slice zb ns cb, .slice yb nr db] 27 (0, 0))) := hEB
        clear hEA hEB
        by_cases hjl : j < nr
        · obtain ⟨ga, oa, gb, ob, bb, lk, ls, la, ln, lca, lb, lcb, rk, rs, ra, rn, rca, rb, rcb, rfl, rfl, hga, hgb, hbA, hbB, ⟨l0, l1, l2, m0, m1, m2⟩, ⟨r0, r1, r2, s0, s1, s2⟩, hcl, hcr⟩ : ∃ (ga oa gb ob : Nat) (bb : Bool) (lk ls : Int) (la : Option Addr) (ln lca : Nat) (lb : Option Addr) (lcb : Nat) (rk rs : Int) (ra : Option Addr) (rn rca : Nat) (rb : Option Addr) (rcb : Nat), ya = some ⟨ga, oa, none⟩ ∧ yb = some ⟨gb, ob, none⟩ ∧ ga < wr.heap.size ∧ gb < wr.heap.size ∧ wr.cell? ⟨ga, oa + j * 7, none⟩ = some (.bool bb) ∧ wr.cell? ⟨gb, ob + j * 7, none⟩ = some (.bool bb) ∧ (wr.cell? ⟨ga, oa + j * 7 + 1, none⟩ = some (.int .i64 lk) ∧ wr.cell? ⟨ga, oa + j * 7 + 2, none⟩ = some (.int .i64 ls) ∧ wr.cell? ⟨ga, oa + j * 7 + 3, none⟩ = some (.slice la ln lca) ∧ wr.cell? ⟨gb, ob + j * 7 + 1, none⟩ = some (.int .i64 lk) ∧ wr.cell? ⟨gb, ob + j * 7 + 2, none⟩ = some (.int .i64 ls) ∧ wr.cell? ⟨gb, ob + j * 7 + 3, none⟩ = some (.slice lb ln lcb)) ∧ (wr.cell? ⟨ga, oa + j * 7 + 4, none⟩ = some (.int .i64 rk) ∧ wr.cell? ⟨ga, oa + j * 7 + 5, none⟩ = some (.int .i64 rs) ∧ wr.cell? ⟨ga, oa + j * 7 + 6, none⟩ = some (.slice ra rn rca) ∧ wr.cell? ⟨gb, ob + j * 7 + 4, none⟩ = some (.int .i64 rk) ∧ wr.cell? ⟨gb, ob + j * 7 + 5, none⟩ = some (.int .i64 rs) ∧ wr.cell? ⟨gb, ob + j * 7 + 6, none⟩ = some (.slice rb rn rcb)) ∧ (∀ W, Below wr.heap.size wr W → Calls Tryz.prog 17 #[.agg #[.int .i64 lk, .int .i64 ls, .slice la ln lca], .agg #[.int .i64 lk, .int .i64 ls, .slice lb ln lcb]] W fun e w'' => e = .returned (.bool true) ∧ Below W.heap.size W w'') ∧ (∀ W, Below wr.heap.size wr W → Calls Tryz.prog 17 #[.agg #[.int .i64 rk, .int .i64 rs, .slice ra rn rca], .agg #[.int .i64 rk, .int .i64 rs, .slice rb rn rcb]] W fun e w'' => e = .returned (.bool true) ∧ Below W.heap.size W w'') := by
            obtain ⟨a, ca', e1, _, hi⟩ := HRA.out.below hB
            obtain ⟨b, cb', e2, _, hi'⟩ := HRB.out.below hB
            have hjs : j < rl.length := by have := HNR.out; omega
            obtain ⟨ga, oa, zl, zr, rfl, hga, c0, c1, c2, c3, c4, c5, c6, c7, c8⟩ := hi j hjs
            obtain ⟨gb, ob, yl, yr, rfl, hgb, d0, d1, d2, d3, d4, d5, d6, d7, d8⟩ := hi' j hjs
            obtain ⟨x1, x2, rfl, _⟩ := c7.slice
            obtain ⟨x3, x4, rfl, _⟩ := c8.slice
            obtain ⟨x5, x6, rfl, _⟩ := d7.slice
            obtain ⟨x7, x8, rfl, _⟩ := d8.slice
            have hw := HWD.out _ (List.getElem_mem hjs)
            have e1' : ya = some ⟨ga, oa, none⟩ := by simp at e1; exact e1.1
            have e2' : yb = some ⟨gb, ob, none⟩ := by simp at e2; exact e2.1
            have hq : ∀ W, Below wr.heap.size wr W → ∀ k, k < wr.heap.size → W.heap[k]? = wr.heap[k]? ∧ k < W.heap.size := fun W hW k hk => ⟨hW.block k hk, Nat.lt_of_lt_of_le hk hW.size⟩
            exact ⟨ga, oa, gb, ob, _, _, _, x1, _, x2, x5, x6, _, _, x3, _, x4, x7, x8, e1', e2', hga, hgb, c0, d0, ⟨c1, c2, c3, d1, d2, d3⟩, ⟨c4, c5, c6, d4, d5, d6⟩, fun W hW => sameNode_of (n := rl[j].l) (c7.to (hq W hW)) (d7.to (hq W hW)) hw.1, fun W hW => sameNode_of (n := rl[j].r) (c8.to (hq W hW)) (d8.to (hq W hW)) hw.2⟩
          have hj0 : (0 : Int) ≤ (j : Int) := by omega
          have hj1 : (j : Int) < (nr : Int) := by omega
          have hbb : (bb != bb) = false := by simp
          have HCL : Hid (∀ W, Below wr.heap.size wr W → Calls Tryz.prog 17 #[.agg #[.int .i64 lk, .int .i64 ls, .slice la ln lca], .agg #[.int .i64 lk, .int .i64 ls, .slice lb ln lcb]] W fun e w'' => e = .returned (.bool true) ∧ Below W.heap.size W w'') := hcl
          have HCR : Hid (∀ W, Below wr.heap.size wr W → Calls Tryz.prog 17 #[.agg #[.int .i64 rk, .int .i64 rs, .slice ra rn rca], .agg #[.int .i64 rk, .int .i64 rs, .slice rb rn rcb]] W fun e w'' => e = .returned (.bool true) ∧ Below W.heap.size W w'') := hcr
          have HBA : Hid (wr.cell? ⟨ga, oa + j * 7, none⟩ = some (.bool bb) ∧ wr.cell? ⟨gb, ob + j * 7, none⟩ = some (.bool bb)) := ⟨hbA, hbB⟩
          have HRC : Hid (∀ W, Below wr.heap.size wr W → W.cell? ⟨w.heap.size, 1, none⟩ = some (.slice (some ⟨ga, oa, none⟩) nr da) ∧ W.cell? ⟨w.heap.size + 1, 1, none⟩ = some (.slice (some ⟨gb, ob, none⟩) nr db) ∧ W.cell? ⟨ga, oa + j * 7 + 4, none⟩ = some (.int .i64 rk) ∧ W.cell? ⟨ga, oa + j * 7 + 5, none⟩ = some (.int .i64 rs) ∧ W.cell? ⟨ga, oa + j * 7 + 6, none⟩ = some (.slice ra rn rca) ∧ W.cell? ⟨gb, ob + j * 7 + 4, none⟩ = some (.int .i64 rk) ∧ W.cell? ⟨gb, ob + j * 7 + 5, none⟩ = some (.int .i64 rs) ∧ W.cell? ⟨gb, ob + j * 7 + 6, none⟩ = some (.slice rb rn rcb)) := fun W hk => ⟨(hk.cell (p := ⟨_, _, none⟩) hlt0).trans a1, (hk.cell (p := ⟨_, _, none⟩) hlt).trans b1, (hk.cell (p := ⟨ga, _, none⟩) hga).trans r0, (hk.cell (p := ⟨ga, _, none⟩) hga).trans r1, (hk.cell (p := ⟨ga, _, none⟩) hga).trans r2, (hk.cell (p := ⟨gb, _, none⟩) hgb).trans s0, (hk.cell (p := ⟨gb, _, none⟩) hgb).trans s1, (hk.cell (p := ⟨gb, _, none⟩) hgb).trans s2⟩
          have HLC : Hid (∀ W, Below (wr.drewN 1).heap.size (wr.drewN 1) W → W.cell? ⟨w.heap.size, 1, none⟩ = some (.slice (some ⟨ga, oa, none⟩) nr da) ∧ W.cell? ⟨w.heap.size + 1, 1, none⟩ = some (.slice (some ⟨gb, ob, none⟩) nr db) ∧ W.cell? ⟨ga, oa + j * 7 + 1, none⟩ = some (.int .i64 lk) ∧ W.cell? ⟨ga, oa + j * 7 + 2, none⟩ = some (.int .i64 ls) ∧ W.cell? ⟨ga, oa + j * 7 + 3, none⟩ = some (.slice la ln lca) ∧ W.cell? ⟨gb, ob + j * 7 + 1, none⟩ = some (.int .i64 lk) ∧ W.cell? ⟨gb, ob + j * 7 + 2, none⟩ = some (.int .i64 ls) ∧ W.cell? ⟨gb, ob + j * 7 + 3, none⟩ = some (.slice lb ln lcb)) := fun W hW => by
            have hk : Below wr.heap.size wr W := (below_drewN' (Below.refl _ _) 1).trans hW
            exact ⟨(hk.cell (p := ⟨_, _, none⟩) hlt0).trans a1, (hk.cell (p := ⟨_, _, none⟩) hlt).trans b1, (hk.cell (p := ⟨ga, _, none⟩) hga).trans l0, (hk.cell (p := ⟨ga, _, none⟩) hga).trans l1, (hk.cell (p := ⟨ga, _, none⟩) hga).trans l2, (hk.cell (p := ⟨gb, _, none⟩) hgb).trans m0, (hk.cell (p := ⟨gb, _, none⟩) hgb).trans m1, (hk.cell (p := ⟨gb, _, none⟩) hgb).trans m2⟩
          clear hcl hcr r0 r1 r2 s0 s1 s2 hbA hbB
          go_wp2
          go_region_held3 (fun w' => w'.cell? ⟨w.heap.size, 1, none⟩ = some (.slice (some ⟨ga, oa, none⟩) nr da) ∧ w'.cell? ⟨w.heap.size + 1, 1, none⟩ = some (.slice (some ⟨gb, ob, none⟩) nr db) ∧ w'.cell? ⟨ga, oa + j * 7 + 1, none⟩ = some (.int .i64 lk) ∧ w'.cell? ⟨ga, oa + j * 7 + 2, none⟩ = some (.int .i64 ls) ∧ w'.cell? ⟨ga, oa + j * 7 + 3, none⟩ = some (.slice la ln lca) ∧ w'.cell? ⟨gb, ob + j * 7 + 1, none⟩ = some (.int .i64 lk) ∧ w'.cell? ⟨gb, ob + j * 7 + 2, none⟩ = some (.int .i64 ls) ∧ w'.cell? ⟨gb, ob + j * 7 + 3, none⟩ = some (.slice lb ln lcb)) (first | go_keep | exact HLC.out _ hB1) ((go_at_call 17; refine (HCL.out _ (by exact below_drewN' (Below.refl _ _) 1)).mono ?_; rintro e w1 ⟨rfl, hB1⟩))
          have hk1 : Below wr.heap.size wr w1 := (below_drewN' (Below.refl _ _) 1).trans hB1
          obtain ⟨t0, t1, u0, u1, u2, v0, v1, v2⟩ := HRC.out _ hk1
          have hs1 := hk1.size
          have HRD : Hid (∀ W, Below (w1.drewN 1).heap.size (w1.drewN 1) W → W.cell? ⟨w.heap.size, 1, none⟩ = some (.slice (some ⟨ga, oa, none⟩) nr da) ∧ W.cell? ⟨w.heap.size + 1, 1, none⟩ = some (.slice (some ⟨gb, ob, none⟩) nr db) ∧ W.cell? ⟨ga, oa + j * 7 + 4, none⟩ = some (.int .i64 rk) ∧ W.cell? ⟨ga, oa + j * 7 + 5, none⟩ = some (.int .i64 rs) ∧ W.cell? ⟨ga, oa + j * 7 + 6, none⟩ = some (.slice ra rn rca) ∧ W.cell? ⟨gb, ob + j * 7 + 4, none⟩ = some (.int .i64 rk) ∧ W.cell? ⟨gb, ob + j * 7 + 5, none⟩ = some (.int .i64 rs) ∧ W.cell? ⟨gb, ob + j * 7 + 6, none⟩ = some (.slice rb rn rcb)) := fun W hW => HRC.out W (below_after hk1 ((below_drewN' (Below.refl _ _) 1).trans hW))
          have HCR1 : Hid (∀ W, Below w1.heap.size w1 W → Calls Tryz.prog 17 #[.agg #[.int .i64 rk, .int .i64 rs, .slice ra rn rca], .agg #[.int .i64 rk, .int .i64 rs, .slice rb rn rcb]] W fun e w'' => e = .returned (.bool true) ∧ Below W.heap.size W w'') := fun W hW => HCR.out W (below_after hk1 hW)
          have hga1 : ga < w1.heap.size := by omega
          have hgb1 : gb < w1.heap.size := by omega
          have hlt1 : w.heap.size + 1 < w1.heap.size := by omega
          have HK1 : Hid (Below wr.heap.size wr w1) := hk1
          clear hB1 hk1 a1 b1 l0 l1 l2 m0 m1 m2 HRC HLC hs1
          go_wp2
          go_region_held3 (fun w' => w'.cell? ⟨w.heap.size, 1, none⟩ = some (.slice (some ⟨ga, oa, none⟩) nr da) ∧ w'.cell? ⟨w.heap.size + 1, 1, none⟩ = some (.slice (some ⟨gb, ob, none⟩) nr db) ∧ w'.cell? ⟨ga, oa + j * 7 + 4, none⟩ = some (.int .i64 rk) ∧ w'.cell? ⟨ga, oa + j * 7 + 5, none⟩ = some (.int .i64 rs) ∧ w'.cell? ⟨ga, oa + j * 7 + 6, none⟩ = some (.slice ra rn rca) ∧ w'.cell? ⟨gb, ob + j * 7 + 4, none⟩ = some (.int .i64 rk) ∧ w'.cell? ⟨gb, ob + j * 7 + 5, none⟩ = some (.int .i64 rs) ∧ w'.cell? ⟨gb, ob + j * 7 + 6, none⟩ = some (.slice rb rn rcb)) (first | go_keep | exact HRD.out _ hB2) ((go_at_call 17; refine (HCR1.out _ (by exact below_drewN' (Below.refl _ _) 1)).mono ?_; rintro e w2 ⟨rfl, hB2⟩))
          have hk2 : Below wr.heap.size wr w2 := below_after HK1.out ((below_drewN' (Below.refl _ _) 1).trans hB2)
          obtain ⟨t0', t1', _⟩ := HRD.out _ hB2
          have o0 : w2.cell? ⟨ga, oa + j * 7, none⟩ = some (.bool bb) := (hk2.cell (p := ⟨ga, _, none⟩) hga).trans HBA.out.1
          have o1 : w2.cell? ⟨gb, ob + j * 7, none⟩ = some (.bool bb) := (hk2.cell (p := ⟨gb, _, none⟩) hgb).trans HBA.out.2
          have hs2 := hk2.size
          have hga2 : ga < w2.heap.size := by omega
          have hgb2 : gb < w2.heap.size := by omega
          have hlt2 : w.heap.size + 1 < w2.heap.size := by omega
          have HK2 : Hid (Below wr.heap.size wr w2) := hk2
          clear hB2 hk2 t0 t1 u0 u1 u2 v0 v1 v2 hs2 hga1 hgb1 hlt1
          go_wp2
          go_quiet (fail)
          go_wp2
          go_roundw
          case rel => exact ⟨j + 1, by omega, by go_num, (HK2.out.block _ hlt0).trans HEA2.out, (HK2.out.block _ hlt).trans HEB2.out, below_drewN' (below_after hB HK2.out) _⟩
          case measure => simp [intOf]; omega
        · obtain rfl : nr = j := by omega
          go_wp2
          go_ret
          exact ⟨rfl, hB⟩
end Go.Proofs.YtfdjchnckjgapaaGreatDoor
