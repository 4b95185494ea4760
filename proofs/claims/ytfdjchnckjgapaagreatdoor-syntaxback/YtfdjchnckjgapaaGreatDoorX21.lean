/-
  EqP PlaceP
-/
import Derived.Test.YtfdjchnckjgapaaGreatDoorX20
import Derived.Laws.StructEq
import Derived.Deep.RegionLaw
namespace Go.Proofs.YtfdjchnckjgapaaGreatDoor
open Go.RowKit Go.Shelf S1
set_option linter.unusedVariables false
theorem neq_rng (a b x y : Int) (w : World) : (binOp .neq 94 (.agg #[.int .i64 a, .int .i64 b]) (.agg #[.int .i64 x, .int .i64 y])).run Tryz.prog w = .ok (.bool (!(a == x && b == y))) w := by
  have u3 := Tryz.underlying3
  have a3 := Tryz.isAgg3
  have z3 := Tryz.sizeOf3
  have hS : Tryz.prog.underlying 94 = some (.struct (Tryz.prog.fieldsOf 94)) := by kernel_rfl
  have hp : Tryz.prog.stoodInHeld 94 = false := by kernel_rfl
  rw [run_neq_struct, show (10000 : Nat) = 9999 + 1 from rfl, run_equalIn_agg w 9999 94 _ _ hS hp]
  simp only [Program.fieldsOf, Tryz.underlying94]
  go_simp
  by_cases h1 : a = x <;> by_cases h2 : b = y <;> simp [h1, h2]
theorem sameS_len {a b : List Rg} (h : a.length ≠ b.length) : sameS a b = false := by
  cases q : sameS a b with
  | false => rfl
  | true => exact absurd (congrArg List.length (sameS_iff.1 q)) h
theorem sameS_drop {a b : List Rg} {k : Nat} (ha : k < a.length) (hb : k < b.length) : sameS (a.drop k) (b.drop k) = ((a[k].lo == b[k].lo && a[k].hi == b[k].hi) && sameS (a.drop (k + 1)) (b.drop (k + 1))) := by
  rw [List.drop_eq_getElem_cons ha, List.drop_eq_getElem_cons hb]
  rfl
set_option maxRecDepth 100000 in
set_option maxHeartbeats 4000000 in
theorem equal_any (us vs : List Rg) (hlen : us.length ≤ 600000) (va vb : Value) (w : World) (ha : RngIn w va us) (hb : RngIn w vb vs) :
    Calls Tryz.prog 60 #[va, vb] w fun e w' => e = .returned (.bool (sameS us vs)) ∧ Below w.heap.size w w' := by
  obtain ⟨a, ca, rfl, hca, hia⟩ := ha
  obtain ⟨b, cb, rfl, hcb, hib⟩ := hb
  obtain ⟨q, hq⟩ : ∃ q, q = sameS us vs := ⟨_, rfl⟩
  rw [← hq]
  have HQ : Hid (q = sameS us vs) := hq
  clear hq
  by_cases hl : us.length = vs.length
  · have HA : Hid (∀ i, (h : i < us.length) → ∃ g off, a = some ⟨g, off, none⟩ ∧ g < w.heap.size ∧ w.cell? ⟨g, off + i * 2, none⟩ = some (.int .i64 us[i].lo) ∧ w.cell? ⟨g, off + i * 2 + 1, none⟩ = some (.int .i64 us[i].hi)) := hia
    have HB : Hid (∀ i, (h : i < vs.length) → ∃ g off, b = some ⟨g, off, none⟩ ∧ g < w.heap.size ∧ w.cell? ⟨g, off + i * 2, none⟩ = some (.int .i64 vs[i].lo) ∧ w.cell? ⟨g, off + i * 2 + 1, none⟩ = some (.int .i64 vs[i].hi)) := hib
    have HL : Hid (us.length = vs.length) := hl
    rw [← hl] at hcb ⊢
    clear hia hib hl
    have hneq : ((us.length : Int) != (us.length : Int)) = false := by simp
    go_enter Tryz.func60, Tryz.ntmps60
    go_wp2
    go_loopw [13] (fun i wr => ∃ k : Nat, k ≤ us.length ∧ i = .int .i64 k ∧ Hid (q = sameS (us.drop k) (vs.drop k)) ∧ ∃ nd, wr = w.drewN nd) (fun i _ => us.length - (intOf i).toNat)
    case atStart => exact ⟨0, Nat.zero_le _, rfl, HQ.out, 0, rfl⟩
    case round =>
      obtain ⟨k, hk, rfl, HD, nd, rfl⟩ := hrel
      by_cases hlt : k < us.length
      · have hlt2 : k < vs.length := by have := HL.out; omega
        obtain ⟨ga, oa, rfl, hga, a0, a1⟩ := HA.out k hlt
        obtain ⟨gb, ob, rfl, hgb, b0, b1⟩ := HB.out k hlt2
        obtain ⟨xl, hxl⟩ : ∃ x, x = us[k].lo := ⟨_, rfl⟩
        obtain ⟨xh, hxh⟩ : ∃ x, x = us[k].hi := ⟨_, rfl⟩
        obtain ⟨yl, hyl⟩ : ∃ x, x = vs[k].lo := ⟨_, rfl⟩
        obtain ⟨yh, hyh⟩ : ∃ x, x = vs[k].hi := ⟨_, rfl⟩
        have HD2 : Hid (q = ((xl == yl && xh == yh) && sameS (us.drop (k + 1)) (vs.drop (k + 1)))) := by
          show _ = _
          rw [hxl, hxh, hyl, hyh, ← sameS_drop hlt hlt2]; exact HD.out
        rw [← hxl] at a0
        rw [← hxh] at a1
        rw [← hyl] at b0
        rw [← hyh] at b1
        clear hxl hxh hyl hyh hlt2
        have hk0 : (0 : Int) ≤ (k : Int) := by omega
        have hk1 : (k : Int) < (us.length : Int) := by omega
        have hnq : ∀ W : World, (binOp .neq 94 (.agg #[.int .i64 xl, .int .i64 xh]) (.agg #[.int .i64 yl, .int .i64 yh])).run Tryz.prog W = .ok (.bool (!(xl == yl && xh == yh))) W := fun W => neq_rng xl xh yl yh W
        have hgd : Tryz.prog.eqGuardType Tryz.prog.depth 94 = false := by kernel_rfl
        cases hb : (xl == yl && xh == yh) with
        | true =>
          rw [hb] at hnq
          have HD3 : Hid (q = sameS (us.drop (k + 1)) (vs.drop (k + 1))) := by
            show _ = _
            rw [HD2.out, hb]; rfl
          clear HD HD2
          go_wp2
          go_quiet (fail)
          go_wp2
          go_roundw
          case rel => exact ⟨k + 1, by omega, by go_num, HD3, _, rfl⟩
          case measure => simp [intOf]; omega
        | false =>
          rw [hb] at hnq
          have HD3 : Hid (q = false) := by
            show _ = _
            rw [HD2.out, hb]; rfl
          clear HD HD2
          go_wp2
          go_quiet (fail)
          go_wp2
          go_ret
          refine ⟨by rw [HD3.out]; rfl, ?_⟩
          first | exact below_drewN' (below_drewN' (Below.refl _ _) _) _ | exact below_drewN' (Below.refl _ _) _
      · obtain rfl : k = us.length := by omega
        have HD3 : Hid (q = true) := by
          show _ = _
          rw [HD.out, List.drop_length, HL.out, List.drop_length]; rfl
        go_wp2
        go_ret
        exact ⟨by rw [HD3.out]; rfl, below_drewN' (Below.refl _ _) _⟩
  · have hneq : ((us.length : Int) != (vs.length : Int)) = true := by simp; omega
    have HE : Hid (q = false) := HQ.out.trans (sameS_len hl)
    clear hia hib hl
    go_enter Tryz.func60, Tryz.ntmps60
    go_wp2
    go_ret
    exact ⟨by rw [HE.out]; rfl, Below.refl _ _⟩
end Go.Proofs.YtfdjchnckjgapaaGreatDoor

namespace Go.Proofs.YtfdjchnckjgapaaGreatDoor
open Go.RowKit Go.Shelf S1
set_option linter.unusedVariables false
theorem place1_any (s x : List Rg) (hlen : x.length ≤ 600000) (v xv : Value) (B : Nat) (w : World) (hb : w.cell? ⟨B, 0, none⟩ = some v) (hv : RngIn w v s) (hx : RngIn w xv x) :
    Calls Tryz.prog 233 #[xv, .pointer (some ⟨B, 0, none⟩)] w fun e w' => e = .returned (.bool (sameS x s)) ∧ Below w.heap.size w w' := by
  have h1 := equal_any x s hlen xv v w hx hv
  obtain ⟨va, vc, rfl, _⟩ := hv
  obtain ⟨xa, xc, rfl, _⟩ := hx
  go_enter Tryz.func233, Tryz.ntmps233
  go_wp2_with fail
  refine h1.mono ?_
  rintro e w1 ⟨rfl, hB⟩
  clear h1
  go_wp2
  go_ret
  exact ⟨rfl, hB⟩
theorem idxS_drop {s : List Rg} {st : Sts} {k : Nat} (h : k < st.length) : idxS s (st.drop k) = if sameS st[k] s = true then some 0 else (idxS s (st.drop (k + 1))).map (· + 1) := by
  rw [List.drop_eq_getElem_cons h]
  rfl
def idxV (o : Option Nat) : Int := match o with
  | some i => (i : Int)
  | none => -1
set_option maxRecDepth 100000 in
set_option maxHeartbeats 4000000 in
theorem index_any (s : List Rg) (st : Sts) (hst : st.length ≤ 60) (v : Value) (B : Nat) (ad : Option Addr) (cap : Nat) (hcap : st.length ≤ cap) (w : World) (hb : w.cell? ⟨B, 0, none⟩ = some v) (hv : RngIn w v s)
    (hs : ∀ i, (h : i < st.length) → ∃ g off x, ad = some ⟨g, off, none⟩ ∧ g < w.heap.size ∧ w.cell? ⟨g, off + i, none⟩ = some x ∧ RngIn w x st[i] ∧ IsSet st[i]) :
    Calls Tryz.prog 104 #[.slice ad st.length cap, .func (.func 233) #[] #[.pointer (some ⟨B, 0, none⟩)]] w fun e w' => e = .returned (.int .i64 (idxV (idxS s st))) ∧ Below w.heap.size w w' := by
  obtain ⟨o, ho⟩ : ∃ o, o = idxV (idxS s st) := ⟨_, rfl⟩
  rw [← ho]
  have HO : Hid (o = idxV ((idxS s (st.drop 0)).map (· + 0))) := by show _ = _; rw [ho]; simp
  have HS : Hid (∀ i, (h : i < st.length) → ∃ g off x, ad = some ⟨g, off, none⟩ ∧ g < w.heap.size ∧ w.cell? ⟨g, off + i, none⟩ = some x ∧ RngIn w x st[i] ∧ IsSet st[i]) := hs
  have HV : Hid (RngIn w v s) := hv
  have hBl : B < w.heap.size := World.block_lt_of_cell? w ⟨B, 0, none⟩ hb
  clear ho hs hv
  go_enter Tryz.func104, Tryz.ntmps104
  go_wp2
  go_loopw [8] (fun i wr => ∃ k : Nat, k ≤ st.length ∧ i = .int .i64 k ∧ Hid (o = idxV ((idxS s (st.drop k)).map (· + k))) ∧ Below w.heap.size w wr) (fun i _ => st.length - (intOf i).toNat)
  case atStart => exact ⟨0, Nat.zero_le _, rfl, HO, Below.refl _ _⟩
  case round =>
    obtain ⟨k, hk, rfl, HD, hB⟩ := hrel
    by_cases hlt : k < st.length
    · obtain ⟨g, off, x, rfl, hg, hc, hx, hi⟩ := HS.out k hlt
      have hc' : wr.cell? ⟨g, off + k, none⟩ = some x := (hB.cell (p := ⟨g, _, none⟩) hg).trans hc
      have h1 := place1_any s st[k] (by have := hi.len; omega) v x B wr ((hB.cell (p := ⟨B, 0, none⟩) hBl).trans hb) (HV.out.below hB) (hx.below hB)
      obtain ⟨xa, xc, rfl, _⟩ := hx
      have hk0 : (0 : Int) ≤ (k : Int) := by omega
      have hk1 : (k : Int) < (st.length : Int) := by omega
      have HD2 := idxS_drop (s := s) hlt
      have HD3 : Hid (idxS s (st.drop k) = if sameS st[k] s = true then some 0 else (idxS s (st.drop (k + 1))).map (· + 1)) := HD2
      clear HD2 hc
      cases hq : sameS st[k] s with
      | true =>
        rw [hq] at h1
        have HE : Hid (o = (k : Int)) := by
          show _ = _
          rw [HD.out, HD3.out, hq]; simp [idxV]
        clear HD HD3
        go_wp2_with fail
        refine h1.mono ?_
        rintro e w1 ⟨rfl, hB1⟩
        clear h1
        go_wp2
        go_ret
        exact ⟨by rw [HE.out]; rfl, below_after hB (hB1)⟩
      | false =>
        rw [hq] at h1
        have HE : Hid (o = idxV ((idxS s (st.drop (k + 1))).map (· + (k + 1)))) := by
          show _ = _
          rw [HD.out, HD3.out, hq]
          simp only [Bool.false_eq_true, if_false, Option.map_map]
          congr 2
          funext j
          simp; omega
        clear HD HD3
        go_wp2_with fail
        refine h1.mono ?_
        rintro e w1 ⟨rfl, hB1⟩
        clear h1
        go_wp2
        go_roundw
        case rel => exact ⟨k + 1, by omega, by go_num, HE, below_after hB hB1⟩
        case measure => simp [intOf]; omega
    · obtain rfl : k = st.length := by omega
      have HE : Hid (o = -1) := by
        show _ = _
        rw [HD.out, List.drop_length]; rfl
      go_wp2
      go_ret
      exact ⟨by rw [HE.out]; rfl, hB⟩
theorem Pa.sets {c : Pc} {X : Nat → Prop} {P : Nat} {w : World} {ts : List Tok} {st : Sts} {d : Nat} (h : Pa c X P w ts st d) : ∃ ad cap vs, w.cell? ⟨P, 3, none⟩ = some (.slice ad st.length cap) ∧ w.frozen? ⟨P, 3, none⟩ = false ∧ st.length ≤ cap ∧ st.length ≤ 60 ∧ w.ownsRow c.base 43 1 (.slice ad st.length cap) st.length vs ∧ SetsS (Im X w P) w vs st ∧ c.base ≤ P ∧ (Value.slice ad st.length cap).ownBlock ≠ some P ∧
    ∀ i, (h : i < st.length) → ∃ g off x, ad = some ⟨g, off, none⟩ ∧ g < w.heap.size ∧ w.cell? ⟨g, off + i, none⟩ = some x ∧ RngIn w x st[i] ∧ IsSet st[i] := by
  obtain ⟨k, sv, h1, h2, h3⟩ := h
  obtain ⟨e1, e2, e3, e4, e5, ⟨vs, e6, e6'⟩, e7, e8, e9, e10, e11⟩ := h2
  have hc : w.cell? ⟨P, 3, none⟩ = some sv := by rw [row_cell h1]; rfl
  have e6'' := e6
  rcases e6.2 with ⟨rfl, h0⟩ | ⟨g, cap, cur, rfl, hb, hg, hc2, hm, hs, ht⟩
  · obtain rfl : st = [] := List.length_eq_zero_iff.1 h0
    exact ⟨none, 0, vs, hc, row_frozen h1 3, by simp, by simp, e6, e6', e10, e7, fun i hi => (by cases hi)⟩
  · refine ⟨_, cap, vs, hc, row_frozen h1 3, hc2, e8, e6, e6', e10, e7, fun i hi => ?_⟩
    obtain ⟨x, q1, q2, q3⟩ := e6'.2 i hi
    have := e6''.cells (g := g) rfl i x q1
    rw [add_lit'] at this
    exact ⟨g, 0, x, rfl, (Array.getElem?_eq_some_iff.1 hg).1, this, q2.rng (fun k hk => hk.1), q3⟩
theorem Pa.placed {c : Pc} {X : Nat → Prop} {P : Nat} {w w1 : World} {ts : List Tok} {st : Sts} {d : Nat} (h : Pa c X P w ts st d) {sv v nv : Value} {vs : List Value} {s : List Rg} (hsv : w.cell? ⟨P, 3, none⟩ = some sv) (hss : SetsS (Im X w P) w vs st) (hl : st.length < 60)
    (hv : RngS (Im X w P) w v s) (hs : IsSet s) (hsz : w.heap.size ≤ w1.heap.size) (ho : w1.ownsRow c.base 43 1 nv (st.length + 1) (vs ++ [v])) (hk : ∀ k, k < w.heap.size → sv.ownBlock ≠ some k → w1.heap[k]? = w.heap[k]?) (hn : ∀ g, nv.ownBlock = some g → sv.ownBlock = some g ∨ w.heap.size ≤ g)
    (hos : w1.os = w.os) (htp : w1.tape = w.tape) (hou : w1.output = w.output) : Pa c X P (w1.setCell ⟨P, 3, none⟩ nv) ts (st ++ [s]) d ∧ Fr w.heap.size P w (w1.setCell ⟨P, 3, none⟩ nv) := by
  obtain ⟨k, sv', h1, h2, h3⟩ := h
  obtain rfl : sv = sv' := by
    rw [row_cell h1] at hsv
    simpa [Pc.row] using hsv.symm
  have h2' := h2
  obtain ⟨e1, e2, e3, e4, e5, _, e7, e8, e9, e10, e11⟩ := h2
  have hP : P < w.heap.size := (Array.getElem?_eq_some_iff.1 h1).1
  have hbl : ∀ j, j < w.heap.size → j ≠ P → sv.ownBlock ≠ some j → (w1.setCell ⟨P, 3, none⟩ nv).heap[j]? = w.heap[j]? := fun j hj hne hsj => (Below.heap_setCell w1 ⟨P, 3, none⟩ nv j (by simpa using hne)).trans (hk j hj hsj)
  have hrow : (w1.setCell ⟨P, 3, none⟩ nv).heap[P]? = some (.cells (c.row k nv d) c.ty (0, 0)) := by
    rw [heap_set ((hk P hP e7).trans h1)]
    simp [Pc.row]
  have hsz2 : w.heap.size ≤ (w1.setCell ⟨P, 3, none⟩ nv).heap.size := by simpa [World.setCell] using hsz
  have him : ∀ Y : Nat → Prop, ∀ j, Im Y w P j → (w1.setCell ⟨P, 3, none⟩ nv).heap[j]? = w.heap[j]? ∧ Im Y (w1.setCell ⟨P, 3, none⟩ nv) P j := fun Y j hj => by
    have hsj : sv.ownBlock ≠ some j := hj.2.2.1 sv (by rw [row_cell h1]; rfl)
    refine ⟨hbl j hj.1 hj.2.1 hsj, Nat.lt_of_lt_of_le hj.1 hsz2, hj.2.1, fun x hx => ?_, hj.2.2.2⟩
    rw [row_cell hrow] at hx
    obtain rfl : nv = x := by simpa [Pc.row] using hx
    intro q
    rcases hn j q with q2 | q2
    · exact hsj q2
    · have := hj.1; omega
  have hnP : nv.ownBlock ≠ some P := fun q => by
    rcases hn P q with q2 | q2
    · exact e7 q2
    · omega
  have hlen : (st ++ [s]).length = st.length + 1 := by simp
  refine ⟨⟨k, nv, hrow, ⟨e1, e2, e3, e4, e5.to (him X), ⟨vs ++ [v], ?_, (hss.snoc hv hs).to (him X)⟩, hnP, by rw [hlen]; omega, e9.to (him X) (Nat.le_refl _), e10, fun j hj => Nat.lt_of_lt_of_le (e11 j hj) hsz2⟩, h3⟩, ⟨hos, htp, hou, hsz2, fun j _ hj => him NoX j hj⟩⟩
  rw [hlen]
  exact own_block ho (fun j hj => Below.heap_setCell w1 ⟨P, 3, none⟩ nv j (fun q => hnP (by rw [hj]; exact congrArg some q)))
theorem Tryz.infoSet8 : (Tryz.prog.info? 43).map (fun i => (i.zero, i.size, i.bytes)) = some (some (.slice none 0 0), 1, 24) := by kernel_rfl
def PlA (c : Pc) (X : Nat → Prop) (P : Nat) (ts : List Tok) (st : Sts) (d : Nat) (o : Option (Nat × Sts)) (w : World) (e : Ending) (w' : World) : Prop :=
  Fr w.heap.size P w w' ∧ ((o = none ∧ e = .returned (.tuple #[.int .i64 0, .int .i64 3]) ∧ Pa c X P w' ts st d) ∨ ∃ i st', o = some (i, st') ∧ e = .returned (.tuple #[.int .i64 ((i : Nat) : Int), .int .i64 0]) ∧ Pa c X P w' ts st' d)
set_option maxRecDepth 100000 in
set_option maxHeartbeats 8000000 in
theorem place_ans (c : Pc) (X : Nat → Prop) (P : Nat) (w : World) (ts : List Tok) (st : Sts) (d : Nat) (hpa : Pa c X P w ts st d) (v : Value) (s : List Rg) (hv : RngS (Im X w P) w v s) (hs : IsSet s) :
    Calls Tryz.prog 225 #[.pointer (some ⟨P, 0, none⟩), v] w fun e w' => PlA c X P ts st d (placeM st s) w e w' := by
  obtain ⟨i0, hi0, hz0, hz1, hz2⟩ := info_parts Tryz.infoSet8
  obtain ⟨va, vc, rfl⟩ := hv.slice
  obtain ⟨o, ho⟩ : ∃ o, o = placeM st s := ⟨_, rfl⟩
  rw [← ho]
  have HO : Hid (o = placeM st s) := ho
  have hPl := hpa.lt
  have hB0 : Below w.heap.size w (w.alloc (.cells #[.slice va s.length vc] 43)) := below_alloc _ _
  have hp0 : Pa c X P (w.alloc (.cells #[.slice va s.length vc] 43)) ts st d := hpa.below hB0
  have hbx : (w.alloc (.cells #[.slice va s.length vc] 43)).cell? ⟨w.heap.size, 0, none⟩ = some (.slice va s.length vc) := cell_of_row _ _ 0 _ _ _ (heap_new' w _)
  have hbf : (w.alloc (.cells #[.slice va s.length vc] 43)).heap[w.heap.size]? = some (.cells #[.slice va s.length vc] 43 (0, 0)) := heap_new' w _
  have hv0 : RngS (Im X (w.alloc (.cells #[.slice va s.length vc] 43)) P) (w.alloc (.cells #[.slice va s.length vc] 43)) (.slice va s.length vc) s := hv.fr (hpa.fr hB0)
  have hF0 : Fr w.heap.size P w (w.alloc (.cells #[.slice va s.length vc] 43)) := hpa.fr hB0
  have hsz0 : (w.alloc (.cells #[.slice va s.length vc] 43)).heap.size = w.heap.size + 1 := by simp
  obtain ⟨ad, cap, vs, c3, f3, hcp, hl60, hown, hss, hbP, hnP, hix⟩ := hpa.sets
  have h1 := index_any s st hl60 (.slice va s.length vc) w.heap.size ad cap hcp (w.alloc (.cells #[.slice va s.length vc] 43)) hbx (hv0.rng (fun k hk => hk.1)) (fun i hi => by
    obtain ⟨g, off, x, e1, e2, e3, e4, e5⟩ := hix i hi
    exact ⟨g, off, x, e1, by omega, (hB0.cell (p := ⟨g, _, none⟩) e2).trans e3, e4.below hB0, e5⟩)
  have HPA : Hid (Pa c X P w ts st d) := hpa
  have HV : Hid (RngS (Im X w P) w (.slice va s.length vc) s) := hv
  have HS : Hid (IsSet s) := hs
  have HB0 : Hid (Below w.heap.size w (w.alloc (.cells #[.slice va s.length vc] 43))) := hB0
  have HBF : Hid ((w.alloc (.cells #[.slice va s.length vc] 43)).heap[w.heap.size]? = some (.cells #[.slice va s.length vc] 43 (0, 0))) := hbf
  have HSZ : Hid ((w.alloc (.cells #[.slice va s.length vc] 43)).heap.size = w.heap.size + 1) := hsz0
  clear ho hpa hv hs hB0 hp0 hv0 hF0 hbf hsz0 hown hss hix hnP hbx
  obtain ⟨ix, hixe⟩ : ∃ ix, ix = idxS s st := ⟨_, rfl⟩
  rw [← hixe] at h1
  have HIX : Hid (idxS s st = ix) := hixe.symm
  clear hixe
  go_enter Tryz.func225, Tryz.ntmps225
  go_wp2_with fail
  refine h1.mono ?_
  rintro e w1 ⟨rfl, hB1⟩
  have HB1 : Hid (Below w.heap.size w w1) := below_after HB0.out hB1
  have hbx1 : w1.cell? ⟨w.heap.size, 0, none⟩ = some (.slice va s.length vc) := cell_of_row _ _ 0 _ _ _ ((hB1.block _ (by rw [HSZ.out]; omega)).trans HBF.out)
  have hbs1 : w.heap.size < w1.heap.size := by have := hB1.size; rw [HSZ.out] at this; omega
  clear h1
  cases ix with
  | some i =>
    have HE : Hid (o = some (i, st)) := by
      show _ = _
      rw [HO.out]; unfold placeM; rw [HIX.out]
    unfold idxV
    have hi0 : decide (0 ≤ (i : Int)) = true := by simp
    go_wp2
    go_ret2
    exact ⟨HPA.out.fr HB1.out, .inr ⟨i, st, HE.out, rfl, HPA.out.below HB1.out⟩⟩
  | none =>
    unfold idxV
    have HP1 : Hid (Pa c X P w1 ts st d) := HPA.out.below HB1.out
    have hv1 := HV.out.fr (HPA.out.fr HB1.out)
    have HV1 : Hid (RngS (Im X w1 P) w1 (.slice va s.length vc) s) := hv1
    clear c3 f3 hcp hl60 hbP hv1
    obtain ⟨ad, cap, vs, c3, f3, hcp, hl60, hown, hss, hbP, hnP, hix⟩ := HP1.out.sets
    have hPl1 := HP1.out.lt
    by_cases h60 : st.length = 60
    · have h60' : ((st.length : Int) == 60) = true := by simp [h60]
      have HE : Hid (o = none) := by
        show _ = _
        rw [HO.out]; unfold placeM; rw [HIX.out]; simp [h60]
      clear hown hss hix h60
      go_wp2
      go_ret2
      exact ⟨HPA.out.fr HB1.out, .inl ⟨HE.out, rfl, HP1.out⟩⟩
    · have h60' : ((st.length : Int) == 60) = false := by simp; omega
      have HE : Hid (o = some (st.length, st ++ [s])) := by
        show _ = _
        rw [HO.out]; unfold placeM; rw [HIX.out]; simp [h60]
      have HOW : Hid (w1.ownsRow c.base 43 1 (.slice ad st.length cap) st.length vs) := hown
      have HSS : Hid (SetsS (Im X w1 P) w1 vs st) := hss
      have HNP : Hid ((Value.slice ad st.length cap).ownBlock ≠ some P) := hnP
      have HLT : Hid (st.length < 60) := by show _ < _; omega
      clear hown hss hix h60 hnP
      have HC3 : Hid ((w1.alloc (.cells #[.slice va s.length vc] 43)).drew.cell? ⟨P, 3, none⟩ = some (.slice ad st.length cap)) := ((below_alloc w1 (.cells #[.slice va s.length vc] 43)).cell (p := ⟨P, 3, none⟩) hPl1).trans c3
      have HF3 : Hid ((w1.alloc (.cells #[.slice va s.length vc] 43)).drew.frozen? ⟨P, 3, none⟩ = false) := (World.frozen?_of_block (a := ⟨P, 3, none⟩) ((below_alloc w1 (.cells #[.slice va s.length vc] 43)).block P hPl1)).trans f3
      go_wp2
      go_region_law (refine step_append_lies _ (by rfl) (.tmp 31) (.tmp 33) 24 (by rfl) c.base 43 i0 (.slice none 0 0) 1 24 Tryz.underlying24 hi0 hz0 hz1 hz2 rfl (by decide) (.slice ad st.length cap) st.length vs (by rfl) (by exact (HOW.out.alloc _).drew) ⟨w1.heap.size, 0, none⟩ 1 1 [.slice va s.length vc] (by rfl) rfl (by exact cell_one_new _ _ _) (by simp [Value.oneCell']) (by omega) (by unfold maxLen; omega) (by omega) (by simp; omega) _ rfl ?_; intro g cap2 w2 hown2 hgrow2 hat2 hlt2; have c32 : w2.cell? ⟨P, 3, none⟩ = some (.slice ad st.length cap) := hgrow2.cell HC3.out (Ne.symm HNP.out); have f32 : w2.frozen? ⟨P, 3, none⟩ = false := (World.frozen?_of_block (a := ⟨P, 3, none⟩) (hgrow2.block P (by simp [World.drew]; omega) (Ne.symm HNP.out))).trans HF3.out)
      all_goals
        have hsz2 := hgrow2.size
        rw [show (w1.alloc (Obj.cells #[Value.slice va s.length vc] 43)).drew.heap.size = w1.heap.size + 1 by simp [World.drew]] at hat2 hsz2
        have HFIN : Hid (Pa c X P (w2.setCell ⟨P, 3, none⟩ (.slice (some ⟨g, 0, none⟩) (st.length + 1) cap2)) ts (st ++ [s]) d ∧ Fr w1.heap.size P w1 (w2.setCell ⟨P, 3, none⟩ (.slice (some ⟨g, 0, none⟩) (st.length + 1) cap2))) :=
          HP1.out.placed c3 HSS.out HLT.out HV1.out HS.out (by omega) hown2 (fun k hk hne => (hgrow2.block k (by simp [World.drew]; omega) (Ne.symm hne)).trans ((below_alloc w1 _).block k hk)) (fun j hj => by
            obtain rfl : g = j := by simpa [Value.ownBlock] using hj
            rcases hat2 with q | q
            · exact .inl q
            · exact .inr (by omega)) hgrow2.os hgrow2.tape hgrow2.output
        clear hown2 hgrow2 hat2 HC3 HF3 HOW c3 f3
        go_wp2
        go_ret2
        have hfr := HPA.out.fr HB1.out
        exact ⟨hfr.then HFIN.out.2 hfr.size, .inr ⟨st.length, st ++ [s], HE.out, rfl, HFIN.out.1⟩⟩
end Go.Proofs.YtfdjchnckjgapaaGreatDoor
