/-
  The step of an expression.
-/
import Derived.Test.YtklhjjgnhigbiaaGreatDoorMtSds
import Derived.Laws.EntriesVeiled
namespace Go.Proofs.YtklhjjgnhigbiaaGreatDoor
open Go.RowKit Go.Shelf
set_option linter.unusedVariables false

def ThrA (ws : List Nat) (b0 : Nat) (n : Nd) (w : World) (e : Ending) (w' : World) : Prop :=
  ∃ d : Sd, e = .returned (funV d) ∧ Below w.heap.size w w' ∧ d.lo = w.heap.size ∧ d.hi ≤ w'.heap.size ∧ d.lo ≤ d.hi ∧ d.ok ws.length b0 ∧ d.R = relN ws n ∧ d.I w' S0
theorem Tryz.infoStep : (Tryz.prog.info? 106).map (fun i => (i.zero, i.size, i.bytes)) = some (some .nilFunc, 1, 8) := by kernel_rfl
theorem own_set {w : World} {base e G n C i : Nat} {xs : List Value} (h : w.ownsRow base e 1 (.slice (some ⟨G, 0, none⟩) n C) n xs) (u : Value) : (w.setCell ⟨G, i, none⟩ u).ownsRow base e 1 (.slice (some ⟨G, 0, none⟩) n C) n (xs.set i u) := by
  have hl := h.1
  rcases h.2 with ⟨e0, _⟩ | ⟨g', cap', cur, e0, hb, hg, hc, hm, hs, ht⟩
  · cases e0
  · obtain ⟨rfl, rfl⟩ : G = g' ∧ C = cap' := by simpa using e0
    refine ⟨by simpa using hl, .inr ⟨G, C, cur.setIfInBounds i u, rfl, hb, ?_, hc, hm, by simpa using hs, ?_⟩⟩
    · simp [World.setCell, Array.getElem?_modify, hg]
    · rw [show (cur.setIfInBounds i u).toList = cur.toList.set i u by simp, List.take_set, ht]

/-- The steps of the first parts, and where they lie. -/
structure Prts (ws : List Nat) (b0 base G : Nat) (l : List Nd) (w : World) (D : List Sd) : Prop where
  fam : Fam ws.length b0 base w.heap.size D
  past : ∀ d ∈ D, G < d.lo
  rel : D.map Sd.R = l.map (relN ws)
  news : ∀ d ∈ D, d.I w S0
theorem Prts.below {ws : List Nat} {b0 base G : Nat} {l : List Nd} {w w' : World} {D : List Sd} (h : Prts ws b0 base G l w D) (hb : Below w.heap.size w w') (hbs : base ≤ w.heap.size) : Prts ws b0 base G l w' D where
  fam := ⟨h.fam.base, h.fam.ok, fun d hd => by have := h.fam.le d hd; have := hb.size; omega, h.fam.apart⟩
  past := h.past
  rel := h.rel
  news := fun d hd => Sd.below (h.fam.ok d hd) (h.news d hd) (by have := h.fam.base; omega) hb
theorem Prts.set {ws : List Nat} {b0 base G : Nat} {l : List Nd} {w : World} {D : List Sd} (h : Prts ws b0 base G l w D) (hG : base ≤ G) (i : Nat) (u : Value) : Prts ws b0 base G l (w.setCell ⟨G, i, none⟩ u) D where
  fam := ⟨h.fam.base, h.fam.ok, fun d hd => by have := h.fam.le d hd; simpa [World.setCell] using this, h.fam.apart⟩
  past := h.past
  rel := h.rel
  news := fun d hd => (h.fam.ok d hd).keep w _ S0 (h.news d hd) (fun k hk => Below.heap_setCell _ _ _ _ (by
    have h1 := h.past d hd
    have h2 := h.fam.base
    show k ≠ G
    omega)) (by simp [World.setCell])
theorem Prts.add {ws : List Nat} {b0 base G : Nat} {l : List Nd} {n : Nd} {w : World} {D : List Sd} {d : Sd} (h : Prts ws b0 base G l w D) (hok : d.ok ws.length b0) (hlo : ∀ x ∈ D, x.hi ≤ d.lo) (hGd : G < d.lo) (hb : base ≤ d.lo) (hle : d.lo ≤ d.hi) (hhi : d.hi ≤ w.heap.size) (hR : d.R = relN ws n) (hI : d.I w S0) : Prts ws b0 base G (l ++ [n]) w (D ++ [d]) where
  fam := ⟨h.fam.base, fun x hx => by
      rcases List.mem_append.1 hx with q | q
      · exact h.fam.ok x q
      · obtain rfl : x = d := by simpa using q
        exact hok, fun x hx => by
      rcases List.mem_append.1 hx with q | q
      · exact h.fam.le x q
      · obtain rfl : x = d := by simpa using q
        omega, by
      rw [List.pairwise_append]
      exact ⟨h.fam.apart, by simp, fun a ha b hb => by
        obtain rfl : b = d := by simpa using hb
        exact hlo a ha⟩⟩
  past := fun x hx => by
    rcases List.mem_append.1 hx with q | q
    · exact h.past x q
    · obtain rfl : x = d := by simpa using q
      exact hGd
  rel := by rw [List.map_append, List.map_append, h.rel, List.map_cons, List.map_cons, hR]; rfl
  news := fun x hx => by
    rcases List.mem_append.1 hx with q | q
    · exact h.news x q
    · obtain rfl : x = d := by simpa using q
      exact hI

theorem prts_nil (ws : List Nat) (b0 base G : Nat) (w : World) (h : b0 ≤ base) : Prts ws b0 base G [] w [] := ⟨⟨h, (fun d hd => by cases hd), (fun d hd => by cases hd), List.Pairwise.nil⟩, (fun d hd => by cases hd), rfl, (fun d hd => by cases hd)⟩
theorem own_at {w : World} {base e G n C : Nat} {xs : List Value} (h : w.ownsRow base e 1 (.slice (some ⟨G, 0, none⟩) n C) n xs) {i : Nat} (hi : i < n) : w.cell? ⟨G, i, none⟩ = xs[i]? ∧ w.frozen? ⟨G, i, none⟩ = false := by
  rcases h.2 with ⟨e0, _⟩ | ⟨g', cap', cur, e0, hb, hg, hc, hm, hs, ht⟩
  · cases e0
  · obtain ⟨rfl, rfl⟩ : G = g' ∧ C = cap' := by simpa using e0
    refine ⟨?_, by simp [World.frozen?, hg]⟩
    rw [cell_in hg, ← ht, List.getElem?_take, if_pos (by omega), Array.getElem?_toList]
theorem prt_of_row {w : World} {base e G n C : Nat} {D : List Sd} (h : w.ownsRow base e 1 (.slice (some ⟨G, 0, none⟩) n C) n (D.map funV)) (hn : D.length = n) : PrtIn w G D := fun i hi => by
  rw [(own_at h (i := i) (by omega)).1]
  simp [hi]
theorem prt_two {w : World} {G : Nat} {t : TypeId} {d e : Sd} (h : w.heap[G]? = some (.cells #[funV d, funV e] t (0, 0))) : PrtIn w G [d, e] := fun i hi => by
  rw [cell_in h]
  match i, hi with
  | 0, _ => rfl
  | 1, _ => rfl

/-- A step, or none. -/
theorem pair_join {L b0 base : Nat} {dd : Sd} {W : World} (hL : L < 64) (hb : b0 ≤ base) (hok : dd.ok L b0) (h1 : base ≤ dd.lo) (h2 : dd.lo ≤ dd.hi) (h3 : dd.hi ≤ W.heap.size) (hI : dd.I W S0) (hbW : base ≤ W.heap.size) :
    Calls Tryz.prog 75 #[.func (.func 76) #[] #[], .slice (some ⟨W.heap.size, 0, none⟩) 2 2] (W.alloc (.cells #[.func (.func 77) #[] #[], .func (.func dd.fn) #[] dd.caps] 106)) fun e w' => ∃ d : Sd, e = .returned (funV d) ∧ Below W.heap.size W w' ∧ d.lo = base ∧ d.hi ≤ w'.heap.size ∧ d.lo ≤ d.hi ∧ d.ok L b0 ∧ d.R = (fun q p => p = q ∨ dd.R q p) ∧ d.I w' S0 := by
  refine Calls.mono (joined_new _ 2 2 _) ?_
  rintro e w' ⟨rfl, hw'⟩
  have hsz : (W.alloc (.cells #[.func (.func 77) #[] #[], .func (.func dd.fn) #[] dd.caps] 106)).heap.size = W.heap.size + 1 := by simp
  rw [hsz]
  obtain ⟨W1, hW1⟩ : ∃ W1, W1 = W.alloc (.cells #[.func (.func 77) #[] #[], .func (.func dd.fn) #[] dd.caps] 106) := ⟨_, rfl⟩
  rw [← hW1] at hsz hw'
  have hb1 : Below W.heap.size W W1 := by rw [hW1]; exact below_alloc _ _
  have hb2 : Below W1.heap.size W1 w' := by rw [hw']; exact ((Below.refl _ _).alloc (Nat.le_refl _) _).alloc (by simp) _
  have hbb : Below W.heap.size W w' := hb1.trans (hb2.mono (by omega))
  have hsw : w'.heap.size = W.heap.size + 3 := by rw [hw']; simp; omega
  have n1 : w'.cell? ⟨W.heap.size + 1 + 1, 0, none⟩ = some (.slice (some ⟨W.heap.size, 0, none⟩) 2 2) := by
    have := heap_new' (W1.alloc (.cells #[.func (.func 76) #[] #[]] 125)) (.cells #[.slice (some ⟨W.heap.size, 0, none⟩) 2 2] 122)
    rw [World.size_alloc, hsz] at this
    rw [hw']
    exact cell_in this 0
  have n2 : w'.cell? ⟨W.heap.size + 1, 0, none⟩ = some (.func (.func 76) #[] #[]) := by
    have := heap_new' W1 (.cells #[.func (.func 76) #[] #[]] 125)
    rw [hsz] at this
    rw [hw', World.cell?_of_block (a := ⟨W.heap.size + 1, 0, none⟩) (Below.heap_alloc _ _ _ (by simp; omega))]
    exact cell_in this 0
  have n3 : w'.heap[W.heap.size]? = some (.cells #[funV (stayD dd.lo), funV dd] 106 (0, 0)) := by
    rw [hb2.block _ (by omega), hW1]
    exact heap_new' _ _
  have F : Fam L b0 base (W.heap.size + 3) [stayD dd.lo, dd] := ⟨hb, (fun d hd => by
      rcases List.mem_cons.1 hd with rfl | hd
      · exact stay_ok
      · obtain rfl : d = dd := by simpa using hd
        exact hok), (fun d hd => by
      rcases List.mem_cons.1 hd with rfl | hd
      · show base ≤ dd.lo ∧ dd.lo ≤ dd.lo ∧ dd.lo ≤ _
        omega
      · obtain rfl : d = dd := by simpa using hd
        omega), by
      rw [List.pairwise_cons]
      refine ⟨fun b hb => ?_, by simp⟩
      obtain rfl : b = dd := by simpa using hb
      exact Nat.le_refl _⟩
  have FR : ∀ k, W.heap.size ≤ k → k < W.heap.size + 3 → Free base (W.heap.size + 3) [stayD dd.lo, dd] k := fun k a c => ⟨⟨by omega, c⟩, fun d hd => by
    rcases List.mem_cons.1 hd with rfl | hd
    · exact .inr (by show dd.lo ≤ k; omega)
    · obtain rfl : d = dd := by simpa using hd
      exact .inr (by omega)⟩
  refine ⟨joinD base (W.heap.size + 3) (W.heap.size + 1 + 1) (W.heap.size + 1) W.heap.size 2 [stayD dd.lo, dd], rfl, hbb, rfl, by show W.heap.size + 3 ≤ _; omega, by show base ≤ W.heap.size + 3; omega, join_ok hL F (FR _ (by omega) (by omega)) (FR _ (by omega) (by omega)) (FR _ (by omega) (by omega)) (by simp) (by simp), ?_, ⟨by omega, n1, n2, prt_two n3, fun d hd => ?_⟩⟩
  · funext q p
    simp [joinD, stayD]
  · rcases List.mem_cons.1 hd with rfl | hd
    · show dd.lo ≤ w'.heap.size
      omega
    · obtain rfl : d = dd := by simpa using hd
      exact Sd.below hok hI (by omega) hbb

set_option maxRecDepth 100000 in
set_option maxHeartbeats 8000000 in
theorem through_body (n : Nd) (za : Option Addr) (ca : Nat) (wa : Option Addr) (wc : Nat) (ws : List Nat) (b0 : Nat) (w : World) (hw : WrdAt b0 w (.slice wa ws.length wc) ws) (hL : ws.length < 64) (hb0 : b0 ≤ w.heap.size) (hright : rightN n = true) (hkl : n.kids.length ≤ 1000)
    (HR : ∀ i, (h : i < n.kids.length) → n.kids.length ≤ ca ∧ ∃ ga oa xa ka, za = some ⟨ga, oa, none⟩ ∧ ga < b0 ∧ w.cell? ⟨ga, oa + i * 3, none⟩ = some (.int .i64 n.kids[i].k) ∧ w.cell? ⟨ga, oa + i * 3 + 1, none⟩ = some (.int .i64 n.kids[i].s) ∧ w.cell? ⟨ga, oa + i * 3 + 2, none⟩ = some (.slice xa n.kids[i].kids.length ka) ∧
      ∀ W, Below w.heap.size w W → Calls Tryz.prog 59 #[.agg #[.int .i64 n.kids[i].k, .int .i64 n.kids[i].s, .slice xa n.kids[i].kids.length ka], .slice wa ws.length wc] W (ThrA ws b0 n.kids[i] W)) :
    Calls Tryz.prog 59 #[.agg #[.int .i64 n.k, .int .i64 n.s, .slice za n.kids.length ca], .slice wa ws.length wc] w (ThrA ws b0 n w) := by
  obtain ⟨i0, hi0, hz0, hz1, hz2⟩ := info_parts Tryz.infoStep
  obtain ⟨len, hlen⟩ : ∃ len, len = n.kids.length := ⟨_, rfl⟩
  obtain ⟨wl, hwl⟩ : ∃ len, len = ws.length := ⟨_, rfl⟩
  obtain ⟨nk, hnk⟩ : ∃ x, x = n.k := ⟨_, rfl⟩
  obtain ⟨ns, hns⟩ : ∃ x, x = n.s := ⟨_, rfl⟩
  have HHR : Hid (∀ i, (h : i < n.kids.length) → len ≤ ca ∧ ∃ (ga oa : Nat) (xa : Option Addr) (ka : Nat) (yk ys : Int) (yl : Nat), za = some ⟨ga, oa, none⟩ ∧ ga < b0 ∧ w.cell? ⟨ga, oa + i * 3, none⟩ = some (.int .i64 yk) ∧ w.cell? ⟨ga, oa + i * 3 + 1, none⟩ = some (.int .i64 ys) ∧ w.cell? ⟨ga, oa + i * 3 + 2, none⟩ = some (.slice xa yl ka) ∧
      ∀ W, Below w.heap.size w W → Calls Tryz.prog 59 #[.agg #[.int .i64 yk, .int .i64 ys, .slice xa yl ka], .slice wa wl wc] W (ThrA ws b0 n.kids[i] W)) := fun i hi => by
    obtain ⟨h1, ga, oa, xa, ka, h⟩ := HR i hi
    rw [← hwl] at h
    exact ⟨by omega, ga, oa, xa, ka, _, _, _, h⟩
  rw [← hlen, ← hnk, ← hns, ← hwl]
  have HW : Hid (WrdAt b0 w (.slice wa wl wc) ws) := by rw [hwl]; exact hw
  have HLEN : Hid (len = n.kids.length) := hlen
  have HWL : Hid (wl = ws.length) := hwl
  have HNK : Hid (nk = n.k) := hnk
  have HNS : Hid (ns = n.s) := hns
  have HRT : Hid (rightN n = true) := hright
  have hl1000 : len ≤ 1000 := by omega
  have hwl64 : wl < 64 := by omega
  have HMC : Hid ((madeCells (Value.nilFunc).cells (len * 1)).toList = List.replicate len .nilFunc) := by
    show _ = _
    rw [Nat.mul_one]
    exact toList_madeCells_one _ _
  have HB0 : Hid (Below w.heap.size w (w.alloc (.cells #[.int .i64 nk, .int .i64 ns, .slice za len ca] 24))) := below_alloc _ _
  have HEA : Hid ((w.alloc (.cells #[.int .i64 nk, .int .i64 ns, .slice za len ca] 24)).heap[w.heap.size]? = some (.cells #[.int .i64 nk, .int .i64 ns, .slice za len ca] 24 (0, 0))) := heap_new' w _
  clear HR hlen hwl hnk hns hw hright hkl hL
  go_enter Tryz.func59, Tryz.ntmps59
  go_wp2_with (first | (at_make; go_loud (refine wpList_make_full _ rfl _ _ 122 rfl (w.heap.size + 1) 106 i0 .nilFunc 1 Tryz.underlying122 hi0 hz0 hz1 .i64 .i64 _ _ len rfl rfl rfl rfl (by rw [hz2]; omega) (by unfold maxLen; omega) (by simp) ?_; intro w1 ho1 hg1; have a2 : w1.cell? ⟨w.heap.size, 2, none⟩ = some (.slice za len ca) := (World.cell?_of_block (a := ⟨w.heap.size, _, none⟩) (hg1.block w.heap.size (by simp) (by simp))).trans (cell_in HEA.out 2))) | fail)
  have HB1 : Hid (Below w.heap.size w w1) := HB0.out.grown hg1 (by simp) (fun k e => by cases e)
  have HEA1 : Hid (w1.heap[w.heap.size]? = some (.cells #[.int .i64 nk, .int .i64 ns, .slice za len ca] 24 (0, 0))) := (hg1.block w.heap.size (by simp) (by simp)).trans HEA.out
  have HO1 : Hid (w1.ownsRow (w.heap.size + 1) 106 1 (.slice (some ⟨w.heap.size + 1, 0, none⟩) len len) len (([] : List Sd).map funV ++ List.replicate (len - 0) .nilFunc)) := by
    have := ho1
    rw [HMC.out] at this
    show w1.ownsRow _ _ _ _ _ _
    simpa using this
  have hw1 : w.heap.size + 1 < w1.heap.size := lt_of_own HO1.out
  have HPR1 : Hid (Prts ws b0 w.heap.size (w.heap.size + 1) (n.kids.take 0) w1 []) := prts_nil _ _ _ _ _ hb0
  clear ho1 hg1 a2
  go_loopw [15] (fun x15 wr => ∃ (j : Nat) (D : List Sd), j ≤ len ∧ x15 = .int .i64 (j : Int) ∧ Hid (D.length = j) ∧ Hid (wr.ownsRow (w.heap.size + 1) 106 1 (.slice (some ⟨w.heap.size + 1, 0, none⟩) len len) len (D.map funV ++ List.replicate (len - j) .nilFunc)) ∧ Hid (Below w.heap.size w wr) ∧ Hid (wr.heap[w.heap.size]? = some (.cells #[.int .i64 nk, .int .i64 ns, .slice za len ca] 24 (0, 0))) ∧ Hid (Prts ws b0 w.heap.size (w.heap.size + 1) (n.kids.take j) wr D)) (fun x15 _ => len - (intOf x15).toNat)
  case atStart => exact ⟨0, [], Nat.zero_le _, rfl, rfl, HO1, HB1, HEA1, HPR1⟩
  case round =>
    obtain ⟨j, D, hj, rfl, HDL, HO, HB, HEA, HPR⟩ := hrel
    have hws : w.heap.size ≤ wr.heap.size := HB.out.size
    have hG : w.heap.size + 1 < wr.heap.size := lt_of_own HO.out
    by_cases hjl : j < len
    · have hjn : j < n.kids.length := by rw [← HLEN.out]; exact hjl
      obtain ⟨hca, ga, oa, xa, ka, yk, ys, yl, rfl, hga, p0, p1, p2, hcall⟩ := HHR.out j hjn
      have hga' : ga < w.heap.size := by omega
      have r0 : wr.cell? ⟨ga, oa + j * 3, none⟩ = some (.int .i64 yk) := (HB.out.cell (p := ⟨ga, _, none⟩) hga').trans p0
      have r1 : wr.cell? ⟨ga, oa + j * 3 + 1, none⟩ = some (.int .i64 ys) := (HB.out.cell (p := ⟨ga, _, none⟩) hga').trans p1
      have r2 : wr.cell? ⟨ga, oa + j * 3 + 2, none⟩ = some (.slice xa yl ka) := (HB.out.cell (p := ⟨ga, _, none⟩) hga').trans p2
      have hj0 : (0 : Int) ≤ (j : Int) := by omega
      have hj1 : (j : Int) < (len : Int) := by omega
      have hga2 : ga < wr.heap.size := by omega
      have hcl := hcall (wr.alloc (.cells #[.int .i64 yk, .int .i64 ys, .slice xa yl ka] 24)) (HB.out.alloc hws _)
      have HBA : Hid (Below wr.heap.size wr (wr.alloc (.cells #[.int .i64 yk, .int .i64 ys, .slice xa yl ka] 24))) := below_alloc _ _
      have hsa : (wr.alloc (.cells #[.int .i64 yk, .int .i64 ys, .slice xa yl ka] 24)).heap.size = wr.heap.size + 1 := by simp
      clear p0 p1 p2 hcall
      go_wp2_with fail
      refine hcl.mono ?_
      rintro e w2 ⟨d, rfl, hB2, hlo, hhi, hlh, hok, hR, hI⟩
      rw [hsa] at hB2 hlo
      have hB2' : Below wr.heap.size wr w2 := HBA.out.trans (hB2.mono (by omega))
      have HO2 : Hid (w2.ownsRow (w.heap.size + 1) 106 1 (.slice (some ⟨w.heap.size + 1, 0, none⟩) len len) len (D.map funV ++ List.replicate (len - j) .nilFunc)) := ownsRow_below HO.out hB2'
      have hs2 : wr.heap.size + 1 ≤ w2.heap.size := by have := hB2.size; omega
      have q1 : w2.cell? ⟨w.heap.size + 1, j, none⟩ = some .nilFunc := by
        rw [(own_at HO2.out hjl).1, List.getElem?_append_right (by simp [HDL.out]), List.length_map, HDL.out, Nat.sub_self, List.getElem?_replicate, if_pos (by omega)]
      have q2 : w2.frozen? ⟨w.heap.size + 1, j, none⟩ = false := (own_at HO2.out hjl).2
      have HPA : Hid (Prts ws b0 w.heap.size (w.heap.size + 1) (n.kids.take (j + 1)) w2 (D ++ [d])) := by
        have h1 := HPR.out.below hB2' hws
        have e : n.kids.take (j + 1) = n.kids.take j ++ [n.kids[j]] := by rw [List.take_add_one, List.getElem?_eq_getElem hjn]; rfl
        show Prts _ _ _ _ _ _ _
        rw [e]
        exact h1.add hok (fun x hx => by have := HPR.out.fam.le x hx; omega) (by omega) (by omega) hlh hhi hR hI
      obtain ⟨fn, hfn⟩ : ∃ x, x = d.fn := ⟨_, rfl⟩
      obtain ⟨caps, hcaps⟩ : ∃ x, x = d.caps := ⟨_, rfl⟩
      have HFV : Hid (funV d = .func (.func fn) #[] caps) := by show _ = _; rw [hfn, hcaps]; rfl
      unfold funV
      rw [← hfn, ← hcaps]
      have HB2 : Hid (Below w.heap.size w w2) := HB.out.trans (hB2'.mono hws)
      have HEA2 : Hid (w2.heap[w.heap.size]? = some (.cells #[.int .i64 nk, .int .i64 ns, .slice (some ⟨ga, oa, none⟩) len ca] 24 (0, 0))) := (hB2'.block w.heap.size (by omega)).trans HEA.out
      clear hcl hB2 hB2' hok hR hI hfn hcaps hlo hhi hlh
      go_wp2
      go_roundw
      case rel =>
        refine ⟨j + 1, D ++ [d], by omega, by go_num, (by show _ = _; simp [HDL.out]), ?_, HB2.out.setCell (by show w.heap.size ≤ w.heap.size + 1; omega) _, (Below.heap_setCell _ _ _ _ (by show w.heap.size ≠ w.heap.size + 1; omega)).trans HEA2.out, HPA.out.set (by omega) _ _⟩
        have := own_set (i := j) HO2.out (.func (.func fn) #[] caps)
        have e : (D.map funV ++ List.replicate (len - j) Value.nilFunc).set j (.func (.func fn) #[] caps) = (D ++ [d]).map funV ++ List.replicate (len - (j + 1)) Value.nilFunc := by
          rw [List.set_append_right _ _ (by simp [HDL.out]), List.length_map, HDL.out, Nat.sub_self, show len - j = (len - (j + 1)) + 1 by omega, List.replicate_succ, List.set_cons_zero, List.map_append, List.append_assoc, ← HFV.out]
          rfl
        rw [e] at this
        exact this
      case measure => simp [intOf]; omega
    · obtain rfl : j = len := by omega
      have HOF : Hid (wr.ownsRow (w.heap.size + 1) 106 1 (.slice (some ⟨w.heap.size + 1, 0, none⟩) j j) j (D.map funV)) := by
        have := HO.out
        rw [Nat.sub_self, List.replicate_zero, List.append_nil] at this
        exact this
      have HPIN : Hid (PrtIn wr (w.heap.size + 1) D) := prt_of_row HOF.out HDL.out
      have HREL : Hid (D.map Sd.R = n.kids.map (relN ws)) := by
        have := HPR.out.rel
        rw [List.take_of_length_le (by rw [← HLEN.out]; exact Nat.le_refl _)] at this
        exact this
      have e0 : wr.cell? ⟨w.heap.size, 0, none⟩ = some (.int .i64 nk) := cell_in HEA.out 0
      have e1 : wr.cell? ⟨w.heap.size, 1, none⟩ = some (.int .i64 ns) := cell_in HEA.out 1
      have HMAY : Hid (mayK nk ns j = true) := by
        have := HRT.out
        rw [rightN_eq, Bool.and_eq_true, ← HNK.out, ← HNS.out, ← HLEN.out] at this
        exact this.1
      have HRN : Hid (relN ws n = relK ws nk ns (relC ws n.kids) (relA ws n.kids) (relH ws n.kids)) := by rw [HNK.out, HNS.out]; exact relN_eq ws n
      have HWW : Hid (∀ W, Below w.heap.size w W → WrdAt b0 W (.slice wa wl wc) ws) := fun W hb => HW.out.to (fun k hk => hb.block k (by omega)) (Nat.le_refl _)
      by_cases k1 : nk = 1
      · subst k1
        have hm : j = 0 ∧ 0 ≤ ns ∧ ns < 64 := by have := HMAY.out; simpa [mayK] using this
        obtain ⟨k, rfl⟩ : ∃ k : Nat, ns = (k : Int) := ⟨ns.toNat, by omega⟩
        have hov := over_new wa wl wc (k : Int) wr
        go_wp2_with fail
        refine hov.mono ?_
        rintro e w2 ⟨rfl, rfl⟩
        clear hov
        go_wp2
        go_ret
        have hbb : Below wr.heap.size wr ((wr.alloc (.cells #[.slice wa wl wc] 25)).alloc (.cells #[.int .i64 (k : Int)] 3)) := ((Below.refl _ _).alloc (Nat.le_refl _) _).alloc (by simp) _
        have hbw := HB.out.trans (hbb.mono hws)
        refine ⟨overD b0 w.heap.size (wr.heap.size + 2) wr.heap.size (wr.heap.size + 1) (.slice wa wl wc) ws (k : Int), rfl, hbw, rfl, by simp [overD], by show w.heap.size ≤ wr.heap.size + 2; omega, over_ok (by omega) (by rw [← HWL.out]; exact hwl64) hb0 (by omega) ⟨by omega, by omega⟩ ⟨by omega, by omega⟩, ?_, ?_⟩
        · rw [HRN.out]
          funext q p
          simp [overD, relK]
        · refine ⟨by simp, ?_, ?_, HWW.out _ hbw⟩
          · rw [World.cell?_of_block (a := ⟨wr.heap.size, 0, none⟩) (Below.heap_alloc _ _ _ (by simp))]
            exact cell_in (heap_new' _ _) 0
          · have := heap_new' (wr.alloc (.cells #[.slice wa wl wc] 25)) (.cells #[.int .i64 (k : Int)] 3)
            rw [show (wr.alloc (.cells #[.slice wa wl wc] 25)).heap.size = wr.heap.size + 1 by simp] at this
            exact cell_in this 0
      have HFAM : Hid (∀ h, wr.heap.size ≤ h → Fam ws.length b0 w.heap.size h D) := fun h hh => ⟨hb0, HPR.out.fam.ok, (fun d hd => by have := HPR.out.fam.le d hd; omega), HPR.out.fam.apart⟩
      have HFN : Hid (∀ h k, wr.heap.size ≤ k → k < h → Free w.heap.size h D k) := fun h k h1 h2 => ⟨⟨by omega, h2⟩, fun d hd => .inr (by have := HPR.out.fam.le d hd; omega)⟩
      have HFG : Hid (∀ h, wr.heap.size ≤ h → Free w.heap.size h D (w.heap.size + 1)) := fun h hh => ⟨⟨by omega, by omega⟩, fun d hd => .inl (HPR.out.past d hd)⟩
      have HDI : Hid (∀ W, Below wr.heap.size wr W → ∀ d ∈ D, d.I W S0) := fun W hb d hd => Sd.below (HPR.out.fam.ok d hd) (HPR.out.news d hd) (by omega) hb
      have hwl' : ws.length < 64 := by rw [← HWL.out]; exact hwl64
      by_cases k2 : nk = 2
      · subst k2
        have hjn := joined_new (some ⟨w.heap.size + 1, 0, none⟩) j j wr
        go_wp2_with fail
        refine hjn.mono ?_
        rintro e w2 ⟨rfl, hw2⟩
        have hbb : Below wr.heap.size wr w2 := by rw [hw2]; exact ((Below.refl _ _).alloc (Nat.le_refl _) _).alloc (by simp) _
        have hsz : w2.heap.size = wr.heap.size + 2 := by rw [hw2]; simp
        have g1 : w2.cell? ⟨wr.heap.size + 1, 0, none⟩ = some (.slice (some ⟨w.heap.size + 1, 0, none⟩) j j) := by
          have := heap_new' (wr.alloc (.cells #[.func (.func 76) #[] #[]] 125)) (.cells #[.slice (some ⟨w.heap.size + 1, 0, none⟩) j j] 122)
          rw [World.size_alloc] at this
          rw [hw2]
          exact cell_in this 0
        have g2 : w2.cell? ⟨wr.heap.size, 0, none⟩ = some (.func (.func 76) #[] #[]) := by
          rw [hw2, World.cell?_of_block (a := ⟨wr.heap.size, 0, none⟩) (Below.heap_alloc _ _ _ (by simp))]
          exact cell_in (heap_new' _ _) 0
        have G1 : Hid (w2.cell? ⟨wr.heap.size + 1, 0, none⟩ = some (.slice (some ⟨w.heap.size + 1, 0, none⟩) j j)) := g1
        have G2 : Hid (w2.cell? ⟨wr.heap.size, 0, none⟩ = some (.func (.func 76) #[] #[])) := g2
        clear hjn hw2 g1 g2
        go_wp2
        go_ret
        refine ⟨joinD w.heap.size (wr.heap.size + 2) (wr.heap.size + 1) wr.heap.size (w.heap.size + 1) j D, rfl, HB.out.trans (hbb.mono hws), rfl, by show wr.heap.size + 2 ≤ _; omega, by show w.heap.size ≤ wr.heap.size + 2; omega, join_ok hwl' (HFAM.out _ (by omega)) (HFN.out _ _ (by omega) (by omega)) (HFN.out _ _ (by omega) (by omega)) (HFG.out _ (by omega)) (by rw [HDL.out]; exact Nat.le_refl _) (by rw [HDL.out]; omega), ?_, ⟨by omega, by rw [HDL.out]; exact G1.out, G2.out, HPIN.out.to (hbb.block _ hG), HDI.out _ hbb⟩⟩
        rw [HRN.out]
        show (fun q p => ∃ d ∈ D, d.R q p) = _
        rw [relA_of HREL.out]
        funext q p
        simp [relK]
      by_cases k0 : nk = 0
      · subst k0
        have hjn := inTurn_new (some ⟨w.heap.size + 1, 0, none⟩) j j wr
        go_wp2_with fail
        refine hjn.mono ?_
        rintro e w2 ⟨rfl, hw2⟩
        have hbb : Below wr.heap.size wr w2 := by rw [hw2]; exact (Below.refl _ _).alloc (Nat.le_refl _) _
        have hsz : w2.heap.size = wr.heap.size + 1 := by rw [hw2]; simp
        have G1 : Hid (w2.cell? ⟨wr.heap.size, 0, none⟩ = some (.slice (some ⟨w.heap.size + 1, 0, none⟩) j j)) := by
          rw [hw2]
          exact cell_in (heap_new' _ _) 0
        clear hjn hw2
        go_wp2
        go_ret
        refine ⟨turnD w.heap.size (wr.heap.size + 1) wr.heap.size (w.heap.size + 1) j D, rfl, HB.out.trans (hbb.mono hws), rfl, by show wr.heap.size + 1 ≤ _; omega, by show w.heap.size ≤ wr.heap.size + 1; omega, turn_ok (HFAM.out _ (by omega)) (HFN.out _ _ (by omega) (by omega)) (HFG.out _ (by omega)) (by rw [HDL.out]; exact Nat.le_refl _) (by rw [HDL.out]; omega), ?_, ⟨by omega, by rw [HDL.out]; exact G1.out, HPIN.out.to (hbb.block _ hG), fun i hi => ?_⟩⟩
        · rw [HRN.out]
          show Rcat D = _
          rw [relC_of HREL.out]
          funext q p
          simp [relK]
        · rw [chS_none]
          exact HDI.out _ hbb _ (List.getElem_mem hi)
      have hm : (nk = 3 ∨ nk = 4 ∨ nk = 5) ∧ j = 1 := by
        have := HMAY.out
        unfold mayK at this
        rw [if_neg k0, if_neg k1, if_neg k2] at this
        split at this
        · exact ⟨by assumption, by simpa using this⟩
        · cases this
      obtain ⟨hk345, rfl⟩ := hm
      obtain ⟨d0, rfl⟩ : ∃ d0, D = [d0] := by
        have := HDL.out
        match D, this with
        | [d0], _ => exact ⟨d0, rfl⟩
      obtain ⟨x, hx⟩ : ∃ x, n.kids = [x] := by
        have := HLEN.out
        match hk : n.kids, this with
        | [x], _ => exact ⟨x, rfl⟩
      have HR0 : Hid (d0.R = relN ws x) := by have := HREL.out; rw [hx] at this; show _ = _; simpa using this
      have HRH : Hid (relH ws n.kids = d0.R) := by show _ = _; rw [hx, relH, HR0.out]
      have hok0 : d0.ok ws.length b0 := HPR.out.fam.ok d0 (by simp)
      have hle0 := HPR.out.fam.le d0 (by simp)
      have hp0 := HPR.out.past d0 (by simp)
      have HI0 : Hid (∀ W, Below wr.heap.size wr W → d0.I W S0) := fun W hb => HDI.out W hb d0 (by simp)
      have f0 : wr.cell? ⟨w.heap.size + 1, 0, none⟩ = some (funV d0) := HPIN.out 0 (by simp)
      obtain ⟨fn, hfn⟩ : ∃ x, x = d0.fn := ⟨_, rfl⟩
      obtain ⟨caps, hcaps⟩ : ∃ x, x = d0.caps := ⟨_, rfl⟩
      have HFV : Hid (funV d0 = .func (.func fn) #[] caps) := by show _ = _; rw [hfn, hcaps]; rfl
      rw [HFV.out] at f0
      have HOK0 : Hid (d0.ok ws.length b0) := hok0
      clear hfn hcaps hx hok0
      rcases hk345 with rfl | rfl | rfl
      · have hag := again_new wa wl wc hwl64 (.func fn) #[] caps wr
        go_wp2_with fail
        refine hag.mono ?_
        rintro e w2 ⟨b1, mb, b2, rfl, hn1, hn2, hb1, hb2, hmb, g1, g2, hmk, hbb⟩
        have hs2 := hbb.size
        have hpj := pair_join (base := w.heap.size) (dd := againD d0.lo w2.heap.size b1 b2 mb d0) (W := w2) hwl' hb0 (again_ok hwl' ⟨by omega, (fun d hd => by
            obtain rfl : d = d0 := by simpa using hd
            exact HOK0.out), (fun d hd => by
            obtain rfl : d = d0 := by simpa using hd
            omega), by simp⟩ ⟨⟨by omega, hb1.2⟩, (fun d hd => by
            obtain rfl : d = d0 := by simpa using hd
            exact .inr (by omega))⟩ ⟨⟨by omega, hb2.2⟩, (fun d hd => by
            obtain rfl : d = d0 := by simpa using hd
            exact .inr (by omega))⟩ ⟨⟨by omega, hmb.2⟩, (fun d hd => by
            obtain rfl : d = d0 := by simpa using hd
            exact .inr (by omega))⟩ hn1 hn2) (by show w.heap.size ≤ d0.lo; omega) (by show d0.lo ≤ w2.heap.size; omega) (Nat.le_refl _) (again_start (Nat.le_refl _) g1 (by rw [HFV.out]; exact g2) hmk (HI0.out _ hbb)) (by omega)
        have HPJ := hpj
        unfold againD at HPJ
        clear hag g1 g2 hpj hmk
        go_wp2_with fail
        refine HPJ.mono ?_
        rintro e w3 ⟨d, rfl, hbd, q1, q2, q3, q4, q5, q6⟩
        clear HPJ
        obtain ⟨fn', hfn'⟩ : ∃ x, x = d.fn := ⟨_, rfl⟩
        obtain ⟨caps', hcaps'⟩ : ∃ x, x = d.caps := ⟨_, rfl⟩
        have HFD : Hid (funV d = .func (.func fn') #[] caps') := by show _ = _; rw [hfn', hcaps']; rfl
        rw [HFD.out]
        have HTA : Hid (ThrA ws b0 n w (.returned (.func (.func fn') #[] caps')) w3) := by
          refine ⟨d, by rw [HFD.out], HB.out.trans ((hbb.trans (hbd.mono hs2)).mono hws), q1, q2, q3, q4, ?_, q6⟩
          rw [q5, HRN.out, HRH.out]
          funext q p
          simp [relK]
        clear hfn' hcaps' q1 q2 q3 q4 q5 q6
        go_wp2
        go_ret
        exact HTA.out
      · have hag := again_new wa wl wc hwl64 (.func fn) #[] caps wr
        go_wp2_with fail
        refine hag.mono ?_
        rintro e w2 ⟨b1, mb, b2, rfl, hn1, hn2, hb1, hb2, hmb, g1, g2, hmk, hbb⟩
        have G1 : Hid (w2.cell? ⟨b1, 0, none⟩ = some (.slice (some ⟨mb, 0, none⟩) 1 1)) := g1
        have G2 : Hid (w2.cell? ⟨b2, 0, none⟩ = some (.func (.func fn) #[] caps)) := g2
        clear hag g1 g2
        go_wp2
        go_ret
        refine ⟨againD w.heap.size w2.heap.size b1 b2 mb d0, rfl, HB.out.trans (hbb.mono hws), rfl, Nat.le_refl _, by show w.heap.size ≤ w2.heap.size; omega, again_ok hwl' (HFAM.out _ (by omega)) (HFN.out _ _ hb1.1 hb1.2) (HFN.out _ _ hb2.1 hb2.2) (HFN.out _ _ hmb.1 hmb.2) hn1 hn2, ?_, again_start (Nat.le_refl _) G1.out (by rw [HFV.out]; exact G2.out) hmk (HI0.out _ hbb)⟩
        rw [HRN.out, HRH.out]
        funext q p
        simp [relK, againD]
      · have hpj := pair_join (base := w.heap.size) (dd := d0) (W := wr) hwl' hb0 HOK0.out (by omega) (by omega) (by omega) (HI0.out _ (Below.refl _ _)) (by omega)
        have HX : Hid (.func (.func d0.fn) #[] d0.caps = (.func (.func fn) #[] caps : Value)) := HFV.out
        rw [HX.out] at hpj
        go_wp2_with fail
        refine hpj.mono ?_
        rintro e w3 ⟨d, rfl, hbd, q1, q2, q3, q4, q5, q6⟩
        clear hpj
        obtain ⟨fn', hfn'⟩ : ∃ x, x = d.fn := ⟨_, rfl⟩
        obtain ⟨caps', hcaps'⟩ : ∃ x, x = d.caps := ⟨_, rfl⟩
        have HFD : Hid (funV d = .func (.func fn') #[] caps') := by show _ = _; rw [hfn', hcaps']; rfl
        rw [HFD.out]
        have HTA : Hid (ThrA ws b0 n w (.returned (.func (.func fn') #[] caps')) w3) := by
          refine ⟨d, by rw [HFD.out], HB.out.trans (hbd.mono hws), q1, q2, q3, q4, ?_, q6⟩
          rw [q5, HRN.out, HRH.out]
          funext q p
          simp [relK]
        clear hfn' hcaps' q1 q2 q3 q4 q5 q6
        go_wp2
        go_ret
        exact HTA.out
end Go.Proofs.YtklhjjgnhigbiaaGreatDoor
