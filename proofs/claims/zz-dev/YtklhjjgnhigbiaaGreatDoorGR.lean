/-
  least.partsOf: the parting from group to group, in memory. least.partsOf, walked.
-/
import Derived.Test.YtklhjjgnhigbiaaGreatDoorLsLead
import Derived.Test.YtklhjjgnhigbiaaGreatDoorLsFin
namespace Go.Proofs.YtklhjjgnhigbiaaGreatDoor
open Go.RowKit Go.Shelf
set_option linter.unusedVariables false

/-- The parting, while parts are looked at. -/
structure PtI (w0 : World) (PB gp gw n lo base k : Nat) (iv : Value) (M : Mach) (gf gn : Nat → Nat) (P : Prt13) (w : World) (mv : Value) (rows : List Value) (wv : Nat → Value) : Prop where
  str : PStr w PB gp n mv iv gw
  prt : RowN w base gp n P.p
  mbr : MbI w base mv rows P.B
  ini : InI w lo iv k n M gf gn
  way : WyI w base gw n wv (fun _ => [])
  sgp : ∀ u ∈ rows, u.ownBlock ≠ some gp
  sin : ∀ u ∈ rows, ∀ b, u.ownBlock = some b → ∀ c, c < k → gf c ≠ b ∧ gn c ≠ b
  gin : ∀ c, c < k → gf c ≠ gp ∧ gn c ≠ gp
  bpb : base ≤ PB
  bel : Below base w0 w
theorem InI.to2 {w w' : World} {lo : Nat} {iv : Value} {k n : Nat} {M : Mach} {gf gn : Nat → Nat} (h : InI w lo iv k n M gf gn) (h1 : ∀ g, iv.ownBlock = some g → w'.heap[g]? = w.heap[g]?) (h2 : ∀ c, c < k → w'.heap[gf c]? = w.heap[gf c]? ∧ w'.heap[gn c]? = w.heap[gn c]?) : InI w' lo iv k n M gf gn :=
  ⟨own_blk h.arr h1, fun c hc => (h.fst c hc).blk (h2 c hc).1, fun c hc => (h.nxt c hc).blk (h2 c hc).2⟩
section
variable {w0 w w' : World} {PB gp gw n lo base k : Nat} {iv : Value} {M : Mach} {gf gn : Nat → Nat} {P : Prt13} {mv : Value} {rows : List Value} {wv wv' : Nat → Value}
theorem PtI.siz (h : PtI w0 PB gp gw n lo base k iv M gf gn P w mv rows wv) : base ≤ w.heap.size := by
  have := h.prt.lt
  omega
theorem PtI.below (h : PtI w0 PB gp gw n lo base k iv M gf gn P w mv rows wv) (hb : Below w.heap.size w w') : PtI w0 PB gp gw n lo base k iv M gf gn P w' mv rows wv :=
  ⟨h.str.below hb, h.prt.below hb, h.mbr.below hb, h.ini.below hb, h.way.below hb, h.sgp, h.sin, h.gin, h.bpb, h.bel.trans (hb.mono h.siz)⟩
theorem PtI.lead (h : PtI w0 PB gp gw n lo base k iv M gf gn P w mv rows wv) {wy' : Nat → List Nat} (hn : NtI13 w base gw n wv w' wv' wy' (.slice none 0 0) []) (hy : ∀ s, s < n → wy' s = []) : PtI w0 PB gp gw n lo base k iv M gf gn P w' mv rows wv' := by
  obtain ⟨h1, h2, h3⟩ := hn.env h.way h.str h.mbr h.ini
  refine ⟨h1, h.prt.blk ?_, h2, h3, hn.way.same hy, h.sgp, h.sin, h.gin, h.bpb, h.bel.trans (hn.from h.way h.siz)⟩
  obtain ⟨cs, hc⟩ := h.prt.typed
  exact (hn.keep h.way hc (by decide) (by decide)).trans hc.symm
theorem PtI.tys (h : PtI w0 PB gp gw n lo base k iv M gf gn P w mv rows wv) : (∃ cs, w.heap[gp]? = some (.cells cs 3 (0, 0))) ∧ (∃ cs, w.heap[PB]? = some (.cells cs 97 (0, 0))) ∧ (∀ b, mv.ownBlock = some b → ∃ cs, w.heap[b]? = some (.cells cs 26 (0, 0))) ∧ ∀ u ∈ rows, ∀ b, u.ownBlock = some b → ∃ cs, w.heap[b]? = some (.cells cs 3 (0, 0)) :=
  ⟨h.prt.typed, ⟨_, h.str⟩, fun b e => own_typed h.mbr.arr e, fun u hu b e => by
    obtain ⟨i, hi, rfl⟩ := List.mem_iff_getElem.1 hu
    exact own_typed (h.mbr.row i hi (by rw [← h.mbr.len]; exact hi)) e⟩
/-- A block of another sort is as it was behind a group's leaving. -/
theorem PtI.lvk (h : PtI w0 PB gp gw n lo base k iv M gf gn P w mv rows wv) (hl : LvF PB gp mv rows w w') {b : Nat} {cs : Array Value} {t : TypeId} {fr : Nat × Nat} (hb : w.heap[b]? = some (.cells cs t fr)) (h1 : t ≠ 3) (h2 : t ≠ 97) (h3 : t ≠ 26) : w'.heap[b]? = w.heap[b]? := by
  obtain ⟨⟨c1, q1⟩, ⟨c2, q2⟩, q3, q4⟩ := h.tys
  refine hl.block b (lt_of_heap hb) (fun e => ?_) (fun e => ?_) (fun e => ?_) (fun u hu e => ?_)
  · rw [e] at hb
    exact h1 (typ_ne hb q1)
  · rw [e] at hb
    exact h2 (typ_ne hb q2)
  · obtain ⟨c, hc⟩ := q3 b e
    exact h3 (typ_ne hb hc)
  · obtain ⟨c, hc⟩ := q4 u hu b e
    exact h1 (typ_ne hb hc)
/-- A row of numbers that is not of the parts is as it was. -/
theorem PtI.lvi (h : PtI w0 PB gp gw n lo base k iv M gf gn P w mv rows wv) (hl : LvF PB gp mv rows w w') {b : Nat} {cs : Array Value} {fr : Nat × Nat} (hb : w.heap[b]? = some (.cells cs 3 fr)) (h1 : b ≠ gp) (h2 : ∀ u ∈ rows, u.ownBlock ≠ some b) : w'.heap[b]? = w.heap[b]? := by
  obtain ⟨⟨c1, q1⟩, ⟨c2, q2⟩, q3, q4⟩ := h.tys
  refine hl.block b (lt_of_heap hb) h1 (fun e => ?_) (fun e => ?_) h2
  · rw [e] at hb
    exact absurd (typ_ne hb q2) (by decide)
  · obtain ⟨c, hc⟩ := q3 b e
    exact absurd (typ_ne hb hc) (by decide)
theorem PtI.leave (h : PtI w0 PB gp gw n lo base k iv M gf gn P w mv rows wv) {gv : Value} {P' : Prt13} (hl : LvA PB gp n base gw iv mv gv rows P' w w') (hg : ∀ b, gv.ownBlock = some b → b ≠ gp ∧ ∀ c, c < k → gf c ≠ b ∧ gn c ≠ b) :
    ∃ mv' rows', PtI w0 PB gp gw n lo base k iv M gf gn P' w' mv' rows' wv ∧ (∀ u ∈ rows', ∀ b, u.ownBlock = some b → (∃ u' ∈ rows, u'.ownBlock = some b) ∨ gv.ownBlock = some b) ∧ (∀ b, mv'.ownBlock = some b → mv.ownBlock = some b ∨ w.heap.size ≤ b) ∧ LvF PB gp mv rows w w' := by
  obtain ⟨mv', rows', k1, k2, k3, k4, k5, k6⟩ := hl
  obtain ⟨⟨c1, q1⟩, ⟨c2, q2⟩, q3, q4⟩ := h.tys
  refine ⟨mv', rows', ⟨k1, k2, k3, h.ini.to2 (fun b e => ?_) (fun c hc => ⟨?_, ?_⟩), h.way.to ?_ (fun s hs b e => ?_), fun u hu e => ?_, fun u hu b e => ?_, h.gin, h.bpb, ?_⟩, k4, k5, k6⟩
  · obtain ⟨cs, hc⟩ := own_typed h.ini.arr e
    exact h.lvk k6 hc (by decide) (by decide) (by decide)
  · obtain ⟨cs, hc2⟩ := (h.ini.fst c hc).typed
    exact h.lvi k6 hc2 (h.gin c hc).1 (fun u hu e => (h.sin u hu _ e c hc).1 rfl)
  · obtain ⟨cs, hc2⟩ := (h.ini.nxt c hc).typed
    exact h.lvi k6 hc2 (h.gin c hc).2 (fun u hu e => (h.sin u hu _ e c hc).2 rfl)
  · obtain ⟨cs, hc⟩ := own_typed h.way.arr (k := gw) rfl
    exact h.lvk k6 hc (by decide) (by decide) (by decide)
  · obtain ⟨cs, hc⟩ := own_typed (h.way.row s hs) e
    exact h.lvk k6 hc (by decide) (by decide) (by decide)
  · rcases k4 u hu gp e with ⟨u', hu', e'⟩ | e'
    · exact h.sgp u' hu' e'
    · exact (hg gp e').1 rfl
  · rcases k4 u hu b e with ⟨u', hu', e'⟩ | e'
    · exact h.sin u' hu' b e'
    · exact (hg b e').2
  · refine h.bel.trans ⟨k6.os, k6.tape, k6.output, k6.size, fun b hb => k6.block b (by have := h.siz; omega) (fun e => ?_) (fun e => ?_) (fun e => ?_) (fun u hu e => ?_)⟩
    · have := h.prt.lt.2
      omega
    · have := h.bpb
      omega
    · have := (h.mbr.arr.lt b e).1
      omega
    · obtain ⟨i, hi, rfl⟩ := List.mem_iff_getElem.1 hu
      have := ((h.mbr.row i hi (by rw [← h.mbr.len]; exact hi)).lt b e).1
      omega
/-- The groups that are still to leave. -/
structure GpI (b2 PB gp k : Nat) (gf gn : Nat → Nat) (gvv : Value) (rowsG : List Value) (G : List (List Nat)) (j : Nat) (w : World) (mv : Value) (rows : List Value) : Prop where
  arr : w.ownsRow b2 26 1 gvv G.length rowsG
  row : ∀ i, j ≤ i → (h1 : i < rowsG.length) → (h2 : i < G.length) → w.ownsRow b2 3 1 rowsG[i] G[i].length (cellP G[i])
  inj : ∀ i i', (hi : i < rowsG.length) → (hj : i' < rowsG.length) → ∀ b, rowsG[i].ownBlock = some b → rowsG[i'].ownBlock = some b → i = i'
  sepr : ∀ u ∈ rows, ∀ b, u.ownBlock = some b → b < b2 ∨ ∃ i, ∃ h : i < rowsG.length, i < j ∧ rowsG[i].ownBlock = some b
  sepm : ∀ b, mv.ownBlock = some b → gvv.ownBlock ≠ some b
  low : gp < b2 ∧ ∀ c, c < k → gf c < b2 ∧ gn c < b2
theorem GpI.start {b2 : Nat} {gvv : Value} {rowsG : List Value} {G : List (List Nat)} (h : PtI w0 PB gp gw n lo base k iv M gf gn P w mv rows wv) (hg : MbI w' w.heap.size gvv rowsG G) : GpI w.heap.size PB gp k gf gn gvv rowsG G 0 w' mv rows := by
  refine ⟨hg.arr, fun i _ a b => hg.row i a b, hg.inj, fun u hu b e => .inl ?_, fun b e e2 => ?_, h.prt.lt.1, fun c hc => ⟨(h.ini.fst c hc).lt.1, (h.ini.nxt c hc).lt.1⟩⟩
  · obtain ⟨cs, hc⟩ := h.tys.2.2.2 u hu b e
    exact lt_of_heap hc
  · have h1 := (h.mbr.arr.lt b e).2
    have h2 := (hg.arr.lt b e2).1
    omega
/-- What a group that leaves needs. -/
theorem GpI.here {b2 : Nat} {gvv : Value} {rowsG : List Value} {G : List (List Nat)} {j : Nat} (h : GpI b2 PB gp k gf gn gvv rowsG G j w mv rows) (hj : j < rowsG.length) (hj2 : j < G.length) : rowsG[j].ownBlock ≠ some gp ∧ (∀ u ∈ rows, ∀ b, u.ownBlock = some b → rowsG[j].ownBlock ≠ some b) ∧ ∀ b, rowsG[j].ownBlock = some b → b ≠ gp ∧ ∀ c, c < k → gf c ≠ b ∧ gn c ≠ b := by
  have hlo : ∀ b, rowsG[j].ownBlock = some b → b2 ≤ b := fun b e => ((h.row j (Nat.le_refl _) hj hj2).lt b e).1
  refine ⟨fun e => by have := hlo _ e; have := h.low.1; omega, fun u hu b e e2 => ?_, fun b e => ⟨by have := hlo b e; have := h.low.1; omega, fun c hc => ?_⟩⟩
  · rcases h.sepr u hu b e with q | ⟨i, hi, hij, ei⟩
    · have := hlo b e2
      omega
    · have := h.inj i j hi hj b ei e2
      omega
  · have := hlo b e
    have := h.low.2 c hc
    omega
theorem GpI.next {b2 : Nat} {gvv : Value} {rowsG : List Value} {G : List (List Nat)} {j : Nat} (hp : PtI w0 PB gp gw n lo base k iv M gf gn P w mv rows wv) (h : GpI b2 PB gp k gf gn gvv rowsG G j w mv rows) (hj : j < rowsG.length) {mv' : Value} {rows' : List Value} (k4 : ∀ u ∈ rows', ∀ b, u.ownBlock = some b → (∃ u' ∈ rows, u'.ownBlock = some b) ∨ rowsG[j].ownBlock = some b) (k5 : ∀ b, mv'.ownBlock = some b → mv.ownBlock = some b ∨ w.heap.size ≤ b) (k6 : LvF PB gp mv rows w w') : GpI b2 PB gp k gf gn gvv rowsG G (j + 1) w' mv' rows' := by
  obtain ⟨⟨c1, q1⟩, ⟨c2, q2⟩, q3, q4⟩ := hp.tys
  refine ⟨own_blk h.arr (fun b e => ?_), fun i hi a b => own_blk (h.row i (by omega) a b) (fun x e => ?_), h.inj, fun u hu b e => ?_, fun b e e2 => ?_, h.low⟩
  · obtain ⟨cs, hc⟩ := own_typed h.arr e
    refine k6.block b (lt_of_heap hc) (fun q => ?_) (fun q => ?_) (fun q => h.sepm b q e) (fun u hu q => ?_)
    · rw [q] at hc
      exact absurd (typ_ne hc q1) (by decide)
    · rw [q] at hc
      exact absurd (typ_ne hc q2) (by decide)
    · obtain ⟨c3, hc3⟩ := q4 u hu b q
      exact absurd (typ_ne hc hc3) (by decide)
  · obtain ⟨cs, hc⟩ := own_typed (h.row i (by omega) a b) e
    have hlo := ((h.row i (by omega) a b).lt x e).1
    refine hp.lvi k6 hc (by have := h.low.1; omega) (fun u hu q => ?_)
    rcases h.sepr u hu x q with z | ⟨i', hi', hij, ei⟩
    · omega
    · have := h.inj i' i hi' a x ei e
      omega
  · rcases k4 u hu b e with ⟨u', hu', e'⟩ | e'
    · rcases h.sepr u' hu' b e' with z | ⟨i', hi', hij, ei⟩
      · exact .inl z
      · exact .inr ⟨i', hi', by omega, ei⟩
    · exact .inr ⟨j, hj, by omega, e'⟩
  · rcases k5 b e with z | z
    · exact h.sepm b z e2
    · have := (h.arr.lt b e2).2
      omega
end
end Go.Proofs.YtklhjjgnhigbiaaGreatDoor

namespace Go.Proofs.YtklhjjgnhigbiaaGreatDoor
open Go.RowKit Go.Shelf
set_option linter.unusedVariables false

theorem PtI.init {W0 w1 : World} {PB gp g0 gm gw n lo k : Nat} {iv : Value} {M : Mach} {gf gn : Nat → Nat} (k1 : PStr w1 PB gp n (.slice (some ⟨gm, 0, none⟩) 1 1) iv gw) (k2 : RowN w1 W0.heap.size gp n (fun _ => 0)) (k3 : MbI w1 W0.heap.size (.slice (some ⟨gm, 0, none⟩) 1 1) [.slice (some ⟨g0, 0, none⟩) n n] [List.range n]) (k4 : InI w1 lo iv k n M gf gn) (k5 : w1.ownsRow W0.heap.size 42 1 (.slice (some ⟨gw, 0, none⟩) n n) n ((List.range n).map fun _ => Value.slice none 0 0)) (k6 : gp ≠ g0) (k7 : gp < lo) (k8 : g0 < lo) (k9 : W0.heap.size ≤ PB) (kb : Below W0.heap.size W0 w1) : PtI W0 PB gp gw n lo W0.heap.size k iv M gf gn (oneP n) w1 (.slice (some ⟨gm, 0, none⟩) 1 1) [.slice (some ⟨g0, 0, none⟩) n n] (fun _ => .slice none 0 0) := by
  refine ⟨k1, k2, k3, k4, ⟨k5, fun s hs => World.ownsRow_nil _ _ _ _, fun s t _ _ b e => by cases e⟩, fun u hu e => ?_, fun u hu b e c hc => ?_, fun c hc => ?_, k9, kb⟩
  · rw [List.mem_singleton.1 hu] at e
    injection e with e
    exact k6 e.symm
  · rw [List.mem_singleton.1 hu] at e
    injection e with e
    have e : g0 = b := e
    have h1 := (k4.fst c hc).lt.2
    have h2 := (k4.nxt c hc).lt.2
    omega
  · have h1 := (k4.fst c hc).lt.2
    have h2 := (k4.nxt c hc).lt.2
    omega

set_option maxRecDepth 100000 in
set_option maxHeartbeats 16000000 in
theorem partsOf_any (N : List (List Int)) (F : List Bool) (dv : Value) (w : World) (hd : DfaAt w dv N F) (hr : rightD N F = true) (hPT : PowT w) :
    Calls Tryz.prog 31 #[dv] w fun e w' => ∃ gp p, e = .returned (.slice (some ⟨gp, 0, none⟩) N.length N.length) ∧ RowN w' w.heap.size gp N.length p ∧ (∀ i k, i < N.length → k < N.length → (p i = p k ↔ alk (mch N F) i k)) ∧ (∀ i, i < N.length → p i < N.length) ∧ Below w.heap.size w w' := by
  have hri := rightD_iff.1 hr
  obtain ⟨na, nc, fa, fc, rfl, hnc, hfc, hx, hfx⟩ := dfa_parts hd
  obtain ⟨W0, hW0⟩ : ∃ W, W = w.alloc (.cells #[.slice na N.length nc, .slice fa F.length fc] 35) := ⟨_, rfl⟩
  have hb0 : Below w.heap.size w W0 := by rw [hW0]; exact below_alloc _ _
  have h0 : DBox W0 w.heap.size (.slice na N.length nc) (.slice fa F.length fc) := by rw [hW0]; exact heap_new' _ _
  have hs0 : W0.heap.size = w.heap.size + 1 := by rw [hW0]; simp
  have hMn : (mch N F).n = N.length := rfl
  have hMk : (mch N F).k = (N.getD 0 []).length := rfl
  have hMO : (mch N F).Ok := mch_ok hr
  have HNP : Hid (Calls Tryz.prog 50 #[.agg #[.slice na N.length nc, .slice fa F.length fc]] W0 (NewA N F W0)) := newParting_any N F _ W0 (hd.below hb0) hr
  have HFI : Hid (∀ W, Below w.heap.size w W → Calls Tryz.prog 52 #[.agg #[.slice na N.length nc, .slice fa F.length fc]] W fun e w' => ∃ v, e = .returned v ∧ w'.ownsRow W.heap.size 3 1 v (finS (mch N F)).length (cellP (finS (mch N F))) ∧ Below W.heap.size W w') := fun W hb => finals_any N F _ W (hd.below hb) hr
  obtain ⟨n, hn⟩ : ∃ x, x = N.length := ⟨_, rfl⟩
  obtain ⟨m, hm⟩ : ∃ x, x = F.length := ⟨_, rfl⟩
  obtain ⟨C, hC⟩ : ∃ x, x = (N.getD 0 []).length := ⟨_, rfl⟩
  obtain ⟨M, hM⟩ : ∃ x, x = mch N F := ⟨_, rfl⟩
  unfold NewA at HNP
  rw [← hn, ← hm, ← hC, ← hM] at HNP
  rw [← hn, ← hm, ← hM] at HFI
  rw [← hn, ← hm, ← hM]
  rw [← hM, ← hn] at hMn
  rw [← hM, ← hC] at hMk
  rw [← hM] at hMO
  rw [← hn, ← hm] at h0 hW0
  have hn5 : n ≤ 5000 := by omega
  have hC2 : C ≤ 200 := by omega
  have HM : Hid (M.n = n ∧ M.k = C ∧ M.Ok) := ⟨hMn, hMk, hMO⟩
  have HPT : Hid (PowT w) := hPT
  have HB0 : Hid (Below w.heap.size w W0 ∧ W0.heap.size = w.heap.size + 1) := ⟨hb0, hs0⟩
  have HBX : Hid (∀ W, Below W0.heap.size W0 W → W.cell? ⟨w.heap.size, 0, none⟩ = some (.slice na n nc) ∧ W.cell? ⟨w.heap.size, 1, none⟩ = some (.slice fa m fc) ∧ w.heap.size < W.heap.size) := fun W hb => by
    have := h0.below hb
    exact ⟨this.c0, this.c1, this.lt⟩
  have HW0 : Hid (W0 = _) := hW0
  obtain ⟨a0, a1, al⟩ := HBX.out W0 (Below.refl _ _)
  clear hd hr hri hx hfx hn hm hC hM h0 hb0 hs0 hW0 hnc hfc hMn hMk hMO hPT
  go_enter Tryz.func31, Tryz.ntmps31
  go_upto_region 1 with fail
  rw [← HW0.out]
  go_upto_region 2 with (go_at_call 50; refine HNP.out.mono ?_; rintro e w1 ⟨PB, gp, g0, gm, gw, lo, iv, gf, gn, rfl, k1, k2, k3, k4, k5, k6, k7, k8, k9, kb⟩)
  clear a0 a1 al
  obtain ⟨a0, a1, al⟩ := HBX.out w1 kb
  have HP1 : Hid (PtI W0 PB gp gw n lo W0.heap.size C iv M gf gn (oneP n) w1 (.slice (some ⟨gm, 0, none⟩) 1 1) [.slice (some ⟨g0, 0, none⟩) n n] (fun _ => .slice none 0 0)) := PtI.init k1 k2 k3 k4 k5 k6 k7 k8 k9 kb
  have HLO : Hid (gp < w1.heap.size ∧ ∀ c, c < C → gf c < w1.heap.size ∧ gn c < w1.heap.size) := ⟨k2.lt.1, fun c hc => ⟨(k4.fst c hc).lt.1, (k4.nxt c hc).lt.1⟩⟩
  clear k1 k2 k3 k4 k5 k6 k7 k8 k9 kb
  have HFW : Hid (Calls Tryz.prog 52 #[.agg #[.slice na n nc, .slice fa m fc]] w1 fun e w' => ∃ v, e = .returned v ∧ w'.ownsRow w1.heap.size 3 1 v (finS M).length (cellP (finS M)) ∧ Below w1.heap.size w1 w') := HFI.out w1 (HB0.out.1.trans (HP1.out.bel.mono (by have := HB0.out.2; omega)))
  have HLV : Hid (∀ w2 v, w2.ownsRow w1.heap.size 3 1 v (finS M).length (cellP (finS M)) → Below w1.heap.size w1 w2 → Calls Tryz.prog 51 #[.pointer (some ⟨PB, 0, none⟩), v] w2 fun e w3 => e = .returned (.tuple #[]) ∧ ∃ mv rows, PtI W0 PB gp gw n lo W0.heap.size C iv M gf gn (leaveP (oneP n) (finS M)) w3 mv rows (fun _ => .slice none 0 0)) := fun w2 v ho hb => by
    have hp2 := HP1.out.below hb
    have hM := HM.out
    have hlow : ∀ u ∈ [Value.slice (some ⟨g0, 0, none⟩) n n], ∀ b, u.ownBlock = some b → b < w1.heap.size := fun u hu b e => by
      obtain ⟨cs, hc⟩ := HP1.out.tys.2.2.2 u hu b e
      exact lt_of_heap hc
    refine (leave_any13 PB gp n _ iv gw W0.heap.size v (oneP n) (finS M) _ w2 hp2.str hp2.prt hp2.mbr (one_ok (by rw [← hM.1]; exact hM.2.2.ne)) (List.Pairwise.filter _ List.nodup_range) (fun s hs => ⟨by rw [← hM.1]; exact List.mem_range.1 (List.mem_filter.1 hs).1, rfl⟩) (own_mono13 ho HP1.out.siz) (fun e => by
      have := (ho.lt gp e).1
      have := HLO.out.1
      omega) (fun u hu b e e2 => by
      have h1 := hlow u hu b e
      have h2 := (ho.lt b e2).1
      omega) hp2.sgp hn5 hp2.siz).mono ?_
    rintro e w3 ⟨h1, h2⟩
    obtain ⟨mv, rows, h3, _⟩ := hp2.leave h2 (fun b e => by
      have h1 := (ho.lt b e).1
      refine ⟨by have := HLO.out.1; omega, fun c hc => ?_⟩
      have := HLO.out.2 c hc
      omega)
    exact ⟨h1, mv, rows, h3⟩
  go_upto_region 3 with (first | (go_at_call 52; refine HFW.out.mono ?_; rintro e w2 ⟨v, rfl, ho2, hb2⟩; have HL2 := HLV.out w2 v ho2 hb2; clear ho2 hb2) | (go_at_call 51; refine HL2.mono ?_; rintro e w3 ⟨rfl, mv3, rows3, hp3⟩; have HP3 : Hid (PtI W0 PB gp gw n lo W0.heap.size C iv M gf gn (leaveP (oneP n) (finS M)) w3 mv3 rows3 (fun _ => .slice none 0 0)) := hp3; clear hp3))
  clear a0 a1 al HFW HLV HFI HNP HBX HP1 HL2
  have HHI : Hid (HopI M (leaveP (oneP n) (finS M)) 1) := by
    have := hop_init HM.out.2.2
    rw [HM.out.1] at this
    exact this
  go_wp2
  go_loopw [4] (fun x4 wr => ∃ (pt : Nat) (P : Prt13) (mv : Value) (rows : List Value) (wv : Nat → Value), x4 = .int .i64 (pt : Int) ∧ pt ≤ P.B.length ∧ P.B.length ≤ n ∧ Hid (HopI M P pt) ∧ Hid (PtI W0 PB gp gw n lo W0.heap.size C iv M gf gn P wr mv rows wv)) (fun x4 _ => n - (intOf x4).toNat)
  case atStart =>
    refine ⟨1, _, mv3, rows3, _, rfl, ?_, ?_, HHI.out, HP3.out⟩
    · have := HHI.out.ok.lt 0 HM.out.2.2.ne
      omega
    · have := HHI.out.ok.few
      rw [HM.out.1] at this
      exact this
  case round =>
    obtain ⟨pt, P, mv, rows, wv, rfl, hpt, hfew, HH, HP⟩ := hrel
    obtain ⟨ma, mn, mc, rfl⟩ := own_any HP.out.mbr.arr
    have hmn : mn = P.B.length := own_len13 HP.out.mbr.arr
    have HMN : Hid (mn = P.B.length) := hmn
    have c0 := cell_in HP.out.str 0
    have c1 := cell_in HP.out.str 1
    have cl := lt_of_heap HP.out.str
    simp at c0 c1
    have hmn5 : mn ≤ n := by omega
    have hptm : pt ≤ mn := by omega
    clear hmn
    by_cases hil : pt < mn
    · obtain ⟨T, hT⟩ : ∃ x, x = P.B.getD pt [] := ⟨_, rfl⟩
      have HLD : Hid (Calls Tryz.prog 53 #[.pointer (some ⟨PB, 0, none⟩), .int .i64 (pt : Int)] wr fun e w' => ∃ gvv rowsG G wv', e = .returned gvv ∧ GrpOk M P.p T G ∧ PtI W0 PB gp gw n lo W0.heap.size C iv M gf gn P w' (.slice ma mn mc) rows wv' ∧ GpI wr.heap.size PB gp C gf gn gvv rowsG G 0 w' (.slice ma mn mc) rows) := by
        have hP := HP.out
        have hok := HH.out.ok
        have hmn := HMN.out
        have hM := HM.out
        refine (leading_any PB gp gw n W0.heap.size lo C pt _ iv rows P.B M T P.p gf gn wv wr (fun W hb => HPT.out.below (HB0.out.1.trans ((hP.bel.trans hb).mono (by have := HB0.out.2; omega)))) hP.str hP.prt hP.mbr hP.ini hP.way (by omega) hT.symm (by rw [hT]; exact hok.nd pt (by omega)) (fun t ht => by
          rw [hT] at ht
          have := ((hok.mem pt t (by omega)).1 ht).1
          rw [hM.1] at this
          exact this) (fun s hs => by
          have := hok.lt s (by rw [hM.1]; exact hs)
          omega) hM.1 hM.2.1 hn5 hC2 (by omega)).mono ?_
        rintro e w2 ⟨gvv, rowsG, G, wv', wy', h1, h2, h3, h4, h5⟩
        exact ⟨gvv, rowsG, G, wv', h1, h2, hP.lead h4 h5, GpI.start (b2 := 0) hP h3⟩
      have HF0 : Hid (FldI M P P T pt []) := by
        rw [hT]
        exact fld_init HH.out HM.out.2.2 (by have := HMN.out; omega)
      have HT : Hid (T = P.B.getD pt []) := hT
      have hpt0 : (0 : Int) ≤ (pt : Int) := by omega
      clear hT
      go_wp2_with (go_at_call 53; refine HLD.out.mono ?_; rintro e w2 ⟨gvv, rowsG, G, wv2, rfl, hgo, hp2, hg2⟩; obtain ⟨va, vn, vc, rfl⟩ := own_any hg2.arr)
      have HVN : Hid (vn = G.length) := own_len13 hg2.arr
      have hlim : vn ≤ maxLen := by
        rcases hg2.arr.2 with ⟨e, h0⟩ | ⟨g', cap, cur, e, _, _, h3, h4, _⟩
        · have := HVN.out
          omega
        · have := HVN.out
          omega
      unfold maxLen at hlim
      have HGO : Hid (GrpOk M P.p T G) := hgo
      have HP2 : Hid (PtI W0 PB gp gw n lo W0.heap.size C iv M gf gn P w2 (.slice ma mn mc) rows wv2) := hp2
      obtain ⟨b2, hb2⟩ : ∃ x, x = wr.heap.size := ⟨_, rfl⟩
      rw [← hb2] at hg2
      have HG2 : Hid (GpI b2 PB gp C gf gn (.slice va vn vc) rowsG G 0 w2 (.slice ma mn mc) rows) := hg2
      have HSI : Hid (W0.heap.size ≤ b2) := by rw [hb2]; exact HP.out.siz
      clear hgo hp2 hg2 hb2 HLD c0 c1 cl
      go_loopw [26] (fun x26 wr => ∃ (j : Nat) (P2 : Prt13) (mv2 : Value) (rows2 : List Value), j ≤ vn ∧ x26 = .int .i64 (j : Int) ∧ Hid (FldI M P P2 T pt (G.take j) ∧ P2 = (G.take j).foldl leaveP P) ∧ Hid (PtI W0 PB gp gw n lo W0.heap.size C iv M gf gn P2 wr mv2 rows2 wv2) ∧ Hid (GpI b2 PB gp C gf gn (.slice va vn vc) rowsG G j wr mv2 rows2)) (fun x26 _ => vn - (intOf x26).toNat)
      case atStart => exact ⟨0, P, _, rows, Nat.zero_le _, rfl, ⟨HF0.out, rfl⟩, HP2.out, HG2.out⟩
      case round =>
        obtain ⟨j, P2, mv2, rows2, hj, rfl, HF, HQ, HG⟩ := hrel
        by_cases hjl : j < vn
        · have hjG : j < G.length := by have := HVN.out; omega
          have hjr : j < rowsG.length := by have := HG.out.arr.1; omega
          obtain ⟨GV, hGV⟩ := own_addr13 HG.out.arr (by omega)
          subst hGV
          obtain ⟨u, hu⟩ : ∃ u, u = rowsG[j] := ⟨_, rfl⟩
          have hc := HG.out.arr.cells (g := GV) rfl j u (by rw [hu]; exact List.getElem?_eq_getElem _)
          rw [add_lit', Nat.zero_add] at hc
          have hcl := (HG.out.arr.lt GV rfl).2
          obtain ⟨g, hg⟩ : ∃ g, g = G[j] := ⟨_, rfl⟩
          have hgG : g ∈ G := by rw [hg]; exact List.getElem_mem hjG
          have HTK : Hid (G.take (j + 1) = G.take j ++ [g]) := by
            show _ = _
            rw [List.take_add_one, List.getElem?_eq_getElem hjG, hg]
            rfl
          have HF2 : Hid (FldI M P (leaveP P2 g) T pt (G.take (j + 1)) ∧ leaveP P2 g = (G.take (j + 1)).foldl leaveP P) := by
            rw [HTK.out]
            refine ⟨fld_step HM.out.2.2 HGO.out (fun x hx => List.mem_of_mem_take hx) HF.out.1 hgG, ?_⟩
            rw [List.foldl_append, ← HF.out.2]
            rfl
          have HLV2 : Hid (Calls Tryz.prog 51 #[.pointer (some ⟨PB, 0, none⟩), u] wr fun e w3 => e = .returned (.tuple #[]) ∧ ∃ mv3 rows3, Hid (PtI W0 PB gp gw n lo W0.heap.size C iv M gf gn (leaveP P2 g) w3 mv3 rows3 wv2) ∧ Hid (GpI b2 PB gp C gf gn (.slice (some ⟨GV, 0, none⟩) vn vc) rowsG G (j + 1) w3 mv3 rows3)) := by
            have hQ := HQ.out
            obtain ⟨e1, e2, e3⟩ := HG.out.here hjr hjG
            have hrow := HG.out.row j (Nat.le_refl _) hjr hjG
            rw [← hu, ← hg] at hrow
            rw [← hu] at e1 e2 e3
            have hok := HF.out.1.ok
            rw [HM.out.1] at hok
            refine (leave_any13 PB gp n mv2 iv gw W0.heap.size u P2 g rows2 wr hQ.str hQ.prt hQ.mbr hok (HGO.out.nd g hgG) (fun s hs => by
              have := fld_group HGO.out (fun x hx => List.mem_of_mem_take hx) HF.out.1 hgG s hs
              rw [HM.out.1] at this
              exact this) (own_mono13 hrow HSI.out) e1 e2 hQ.sgp hn5 hQ.siz).mono ?_
            rintro e w3 ⟨h1, h2⟩
            obtain ⟨mv3, rows3, h3, h4, h5, h6⟩ := hQ.leave h2 e3
            exact ⟨h1, mv3, rows3, h3, HG.out.next hQ hjr (by rw [← hu]; exact h4) h5 h6⟩
          have hj0 : (0 : Int) ≤ (j : Int) := by omega
          have hj1 : (j : Int) < (vn : Int) := by omega
          clear hg hgG hu hjG hjr
          go_wp2_with (go_at_call 51; refine HLV2.out.mono ?_; rintro e w3 ⟨rfl, mv3, rows3, HP3, HG3⟩)
          go_roundw
          case rel => exact ⟨j + 1, leaveP P2 g, mv3, rows3, by omega, by go_num, HF2, HP3, HG3⟩
          case measure => simp [intOf]; omega
        · obtain rfl : j = vn := by omega
          have HEQ : Hid (G.take j = G) := List.take_of_length_le (by rw [HVN.out]; exact Nat.le_refl _)
          have HHN : Hid (HopI M P2 (pt + 1) ∧ pt < P2.B.length ∧ P2.B.length ≤ n) := by
            have h1 := HF.out
            rw [HEQ.out] at h1
            have h2 := hop_step HM.out.2.2 HH.out (by have := HMN.out; omega) (by have := HGO.out; rw [HT.out] at this; exact this)
            rw [← h1.2] at h2
            have h3 := h2.ok.few
            rw [HM.out.1] at h3
            exact ⟨h2, h1.1.le, h3⟩
          go_wp2
          go_roundw
          case rel => exact ⟨pt + 1, P2, mv2, rows2, wv2, by go_num, HHN.out.2.1, HHN.out.2.2, HHN.out.1, HQ.out⟩
          case measure => simp [intOf]; omega
    · have hpe : P.B.length ≤ pt := by have := HMN.out; omega
      have HEND : Hid (∀ i k, i < n → k < n → (P.p i = P.p k ↔ alk M i k)) := fun i k hi hk => hop_end HM.out.2.2 HH.out hpe i k (by rw [HM.out.1]; exact hi) (by rw [HM.out.1]; exact hk)
      have HLT : Hid (∀ i, i < n → P.p i < n) := fun i hi => Nat.lt_of_lt_of_le (HH.out.ok.lt i (by rw [HM.out.1]; exact hi)) hfew
      go_wp2
      go_ret
      have hP := HP.out
      have hb := HB0.out
      exact ⟨gp, P.p, rfl, own_mono13 hP.prt (by omega), HEND.out, HLT.out, hb.1.trans (hP.bel.mono (by omega))⟩
end Go.Proofs.YtklhjjgnhigbiaaGreatDoor
