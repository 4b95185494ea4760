/-
  least.parting.noteWays, walked.
-/
import Derived.Test.YtklhjjgnhigbiaaGreatDoorLsNote
import Derived.Test.YtklhjjgnhigbiaaGreatDoorLsWayM
namespace Go.Proofs.YtklhjjgnhigbiaaGreatDoor
open Go.RowKit Go.Shelf
set_option linter.unusedVariables false

theorem Tryz.infoByte13 : (Tryz.prog.info? 5).map (fun i => (i.zero, i.size, i.bytes)) = some (some (.int .u8 0), 1, 1) := by kernel_rfl
theorem chCells_at (gf gn : Nat → Nat) (n : Nat) : ∀ k c, c < k → (chCells gf gn n k)[c * 2]? = some (.slice (some ⟨gf c, 0, none⟩) n n) ∧ (chCells gf gn n k)[c * 2 + 1]? = some (.slice (some ⟨gn c, 0, none⟩) n n)
  | 0, c, h => absurd h (by omega)
  | k + 1, c, h => by
    have e : chCells gf gn n (k + 1) = chCells gf gn n k ++ [.slice (some ⟨gf k, 0, none⟩) n n, .slice (some ⟨gn k, 0, none⟩) n n] := by
      unfold chCells
      rw [List.range_succ, List.flatMap_append]
      congr 1
    have hl := chCells_len gf gn n k
    rw [e]
    by_cases q : c < k
    · obtain ⟨h1, h2⟩ := chCells_at gf gn n k c q
      rw [List.getElem?_append_left (by omega), List.getElem?_append_left (by omega)]
      exact ⟨h1, h2⟩
    · obtain rfl : c = k := by omega
      rw [List.getElem?_append_right (by omega), List.getElem?_append_right (by omega), hl]
      have e1 : c * 2 - c * 2 = 0 := by omega
      have e2 : c * 2 + 1 - c * 2 = 1 := by omega
      rw [e1, e2]
      exact ⟨rfl, rfl⟩
theorem own_len13 {w : World} {b m n c : Nat} {e : TypeId} {xs : List Value} {a : Option Addr} (h : w.ownsRow b e 1 (.slice a m c) n xs) : m = n := by
  rcases h.2 with ⟨q, h0⟩ | ⟨g', cap, cur, q, _⟩
  · simp at q; omega
  · simp at q; omega
theorem own_len13b {w : World} {b m n c : Nat} {e : TypeId} {xs : List Value} {a : Option Addr} (h : w.ownsRow b e 2 (.slice a m c) n xs) : m = n := by
  rcases h.2 with ⟨q, h0⟩ | ⟨g', cap, cur, q, _⟩
  · simp at q; omega
  · simp at q; omega
theorem own_addr13 {w : World} {b m n c sz : Nat} {e : TypeId} {xs : List Value} {a : Option Addr} (h : w.ownsRow b e sz (.slice a m c) n xs) (hn : 0 < n) : ∃ G, a = some ⟨G, 0, none⟩ := by
  rcases h.2 with ⟨q, h0⟩ | ⟨g', cap, cur, q, _⟩
  · simp at q; omega
  · simp at q; exact ⟨g', q.1⟩
theorem WyM.few {M : Mach} {n : Nat} {T : List Nat} {c j i : Nat} {wy : Nat → List Nat} {L : List Nat} (h : WyM M n T c j i wy L) : L.length ≤ n ∧ ∀ s, s < n → (wy s).length ≤ c + 1 := by
  refine ⟨nodup_len h.nd (fun s hs => ((h.mem s).1 hs).1), fun s hs => ?_⟩
  have hl : (wyC M T c s).length ≤ c := by
    have := List.length_filter_le (fun x => decide (M.d s x ∈ T)) (List.range c)
    rwa [List.length_range] at this
  by_cases q : curW M T c j i s
  · rw [(h.way s hs).1 q]
    simp; omega
  · rw [(h.way s hs).2 q]
    omega
section
variable {w0 w w2 : World} {base gw n : Nat} {wv0 wv : Nat → Value} {wy wy0 : Nat → List Nat} {v : Value} {L : List Nat}
theorem NtI13.env (h : NtI13 w0 base gw n wv0 w wv wy v L) (h0 : WyI w0 base gw n wv0 wy0) {PB gp lo k : Nat} {mv iv : Value} {rows : List Value} {B : List (List Nat)} {M : Mach} {gf gn : Nat → Nat} (hs : PStr w0 PB gp n mv iv gw) (hm : MbI w0 base mv rows B) (hi : InI w0 lo iv k n M gf gn) : PStr w PB gp n mv iv gw ∧ MbI w base mv rows B ∧ InI w lo iv k n M gf gn := by
  refine ⟨h.keep h0 hs (by decide) (by decide), hm.to (fun g e => ?_) (fun u hu g e => ?_), hi.to (fun g cs _ hg => ?_) (fun g cs _ hg => ?_)⟩
  · obtain ⟨cs, hc⟩ := own_typed hm.arr e
    exact (h.keep h0 hc (by decide) (by decide)).trans hc.symm
  · obtain ⟨i, hi, rfl⟩ := List.mem_iff_getElem.1 hu
    obtain ⟨cs, hc⟩ := own_typed (hm.row i hi (by rw [← hm.len]; exact hi)) e
    exact (h.keep h0 hc (by decide) (by decide)).trans hc.symm
  · exact (h.keep h0 hg (by decide) (by decide)).trans hg.symm
  · exact (h.keep h0 hg (by decide) (by decide)).trans hg.symm
/-- What pushing leaves alone. -/
theorem NtI13.pushL_blk (h : NtI13 w0 base gw n wv0 w wv wy v L) {o : Obj} (hg : (w.alloc o).grownBy w2 v.ownBlock) {k : Nat} {cs : Array Value} {t : TypeId} {fr : Nat × Nat} (hk : w.heap[k]? = some (.cells cs t fr)) (ht : t ≠ 3) : w2.heap[k]? = some (.cells cs t fr) :=
  (hg.block k (by have := lt_of_heap hk; simp; omega) (fun e => by
    obtain ⟨c2, h2⟩ := own_typed h.row e.symm
    exact ht (typ_ne hk h2))).trans (((below_alloc w o).block k (lt_of_heap hk)).trans hk)
theorem NtI13.pushW_blk (h : NtI13 w0 base gw n wv0 w wv wy v L) {s : Nat} (hs : s < n) {o : Obj} {w1 : World} (hb : Below w.heap.size w w1) (hg : (w1.alloc o).grownBy w2 (wv s).ownBlock) {k : Nat} {cs : Array Value} {t : TypeId} {fr : Nat × Nat} (hk : w.heap[k]? = some (.cells cs t fr)) (ht : t ≠ 5) : w2.heap[k]? = some (.cells cs t fr) :=
  (hg.block k (by have := lt_of_heap hk; have := hb.size; simp; omega) (fun e => by
    obtain ⟨c2, h2⟩ := own_typed (h.way.row s hs) e.symm
    exact ht (typ_ne hk h2))).trans (((below_alloc w1 o).block k (by have := lt_of_heap hk; have := hb.size; omega)).trans ((hb.block k (lt_of_heap hk)).trans hk))
theorem NtI13.gw_ne (h : NtI13 w0 base gw n wv0 w wv wy v L) {k : Nat} {cs : Array Value} {t : TypeId} {fr : Nat × Nat} (hk : w.heap[k]? = some (.cells cs t fr)) (ht : t ≠ 42) : k ≠ gw := fun e => by
  obtain ⟨c2, h2⟩ := own_typed h.way.arr (k := gw) rfl
  rw [e] at hk
  exact ht (typ_ne hk h2)
end

/-- Behind the append to a state's classes. -/
theorem nt_fin {w0 : World} {base gw n : Nat} {wv0 : Nat → Value} {PB gp lo k : Nat} {mv iv : Value} {rows : List Value} {B : List (List Nat)} {M : Mach} {gf gn : Nat → Nat} (HE : ∀ wr wv wy v L, NtI13 w0 base gw n wv0 wr wv wy v L → PStr wr PB gp n mv iv gw ∧ MbI wr base mv rows B ∧ InI wr lo iv k n M gf gn)
    {w : World} {wv : Nat → Value} {wy : Nat → List Nat} {v : Value} {L : List Nat} (h : NtI13 w0 base gw n wv0 w wv wy v L) {c b s sn sc : Nat} {sa : Option Addr} (hc : c < k) (hb : CBox w b (gf c) (gn c) n) (hs : s < n) (hv : wv s = .slice sa sn sc) :
    ∀ w8 gL capL, (w.alloc (.cells #[.int .u8 (c : Int)] 5)).drew.grownBy w8 (Value.slice sa sn sc).ownBlock → w8.ownsRow base 5 1 (.slice (some ⟨gL, 0, none⟩) (sn + 1) capL) (sn + 1) (cellB13 (wy s) ++ [.int .u8 (c : Int)]) → ((Value.slice sa sn sc).ownBlock = some gL ∨ w.heap.size ≤ gL) →
      (w8.cell? ⟨PB, 3, none⟩ = some (.slice (some ⟨gw, 0, none⟩) n n) ∧ PB < w8.heap.size) ∧ (w8.frozen? ⟨gw, s, none⟩ = false ∧ gw < w8.heap.size ∧ w8.cell? ⟨gw, s, none⟩ = some (.slice sa sn sc)) ∧
      (((w8.setCell ⟨gw, s, none⟩ (.slice (some ⟨gL, 0, none⟩) (sn + 1) capL)).cell? ⟨b, 1, none⟩ = some (.slice (some ⟨gn c, 0, none⟩) n n) ∧ b < (w8.setCell ⟨gw, s, none⟩ (.slice (some ⟨gL, 0, none⟩) (sn + 1) capL)).heap.size ∧ (w8.setCell ⟨gw, s, none⟩ (.slice (some ⟨gL, 0, none⟩) (sn + 1) capL)).cell? ⟨gn c, s, none⟩ = some (.int .i64 (prv M c (M.d s c) s))) ∧ gn c < (w8.setCell ⟨gw, s, none⟩ (.slice (some ⟨gL, 0, none⟩) (sn + 1) capL)).heap.size) ∧
      Hid (NtI13 w0 base gw n wv0 (w8.setCell ⟨gw, s, none⟩ (.slice (some ⟨gL, 0, none⟩) (sn + 1) capL)) (upV wv s (.slice (some ⟨gL, 0, none⟩) (sn + 1) capL)) (upL wy s (wy s ++ [c])) v L) ∧ Hid (CBox (w8.setCell ⟨gw, s, none⟩ (.slice (some ⟨gL, 0, none⟩) (sn + 1) capL)) b (gf c) (gn c) n) := by
  intro w8 gL capL hg ho hat
  have hbd : Below w.heap.size w w.drew := (Below.refl _ _).drew
  have hrow := h.way.row s hs
  have hsn : sn = (wy s).length := by rw [hv] at hrow; exact own_len13 hrow
  rw [← hv] at hg hat
  have hz := h.pushW (c := c) hs hbd (o := .cells #[.int .u8 (c : Int)] 5) (by exact hg) (v' := .slice (some ⟨gL, 0, none⟩) (sn + 1) capL) (by rw [← hsn]; exact ho) (fun k e => by
    have : gL = k := by injection e
    rw [← this]
    exact hat)
  have hE8 := (HE _ _ _ _ _ hz.2)
  have hps := (HE _ _ _ _ _ h).1
  have h8 := h.pushW_blk hs hbd (o := .cells #[.int .u8 (c : Int)] 5) (by exact hg) hps (by decide)
  have hO : OnlyB gw w8 (w8.setCell ⟨gw, s, none⟩ (.slice (some ⟨gL, 0, none⟩) (sn + 1) capL)) := (OnlyB.refl _ _).set _ _
  have hcb : CBox (w8.setCell ⟨gw, s, none⟩ (.slice (some ⟨gL, 0, none⟩) (sn + 1) capL)) b (gf c) (gn c) n := (hO.block b (h.gw_ne hb (by decide))).trans (h.pushW_blk hs hbd (o := .cells #[.int .u8 (c : Int)] 5) (by exact hg) hb (by decide))
  have hnx := hE8.2.2.nxt c hc
  rw [← hv]
  exact ⟨⟨cell_in h8 3, lt_of_heap h8⟩, ⟨hz.1.2.1, hz.1.2.2, hz.1.1⟩, ⟨⟨cell_in hcb 1, lt_of_heap hcb, hnx.at hs⟩, hnx.lt.1⟩, hz.2, hcb⟩

set_option maxRecDepth 100000 in
set_option maxHeartbeats 16000000 in
theorem noteWays_any (PB gp gw n base lo k pt : Nat) (mv iv : Value) (rows : List Value) (B : List (List Nat)) (M : Mach) (T : List Nat) (gf gn : Nat → Nat) (wv0 : Nat → Value) (w : World)
    (hs : PStr w PB gp n mv iv gw) (hm : MbI w base mv rows B) (hi : InI w lo iv k n M gf gn) (hw : WyI w base gw n wv0 (fun _ => [])) (hpt : pt < B.length) (hT : B.getD pt [] = T) (hTn : T.Nodup) (hTl : ∀ t ∈ T, t < n) (hMn : M.n = n) (hMk : M.k = k) (hn5 : n ≤ 5000) (hk2 : k ≤ 200) (hB5 : B.length ≤ 5000) :
    Calls Tryz.prog 72 #[.pointer (some ⟨PB, 0, none⟩), .int .i64 (pt : Int)] w fun e w' => ∃ v L wv wy, e = .returned v ∧ NtI13 w base gw n wv0 w' wv wy v L ∧ L.Nodup ∧ (∀ s, s ∈ L ↔ s < n ∧ sgT M T s ≠ []) ∧ ∀ s, s < n → wy s = sgT M T s := by
  obtain ⟨iI, hiI, hzI0, hzI1, hzI2⟩ := info_parts Tryz.infoInt
  obtain ⟨iU, hiU, hzU0, hzU1, hzU2⟩ := info_parts Tryz.infoByte13
  obtain ⟨iC, hiC, hzC0, hzC1, hzC2⟩ := info_parts Tryz.infoChains
  have HE : Hid (∀ wr wv wy v L, NtI13 w base gw n wv0 wr wv wy v L → PStr wr PB gp n mv iv gw ∧ MbI wr base mv rows B ∧ InI wr lo iv k n M gf gn) := fun wr wv wy v L h => h.env hw hs hm hi
  have hrl := hm.len
  obtain ⟨iva, ivn, ivc, rfl⟩ := own_any hi.arr
  have hivn : ivn = k := own_len13b hi.arr
  subst hivn
  obtain ⟨mva, mvn, mvc, rfl⟩ := own_any hm.arr
  have hmvn : mvn = B.length := own_len13 hm.arr
  obtain ⟨GM, rfl⟩ : ∃ G, mva = some ⟨G, 0, none⟩ := own_addr13 hm.arr (by omega)
  have hpr : pt < rows.length := by omega
  obtain ⟨rt, hrt⟩ : ∃ y, y = rows[pt] := ⟨_, rfl⟩
  have hBT : B[pt] = T := by rw [← hT]; simp [hpt]
  have hrow : w.ownsRow base 3 1 rt T.length (cellP T) := by rw [hrt, ← hBT]; exact hm.row pt (by omega) hpt
  obtain ⟨ta, tn, tc, rfl⟩ := own_any hrow
  have htn : tn = T.length := own_len13 hrow
  have HT : Hid (tn = T.length ∧ T.Nodup ∧ ∀ t ∈ T, t < n) := ⟨htn, hTn, hTl⟩
  have HMB : Hid (∀ wr, MbI wr base (.slice (some ⟨GM, 0, none⟩) mvn mvc) rows B → wr.cell? ⟨GM, pt, none⟩ = some (.slice ta tn tc) ∧ GM < wr.heap.size ∧ wr.ownsRow base 3 1 (.slice ta tn tc) T.length (cellP T)) := fun wr h => by
    have h1 := h.arr.cells (g := GM) rfl pt (.slice ta tn tc) (by rw [hrt]; simp)
    rw [add_lit', Nat.zero_add] at h1
    refine ⟨h1, (h.arr.lt GM rfl).2, ?_⟩
    have := h.row pt (by omega) hpt
    rw [← hrt, hBT] at this
    exact this
  have htn5 : tn ≤ 5000 := by
    have := nodup_len hTn hTl
    omega
  have HM : Hid (M.n = n ∧ M.k = ivn) := ⟨hMn, hMk⟩
  have hpt2 : (pt : Int) < (mvn : Int) := by omega
  have hpt0 : (0 : Int) ≤ (pt : Int) := by omega
  have HSZ : Hid (base ≤ gw ∧ gw < w.heap.size) := ⟨hw.lt.2, hw.lt.1⟩
  have HST : Hid (NtI13 w base gw n wv0 w wv0 (fun _ => []) (.slice none 0 0) []) := NtI13.start hw
  have HPB : Hid (PB ≠ gw) := HST.out.gw_ne hs (by decide)
  have s2 := cell_in hs 2
  have sl := lt_of_heap hs
  simp at s2
  clear hrt hrow htn hTn hTl hT hBT hMn hMk hw hs hm hi hrl hmvn
  go_enter Tryz.func72, Tryz.ntmps72
  go_wp2
  clear s2 sl
  go_loopw [5, 16] (fun x5 x16 wr => ∃ (c : Nat) (wv : Nat → Value) (wy : Nat → List Nat) (L : List Nat), c ≤ ivn ∧ x16 = .int .i64 (c : Int) ∧ Hid (NtI13 w base gw n wv0 wr wv wy x5 L) ∧ Hid (WyM M n T c 0 n wy L)) (fun _ x16 _ => ivn - (intOf x16).toNat)
  case atStart => exact ⟨0, wv0, fun _ => [], [], Nat.zero_le _, rfl, HST.out, WyM.start⟩
  case round =>
    obtain ⟨c, wv, wy, L, hc, rfl, HN, HY⟩ := hrel
    by_cases hcl : c < ivn
    · obtain ⟨hps, hmb, hin⟩ := HE.out _ _ _ _ _ HN.out
      have hcc := chCells_at gf gn n ivn c hcl
      obtain ⟨GI, hGI⟩ := own_addr13 hin.arr (by omega)
      subst hGI
      have i0 := hin.arr.cells (g := GI) rfl (c * 2) _ hcc.1
      have i1 := hin.arr.cells (g := GI) rfl (c * 2 + 1) _ hcc.2
      rw [add_lit', Nat.zero_add] at i0 i1
      have il := (hin.arr.lt GI rfl).2
      have s2 := cell_in hps 2
      have sl := lt_of_heap hps
      simp at s2
      have hc0 : (0 : Int) ≤ (c : Int) := by omega
      have hc1 : (c : Int) < (ivn : Int) := by omega
      obtain ⟨w1, hw1⟩ : ∃ W, W = wr.alloc (.cells #[.slice (some ⟨gf c, 0, none⟩) n n, .slice (some ⟨gn c, 0, none⟩) n n] 116) := ⟨_, rfl⟩
      have HW1 : Hid (w1 = _) := hw1
      obtain ⟨b, hb⟩ : ∃ b, b = wr.heap.size := ⟨_, rfl⟩
      have hb1 : Below wr.heap.size wr w1 := by
        rw [hw1]
        exact below_alloc _ _
      have HB1 : Hid (CBox w1 b (gf c) (gn c) n) := by
        rw [hw1, hb]
        exact heap_new' _ _
      have HN1 : Hid (NtI13 w base gw n wv0 w1 wv wy u5 L) := HN.out.below hb1
      clear hps hmb hin hcc hw1 hb1
      go_upto_region 5 with fail
      rw [← HW1.out, ← hb]
      clear i0 i1 il s2 sl hb HW1 HN
      obtain ⟨hps, hmb, hin⟩ := HE.out _ _ _ _ _ HN1.out
      obtain ⟨t0, tl, hrow⟩ := HMB.out _ hmb
      have s1 := cell_in hps 1
      have sl := lt_of_heap hps
      simp at s1
      clear hps hmb hin hrow
      go_wp2
      clear s1 sl t0 tl
      go_loopw [5, 29] (fun x5 x29 wr => ∃ (j : Nat) (wv : Nat → Value) (wy : Nat → List Nat) (L : List Nat), j ≤ tn ∧ x29 = .int .i64 (j : Int) ∧ Hid (NtI13 w base gw n wv0 wr wv wy x5 L) ∧ Hid (WyM M n T c j n wy L) ∧ Hid (CBox wr b (gf c) (gn c) n)) (fun _ x29 _ => tn - (intOf x29).toNat)
      case atStart => exact ⟨0, wv, wy, L, Nat.zero_le _, rfl, HN1.out, HY.out, HB1.out⟩
      case round =>
        obtain ⟨j, wv, wy, L, hj, rfl, HN, HY, HB⟩ := hrel
        by_cases hjl : j < tn
        · obtain ⟨hps, hmb, hin⟩ := HE.out _ _ _ _ _ HN.out
          obtain ⟨_, _, hrow⟩ := HMB.out _ hmb
          have hjT : j < T.length := by have := HT.out.1; omega
          obtain ⟨GT, hGT⟩ := own_addr13 hrow (by omega)
          subst hGT
          obtain ⟨t, ht⟩ : ∃ t, t = T[j] := ⟨_, rfl⟩
          have HTJ : Hid (T[j]? = some t ∧ t < n) := ⟨by rw [ht]; exact List.getElem?_eq_getElem hjT, by rw [ht]; exact HT.out.2.2 _ (List.getElem_mem hjT)⟩
          have e0 := hrow.cells (g := GT) rfl j (.int .i64 (t : Int)) (by simp [cellP, hjT, ht])
          rw [add_lit', Nat.zero_add] at e0
          have el := (hrow.lt GT rfl).2
          have c0 := cell_in HB.out 0
          have cl := lt_of_heap HB.out
          simp at c0
          have hf := hin.fst c hcl
          have f0 := hf.at HTJ.out.2
          have fl := hf.lt.1
          have htn0 := HTJ.out.2
          have ht0 : (0 : Int) ≤ (t : Int) := by omega
          have ht1 : (t : Int) < (n : Int) := by omega
          have hj0 : (0 : Int) ≤ (j : Int) := by omega
          have hj1 : (j : Int) < (tn : Int) := by omega
          obtain ⟨x0, hx0⟩ : ∃ x, x = prv M c t n := ⟨_, rfl⟩
          have HX0 : Hid (x0 = prv M c t n) := hx0
          rw [← hx0] at f0
          clear hps hmb hin hrow ht hf hx0 hjT
          go_wp2
          clear e0 el c0 cl f0 fl
          go_loopw [5, 10] (fun x5 x10 wr => ∃ (i : Nat) (wv : Nat → Value) (wy : Nat → List Nat) (L : List Nat), i ≤ n ∧ x10 = .int .i64 (prv M c t i) ∧ Hid (NtI13 w base gw n wv0 wr wv wy x5 L) ∧ Hid (WyM M n T c j i wy L) ∧ Hid (CBox wr b (gf c) (gn c) n)) (fun _ x10 _ => (intOf x10 + 1).toNat)
          case atStart => exact ⟨n, wv, wy, L, Nat.le_refl _, by rw [HX0.out], HN, HY, HB⟩
          case round =>
            obtain ⟨i, wv, wy, L, hi, hx10, HN, HY, HB⟩ := hrel
            rcases prv_spec M c t i with ⟨hp, hno⟩ | ⟨s, hsi, hp, hd, hno⟩
            · rw [hp] at hx10
              subst hx10
              have HY2 : Hid (WyM M n T c (j + 1) n wy L) := HY.out.col HTJ.out.1 hno
              clear hno hp
              go_wp2
              go_roundw
              case rel => exact ⟨j + 1, wv, wy, L, by omega, by go_num, HN, HY2, HB⟩
              case measure => simp [intOf]; omega
            · rw [hp] at hx10
              subst hx10
              have hsn : s < n := by omega
              have HYN0 : Hid (WyM M n T c j s (upL wy s (wy s ++ [c])) (if wy s = [] then L ++ [s] else L)) := HY.out.note HT.out.2.1 HTJ.out.1 hsn hsi hd hno
              have HX : Hid (M.d s c = t) := hd
              have HPV : Hid (prv M c t i = (s : Int)) := hp
              have hfew := HY.out.few
              obtain ⟨sa, sn, sc, hws⟩ := own_any (HN.out.way.row s hsn)
              have HSN : Hid (sn = (wy s).length) := by
                have := HN.out.way.row s hsn
                rw [hws] at this
                exact own_len13 this
              have hsn2 : sn ≤ c + 1 := by rw [HSN.out]; exact hfew.2 s hsn
              have hL5 : L.length ≤ 5000 := by omega
              have hs0 : (0 : Int) ≤ (s : Int) := by omega
              have hs1 : (s : Int) < (n : Int) := by omega
              obtain ⟨hps, _, _⟩ := HE.out _ _ _ _ _ HN.out
              have p3 := cell_in hps 3
              have pl := lt_of_heap hps
              simp at p3
              have g0 := HN.out.way.cell hsn
              have gl := HN.out.way.lt.1
              rw [hws] at g0
              have hcw : IntKind.u8.wrap (c : Int) = (c : Int) := by
                show (c : Int) % 256 = _
                omega
              clear hno hp hd hps hfew
              by_cases hz : sn = 0
              · have hz1 : (sn : Int) = 0 := by omega
                have HZ0 : Hid (sn = 0) := hz
                clear hz
                have HYN : Hid (WyM M n T c j s (upL wy s (wy s ++ [c])) (L ++ [s])) := by
                  have := HYN0.out
                  rw [if_pos (List.length_eq_zero_iff.1 (HSN.out.symm.trans HZ0.out))] at this
                  exact this
                obtain ⟨va, vn, vc, hva⟩ := own_any HN.out.row
                subst hva
                have hbw : w.heap.size ≤ wr.heap.size := HN.out.size
                have HLF : Hid (∀ w3 v', w3.ownsRow w.heap.size 3 1 v' (L.length + 1) (cellP L ++ [.int .i64 (s : Int)]) → (wr.alloc (.cells #[.int .i64 (s : Int)] 3)).grownBy w3 (Value.slice va vn vc).ownBlock → Hid (NtI13 w base gw n wv0 w3 wv wy v' (L ++ [s])) ∧ Hid (CBox w3 b (gf c) (gn c) n)) := fun w3 v' ho hg => ⟨HN.out.pushL hg ho, HN.out.pushL_blk hg HB.out (by decide)⟩
                go_upto_region 12 with fail
                clear hz1
                go_upto_region 13 with (at_builtin; go_must (refine wpList_append_lies _ rfl _ _ 26 rfl w.heap.size 3 iI (.int .i64 0) 1 8 Tryz.underlying26 hiI hzI0 hzI1 hzI2 rfl (by decide) _ _ _ rfl (HN.out.row.alloc _) ⟨wr.heap.size, 0, none⟩ 1 1 [.int .i64 (s : Int)] rfl rfl (World.news_of_block (by exact heap_new' _ _)) (by simp [Value.oneCell']) (by omega) (by unfold maxLen; omega) (by omega) (by simp; omega) _ rfl ?_); intro g3 c3 wx ho3 hg3 hat3 _; obtain ⟨HNX, HBX⟩ := HLF.out wx _ ho3 hg3; clear ho3 hg3 hat3)
                clear p3 pl g0 gl HN HB HLF
                have HF : Hid _ := nt_fin HE.out HNX.out hcl HBX.out hsn hws
                obtain ⟨hps, _, _⟩ := HE.out _ _ _ _ _ HNX.out
                have p3 := cell_in hps 3
                have pl := lt_of_heap hps
                simp at p3
                have g0 := HNX.out.way.cell hsn
                have gl := HNX.out.way.lt.1
                rw [hws] at g0
                have HOW : Hid (wx.ownsRow base 5 1 (.slice sa sn sc) sn (cellB13 (wy s))) := by
                  have := HNX.out.way.row s hsn
                  rw [hws, ← HSN.out] at this
                  exact this
                have hxs : base ≤ wx.heap.size := Nat.le_of_lt (Nat.lt_of_le_of_lt HNX.out.way.lt.2 gl)
                clear hps
                go_region_law (refine step_append_lies _ (by rfl) (.tmp 69) (.tmp 72) 42 (by rfl) base 5 iU (.int .u8 0) 1 1 Tryz.underlying42 hiU hzU0 hzU1 hzU2 rfl (by decide) (.slice sa sn sc) sn (cellB13 (wy s)) (by rfl) (by exact (HOW.out.alloc _).drew) ⟨wx.heap.size, 0, none⟩ 1 1 [.int .u8 (c : Int)] (by rfl) rfl (by exact World.news_of_block (heap_new' wx _)) (by simp [Value.oneCell']) (by omega) (by unfold maxLen; omega) (by omega) (by simp; omega) (wx.heap.size + 1) (by simp) ?_; intro gL capL w8 hownL hgrowL hatL hltL; obtain ⟨⟨t0, t1⟩, ⟨t2, t3, t4⟩, ⟨⟨t5, t6, t7⟩, t8⟩, HNZ, HBZ⟩ := HF.out _ _ _ hgrowL hownL (by
                    rcases hatL with h | h
                    · exact .inl h
                    · exact .inr (by omega)))
                all_goals (
                  go_wp2
                  go_roundw
                  case rel => exact ⟨s, _, _, _, by omega, by rw [HX.out], HNZ, HYN, HBZ⟩
                  case measure =>
                    have := prv_lt M c t s
                    rw [HX.out]
                    simp [intOf]; omega)
              · have HYN : Hid (WyM M n T c j s (upL wy s (wy s ++ [c])) L) := by
                  have := HYN0.out
                  rw [if_neg (fun e => hz (by rw [HSN.out, e]; rfl))] at this
                  exact this
                have hz1 : ¬ (sn : Int) = 0 := by omega
                go_upto_region 13 with fail
                clear p3 pl g0 gl
                obtain ⟨wx, hwx⟩ : ∃ x, x = wr := ⟨_, rfl⟩
                rw [← hwx] at HN HB ⊢
                clear hwx
                have HNX := HN
                have HBX := HB
                clear HN HB
                have HF : Hid _ := nt_fin HE.out HNX.out hcl HBX.out hsn hws
                obtain ⟨hps, _, _⟩ := HE.out _ _ _ _ _ HNX.out
                have p3 := cell_in hps 3
                have pl := lt_of_heap hps
                simp at p3
                have g0 := HNX.out.way.cell hsn
                have gl := HNX.out.way.lt.1
                rw [hws] at g0
                have HOW : Hid (wx.ownsRow base 5 1 (.slice sa sn sc) sn (cellB13 (wy s))) := by
                  have := HNX.out.way.row s hsn
                  rw [hws, ← HSN.out] at this
                  exact this
                have hxs : base ≤ wx.heap.size := Nat.le_of_lt (Nat.lt_of_le_of_lt HNX.out.way.lt.2 gl)
                clear hps
                go_region_law (refine step_append_lies _ (by rfl) (.tmp 69) (.tmp 72) 42 (by rfl) base 5 iU (.int .u8 0) 1 1 Tryz.underlying42 hiU hzU0 hzU1 hzU2 rfl (by decide) (.slice sa sn sc) sn (cellB13 (wy s)) (by rfl) (by exact (HOW.out.alloc _).drew) ⟨wx.heap.size, 0, none⟩ 1 1 [.int .u8 (c : Int)] (by rfl) rfl (by exact World.news_of_block (heap_new' wx _)) (by simp [Value.oneCell']) (by omega) (by unfold maxLen; omega) (by omega) (by simp; omega) (wx.heap.size + 1) (by simp) ?_; intro gL capL w8 hownL hgrowL hatL hltL; obtain ⟨⟨t0, t1⟩, ⟨t2, t3, t4⟩, ⟨⟨t5, t6, t7⟩, t8⟩, HNZ, HBZ⟩ := HF.out _ _ _ hgrowL hownL (by
                    rcases hatL with h | h
                    · exact .inl h
                    · exact .inr (by omega)))
                all_goals (
                  go_wp2
                  go_roundw
                  case rel => exact ⟨s, _, _, _, by omega, by rw [HX.out], HNZ, HYN, HBZ⟩
                  case measure =>
                    have := prv_lt M c t s
                    rw [HX.out]
                    simp [intOf]; omega)
        · obtain rfl : j = tn := by omega
          have HY2 : Hid (WyM M n T (c + 1) 0 n wy L) := HY.out.cls (by have := HT.out.1; omega)
          go_wp2
          go_roundw
          case rel => exact ⟨c + 1, wv, wy, L, by omega, by go_num, HN, HY2⟩
          case measure => simp [intOf]; omega
    · obtain rfl : c = ivn := by omega
      go_wp2
      go_ret
      have hd := HY.out.done rfl HM.out.1 HM.out.2
      exact ⟨_, L, wv, wy, rfl, HN.out, hd.1, hd.2.1, hd.2.2⟩
end Go.Proofs.YtklhjjgnhigbiaaGreatDoor
