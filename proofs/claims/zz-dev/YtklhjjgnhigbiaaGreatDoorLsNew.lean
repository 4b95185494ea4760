/-
  least.newParting: all states in one part.
-/
import Derived.Test.YtklhjjgnhigbiaaGreatDoorLsChn
import Derived.Test.YtklhjjgnhigbiaaGreatDoorLsPrt
namespace Go.Proofs.YtklhjjgnhigbiaaGreatDoor
open Go.RowKit Go.Shelf
set_option linter.unusedVariables false

theorem Tryz.infoWay13 : (Tryz.prog.info? 42).map (fun i => (i.zero, i.size, i.bytes)) = some (some (.slice none 0 0), 1, 24) := by kernel_rfl
theorem wayz_made {base n : Nat} (w : World) (hb : base ≤ w.heap.size) (hn : n ≤ maxLen) : (w.alloc (.cells (madeCells #[.slice none 0 0] n) 42)).ownsRow base 42 1 (.slice (some ⟨w.heap.size, 0, none⟩) n n) n ((List.range n).map fun _ => Value.slice none 0 0) := by
  have := World.ownsRow_lit (base := base) (e := 42) (size := 1) w (madeCells #[.slice none 0 0] n) n hb hn (by simp [size_madeCells])
  rw [made_one] at this
  exact this
/-- As it is made, ahead of its rows. -/
structure NwR (W0 : World) (n PB gp g0 gm gw : Nat) (w : World) : Prop where
  str : PStr w PB gp n (.slice (some ⟨gm, 0, none⟩) 1 1) (.slice none 0 0) gw
  part : RowN w W0.heap.size gp n (fun _ => 0)
  row : RowN w W0.heap.size g0 n (fun _ => 0)
  arr : w.heap[gm]? = some (.cells #[.slice (some ⟨g0, 0, none⟩) n n] 26 (0, 0)) ∧ W0.heap.size ≤ gm
  way : w.ownsRow W0.heap.size 42 1 (.slice (some ⟨gw, 0, none⟩) n n) n ((List.range n).map fun _ => Value.slice none 0 0)
  bl : Below W0.heap.size W0 w
  ne : gp ≠ g0
  lb : W0.heap.size ≤ PB
theorem NwR.fin {W0 w : World} {n gp g0 gm gw : Nat} (h1 : RowN w W0.heap.size gp n (fun _ => 0)) (h2 : RowN w W0.heap.size g0 n (fun _ => 0)) (h3 : w.heap[gm]? = some (.cells #[.slice (some ⟨g0, 0, none⟩) n n] 26 (0, 0)) ∧ W0.heap.size ≤ gm) (h4 : w.ownsRow W0.heap.size 42 1 (.slice (some ⟨gw, 0, none⟩) n n) n ((List.range n).map fun _ => Value.slice none 0 0)) (h5 : Below W0.heap.size W0 w) (h6 : gp ≠ g0) : NwR W0 n w.heap.size gp g0 gm gw (w.alloc (.cells #[.slice (some ⟨gp, 0, none⟩) n n, .slice (some ⟨gm, 0, none⟩) 1 1, .slice none 0 0, .slice (some ⟨gw, 0, none⟩) n n] 97)) := by
  have hb := below_alloc w (.cells #[.slice (some ⟨gp, 0, none⟩) n n, .slice (some ⟨gm, 0, none⟩) 1 1, .slice none 0 0, .slice (some ⟨gw, 0, none⟩) n n] 97)
  exact ⟨heap_new' _ _, h1.below hb, h2.below hb, ⟨(hb.block _ (lt_of_heap h3.1)).trans h3.1, h3.2⟩, ownsRow_below h4 hb, below_after h5 hb, h6, h5.size⟩

def chCells (gf gn : Nat → Nat) (n k : Nat) : List Value := (List.range k).flatMap fun c => [Value.slice (some ⟨gf c, 0, none⟩) n n, Value.slice (some ⟨gn c, 0, none⟩) n n]
theorem chCells_len (gf gn : Nat → Nat) (n : Nat) : ∀ k, (chCells gf gn n k).length = k * 2
  | 0 => rfl
  | k + 1 => by
    unfold chCells
    rw [List.range_succ, List.flatMap_append, List.length_append]
    have := chCells_len gf gn n k
    unfold chCells at this
    rw [this]
    simp; omega
theorem chCells_push (gf gn : Nat → Nat) (n k a b : Nat) : chCells (upN gf k a) (upN gn k b) n (k + 1) = chCells gf gn n k ++ [.slice (some ⟨a, 0, none⟩) n n, .slice (some ⟨b, 0, none⟩) n n] := by
  unfold chCells
  rw [List.range_succ, List.flatMap_append]
  congr 1
  · rw [List.flatMap_def, List.flatMap_def]
    congr 1
    refine List.map_congr_left (fun c hc => ?_)
    have : ¬ c = k := by have := List.mem_range.1 hc; omega
    simp [upN, this]
  · simp [upN]
/-- The chains of the first k classes in memory, from lo on. -/
structure InI (w : World) (lo : Nat) (iv : Value) (k n : Nat) (M : Mach) (gf gn : Nat → Nat) : Prop where
  arr : w.ownsRow lo 116 2 iv k (chCells gf gn n k)
  fst : ∀ c, c < k → RowZ w lo (gf c) n (fun t => prv M c t n)
  nxt : ∀ c, c < k → RowZ w lo (gn c) n (fun s => prv M c (M.d s c) s)
theorem InI.to {w w' : World} {lo : Nat} {iv : Value} {k n : Nat} {M : Mach} {gf gn : Nat → Nat} (h : InI w lo iv k n M gf gn) (h1 : ∀ g cs, lo ≤ g → w.heap[g]? = some (.cells cs 116 (0, 0)) → w'.heap[g]? = w.heap[g]?) (h2 : ∀ g cs, lo ≤ g → w.heap[g]? = some (.cells cs 3 (0, 0)) → w'.heap[g]? = w.heap[g]?) : InI w' lo iv k n M gf gn := by
  refine ⟨own_blk h.arr (fun g e => ?_), fun c hc => ?_, fun c hc => ?_⟩
  · obtain ⟨cs, hcs⟩ := own_typed h.arr e
    exact h1 g cs (h.arr.lt g e).1 hcs
  · obtain ⟨cs, hcs⟩ := (h.fst c hc).typed
    exact (h.fst c hc).blk (h2 _ cs (h.fst c hc).lt.2 hcs)
  · obtain ⟨cs, hcs⟩ := (h.nxt c hc).typed
    exact (h.nxt c hc).blk (h2 _ cs (h.nxt c hc).lt.2 hcs)
theorem InI.below {w w' : World} {lo : Nat} {iv : Value} {k n : Nat} {M : Mach} {gf gn : Nat → Nat} (h : InI w lo iv k n M gf gn) (hb : Below w.heap.size w w') : InI w' lo iv k n M gf gn := h.to (fun g cs _ hg => hb.block g (lt_of_heap hg)) (fun g cs _ hg => hb.block g (lt_of_heap hg))
/-- While chains are made. -/
structure NwI (w2 : World) (n PB gp gm gw : Nat) (M : Mach) (c : Nat) (w : World) (iv : Value) (gf gn : Nat → Nat) : Prop where
  str : PStr w PB gp n (.slice (some ⟨gm, 0, none⟩) 1 1) iv gw
  ini : InI w w2.heap.size iv c n M gf gn
  os : w.os = w2.os
  tape : w.tape = w2.tape
  output : w.output = w2.output
  size : w2.heap.size ≤ w.heap.size
  old : ∀ k, k < w2.heap.size → k ≠ PB → w.heap[k]? = w2.heap[k]?
  lb : PB < w2.heap.size
theorem NwI.push {w2 w w4 w6 : World} {n PB gp gm gw : Nat} {M : Mach} {c : Nat} {iv v' : Value} {gf gn : Nat → Nat} {a b : Nat} {o : Obj} (h : NwI w2 n PB gp gm gw M c w iv gf gn) (hb : Below w.heap.size w w4) (h1 : RowZ w4 w.heap.size a n (fun t => prv M c t n)) (h2 : RowZ w4 w.heap.size b n (fun s => prv M c (M.d s c) s)) (hg : (w4.alloc o).grownBy w6 iv.ownBlock) (ho : w6.ownsRow w2.heap.size 116 2 v' (c + 1) (chCells gf gn n c ++ [.slice (some ⟨a, 0, none⟩) n n, .slice (some ⟨b, 0, none⟩) n n])) :
    (w6.cell? ⟨PB, 2, none⟩ = some iv ∧ w6.frozen? ⟨PB, 2, none⟩ = false ∧ PB < w6.heap.size) ∧ NwI w2 n PB gp gm gw M (c + 1) (w6.setCell ⟨PB, 2, none⟩ v') v' (upN gf c a) (upN gn c b) := by
  have hsz := h.size
  have hsz4 := hb.size
  have hga : Below w4.heap.size w4 (w4.alloc o) := below_alloc w4 o
  have keep : ∀ k, k < w.heap.size → (∀ g, iv.ownBlock = some g → k ≠ g) → w6.heap[k]? = w.heap[k]? := fun k hk hne => (hg.block k (by simp; omega) (fun e => hne k e.symm rfl)).trans ((hga.block k (by omega)).trans (hb.block k hk))
  have keep4 : ∀ k, k < w4.heap.size → (∀ g, iv.ownBlock = some g → k ≠ g) → w6.heap[k]? = w4.heap[k]? := fun k hk hne => (hg.block k (by simp; omega) (fun e => hne k e.symm rfl)).trans (hga.block k hk)
  have hint : ∀ k cs, w.heap[k]? = some (.cells cs 3 (0, 0)) → ∀ g, iv.ownBlock = some g → k ≠ g := fun k cs hk g e q => by
    obtain ⟨c2, hc2⟩ := own_typed h.ini.arr e
    rw [q] at hk
    exact absurd (typ_ne hk hc2) (by decide)
  have hint4 : ∀ g0 L, RowZ w4 w.heap.size g0 n L → ∀ g, iv.ownBlock = some g → g0 ≠ g := fun g0 L hr g e q => by
    have h3 := hr.lt.2
    have h4 := (h.ini.arr.lt g e).2
    omega
  have hPB : ∀ g, iv.ownBlock = some g → PB ≠ g := fun g e q => by
    have h3 := (h.ini.arr.lt g e).1
    have h4 := h.lb
    omega
  have hP6 : PStr w6 PB gp n (.slice (some ⟨gm, 0, none⟩) 1 1) iv gw := (keep PB (by have := h.lb; omega) hPB).trans h.str
  have hO : OnlyB PB w6 (w6.setCell ⟨PB, 2, none⟩ v') := (OnlyB.refl _ _).set _ _
  have hne : ∀ g, w2.heap.size ≤ g → g ≠ PB := fun g hg e => by have := h.lb; omega
  refine ⟨⟨cell_in hP6 2, by simp [World.frozen?, show w6.heap[PB]? = _ from hP6], lt_of_heap hP6⟩, ?_, ⟨?_, fun x hx => ?_, fun x hx => ?_⟩, hO.os.trans (hg.os.trans (hga.os.trans (hb.os.trans h.os))), hO.tape.trans (hg.tape.trans (hga.tape.trans (hb.tape.trans h.tape))), hO.output.trans (hg.output.trans (hga.output.trans (hb.output.trans h.output))), by rw [hO.size]; have := hg.size; have := hga.size; omega, fun k hk hk2 => ?_, h.lb⟩
  · have := heap_setN (i := 2) hP6 v'
    unfold PStr
    rw [this]
    simp
  · rw [chCells_push]
    exact own_blk ho (fun g e => hO.block g (hne g (ho.lt g e).1))
  · by_cases e : x = c
    · subst e
      have e1 : upN gf x a x = a := by unfold upN; rw [if_pos rfl]
      rw [e1]
      exact own_mono13 ((h1.blk (keep4 a h1.lt.1 (hint4 a _ h1))).blk (hO.block a (hne a (by have := h1.lt.2; omega)))) hsz
    · have e1 : upN gf c a x = gf x := by unfold upN; rw [if_neg e]
      rw [e1]
      have hr := h.ini.fst x (by omega)
      obtain ⟨cs, hcs⟩ := hr.typed
      exact (hr.blk (keep _ hr.lt.1 (hint _ cs hcs))).blk (hO.block _ (hne _ hr.lt.2))
  · by_cases e : x = c
    · subst e
      have e1 : upN gn x b x = b := by unfold upN; rw [if_pos rfl]
      rw [e1]
      exact own_mono13 ((h2.blk (keep4 b h2.lt.1 (hint4 b _ h2))).blk (hO.block b (hne b (by have := h2.lt.2; omega)))) hsz
    · have e1 : upN gn c b x = gn x := by unfold upN; rw [if_neg e]
      rw [e1]
      have hr := h.ini.nxt x (by omega)
      obtain ⟨cs, hcs⟩ := hr.typed
      exact (hr.blk (keep _ hr.lt.1 (hint _ cs hcs))).blk (hO.block _ (hne _ hr.lt.2))
  · exact (hO.block k hk2).trans ((keep k (by omega) (fun g e q => by have := (h.ini.arr.lt g e).1; omega)).trans (h.old k hk hk2))
/-- A parting as it is made. -/
def NewA (N : List (List Int)) (F : List Bool) (w : World) (e : Ending) (w' : World) : Prop := ∃ PB gp g0 gm gw lo iv gf gn, e = .returned (.pointer (some ⟨PB, 0, none⟩)) ∧ PStr w' PB gp N.length (.slice (some ⟨gm, 0, none⟩) 1 1) iv gw ∧ RowN w' w.heap.size gp N.length (fun _ => 0) ∧ MbI w' w.heap.size (.slice (some ⟨gm, 0, none⟩) 1 1) [.slice (some ⟨g0, 0, none⟩) N.length N.length] [List.range N.length] ∧ InI w' lo iv (N.getD 0 []).length N.length (mch N F) gf gn ∧ w'.ownsRow w.heap.size 42 1 (.slice (some ⟨gw, 0, none⟩) N.length N.length) N.length ((List.range N.length).map fun _ => Value.slice none 0 0) ∧ gp ≠ g0 ∧ gp < lo ∧ g0 < lo ∧ w.heap.size ≤ PB ∧ Below w.heap.size w w'

set_option maxRecDepth 100000 in
set_option maxHeartbeats 16000000 in
theorem newParting_any (N : List (List Int)) (F : List Bool) (dv : Value) (w : World) (hd : DfaAt w dv N F) (hr : rightD N F = true) :
    Calls Tryz.prog 50 #[dv] w (NewA N F w) := by
  obtain ⟨iI, hiI, hzI0, hzI1, hzI2⟩ := info_parts Tryz.infoInt
  obtain ⟨iW, hiW, hzW0, hzW1, hzW2⟩ := info_parts Tryz.infoWay13
  obtain ⟨iC, hiC, hzC0, hzC1, hzC2⟩ := info_parts Tryz.infoChains
  have HDF : Hid (DfaAt w dv N F ∧ rightD N F = true) := ⟨hd, hr⟩
  obtain ⟨na, nc, fa, fc, rfl, hnc, hfc, hx, hfx⟩ := dfa_parts hd
  have hri := rightD_iff.1 hr
  have HAT : Hid (∀ W, Below w.heap.size w W → AtD W na fa N.length (N.getD 0 []).length (mch N F)) := fun W hb => at_of (hd.below hb) hr
  obtain ⟨n, hn⟩ : ∃ x, x = N.length := ⟨_, rfl⟩
  obtain ⟨m, hm⟩ : ∃ x, x = F.length := ⟨_, rfl⟩
  obtain ⟨C, hC⟩ : ∃ x, x = (N.getD 0 []).length := ⟨_, rfl⟩
  have hn1 : 1 ≤ n := by omega
  have hn5 : n ≤ 5000 := by omega
  have HN : Hid (n = N.length ∧ m = F.length ∧ C = (N.getD 0 []).length ∧ 1 ≤ C ∧ C ≤ 200) := ⟨hn, hm, hC, by omega, by omega⟩
  rw [← hn, ← hC] at HAT
  have hch : ∀ W c, Below w.heap.size w W → c < (N.getD 0 []).length → _ := fun W c hb hc => newChains_any N F _ c W (hd.below hb) hr hc
  unfold NewA
  obtain ⟨M, hM⟩ : ∃ M, M = mch N F := ⟨_, rfl⟩
  rw [← hM] at HAT hch
  rw [← hn, ← hm, ← hC] at hch
  have HCH : Hid _ := hch
  rw [← hn, ← hm] at HDF
  rw [← hn, ← hm, ← hC, ← hM]
  obtain ⟨W0, hW0⟩ : ∃ W, W = w.alloc (.cells #[.slice na n nc, .slice fa m fc] 35) := ⟨_, rfl⟩
  have hb0 : Below w.heap.size w W0 := by rw [hW0]; exact below_alloc _ _
  have h0 : DBox W0 w.heap.size (.slice na n nc) (.slice fa m fc) := by rw [hW0]; exact heap_new' _ _
  have HW0 : Hid (W0 = _) := hW0
  have HD : Hid (DBox W0 w.heap.size (.slice na n nc) (.slice fa m fc) ∧ Below w.heap.size w W0 ∧ W0.heap.size = w.heap.size + 1) := ⟨h0, hb0, by rw [hW0]; simp⟩
  have hmk : ∀ W : World, (Instr.makeSlice 26 (.int .i64 (n : Int)) (.int .i64 (n : Int))).run Tryz.prog W = .ok (.slice (some ⟨W.heap.size, 0, none⟩) n n) (W.alloc (.cells (madeCells #[.int .i64 0] n) 3)) := fun W => run_make13 W 26 3 iI (.int .i64 0) Tryz.underlying26 hiI hzI0 hzI1 rfl n (by omega) (by omega)
  have hmk2 : ∀ W : World, (Instr.makeSlice 95 (.int .i64 (n : Int)) (.int .i64 (n : Int))).run Tryz.prog W = .ok (.slice (some ⟨W.heap.size, 0, none⟩) n n) (W.alloc (.cells (madeCells #[.slice none 0 0] n) 42)) := fun W => run_make13 W 95 42 iW (.slice none 0 0) Tryz.underlying95 hiW hzW0 hzW1 rfl n (by omega) (by omega)
  have a0 := HD.out.1.c0
  have al := HD.out.1.lt
  clear hd hr hri hx hfx hn hm hC h0 hb0 hW0 hnc hfc hM hch
  go_enter Tryz.func50, Tryz.ntmps50
  go_upto_region 2 with fail
  rw [← HW0.out]
  go_cut [4] from 4 to 18 (fun s4 wx => ∃ PB gp g0 gm gw, s4 = .pointer (some ⟨PB, 0, none⟩) ∧ Hid (NwR W0 n PB gp g0 gm gw wx))
  case first =>
    --@@region
    refine wp_region_noPanic ?_
    refine wp_region_held_drew (S := fun _ => True) (by kernel_rfl) trivial (fun hHeld => ?_)
    refine wpAnyH_take (i := 0) (v := .int .i64 (n : Int)) rfl (by kernel_rfl) (by kernel_rfl) (by kernel_rfl) (fun _ _ _ h => h) (Or.inl ⟨by rfl, fun W9 hSw => by go_simp⟩) hHeld ?_
    simp only [List.getElem_toArray, List.getElem_cons_zero, Act.put, List.setIfInBounds_toArray, List.set_cons_zero, List.set_cons_succ]
    refine wpAnyH_take (i := 2) (v := .int .i64 (n : Int)) rfl (by kernel_rfl) (by kernel_rfl) (by kernel_rfl) (fun _ _ _ h => h) (Or.inl ⟨by rfl, fun W9 hSw => by go_simp⟩) hHeld ?_
    simp only [List.getElem_toArray, List.getElem_cons_succ, List.getElem_cons_zero, Act.put, List.setIfInBounds_toArray, List.set_cons_zero, List.set_cons_succ]
    refine wpAnyH_take (i := 5) (v := .int .i64 (n : Int)) rfl (by kernel_rfl) (by kernel_rfl) (by kernel_rfl) (fun _ _ _ h => h) (Or.inl ⟨by rfl, fun W9 hSw => by go_simp⟩) hHeld ?_
    simp only [List.getElem_toArray, List.getElem_cons_succ, List.getElem_cons_zero, Act.put, List.setIfInBounds_toArray, List.set_cons_zero, List.set_cons_succ]
    obtain ⟨WD, hWD⟩ : ∃ W, W = W0.drew := ⟨_, rfl⟩
    have hbD : Below W0.heap.size W0 WD := by rw [hWD]; exact (Below.refl _ _).drew
    rw [← hWD]
    clear hWD
    refine wpAnyH_ready (rs := [1, 3, 6]) (by kernel_rfl) (by simp) ?_
    refine AllReadyH.cons rfl (fun K hK => ?_) ?_
    · go_simp
      obtain ⟨V0, hE0⟩ : ∃ W, W = WD.alloc (.cells (madeCells #[.int .i64 0] n) 3) := ⟨_, rfl⟩
      rw [← hE0]
      have hw0 : Below WD.heap.size WD V0 := by rw [hE0]; exact below_alloc _ _
      have hb0 : Below W0.heap.size W0 V0 := below_after hbD hw0
      refine hK.out _ _ trivial (fun hH0 => ?_)
      clear hK K
      have HP0 : Hid (RowN V0 W0.heap.size WD.heap.size n (fun _ => 0)) := by rw [hE0]; exact row_made WD hbD.size (by unfold maxLen; omega)
      clear hE0
      refine wpAnyH_ready (rs := [3, 6]) (by kernel_rfl) (by simp) ?_
      refine AllReadyH.cons rfl (fun K hK => ?_) ?_
      · go_simp
        obtain ⟨V1, hE1⟩ : ∃ W, W = V0.alloc (.cells (madeCells #[.int .i64 0] n) 3) := ⟨_, rfl⟩
        rw [← hE1]
        have hw1 : Below V0.heap.size V0 V1 := by rw [hE1]; exact below_alloc _ _
        have hb1 : Below W0.heap.size W0 V1 := below_after hb0 hw1
        refine hK.out _ _ trivial (fun hH1 => ?_)
        clear hK K
        have HP1 : Hid (RowN V1 W0.heap.size WD.heap.size n (fun _ => 0)) := HP0.out.below hw1
        have HR1 : Hid (RowN V1 W0.heap.size V0.heap.size n (fun _ => 0)) := by rw [hE1]; exact row_made V0 hb0.size (by unfold maxLen; omega)
        have hne1 : WD.heap.size ≠ V0.heap.size := fun e => by
          have h2 := HP0.out.lt.1
          omega
        clear hE1
        refine wpAnyH_ready (rs := [4, 6]) (by kernel_rfl) (by simp) ?_
        refine AllReadyH.cons rfl (fun K hK => ?_) ?_
        · go_simp
          obtain ⟨V2, hE2⟩ : ∃ W, W = V1.alloc (.cells #[.slice (some ⟨V0.heap.size, 0, none⟩) n n] 26) := ⟨_, rfl⟩
          rw [← hE2]
          have hw2 : Below V1.heap.size V1 V2 := by rw [hE2]; exact below_alloc _ _
          have hb2 : Below W0.heap.size W0 V2 := below_after hb1 hw2
          refine hK.out _ _ trivial (fun hH2 => ?_)
          clear hK K
          have HP2 : Hid (RowN V2 W0.heap.size WD.heap.size n (fun _ => 0)) := HP1.out.below hw2
          have HR2 : Hid (RowN V2 W0.heap.size V0.heap.size n (fun _ => 0)) := HR1.out.below hw2
          have HA2 : Hid (V2.heap[V1.heap.size]? = some (.cells #[.slice (some ⟨V0.heap.size, 0, none⟩) n n] 26 (0, 0)) ∧ W0.heap.size ≤ V1.heap.size) := by rw [hE2]; exact ⟨heap_new' _ _, hb1.size⟩
          clear hE2
          refine wpAnyH_ready (rs := [6]) (by kernel_rfl) (by simp) ?_
          refine AllReadyH.cons rfl (fun K hK => ?_) AllReadyH.nil
          go_simp
          obtain ⟨V3, hE3⟩ : ∃ W, W = V2.alloc (.cells (madeCells #[.slice none 0 0] n) 42) := ⟨_, rfl⟩
          rw [← hE3]
          have hw3 : Below V2.heap.size V2 V3 := by rw [hE3]; exact below_alloc _ _
          have hb3 : Below W0.heap.size W0 V3 := below_after hb2 hw3
          refine hK.out _ _ trivial (fun hH3 => ?_)
          clear hK K
          have HP3 : Hid (RowN V3 W0.heap.size WD.heap.size n (fun _ => 0)) := HP2.out.below hw3
          have HR3 : Hid (RowN V3 W0.heap.size V0.heap.size n (fun _ => 0)) := HR2.out.below hw3
          have HA3 : Hid (V3.heap[V1.heap.size]? = some (.cells #[.slice (some ⟨V0.heap.size, 0, none⟩) n n] 26 (0, 0)) ∧ W0.heap.size ≤ V1.heap.size) := ⟨(hw3.block _ (lt_of_heap HA2.out.1)).trans HA2.out.1, HA2.out.2⟩
          have HY3 : Hid (V3.ownsRow W0.heap.size 42 1 (.slice (some ⟨V2.heap.size, 0, none⟩) n n) n ((List.range n).map fun _ => Value.slice none 0 0)) := by rw [hE3]; exact wayz_made V2 hb2.size (by unfold maxLen; omega)
          clear hE3
          refine wpAnyH_take (i := 7) (v := .agg #[.slice (some ⟨WD.heap.size, 0, none⟩) n n, .slice (some ⟨V1.heap.size, 0, none⟩) 1 1, .slice none 0 0, .slice (some ⟨V2.heap.size, 0, none⟩) n n]) rfl (by kernel_rfl) (by kernel_rfl) (by kernel_rfl) (fun _ _ _ h => h) (Or.inl ⟨by rfl, fun W9 hSw => by go_simp⟩) hH3 ?_
          simp only [List.getElem_toArray, List.getElem_cons_succ, List.getElem_cons_zero, Act.put, List.setIfInBounds_toArray, List.set_cons_zero, List.set_cons_succ]
          refine wpAnyH_ready (rs := [8]) (by kernel_rfl) (by simp) ?_
          refine AllReadyH.cons rfl (fun K hK => ?_) AllReadyH.nil
          go_simp
          have hfin := NwR.fin HP3.out HR3.out HA3.out HY3.out hb3 hne1
          refine hK.out _ _ trivial (fun hHx => ?_)
          clear hK K
          refine wpAnyH_take (i := 9) (v := .pointer (some ⟨V3.heap.size, 0, none⟩)) rfl (by kernel_rfl) (by kernel_rfl) (by kernel_rfl) (fun _ _ _ h => h) (Or.inl ⟨by rfl, fun W9 hSw => by go_simp⟩) hHx ?_
          simp only [List.getElem_toArray, List.getElem_cons_succ, List.getElem_cons_zero, Act.put, List.setIfInBounds_toArray, List.set_cons_zero, List.set_cons_succ]
          refine wpAnyH_done (by kernel_rfl) ?_ _
          refine NoPanic.normal ?_
          go_wp2
          go_meet
          exact ⟨V3.heap.size, WD.heap.size, V0.heap.size, V1.heap.size, V2.heap.size, rfl, hfin⟩
        refine AllReadyH.cons rfl (fun K hK => ?_) AllReadyH.nil
        go_simp
        obtain ⟨V5, hE5⟩ : ∃ W, W = V1.alloc (.cells (madeCells #[.slice none 0 0] n) 42) := ⟨_, rfl⟩
        rw [← hE5]
        have hw5 : Below V1.heap.size V1 V5 := by rw [hE5]; exact below_alloc _ _
        have hb5 : Below W0.heap.size W0 V5 := below_after hb1 hw5
        refine hK.out _ _ trivial (fun hH5 => ?_)
        clear hK K
        have HP5 : Hid (RowN V5 W0.heap.size WD.heap.size n (fun _ => 0)) := HP1.out.below hw5
        have HR5 : Hid (RowN V5 W0.heap.size V0.heap.size n (fun _ => 0)) := HR1.out.below hw5
        have HY5 : Hid (V5.ownsRow W0.heap.size 42 1 (.slice (some ⟨V1.heap.size, 0, none⟩) n n) n ((List.range n).map fun _ => Value.slice none 0 0)) := by rw [hE5]; exact wayz_made V1 hb1.size (by unfold maxLen; omega)
        clear hE5
        refine wpAnyH_ready (rs := [4]) (by kernel_rfl) (by simp) ?_
        refine AllReadyH.cons rfl (fun K hK => ?_) AllReadyH.nil
        go_simp
        obtain ⟨V6, hE6⟩ : ∃ W, W = V5.alloc (.cells #[.slice (some ⟨V0.heap.size, 0, none⟩) n n] 26) := ⟨_, rfl⟩
        rw [← hE6]
        have hw6 : Below V5.heap.size V5 V6 := by rw [hE6]; exact below_alloc _ _
        have hb6 : Below W0.heap.size W0 V6 := below_after hb5 hw6
        refine hK.out _ _ trivial (fun hH6 => ?_)
        clear hK K
        have HP6 : Hid (RowN V6 W0.heap.size WD.heap.size n (fun _ => 0)) := HP5.out.below hw6
        have HR6 : Hid (RowN V6 W0.heap.size V0.heap.size n (fun _ => 0)) := HR5.out.below hw6
        have HY6 : Hid (V6.ownsRow W0.heap.size 42 1 (.slice (some ⟨V1.heap.size, 0, none⟩) n n) n ((List.range n).map fun _ => Value.slice none 0 0)) := ownsRow_below HY5.out hw6
        have HA6 : Hid (V6.heap[V5.heap.size]? = some (.cells #[.slice (some ⟨V0.heap.size, 0, none⟩) n n] 26 (0, 0)) ∧ W0.heap.size ≤ V5.heap.size) := by rw [hE6]; exact ⟨heap_new' _ _, hb5.size⟩
        clear hE6
        refine wpAnyH_take (i := 7) (v := .agg #[.slice (some ⟨WD.heap.size, 0, none⟩) n n, .slice (some ⟨V5.heap.size, 0, none⟩) 1 1, .slice none 0 0, .slice (some ⟨V1.heap.size, 0, none⟩) n n]) rfl (by kernel_rfl) (by kernel_rfl) (by kernel_rfl) (fun _ _ _ h => h) (Or.inl ⟨by rfl, fun W9 hSw => by go_simp⟩) hH6 ?_
        simp only [List.getElem_toArray, List.getElem_cons_succ, List.getElem_cons_zero, Act.put, List.setIfInBounds_toArray, List.set_cons_zero, List.set_cons_succ]
        refine wpAnyH_ready (rs := [8]) (by kernel_rfl) (by simp) ?_
        refine AllReadyH.cons rfl (fun K hK => ?_) AllReadyH.nil
        go_simp
        have hfin := NwR.fin HP6.out HR6.out HA6.out HY6.out hb6 hne1
        refine hK.out _ _ trivial (fun hHx => ?_)
        clear hK K
        refine wpAnyH_take (i := 9) (v := .pointer (some ⟨V6.heap.size, 0, none⟩)) rfl (by kernel_rfl) (by kernel_rfl) (by kernel_rfl) (fun _ _ _ h => h) (Or.inl ⟨by rfl, fun W9 hSw => by go_simp⟩) hHx ?_
        simp only [List.getElem_toArray, List.getElem_cons_succ, List.getElem_cons_zero, Act.put, List.setIfInBounds_toArray, List.set_cons_zero, List.set_cons_succ]
        refine wpAnyH_done (by kernel_rfl) ?_ _
        refine NoPanic.normal ?_
        go_wp2
        go_meet
        exact ⟨V6.heap.size, WD.heap.size, V0.heap.size, V5.heap.size, V1.heap.size, rfl, hfin⟩
      refine AllReadyH.cons rfl (fun K hK => ?_) AllReadyH.nil
      go_simp
      obtain ⟨V8, hE8⟩ : ∃ W, W = V0.alloc (.cells (madeCells #[.slice none 0 0] n) 42) := ⟨_, rfl⟩
      rw [← hE8]
      have hw8 : Below V0.heap.size V0 V8 := by rw [hE8]; exact below_alloc _ _
      have hb8 : Below W0.heap.size W0 V8 := below_after hb0 hw8
      refine hK.out _ _ trivial (fun hH8 => ?_)
      clear hK K
      have HP8 : Hid (RowN V8 W0.heap.size WD.heap.size n (fun _ => 0)) := HP0.out.below hw8
      have HY8 : Hid (V8.ownsRow W0.heap.size 42 1 (.slice (some ⟨V0.heap.size, 0, none⟩) n n) n ((List.range n).map fun _ => Value.slice none 0 0)) := by rw [hE8]; exact wayz_made V0 hb0.size (by unfold maxLen; omega)
      clear hE8
      refine wpAnyH_ready (rs := [3]) (by kernel_rfl) (by simp) ?_
      refine AllReadyH.cons rfl (fun K hK => ?_) AllReadyH.nil
      go_simp
      obtain ⟨V9, hE9⟩ : ∃ W, W = V8.alloc (.cells (madeCells #[.int .i64 0] n) 3) := ⟨_, rfl⟩
      rw [← hE9]
      have hw9 : Below V8.heap.size V8 V9 := by rw [hE9]; exact below_alloc _ _
      have hb9 : Below W0.heap.size W0 V9 := below_after hb8 hw9
      refine hK.out _ _ trivial (fun hH9 => ?_)
      clear hK K
      have HP9 : Hid (RowN V9 W0.heap.size WD.heap.size n (fun _ => 0)) := HP8.out.below hw9
      have HY9 : Hid (V9.ownsRow W0.heap.size 42 1 (.slice (some ⟨V0.heap.size, 0, none⟩) n n) n ((List.range n).map fun _ => Value.slice none 0 0)) := ownsRow_below HY8.out hw9
      have HR9 : Hid (RowN V9 W0.heap.size V8.heap.size n (fun _ => 0)) := by rw [hE9]; exact row_made V8 hb8.size (by unfold maxLen; omega)
      have hne9 : WD.heap.size ≠ V8.heap.size := fun e => by
        have h2 := HP8.out.lt.1
        omega
      clear hE9
      refine wpAnyH_ready (rs := [4]) (by kernel_rfl) (by simp) ?_
      refine AllReadyH.cons rfl (fun K hK => ?_) AllReadyH.nil
      go_simp
      obtain ⟨V10, hE10⟩ : ∃ W, W = V9.alloc (.cells #[.slice (some ⟨V8.heap.size, 0, none⟩) n n] 26) := ⟨_, rfl⟩
      rw [← hE10]
      have hw10 : Below V9.heap.size V9 V10 := by rw [hE10]; exact below_alloc _ _
      have hb10 : Below W0.heap.size W0 V10 := below_after hb9 hw10
      refine hK.out _ _ trivial (fun hH10 => ?_)
      clear hK K
      have HP10 : Hid (RowN V10 W0.heap.size WD.heap.size n (fun _ => 0)) := HP9.out.below hw10
      have HR10 : Hid (RowN V10 W0.heap.size V8.heap.size n (fun _ => 0)) := HR9.out.below hw10
      have HY10 : Hid (V10.ownsRow W0.heap.size 42 1 (.slice (some ⟨V0.heap.size, 0, none⟩) n n) n ((List.range n).map fun _ => Value.slice none 0 0)) := ownsRow_below HY9.out hw10
      have HA10 : Hid (V10.heap[V9.heap.size]? = some (.cells #[.slice (some ⟨V8.heap.size, 0, none⟩) n n] 26 (0, 0)) ∧ W0.heap.size ≤ V9.heap.size) := by rw [hE10]; exact ⟨heap_new' _ _, hb9.size⟩
      clear hE10
      refine wpAnyH_take (i := 7) (v := .agg #[.slice (some ⟨WD.heap.size, 0, none⟩) n n, .slice (some ⟨V9.heap.size, 0, none⟩) 1 1, .slice none 0 0, .slice (some ⟨V0.heap.size, 0, none⟩) n n]) rfl (by kernel_rfl) (by kernel_rfl) (by kernel_rfl) (fun _ _ _ h => h) (Or.inl ⟨by rfl, fun W9 hSw => by go_simp⟩) hH10 ?_
      simp only [List.getElem_toArray, List.getElem_cons_succ, List.getElem_cons_zero, Act.put, List.setIfInBounds_toArray, List.set_cons_zero, List.set_cons_succ]
      refine wpAnyH_ready (rs := [8]) (by kernel_rfl) (by simp) ?_
      refine AllReadyH.cons rfl (fun K hK => ?_) AllReadyH.nil
      go_simp
      have hfin := NwR.fin HP10.out HR10.out HA10.out HY10.out hb10 hne9
      refine hK.out _ _ trivial (fun hHx => ?_)
      clear hK K
      refine wpAnyH_take (i := 9) (v := .pointer (some ⟨V10.heap.size, 0, none⟩)) rfl (by kernel_rfl) (by kernel_rfl) (by kernel_rfl) (fun _ _ _ h => h) (Or.inl ⟨by rfl, fun W9 hSw => by go_simp⟩) hHx ?_
      simp only [List.getElem_toArray, List.getElem_cons_succ, List.getElem_cons_zero, Act.put, List.setIfInBounds_toArray, List.set_cons_zero, List.set_cons_succ]
      refine wpAnyH_done (by kernel_rfl) ?_ _
      refine NoPanic.normal ?_
      go_wp2
      go_meet
      exact ⟨V10.heap.size, WD.heap.size, V8.heap.size, V9.heap.size, V0.heap.size, rfl, hfin⟩
    refine AllReadyH.cons rfl (fun K hK => ?_) ?_
    · go_simp
      obtain ⟨V12, hE12⟩ : ∃ W, W = WD.alloc (.cells (madeCells #[.int .i64 0] n) 3) := ⟨_, rfl⟩
      rw [← hE12]
      have hw12 : Below WD.heap.size WD V12 := by rw [hE12]; exact below_alloc _ _
      have hb12 : Below W0.heap.size W0 V12 := below_after hbD hw12
      refine hK.out _ _ trivial (fun hH12 => ?_)
      clear hK K
      have HR12 : Hid (RowN V12 W0.heap.size WD.heap.size n (fun _ => 0)) := by rw [hE12]; exact row_made WD hbD.size (by unfold maxLen; omega)
      clear hE12
      refine wpAnyH_ready (rs := [1, 4, 6]) (by kernel_rfl) (by simp) ?_
      refine AllReadyH.cons rfl (fun K hK => ?_) ?_
      · go_simp
        obtain ⟨V13, hE13⟩ : ∃ W, W = V12.alloc (.cells (madeCells #[.int .i64 0] n) 3) := ⟨_, rfl⟩
        rw [← hE13]
        have hw13 : Below V12.heap.size V12 V13 := by rw [hE13]; exact below_alloc _ _
        have hb13 : Below W0.heap.size W0 V13 := below_after hb12 hw13
        refine hK.out _ _ trivial (fun hH13 => ?_)
        clear hK K
        have HR13 : Hid (RowN V13 W0.heap.size WD.heap.size n (fun _ => 0)) := HR12.out.below hw13
        have HP13 : Hid (RowN V13 W0.heap.size V12.heap.size n (fun _ => 0)) := by rw [hE13]; exact row_made V12 hb12.size (by unfold maxLen; omega)
        have hne13 : V12.heap.size ≠ WD.heap.size := fun e => by
          have h2 := HR12.out.lt.1
          omega
        clear hE13
        refine wpAnyH_ready (rs := [4, 6]) (by kernel_rfl) (by simp) ?_
        refine AllReadyH.cons rfl (fun K hK => ?_) ?_
        · go_simp
          obtain ⟨V14, hE14⟩ : ∃ W, W = V13.alloc (.cells #[.slice (some ⟨WD.heap.size, 0, none⟩) n n] 26) := ⟨_, rfl⟩
          rw [← hE14]
          have hw14 : Below V13.heap.size V13 V14 := by rw [hE14]; exact below_alloc _ _
          have hb14 : Below W0.heap.size W0 V14 := below_after hb13 hw14
          refine hK.out _ _ trivial (fun hH14 => ?_)
          clear hK K
          have HP14 : Hid (RowN V14 W0.heap.size V12.heap.size n (fun _ => 0)) := HP13.out.below hw14
          have HR14 : Hid (RowN V14 W0.heap.size WD.heap.size n (fun _ => 0)) := HR13.out.below hw14
          have HA14 : Hid (V14.heap[V13.heap.size]? = some (.cells #[.slice (some ⟨WD.heap.size, 0, none⟩) n n] 26 (0, 0)) ∧ W0.heap.size ≤ V13.heap.size) := by rw [hE14]; exact ⟨heap_new' _ _, hb13.size⟩
          clear hE14
          refine wpAnyH_ready (rs := [6]) (by kernel_rfl) (by simp) ?_
          refine AllReadyH.cons rfl (fun K hK => ?_) AllReadyH.nil
          go_simp
          obtain ⟨V15, hE15⟩ : ∃ W, W = V14.alloc (.cells (madeCells #[.slice none 0 0] n) 42) := ⟨_, rfl⟩
          rw [← hE15]
          have hw15 : Below V14.heap.size V14 V15 := by rw [hE15]; exact below_alloc _ _
          have hb15 : Below W0.heap.size W0 V15 := below_after hb14 hw15
          refine hK.out _ _ trivial (fun hH15 => ?_)
          clear hK K
          have HP15 : Hid (RowN V15 W0.heap.size V12.heap.size n (fun _ => 0)) := HP14.out.below hw15
          have HR15 : Hid (RowN V15 W0.heap.size WD.heap.size n (fun _ => 0)) := HR14.out.below hw15
          have HA15 : Hid (V15.heap[V13.heap.size]? = some (.cells #[.slice (some ⟨WD.heap.size, 0, none⟩) n n] 26 (0, 0)) ∧ W0.heap.size ≤ V13.heap.size) := ⟨(hw15.block _ (lt_of_heap HA14.out.1)).trans HA14.out.1, HA14.out.2⟩
          have HY15 : Hid (V15.ownsRow W0.heap.size 42 1 (.slice (some ⟨V14.heap.size, 0, none⟩) n n) n ((List.range n).map fun _ => Value.slice none 0 0)) := by rw [hE15]; exact wayz_made V14 hb14.size (by unfold maxLen; omega)
          clear hE15
          refine wpAnyH_take (i := 7) (v := .agg #[.slice (some ⟨V12.heap.size, 0, none⟩) n n, .slice (some ⟨V13.heap.size, 0, none⟩) 1 1, .slice none 0 0, .slice (some ⟨V14.heap.size, 0, none⟩) n n]) rfl (by kernel_rfl) (by kernel_rfl) (by kernel_rfl) (fun _ _ _ h => h) (Or.inl ⟨by rfl, fun W9 hSw => by go_simp⟩) hH15 ?_
          simp only [List.getElem_toArray, List.getElem_cons_succ, List.getElem_cons_zero, Act.put, List.setIfInBounds_toArray, List.set_cons_zero, List.set_cons_succ]
          refine wpAnyH_ready (rs := [8]) (by kernel_rfl) (by simp) ?_
          refine AllReadyH.cons rfl (fun K hK => ?_) AllReadyH.nil
          go_simp
          have hfin := NwR.fin HP15.out HR15.out HA15.out HY15.out hb15 hne13
          refine hK.out _ _ trivial (fun hHx => ?_)
          clear hK K
          refine wpAnyH_take (i := 9) (v := .pointer (some ⟨V15.heap.size, 0, none⟩)) rfl (by kernel_rfl) (by kernel_rfl) (by kernel_rfl) (fun _ _ _ h => h) (Or.inl ⟨by rfl, fun W9 hSw => by go_simp⟩) hHx ?_
          simp only [List.getElem_toArray, List.getElem_cons_succ, List.getElem_cons_zero, Act.put, List.setIfInBounds_toArray, List.set_cons_zero, List.set_cons_succ]
          refine wpAnyH_done (by kernel_rfl) ?_ _
          refine NoPanic.normal ?_
          go_wp2
          go_meet
          exact ⟨V15.heap.size, V12.heap.size, WD.heap.size, V13.heap.size, V14.heap.size, rfl, hfin⟩
        refine AllReadyH.cons rfl (fun K hK => ?_) AllReadyH.nil
        go_simp
        obtain ⟨V17, hE17⟩ : ∃ W, W = V13.alloc (.cells (madeCells #[.slice none 0 0] n) 42) := ⟨_, rfl⟩
        rw [← hE17]
        have hw17 : Below V13.heap.size V13 V17 := by rw [hE17]; exact below_alloc _ _
        have hb17 : Below W0.heap.size W0 V17 := below_after hb13 hw17
        refine hK.out _ _ trivial (fun hH17 => ?_)
        clear hK K
        have HP17 : Hid (RowN V17 W0.heap.size V12.heap.size n (fun _ => 0)) := HP13.out.below hw17
        have HR17 : Hid (RowN V17 W0.heap.size WD.heap.size n (fun _ => 0)) := HR13.out.below hw17
        have HY17 : Hid (V17.ownsRow W0.heap.size 42 1 (.slice (some ⟨V13.heap.size, 0, none⟩) n n) n ((List.range n).map fun _ => Value.slice none 0 0)) := by rw [hE17]; exact wayz_made V13 hb13.size (by unfold maxLen; omega)
        clear hE17
        refine wpAnyH_ready (rs := [4]) (by kernel_rfl) (by simp) ?_
        refine AllReadyH.cons rfl (fun K hK => ?_) AllReadyH.nil
        go_simp
        obtain ⟨V18, hE18⟩ : ∃ W, W = V17.alloc (.cells #[.slice (some ⟨WD.heap.size, 0, none⟩) n n] 26) := ⟨_, rfl⟩
        rw [← hE18]
        have hw18 : Below V17.heap.size V17 V18 := by rw [hE18]; exact below_alloc _ _
        have hb18 : Below W0.heap.size W0 V18 := below_after hb17 hw18
        refine hK.out _ _ trivial (fun hH18 => ?_)
        clear hK K
        have HP18 : Hid (RowN V18 W0.heap.size V12.heap.size n (fun _ => 0)) := HP17.out.below hw18
        have HR18 : Hid (RowN V18 W0.heap.size WD.heap.size n (fun _ => 0)) := HR17.out.below hw18
        have HY18 : Hid (V18.ownsRow W0.heap.size 42 1 (.slice (some ⟨V13.heap.size, 0, none⟩) n n) n ((List.range n).map fun _ => Value.slice none 0 0)) := ownsRow_below HY17.out hw18
        have HA18 : Hid (V18.heap[V17.heap.size]? = some (.cells #[.slice (some ⟨WD.heap.size, 0, none⟩) n n] 26 (0, 0)) ∧ W0.heap.size ≤ V17.heap.size) := by rw [hE18]; exact ⟨heap_new' _ _, hb17.size⟩
        clear hE18
        refine wpAnyH_take (i := 7) (v := .agg #[.slice (some ⟨V12.heap.size, 0, none⟩) n n, .slice (some ⟨V17.heap.size, 0, none⟩) 1 1, .slice none 0 0, .slice (some ⟨V13.heap.size, 0, none⟩) n n]) rfl (by kernel_rfl) (by kernel_rfl) (by kernel_rfl) (fun _ _ _ h => h) (Or.inl ⟨by rfl, fun W9 hSw => by go_simp⟩) hH18 ?_
        simp only [List.getElem_toArray, List.getElem_cons_succ, List.getElem_cons_zero, Act.put, List.setIfInBounds_toArray, List.set_cons_zero, List.set_cons_succ]
        refine wpAnyH_ready (rs := [8]) (by kernel_rfl) (by simp) ?_
        refine AllReadyH.cons rfl (fun K hK => ?_) AllReadyH.nil
        go_simp
        have hfin := NwR.fin HP18.out HR18.out HA18.out HY18.out hb18 hne13
        refine hK.out _ _ trivial (fun hHx => ?_)
        clear hK K
        refine wpAnyH_take (i := 9) (v := .pointer (some ⟨V18.heap.size, 0, none⟩)) rfl (by kernel_rfl) (by kernel_rfl) (by kernel_rfl) (fun _ _ _ h => h) (Or.inl ⟨by rfl, fun W9 hSw => by go_simp⟩) hHx ?_
        simp only [List.getElem_toArray, List.getElem_cons_succ, List.getElem_cons_zero, Act.put, List.setIfInBounds_toArray, List.set_cons_zero, List.set_cons_succ]
        refine wpAnyH_done (by kernel_rfl) ?_ _
        refine NoPanic.normal ?_
        go_wp2
        go_meet
        exact ⟨V18.heap.size, V12.heap.size, WD.heap.size, V17.heap.size, V13.heap.size, rfl, hfin⟩
      refine AllReadyH.cons rfl (fun K hK => ?_) ?_
      · go_simp
        obtain ⟨V20, hE20⟩ : ∃ W, W = V12.alloc (.cells #[.slice (some ⟨WD.heap.size, 0, none⟩) n n] 26) := ⟨_, rfl⟩
        rw [← hE20]
        have hw20 : Below V12.heap.size V12 V20 := by rw [hE20]; exact below_alloc _ _
        have hb20 : Below W0.heap.size W0 V20 := below_after hb12 hw20
        refine hK.out _ _ trivial (fun hH20 => ?_)
        clear hK K
        have HR20 : Hid (RowN V20 W0.heap.size WD.heap.size n (fun _ => 0)) := HR12.out.below hw20
        have HA20 : Hid (V20.heap[V12.heap.size]? = some (.cells #[.slice (some ⟨WD.heap.size, 0, none⟩) n n] 26 (0, 0)) ∧ W0.heap.size ≤ V12.heap.size) := by rw [hE20]; exact ⟨heap_new' _ _, hb12.size⟩
        clear hE20
        refine wpAnyH_ready (rs := [1, 6]) (by kernel_rfl) (by simp) ?_
        refine AllReadyH.cons rfl (fun K hK => ?_) ?_
        · go_simp
          obtain ⟨V21, hE21⟩ : ∃ W, W = V20.alloc (.cells (madeCells #[.int .i64 0] n) 3) := ⟨_, rfl⟩
          rw [← hE21]
          have hw21 : Below V20.heap.size V20 V21 := by rw [hE21]; exact below_alloc _ _
          have hb21 : Below W0.heap.size W0 V21 := below_after hb20 hw21
          refine hK.out _ _ trivial (fun hH21 => ?_)
          clear hK K
          have HR21 : Hid (RowN V21 W0.heap.size WD.heap.size n (fun _ => 0)) := HR20.out.below hw21
          have HA21 : Hid (V21.heap[V12.heap.size]? = some (.cells #[.slice (some ⟨WD.heap.size, 0, none⟩) n n] 26 (0, 0)) ∧ W0.heap.size ≤ V12.heap.size) := ⟨(hw21.block _ (lt_of_heap HA20.out.1)).trans HA20.out.1, HA20.out.2⟩
          have HP21 : Hid (RowN V21 W0.heap.size V20.heap.size n (fun _ => 0)) := by rw [hE21]; exact row_made V20 hb20.size (by unfold maxLen; omega)
          have hne21 : V20.heap.size ≠ WD.heap.size := fun e => by
            have h2 := HR20.out.lt.1
            omega
          clear hE21
          refine wpAnyH_ready (rs := [6]) (by kernel_rfl) (by simp) ?_
          refine AllReadyH.cons rfl (fun K hK => ?_) AllReadyH.nil
          go_simp
          obtain ⟨V22, hE22⟩ : ∃ W, W = V21.alloc (.cells (madeCells #[.slice none 0 0] n) 42) := ⟨_, rfl⟩
          rw [← hE22]
          have hw22 : Below V21.heap.size V21 V22 := by rw [hE22]; exact below_alloc _ _
          have hb22 : Below W0.heap.size W0 V22 := below_after hb21 hw22
          refine hK.out _ _ trivial (fun hH22 => ?_)
          clear hK K
          have HP22 : Hid (RowN V22 W0.heap.size V20.heap.size n (fun _ => 0)) := HP21.out.below hw22
          have HR22 : Hid (RowN V22 W0.heap.size WD.heap.size n (fun _ => 0)) := HR21.out.below hw22
          have HA22 : Hid (V22.heap[V12.heap.size]? = some (.cells #[.slice (some ⟨WD.heap.size, 0, none⟩) n n] 26 (0, 0)) ∧ W0.heap.size ≤ V12.heap.size) := ⟨(hw22.block _ (lt_of_heap HA21.out.1)).trans HA21.out.1, HA21.out.2⟩
          have HY22 : Hid (V22.ownsRow W0.heap.size 42 1 (.slice (some ⟨V21.heap.size, 0, none⟩) n n) n ((List.range n).map fun _ => Value.slice none 0 0)) := by rw [hE22]; exact wayz_made V21 hb21.size (by unfold maxLen; omega)
          clear hE22
          refine wpAnyH_take (i := 7) (v := .agg #[.slice (some ⟨V20.heap.size, 0, none⟩) n n, .slice (some ⟨V12.heap.size, 0, none⟩) 1 1, .slice none 0 0, .slice (some ⟨V21.heap.size, 0, none⟩) n n]) rfl (by kernel_rfl) (by kernel_rfl) (by kernel_rfl) (fun _ _ _ h => h) (Or.inl ⟨by rfl, fun W9 hSw => by go_simp⟩) hH22 ?_
          simp only [List.getElem_toArray, List.getElem_cons_succ, List.getElem_cons_zero, Act.put, List.setIfInBounds_toArray, List.set_cons_zero, List.set_cons_succ]
          refine wpAnyH_ready (rs := [8]) (by kernel_rfl) (by simp) ?_
          refine AllReadyH.cons rfl (fun K hK => ?_) AllReadyH.nil
          go_simp
          have hfin := NwR.fin HP22.out HR22.out HA22.out HY22.out hb22 hne21
          refine hK.out _ _ trivial (fun hHx => ?_)
          clear hK K
          refine wpAnyH_take (i := 9) (v := .pointer (some ⟨V22.heap.size, 0, none⟩)) rfl (by kernel_rfl) (by kernel_rfl) (by kernel_rfl) (fun _ _ _ h => h) (Or.inl ⟨by rfl, fun W9 hSw => by go_simp⟩) hHx ?_
          simp only [List.getElem_toArray, List.getElem_cons_succ, List.getElem_cons_zero, Act.put, List.setIfInBounds_toArray, List.set_cons_zero, List.set_cons_succ]
          refine wpAnyH_done (by kernel_rfl) ?_ _
          refine NoPanic.normal ?_
          go_wp2
          go_meet
          exact ⟨V22.heap.size, V20.heap.size, WD.heap.size, V12.heap.size, V21.heap.size, rfl, hfin⟩
        refine AllReadyH.cons rfl (fun K hK => ?_) AllReadyH.nil
        go_simp
        obtain ⟨V24, hE24⟩ : ∃ W, W = V20.alloc (.cells (madeCells #[.slice none 0 0] n) 42) := ⟨_, rfl⟩
        rw [← hE24]
        have hw24 : Below V20.heap.size V20 V24 := by rw [hE24]; exact below_alloc _ _
        have hb24 : Below W0.heap.size W0 V24 := below_after hb20 hw24
        refine hK.out _ _ trivial (fun hH24 => ?_)
        clear hK K
        have HR24 : Hid (RowN V24 W0.heap.size WD.heap.size n (fun _ => 0)) := HR20.out.below hw24
        have HA24 : Hid (V24.heap[V12.heap.size]? = some (.cells #[.slice (some ⟨WD.heap.size, 0, none⟩) n n] 26 (0, 0)) ∧ W0.heap.size ≤ V12.heap.size) := ⟨(hw24.block _ (lt_of_heap HA20.out.1)).trans HA20.out.1, HA20.out.2⟩
        have HY24 : Hid (V24.ownsRow W0.heap.size 42 1 (.slice (some ⟨V20.heap.size, 0, none⟩) n n) n ((List.range n).map fun _ => Value.slice none 0 0)) := by rw [hE24]; exact wayz_made V20 hb20.size (by unfold maxLen; omega)
        clear hE24
        refine wpAnyH_ready (rs := [1]) (by kernel_rfl) (by simp) ?_
        refine AllReadyH.cons rfl (fun K hK => ?_) AllReadyH.nil
        go_simp
        obtain ⟨V25, hE25⟩ : ∃ W, W = V24.alloc (.cells (madeCells #[.int .i64 0] n) 3) := ⟨_, rfl⟩
        rw [← hE25]
        have hw25 : Below V24.heap.size V24 V25 := by rw [hE25]; exact below_alloc _ _
        have hb25 : Below W0.heap.size W0 V25 := below_after hb24 hw25
        refine hK.out _ _ trivial (fun hH25 => ?_)
        clear hK K
        have HR25 : Hid (RowN V25 W0.heap.size WD.heap.size n (fun _ => 0)) := HR24.out.below hw25
        have HY25 : Hid (V25.ownsRow W0.heap.size 42 1 (.slice (some ⟨V20.heap.size, 0, none⟩) n n) n ((List.range n).map fun _ => Value.slice none 0 0)) := ownsRow_below HY24.out hw25
        have HA25 : Hid (V25.heap[V12.heap.size]? = some (.cells #[.slice (some ⟨WD.heap.size, 0, none⟩) n n] 26 (0, 0)) ∧ W0.heap.size ≤ V12.heap.size) := ⟨(hw25.block _ (lt_of_heap HA24.out.1)).trans HA24.out.1, HA24.out.2⟩
        have HP25 : Hid (RowN V25 W0.heap.size V24.heap.size n (fun _ => 0)) := by rw [hE25]; exact row_made V24 hb24.size (by unfold maxLen; omega)
        have hne25 : V24.heap.size ≠ WD.heap.size := fun e => by
          have h2 := HR24.out.lt.1
          omega
        clear hE25
        refine wpAnyH_take (i := 7) (v := .agg #[.slice (some ⟨V24.heap.size, 0, none⟩) n n, .slice (some ⟨V12.heap.size, 0, none⟩) 1 1, .slice none 0 0, .slice (some ⟨V20.heap.size, 0, none⟩) n n]) rfl (by kernel_rfl) (by kernel_rfl) (by kernel_rfl) (fun _ _ _ h => h) (Or.inl ⟨by rfl, fun W9 hSw => by go_simp⟩) hH25 ?_
        simp only [List.getElem_toArray, List.getElem_cons_succ, List.getElem_cons_zero, Act.put, List.setIfInBounds_toArray, List.set_cons_zero, List.set_cons_succ]
        refine wpAnyH_ready (rs := [8]) (by kernel_rfl) (by simp) ?_
        refine AllReadyH.cons rfl (fun K hK => ?_) AllReadyH.nil
        go_simp
        have hfin := NwR.fin HP25.out HR25.out HA25.out HY25.out hb25 hne25
        refine hK.out _ _ trivial (fun hHx => ?_)
        clear hK K
        refine wpAnyH_take (i := 9) (v := .pointer (some ⟨V25.heap.size, 0, none⟩)) rfl (by kernel_rfl) (by kernel_rfl) (by kernel_rfl) (fun _ _ _ h => h) (Or.inl ⟨by rfl, fun W9 hSw => by go_simp⟩) hHx ?_
        simp only [List.getElem_toArray, List.getElem_cons_succ, List.getElem_cons_zero, Act.put, List.setIfInBounds_toArray, List.set_cons_zero, List.set_cons_succ]
        refine wpAnyH_done (by kernel_rfl) ?_ _
        refine NoPanic.normal ?_
        go_wp2
        go_meet
        exact ⟨V25.heap.size, V24.heap.size, WD.heap.size, V12.heap.size, V20.heap.size, rfl, hfin⟩
      refine AllReadyH.cons rfl (fun K hK => ?_) AllReadyH.nil
      go_simp
      obtain ⟨V27, hE27⟩ : ∃ W, W = V12.alloc (.cells (madeCells #[.slice none 0 0] n) 42) := ⟨_, rfl⟩
      rw [← hE27]
      have hw27 : Below V12.heap.size V12 V27 := by rw [hE27]; exact below_alloc _ _
      have hb27 : Below W0.heap.size W0 V27 := below_after hb12 hw27
      refine hK.out _ _ trivial (fun hH27 => ?_)
      clear hK K
      have HR27 : Hid (RowN V27 W0.heap.size WD.heap.size n (fun _ => 0)) := HR12.out.below hw27
      have HY27 : Hid (V27.ownsRow W0.heap.size 42 1 (.slice (some ⟨V12.heap.size, 0, none⟩) n n) n ((List.range n).map fun _ => Value.slice none 0 0)) := by rw [hE27]; exact wayz_made V12 hb12.size (by unfold maxLen; omega)
      clear hE27
      refine wpAnyH_ready (rs := [1, 4]) (by kernel_rfl) (by simp) ?_
      refine AllReadyH.cons rfl (fun K hK => ?_) ?_
      · go_simp
        obtain ⟨V28, hE28⟩ : ∃ W, W = V27.alloc (.cells (madeCells #[.int .i64 0] n) 3) := ⟨_, rfl⟩
        rw [← hE28]
        have hw28 : Below V27.heap.size V27 V28 := by rw [hE28]; exact below_alloc _ _
        have hb28 : Below W0.heap.size W0 V28 := below_after hb27 hw28
        refine hK.out _ _ trivial (fun hH28 => ?_)
        clear hK K
        have HR28 : Hid (RowN V28 W0.heap.size WD.heap.size n (fun _ => 0)) := HR27.out.below hw28
        have HY28 : Hid (V28.ownsRow W0.heap.size 42 1 (.slice (some ⟨V12.heap.size, 0, none⟩) n n) n ((List.range n).map fun _ => Value.slice none 0 0)) := ownsRow_below HY27.out hw28
        have HP28 : Hid (RowN V28 W0.heap.size V27.heap.size n (fun _ => 0)) := by rw [hE28]; exact row_made V27 hb27.size (by unfold maxLen; omega)
        have hne28 : V27.heap.size ≠ WD.heap.size := fun e => by
          have h2 := HR27.out.lt.1
          omega
        clear hE28
        refine wpAnyH_ready (rs := [4]) (by kernel_rfl) (by simp) ?_
        refine AllReadyH.cons rfl (fun K hK => ?_) AllReadyH.nil
        go_simp
        obtain ⟨V29, hE29⟩ : ∃ W, W = V28.alloc (.cells #[.slice (some ⟨WD.heap.size, 0, none⟩) n n] 26) := ⟨_, rfl⟩
        rw [← hE29]
        have hw29 : Below V28.heap.size V28 V29 := by rw [hE29]; exact below_alloc _ _
        have hb29 : Below W0.heap.size W0 V29 := below_after hb28 hw29
        refine hK.out _ _ trivial (fun hH29 => ?_)
        clear hK K
        have HP29 : Hid (RowN V29 W0.heap.size V27.heap.size n (fun _ => 0)) := HP28.out.below hw29
        have HR29 : Hid (RowN V29 W0.heap.size WD.heap.size n (fun _ => 0)) := HR28.out.below hw29
        have HY29 : Hid (V29.ownsRow W0.heap.size 42 1 (.slice (some ⟨V12.heap.size, 0, none⟩) n n) n ((List.range n).map fun _ => Value.slice none 0 0)) := ownsRow_below HY28.out hw29
        have HA29 : Hid (V29.heap[V28.heap.size]? = some (.cells #[.slice (some ⟨WD.heap.size, 0, none⟩) n n] 26 (0, 0)) ∧ W0.heap.size ≤ V28.heap.size) := by rw [hE29]; exact ⟨heap_new' _ _, hb28.size⟩
        clear hE29
        refine wpAnyH_take (i := 7) (v := .agg #[.slice (some ⟨V27.heap.size, 0, none⟩) n n, .slice (some ⟨V28.heap.size, 0, none⟩) 1 1, .slice none 0 0, .slice (some ⟨V12.heap.size, 0, none⟩) n n]) rfl (by kernel_rfl) (by kernel_rfl) (by kernel_rfl) (fun _ _ _ h => h) (Or.inl ⟨by rfl, fun W9 hSw => by go_simp⟩) hH29 ?_
        simp only [List.getElem_toArray, List.getElem_cons_succ, List.getElem_cons_zero, Act.put, List.setIfInBounds_toArray, List.set_cons_zero, List.set_cons_succ]
        refine wpAnyH_ready (rs := [8]) (by kernel_rfl) (by simp) ?_
        refine AllReadyH.cons rfl (fun K hK => ?_) AllReadyH.nil
        go_simp
        have hfin := NwR.fin HP29.out HR29.out HA29.out HY29.out hb29 hne28
        refine hK.out _ _ trivial (fun hHx => ?_)
        clear hK K
        refine wpAnyH_take (i := 9) (v := .pointer (some ⟨V29.heap.size, 0, none⟩)) rfl (by kernel_rfl) (by kernel_rfl) (by kernel_rfl) (fun _ _ _ h => h) (Or.inl ⟨by rfl, fun W9 hSw => by go_simp⟩) hHx ?_
        simp only [List.getElem_toArray, List.getElem_cons_succ, List.getElem_cons_zero, Act.put, List.setIfInBounds_toArray, List.set_cons_zero, List.set_cons_succ]
        refine wpAnyH_done (by kernel_rfl) ?_ _
        refine NoPanic.normal ?_
        go_wp2
        go_meet
        exact ⟨V29.heap.size, V27.heap.size, WD.heap.size, V28.heap.size, V12.heap.size, rfl, hfin⟩
      refine AllReadyH.cons rfl (fun K hK => ?_) AllReadyH.nil
      go_simp
      obtain ⟨V31, hE31⟩ : ∃ W, W = V27.alloc (.cells #[.slice (some ⟨WD.heap.size, 0, none⟩) n n] 26) := ⟨_, rfl⟩
      rw [← hE31]
      have hw31 : Below V27.heap.size V27 V31 := by rw [hE31]; exact below_alloc _ _
      have hb31 : Below W0.heap.size W0 V31 := below_after hb27 hw31
      refine hK.out _ _ trivial (fun hH31 => ?_)
      clear hK K
      have HR31 : Hid (RowN V31 W0.heap.size WD.heap.size n (fun _ => 0)) := HR27.out.below hw31
      have HY31 : Hid (V31.ownsRow W0.heap.size 42 1 (.slice (some ⟨V12.heap.size, 0, none⟩) n n) n ((List.range n).map fun _ => Value.slice none 0 0)) := ownsRow_below HY27.out hw31
      have HA31 : Hid (V31.heap[V27.heap.size]? = some (.cells #[.slice (some ⟨WD.heap.size, 0, none⟩) n n] 26 (0, 0)) ∧ W0.heap.size ≤ V27.heap.size) := by rw [hE31]; exact ⟨heap_new' _ _, hb27.size⟩
      clear hE31
      refine wpAnyH_ready (rs := [1]) (by kernel_rfl) (by simp) ?_
      refine AllReadyH.cons rfl (fun K hK => ?_) AllReadyH.nil
      go_simp
      obtain ⟨V32, hE32⟩ : ∃ W, W = V31.alloc (.cells (madeCells #[.int .i64 0] n) 3) := ⟨_, rfl⟩
      rw [← hE32]
      have hw32 : Below V31.heap.size V31 V32 := by rw [hE32]; exact below_alloc _ _
      have hb32 : Below W0.heap.size W0 V32 := below_after hb31 hw32
      refine hK.out _ _ trivial (fun hH32 => ?_)
      clear hK K
      have HR32 : Hid (RowN V32 W0.heap.size WD.heap.size n (fun _ => 0)) := HR31.out.below hw32
      have HY32 : Hid (V32.ownsRow W0.heap.size 42 1 (.slice (some ⟨V12.heap.size, 0, none⟩) n n) n ((List.range n).map fun _ => Value.slice none 0 0)) := ownsRow_below HY31.out hw32
      have HA32 : Hid (V32.heap[V27.heap.size]? = some (.cells #[.slice (some ⟨WD.heap.size, 0, none⟩) n n] 26 (0, 0)) ∧ W0.heap.size ≤ V27.heap.size) := ⟨(hw32.block _ (lt_of_heap HA31.out.1)).trans HA31.out.1, HA31.out.2⟩
      have HP32 : Hid (RowN V32 W0.heap.size V31.heap.size n (fun _ => 0)) := by rw [hE32]; exact row_made V31 hb31.size (by unfold maxLen; omega)
      have hne32 : V31.heap.size ≠ WD.heap.size := fun e => by
        have h2 := HR31.out.lt.1
        omega
      clear hE32
      refine wpAnyH_take (i := 7) (v := .agg #[.slice (some ⟨V31.heap.size, 0, none⟩) n n, .slice (some ⟨V27.heap.size, 0, none⟩) 1 1, .slice none 0 0, .slice (some ⟨V12.heap.size, 0, none⟩) n n]) rfl (by kernel_rfl) (by kernel_rfl) (by kernel_rfl) (fun _ _ _ h => h) (Or.inl ⟨by rfl, fun W9 hSw => by go_simp⟩) hH32 ?_
      simp only [List.getElem_toArray, List.getElem_cons_succ, List.getElem_cons_zero, Act.put, List.setIfInBounds_toArray, List.set_cons_zero, List.set_cons_succ]
      refine wpAnyH_ready (rs := [8]) (by kernel_rfl) (by simp) ?_
      refine AllReadyH.cons rfl (fun K hK => ?_) AllReadyH.nil
      go_simp
      have hfin := NwR.fin HP32.out HR32.out HA32.out HY32.out hb32 hne32
      refine hK.out _ _ trivial (fun hHx => ?_)
      clear hK K
      refine wpAnyH_take (i := 9) (v := .pointer (some ⟨V32.heap.size, 0, none⟩)) rfl (by kernel_rfl) (by kernel_rfl) (by kernel_rfl) (fun _ _ _ h => h) (Or.inl ⟨by rfl, fun W9 hSw => by go_simp⟩) hHx ?_
      simp only [List.getElem_toArray, List.getElem_cons_succ, List.getElem_cons_zero, Act.put, List.setIfInBounds_toArray, List.set_cons_zero, List.set_cons_succ]
      refine wpAnyH_done (by kernel_rfl) ?_ _
      refine NoPanic.normal ?_
      go_wp2
      go_meet
      exact ⟨V32.heap.size, V31.heap.size, WD.heap.size, V27.heap.size, V12.heap.size, rfl, hfin⟩
    refine AllReadyH.cons rfl (fun K hK => ?_) AllReadyH.nil
    go_simp
    obtain ⟨V34, hE34⟩ : ∃ W, W = WD.alloc (.cells (madeCells #[.slice none 0 0] n) 42) := ⟨_, rfl⟩
    rw [← hE34]
    have hw34 : Below WD.heap.size WD V34 := by rw [hE34]; exact below_alloc _ _
    have hb34 : Below W0.heap.size W0 V34 := below_after hbD hw34
    refine hK.out _ _ trivial (fun hH34 => ?_)
    clear hK K
    have HY34 : Hid (V34.ownsRow W0.heap.size 42 1 (.slice (some ⟨WD.heap.size, 0, none⟩) n n) n ((List.range n).map fun _ => Value.slice none 0 0)) := by rw [hE34]; exact wayz_made WD hbD.size (by unfold maxLen; omega)
    clear hE34
    refine wpAnyH_ready (rs := [1, 3]) (by kernel_rfl) (by simp) ?_
    refine AllReadyH.cons rfl (fun K hK => ?_) ?_
    · go_simp
      obtain ⟨V35, hE35⟩ : ∃ W, W = V34.alloc (.cells (madeCells #[.int .i64 0] n) 3) := ⟨_, rfl⟩
      rw [← hE35]
      have hw35 : Below V34.heap.size V34 V35 := by rw [hE35]; exact below_alloc _ _
      have hb35 : Below W0.heap.size W0 V35 := below_after hb34 hw35
      refine hK.out _ _ trivial (fun hH35 => ?_)
      clear hK K
      have HY35 : Hid (V35.ownsRow W0.heap.size 42 1 (.slice (some ⟨WD.heap.size, 0, none⟩) n n) n ((List.range n).map fun _ => Value.slice none 0 0)) := ownsRow_below HY34.out hw35
      have HP35 : Hid (RowN V35 W0.heap.size V34.heap.size n (fun _ => 0)) := by rw [hE35]; exact row_made V34 hb34.size (by unfold maxLen; omega)
      clear hE35
      refine wpAnyH_ready (rs := [3]) (by kernel_rfl) (by simp) ?_
      refine AllReadyH.cons rfl (fun K hK => ?_) AllReadyH.nil
      go_simp
      obtain ⟨V36, hE36⟩ : ∃ W, W = V35.alloc (.cells (madeCells #[.int .i64 0] n) 3) := ⟨_, rfl⟩
      rw [← hE36]
      have hw36 : Below V35.heap.size V35 V36 := by rw [hE36]; exact below_alloc _ _
      have hb36 : Below W0.heap.size W0 V36 := below_after hb35 hw36
      refine hK.out _ _ trivial (fun hH36 => ?_)
      clear hK K
      have HP36 : Hid (RowN V36 W0.heap.size V34.heap.size n (fun _ => 0)) := HP35.out.below hw36
      have HY36 : Hid (V36.ownsRow W0.heap.size 42 1 (.slice (some ⟨WD.heap.size, 0, none⟩) n n) n ((List.range n).map fun _ => Value.slice none 0 0)) := ownsRow_below HY35.out hw36
      have HR36 : Hid (RowN V36 W0.heap.size V35.heap.size n (fun _ => 0)) := by rw [hE36]; exact row_made V35 hb35.size (by unfold maxLen; omega)
      have hne36 : V34.heap.size ≠ V35.heap.size := fun e => by
        have h2 := HP35.out.lt.1
        omega
      clear hE36
      refine wpAnyH_ready (rs := [4]) (by kernel_rfl) (by simp) ?_
      refine AllReadyH.cons rfl (fun K hK => ?_) AllReadyH.nil
      go_simp
      obtain ⟨V37, hE37⟩ : ∃ W, W = V36.alloc (.cells #[.slice (some ⟨V35.heap.size, 0, none⟩) n n] 26) := ⟨_, rfl⟩
      rw [← hE37]
      have hw37 : Below V36.heap.size V36 V37 := by rw [hE37]; exact below_alloc _ _
      have hb37 : Below W0.heap.size W0 V37 := below_after hb36 hw37
      refine hK.out _ _ trivial (fun hH37 => ?_)
      clear hK K
      have HP37 : Hid (RowN V37 W0.heap.size V34.heap.size n (fun _ => 0)) := HP36.out.below hw37
      have HR37 : Hid (RowN V37 W0.heap.size V35.heap.size n (fun _ => 0)) := HR36.out.below hw37
      have HY37 : Hid (V37.ownsRow W0.heap.size 42 1 (.slice (some ⟨WD.heap.size, 0, none⟩) n n) n ((List.range n).map fun _ => Value.slice none 0 0)) := ownsRow_below HY36.out hw37
      have HA37 : Hid (V37.heap[V36.heap.size]? = some (.cells #[.slice (some ⟨V35.heap.size, 0, none⟩) n n] 26 (0, 0)) ∧ W0.heap.size ≤ V36.heap.size) := by rw [hE37]; exact ⟨heap_new' _ _, hb36.size⟩
      clear hE37
      refine wpAnyH_take (i := 7) (v := .agg #[.slice (some ⟨V34.heap.size, 0, none⟩) n n, .slice (some ⟨V36.heap.size, 0, none⟩) 1 1, .slice none 0 0, .slice (some ⟨WD.heap.size, 0, none⟩) n n]) rfl (by kernel_rfl) (by kernel_rfl) (by kernel_rfl) (fun _ _ _ h => h) (Or.inl ⟨by rfl, fun W9 hSw => by go_simp⟩) hH37 ?_
      simp only [List.getElem_toArray, List.getElem_cons_succ, List.getElem_cons_zero, Act.put, List.setIfInBounds_toArray, List.set_cons_zero, List.set_cons_succ]
      refine wpAnyH_ready (rs := [8]) (by kernel_rfl) (by simp) ?_
      refine AllReadyH.cons rfl (fun K hK => ?_) AllReadyH.nil
      go_simp
      have hfin := NwR.fin HP37.out HR37.out HA37.out HY37.out hb37 hne36
      refine hK.out _ _ trivial (fun hHx => ?_)
      clear hK K
      refine wpAnyH_take (i := 9) (v := .pointer (some ⟨V37.heap.size, 0, none⟩)) rfl (by kernel_rfl) (by kernel_rfl) (by kernel_rfl) (fun _ _ _ h => h) (Or.inl ⟨by rfl, fun W9 hSw => by go_simp⟩) hHx ?_
      simp only [List.getElem_toArray, List.getElem_cons_succ, List.getElem_cons_zero, Act.put, List.setIfInBounds_toArray, List.set_cons_zero, List.set_cons_succ]
      refine wpAnyH_done (by kernel_rfl) ?_ _
      refine NoPanic.normal ?_
      go_wp2
      go_meet
      exact ⟨V37.heap.size, V34.heap.size, V35.heap.size, V36.heap.size, WD.heap.size, rfl, hfin⟩
    refine AllReadyH.cons rfl (fun K hK => ?_) AllReadyH.nil
    go_simp
    obtain ⟨V39, hE39⟩ : ∃ W, W = V34.alloc (.cells (madeCells #[.int .i64 0] n) 3) := ⟨_, rfl⟩
    rw [← hE39]
    have hw39 : Below V34.heap.size V34 V39 := by rw [hE39]; exact below_alloc _ _
    have hb39 : Below W0.heap.size W0 V39 := below_after hb34 hw39
    refine hK.out _ _ trivial (fun hH39 => ?_)
    clear hK K
    have HY39 : Hid (V39.ownsRow W0.heap.size 42 1 (.slice (some ⟨WD.heap.size, 0, none⟩) n n) n ((List.range n).map fun _ => Value.slice none 0 0)) := ownsRow_below HY34.out hw39
    have HR39 : Hid (RowN V39 W0.heap.size V34.heap.size n (fun _ => 0)) := by rw [hE39]; exact row_made V34 hb34.size (by unfold maxLen; omega)
    clear hE39
    refine wpAnyH_ready (rs := [1, 4]) (by kernel_rfl) (by simp) ?_
    refine AllReadyH.cons rfl (fun K hK => ?_) ?_
    · go_simp
      obtain ⟨V40, hE40⟩ : ∃ W, W = V39.alloc (.cells (madeCells #[.int .i64 0] n) 3) := ⟨_, rfl⟩
      rw [← hE40]
      have hw40 : Below V39.heap.size V39 V40 := by rw [hE40]; exact below_alloc _ _
      have hb40 : Below W0.heap.size W0 V40 := below_after hb39 hw40
      refine hK.out _ _ trivial (fun hH40 => ?_)
      clear hK K
      have HR40 : Hid (RowN V40 W0.heap.size V34.heap.size n (fun _ => 0)) := HR39.out.below hw40
      have HY40 : Hid (V40.ownsRow W0.heap.size 42 1 (.slice (some ⟨WD.heap.size, 0, none⟩) n n) n ((List.range n).map fun _ => Value.slice none 0 0)) := ownsRow_below HY39.out hw40
      have HP40 : Hid (RowN V40 W0.heap.size V39.heap.size n (fun _ => 0)) := by rw [hE40]; exact row_made V39 hb39.size (by unfold maxLen; omega)
      have hne40 : V39.heap.size ≠ V34.heap.size := fun e => by
        have h2 := HR39.out.lt.1
        omega
      clear hE40
      refine wpAnyH_ready (rs := [4]) (by kernel_rfl) (by simp) ?_
      refine AllReadyH.cons rfl (fun K hK => ?_) AllReadyH.nil
      go_simp
      obtain ⟨V41, hE41⟩ : ∃ W, W = V40.alloc (.cells #[.slice (some ⟨V34.heap.size, 0, none⟩) n n] 26) := ⟨_, rfl⟩
      rw [← hE41]
      have hw41 : Below V40.heap.size V40 V41 := by rw [hE41]; exact below_alloc _ _
      have hb41 : Below W0.heap.size W0 V41 := below_after hb40 hw41
      refine hK.out _ _ trivial (fun hH41 => ?_)
      clear hK K
      have HP41 : Hid (RowN V41 W0.heap.size V39.heap.size n (fun _ => 0)) := HP40.out.below hw41
      have HR41 : Hid (RowN V41 W0.heap.size V34.heap.size n (fun _ => 0)) := HR40.out.below hw41
      have HY41 : Hid (V41.ownsRow W0.heap.size 42 1 (.slice (some ⟨WD.heap.size, 0, none⟩) n n) n ((List.range n).map fun _ => Value.slice none 0 0)) := ownsRow_below HY40.out hw41
      have HA41 : Hid (V41.heap[V40.heap.size]? = some (.cells #[.slice (some ⟨V34.heap.size, 0, none⟩) n n] 26 (0, 0)) ∧ W0.heap.size ≤ V40.heap.size) := by rw [hE41]; exact ⟨heap_new' _ _, hb40.size⟩
      clear hE41
      refine wpAnyH_take (i := 7) (v := .agg #[.slice (some ⟨V39.heap.size, 0, none⟩) n n, .slice (some ⟨V40.heap.size, 0, none⟩) 1 1, .slice none 0 0, .slice (some ⟨WD.heap.size, 0, none⟩) n n]) rfl (by kernel_rfl) (by kernel_rfl) (by kernel_rfl) (fun _ _ _ h => h) (Or.inl ⟨by rfl, fun W9 hSw => by go_simp⟩) hH41 ?_
      simp only [List.getElem_toArray, List.getElem_cons_succ, List.getElem_cons_zero, Act.put, List.setIfInBounds_toArray, List.set_cons_zero, List.set_cons_succ]
      refine wpAnyH_ready (rs := [8]) (by kernel_rfl) (by simp) ?_
      refine AllReadyH.cons rfl (fun K hK => ?_) AllReadyH.nil
      go_simp
      have hfin := NwR.fin HP41.out HR41.out HA41.out HY41.out hb41 hne40
      refine hK.out _ _ trivial (fun hHx => ?_)
      clear hK K
      refine wpAnyH_take (i := 9) (v := .pointer (some ⟨V41.heap.size, 0, none⟩)) rfl (by kernel_rfl) (by kernel_rfl) (by kernel_rfl) (fun _ _ _ h => h) (Or.inl ⟨by rfl, fun W9 hSw => by go_simp⟩) hHx ?_
      simp only [List.getElem_toArray, List.getElem_cons_succ, List.getElem_cons_zero, Act.put, List.setIfInBounds_toArray, List.set_cons_zero, List.set_cons_succ]
      refine wpAnyH_done (by kernel_rfl) ?_ _
      refine NoPanic.normal ?_
      go_wp2
      go_meet
      exact ⟨V41.heap.size, V39.heap.size, V34.heap.size, V40.heap.size, WD.heap.size, rfl, hfin⟩
    refine AllReadyH.cons rfl (fun K hK => ?_) AllReadyH.nil
    go_simp
    obtain ⟨V43, hE43⟩ : ∃ W, W = V39.alloc (.cells #[.slice (some ⟨V34.heap.size, 0, none⟩) n n] 26) := ⟨_, rfl⟩
    rw [← hE43]
    have hw43 : Below V39.heap.size V39 V43 := by rw [hE43]; exact below_alloc _ _
    have hb43 : Below W0.heap.size W0 V43 := below_after hb39 hw43
    refine hK.out _ _ trivial (fun hH43 => ?_)
    clear hK K
    have HR43 : Hid (RowN V43 W0.heap.size V34.heap.size n (fun _ => 0)) := HR39.out.below hw43
    have HY43 : Hid (V43.ownsRow W0.heap.size 42 1 (.slice (some ⟨WD.heap.size, 0, none⟩) n n) n ((List.range n).map fun _ => Value.slice none 0 0)) := ownsRow_below HY39.out hw43
    have HA43 : Hid (V43.heap[V39.heap.size]? = some (.cells #[.slice (some ⟨V34.heap.size, 0, none⟩) n n] 26 (0, 0)) ∧ W0.heap.size ≤ V39.heap.size) := by rw [hE43]; exact ⟨heap_new' _ _, hb39.size⟩
    clear hE43
    refine wpAnyH_ready (rs := [1]) (by kernel_rfl) (by simp) ?_
    refine AllReadyH.cons rfl (fun K hK => ?_) AllReadyH.nil
    go_simp
    obtain ⟨V44, hE44⟩ : ∃ W, W = V43.alloc (.cells (madeCells #[.int .i64 0] n) 3) := ⟨_, rfl⟩
    rw [← hE44]
    have hw44 : Below V43.heap.size V43 V44 := by rw [hE44]; exact below_alloc _ _
    have hb44 : Below W0.heap.size W0 V44 := below_after hb43 hw44
    refine hK.out _ _ trivial (fun hH44 => ?_)
    clear hK K
    have HR44 : Hid (RowN V44 W0.heap.size V34.heap.size n (fun _ => 0)) := HR43.out.below hw44
    have HY44 : Hid (V44.ownsRow W0.heap.size 42 1 (.slice (some ⟨WD.heap.size, 0, none⟩) n n) n ((List.range n).map fun _ => Value.slice none 0 0)) := ownsRow_below HY43.out hw44
    have HA44 : Hid (V44.heap[V39.heap.size]? = some (.cells #[.slice (some ⟨V34.heap.size, 0, none⟩) n n] 26 (0, 0)) ∧ W0.heap.size ≤ V39.heap.size) := ⟨(hw44.block _ (lt_of_heap HA43.out.1)).trans HA43.out.1, HA43.out.2⟩
    have HP44 : Hid (RowN V44 W0.heap.size V43.heap.size n (fun _ => 0)) := by rw [hE44]; exact row_made V43 hb43.size (by unfold maxLen; omega)
    have hne44 : V43.heap.size ≠ V34.heap.size := fun e => by
      have h2 := HR43.out.lt.1
      omega
    clear hE44
    refine wpAnyH_take (i := 7) (v := .agg #[.slice (some ⟨V43.heap.size, 0, none⟩) n n, .slice (some ⟨V39.heap.size, 0, none⟩) 1 1, .slice none 0 0, .slice (some ⟨WD.heap.size, 0, none⟩) n n]) rfl (by kernel_rfl) (by kernel_rfl) (by kernel_rfl) (fun _ _ _ h => h) (Or.inl ⟨by rfl, fun W9 hSw => by go_simp⟩) hH44 ?_
    simp only [List.getElem_toArray, List.getElem_cons_succ, List.getElem_cons_zero, Act.put, List.setIfInBounds_toArray, List.set_cons_zero, List.set_cons_succ]
    refine wpAnyH_ready (rs := [8]) (by kernel_rfl) (by simp) ?_
    refine AllReadyH.cons rfl (fun K hK => ?_) AllReadyH.nil
    go_simp
    have hfin := NwR.fin HP44.out HR44.out HA44.out HY44.out hb44 hne44
    refine hK.out _ _ trivial (fun hHx => ?_)
    clear hK K
    refine wpAnyH_take (i := 9) (v := .pointer (some ⟨V44.heap.size, 0, none⟩)) rfl (by kernel_rfl) (by kernel_rfl) (by kernel_rfl) (fun _ _ _ h => h) (Or.inl ⟨by rfl, fun W9 hSw => by go_simp⟩) hHx ?_
    simp only [List.getElem_toArray, List.getElem_cons_succ, List.getElem_cons_zero, Act.put, List.setIfInBounds_toArray, List.set_cons_zero, List.set_cons_succ]
    refine wpAnyH_done (by kernel_rfl) ?_ _
    refine NoPanic.normal ?_
    go_wp2
    go_meet
    exact ⟨V44.heap.size, V43.heap.size, V34.heap.size, V39.heap.size, WD.heap.size, rfl, hfin⟩
  case rest =>
  obtain ⟨PB, gp, g0, gm, gw, rfl, HNW⟩ := hcut
  obtain ⟨w1, hw1⟩ : ∃ W, W = wc := ⟨_, rfl⟩
  rw [← hw1] at HNW ⊢
  clear hw1 a0 al hmk hmk2
  have HTY : Hid (PB ≠ g0 ∧ gm ≠ g0 ∧ PB ≠ gm ∧ gm ≠ gp ∧ PB < w1.heap.size ∧ gm < w1.heap.size ∧ gp < w1.heap.size ∧ g0 < w1.heap.size) := by
    obtain ⟨c1, t1⟩ := HNW.out.part.typed
    obtain ⟨c2, t2⟩ := HNW.out.row.typed
    have t3 := HNW.out.arr.1
    have t4 : w1.heap[PB]? = some (.cells #[.slice (some ⟨gp, 0, none⟩) n n, .slice (some ⟨gm, 0, none⟩) 1 1, .slice none 0 0, .slice (some ⟨gw, 0, none⟩) n n] 97 (0, 0)) := HNW.out.str
    refine ⟨fun e => ?_, fun e => ?_, fun e => ?_, fun e => ?_, lt_of_heap t4, lt_of_heap t3, lt_of_heap t1, lt_of_heap t2⟩
    · rw [e] at t4; exact absurd (typ_ne t4 t2) (by decide)
    · rw [e] at t3; exact absurd (typ_ne t3 t2) (by decide)
    · rw [e] at t4; exact absurd (typ_ne t4 t3) (by decide)
    · rw [e] at t3; exact absurd (typ_ne t3 t1) (by decide)
  go_wp2
  go_loopw [20] (fun x20 wr => ∃ i : Nat, i ≤ n ∧ x20 = .int .i64 (i : Int) ∧ Hid (RowN wr W0.heap.size g0 n (fun x => if x < i then x else 0)) ∧ Hid (OnlyB g0 w1 wr)) (fun x20 _ => n - (intOf x20).toNat)
  case atStart => exact ⟨0, Nat.zero_le _, rfl, HNW.out.row.same (fun x _ => by simp), OnlyB.refl _ _⟩
  case round =>
    obtain ⟨i, hi, rfl, HR, HO⟩ := hrel
    by_cases hil : i < n
    · have c0 := HR.out.at hil
      have gl := HR.out.lt.1
      have nf := HR.out.nf i
      have hs2 : wr.heap[PB]? = some (.cells #[.slice (some ⟨gp, 0, none⟩) n n, .slice (some ⟨gm, 0, none⟩) 1 1, .slice none 0 0, .slice (some ⟨gw, 0, none⟩) n n] 97 (0, 0)) := (HO.out.block PB HTY.out.1).trans HNW.out.str
      have s1 := cell_in hs2 1
      have sl := lt_of_heap hs2
      have hm2 := (HO.out.block gm HTY.out.2.1).trans HNW.out.arr.1
      have m0 := cell_in hm2 0
      have ml := lt_of_heap hm2
      simp at s1 m0
      have HR2 : Hid (RowN (wr.setCell ⟨g0, i, none⟩ (.int .i64 (i : Int))) W0.heap.size g0 n (fun x => if x < i + 1 then x else 0)) := (HR.out.set hil i).same (fun x hx => by
        unfold upN
        by_cases q : x = i
        · rw [if_pos q, if_pos (by omega), q]
        · rw [if_neg q]
          show (if x < i then x else 0) = _
          by_cases q2 : x < i
          · rw [if_pos q2, if_pos (by omega)]
          · rw [if_neg q2, if_neg (by omega)])
      have HO2 : Hid (OnlyB g0 w1 (wr.setCell ⟨g0, i, none⟩ (.int .i64 (i : Int)))) := HO.out.set _ _
      have hi0 : (0 : Int) ≤ (i : Int) := by omega
      have hi1 : (i : Int) < (n : Int) := by omega
      clear hs2 hm2
      go_wp2
      go_roundw
      case rel => exact ⟨i + 1, by omega, by go_num, HR2, HO2⟩
      case measure => simp [intOf]; omega
    · obtain rfl : i = n := by omega
      obtain ⟨w2, hw2⟩ : ∃ W, W = wr := ⟨_, rfl⟩
      rw [← hw2] at HR HO ⊢
      have HBW2 : Hid (Below W0.heap.size W0 w2) := by
        have h1 := HNW.out.row.lt.2
        exact ⟨HO.out.os.trans HNW.out.bl.os, HO.out.tape.trans HNW.out.bl.tape, HO.out.output.trans HNW.out.bl.output, by rw [HO.out.size]; exact HNW.out.bl.size, fun k hk => (HO.out.block k (by omega)).trans (HNW.out.bl.block k hk)⟩
      have HI2 : Hid (NwI w2 i PB gp gm gw M 0 w2 (.slice none 0 0) (fun _ => 0) (fun _ => 0)) := ⟨(HO.out.block PB HTY.out.1).trans HNW.out.str, ⟨World.ownsRow_nil _ _ _ _, fun c hc => absurd hc (by omega), fun c hc => absurd hc (by omega)⟩, rfl, rfl, rfl, Nat.le_refl _, fun k _ _ => rfl, by rw [HO.out.size]; exact HTY.out.2.2.2.2.1⟩
      have hbw2 := below_after HD.out.2.1 HBW2.out
      obtain ⟨ga, oa, yc, g2, o2, e1, l1, z1, l2, hrow⟩ := at_row (HAT.out w2 hbw2) (show 0 < i by omega) (HN.out.2.2.2.1)
      subst e1
      rw [Nat.add_zero] at z1
      have a0 := (HD.out.1.below HBW2.out).c0
      have al := (HD.out.1.below HBW2.out).lt
      have hi0 : (0 : Int) < (i : Int) := by omega
      clear hw2 hbw2 hrow
      go_wp2
      go_loopw [38] (fun x38 wr => ∃ (c : Nat) (iv : Value) (gf gn : Nat → Nat), c ≤ C ∧ x38 = .int .i64 (c : Int) ∧ Hid (NwI w2 i PB gp gm gw M c wr iv gf gn)) (fun x38 _ => C - (intOf x38).toNat)
      case atStart => exact ⟨0, _, _, _, Nat.zero_le _, rfl, HI2⟩
      case round =>
        obtain ⟨c, iv, gf, gn, hc, rfl, HI⟩ := hrel
        by_cases hcl : c < C
        · have hbw : Below w.heap.size w wr := by
            have h1 := HD.out.2.2
            have h2 := HBW2.out.size
            refine ⟨HI.out.os.trans (HBW2.out.os.trans HD.out.2.1.os), HI.out.tape.trans (HBW2.out.tape.trans HD.out.2.1.tape), HI.out.output.trans (HBW2.out.output.trans HD.out.2.1.output), by have := HI.out.size; omega, fun k hk => (HI.out.old k (by omega) (by have := HNW.out.lb; omega)).trans ((HBW2.out.block k (by omega)).trans (HD.out.2.1.block k hk))⟩
          have HBWR : Hid (Below w.heap.size w wr.drew) := hbw.drew
          have hdb : wr.heap[w.heap.size]? = some (.cells #[.slice (some ⟨ga, oa, none⟩) i nc, .slice fa m fc] 35) := (HI.out.old _ (by have := HBW2.out.size; have := HD.out.2.2; omega) (by have := HNW.out.lb; have := HD.out.2.2; omega)).trans (HD.out.1.below HBW2.out)
          have d0 := cell_in hdb 0
          have d1 := cell_in hdb 1
          have dl := lt_of_heap hdb
          have hst := HI.out.str
          have s2 := cell_in hst 2
          have sl := lt_of_heap hst
          simp at d0 d1 s2
          have hc0 : (0 : Int) ≤ (c : Int) := by omega
          have HPB : Hid (∀ w4, Below wr.drew.heap.size wr.drew w4 → w4.cell? ⟨PB, 2, none⟩ = some iv ∧ PB < w4.heap.size) := fun w4 hb => by
            have := (show Below wr.heap.size wr w4 from (Below.refl _ _).drew.trans hb).block PB (lt_of_heap HI.out.str)
            have h2 := this.trans HI.out.str
            exact ⟨cell_in h2 2, lt_of_heap h2⟩
          have HFN : Hid (∀ w4 a b o w6 v', Below wr.drew.heap.size wr.drew w4 → RowZ w4 wr.drew.heap.size a i (fun t => prv M c t i) → RowZ w4 wr.drew.heap.size b i (fun s => prv M c (M.d s c) s) → (w4.alloc o).grownBy w6 iv.ownBlock → w6.ownsRow w2.heap.size 116 2 v' (c + 1) (chCells gf gn i c ++ [.slice (some ⟨a, 0, none⟩) i i, .slice (some ⟨b, 0, none⟩) i i]) → (w6.cell? ⟨PB, 2, none⟩ = some iv ∧ w6.frozen? ⟨PB, 2, none⟩ = false ∧ PB < w6.heap.size) ∧ Hid (NwI w2 i PB gp gm gw M (c + 1) (w6.setCell ⟨PB, 2, none⟩ v') v' (upN gf c a) (upN gn c b))) := fun w4 a b o w6 v' hb h1 h2 hg ho => HI.out.push ((Below.refl _ _).drew.trans hb) h1 h2 hg ho
          have HOW : Hid (∀ w4 o, Below wr.drew.heap.size wr.drew w4 → (w4.alloc o).ownsRow w2.heap.size 116 2 iv c (chCells gf gn i c) ∧ w2.heap.size ≤ w4.heap.size) := fun w4 o hb => by
            have hb2 : Below wr.heap.size wr w4 := (Below.refl _ _).drew.trans hb
            have h1 := HI.out.size
            have h2 := hb2.size
            exact ⟨ownsRow_below (ownsRow_below HI.out.ini.arr hb2) (below_alloc _ _), by omega⟩
          have hC2 := HN.out.2.2.2.2
          clear hbw hdb hst
          go_upto_region 11 with fail
          go_region_law (first | (go_simp; (with_reducible refine (HCH.out wr.drew c HBWR.out hcl).mono ?_); rintro e w4 ⟨ca, cb, hne4, rfl, hr4, hx4, hb4⟩; obtain ⟨u2, ul⟩ := HPB.out w4 hb4; try dsimp only) | (refine step_append_lies _ (by rfl) (.tmp 45) (.tmp 49) 94 (by rfl) w2.heap.size 116 iC (.agg #[.slice none 0 0, .slice none 0 0]) 2 48 Tryz.underlying94 hiC hzC0 hzC1 hzC2 rfl (by decide) iv c (chCells gf gn i c) (by rfl) (by exact (HOW.out w4 _ hb4).1) ⟨w4.heap.size, 0, none⟩ 1 1 [.slice (some ⟨ca, 0, none⟩) i i, .slice (some ⟨cb, 0, none⟩) i i] (by rfl) rfl (by exact World.news_of_block (heap_new' w4 _)) (by simp [Value.oneCell']) (by omega) (by unfold maxLen; omega) (by omega) (by have := (HOW.out w4 (.cells #[] 0) hb4).2; simp; omega) (w4.heap.size + 1) (by simp) ?_; intro gL capL w6 hownL hgrowL hatL hltL; obtain ⟨⟨t0, t1, t2⟩, HZ⟩ := HFN.out _ _ _ _ _ _ hb4 hr4 hx4 hgrowL hownL))
          all_goals (
            go_wp2
            go_roundw
            case rel => exact ⟨c + 1, _, _, _, by omega, by go_num, HZ⟩
            case measure => simp [intOf]; omega)
        · obtain rfl : c = C := by omega
          go_wp2
          go_ret
          have hI := HI.out
          have h1 := HD.out.2.2
          have h2 := HBW2.out.size
          have hty := HTY.out
          have hsz := HO.out.size
          have hold : ∀ k, k < w2.heap.size → k ≠ PB → wr.heap[k]? = w2.heap[k]? := hI.old
          have hpg : PB ≠ gp := fun e => by
            obtain ⟨c1, t1⟩ := HNW.out.part.typed
            have t4 : w1.heap[PB]? = some (.cells #[.slice (some ⟨gp, 0, none⟩) i i, .slice (some ⟨gm, 0, none⟩) 1 1, .slice none 0 0, .slice (some ⟨gw, 0, none⟩) i i] 97 (0, 0)) := HNW.out.str
            rw [e] at t4
            exact absurd (typ_ne t4 t1) (by decide)
          refine ⟨PB, gp, g0, gm, gw, w2.heap.size, iv, gf, gn, rfl, hI.str, own_mono13 ((HNW.out.part.blk (HO.out.block gp HNW.out.ne)).blk (hold gp (by omega) (Ne.symm hpg))) (by omega), ⟨?_, ?_, ?_⟩, hI.ini, ?_, HNW.out.ne, by omega, by omega, by have := HNW.out.lb; omega, ?_⟩
          · have hm := (hold gm (by omega) (Ne.symm hty.2.2.1)).trans ((HO.out.block gm hty.2.1).trans HNW.out.arr.1)
            exact ⟨rfl, .inr ⟨gm, 1, _, rfl, by have := HNW.out.arr.2; omega, hm, Nat.le_refl _, by unfold maxLen; omega, rfl, rfl⟩⟩
          · intro x hx1 hx2
            have hx0 : x = 0 := by simp at hx1; omega
            subst hx0
            have hr : RowN wr W0.heap.size g0 i id := (HR.out.same (L' := id) (fun x hx => by rw [if_pos hx]; rfl)).blk (hold g0 (by omega) (Ne.symm hty.1))
            have e : rowN i id = cellP (List.range i) := rfl
            unfold RowN at hr
            rw [e] at hr
            have := own_mono13 hr (show w.heap.size ≤ W0.heap.size by omega)
            simpa using this
          · intro x y hx hy k _ _
            simp at hx hy
            omega
          · have := HNW.out.way
            refine own_mono13 (own_blk this (fun g e => ?_)) (show w.heap.size ≤ W0.heap.size by omega)
            obtain ⟨cs, hcs⟩ := own_typed this e
            have hg0 : g ≠ g0 := fun q => by
              obtain ⟨c2, t2⟩ := HNW.out.row.typed
              rw [q] at hcs
              exact absurd (typ_ne hcs t2) (by decide)
            have hgP : g ≠ PB := fun q => by
              have t4 : w1.heap[PB]? = some (.cells #[.slice (some ⟨gp, 0, none⟩) i i, .slice (some ⟨gm, 0, none⟩) 1 1, .slice none 0 0, .slice (some ⟨gw, 0, none⟩) i i] 97 (0, 0)) := HNW.out.str
              rw [q] at hcs
              exact absurd (typ_ne hcs t4) (by decide)
            exact (hold g (by have := lt_of_heap hcs; omega) hgP).trans (HO.out.block g hg0)
          · refine ⟨hI.os.trans (HBW2.out.os.trans HD.out.2.1.os), hI.tape.trans (HBW2.out.tape.trans HD.out.2.1.tape), hI.output.trans (HBW2.out.output.trans HD.out.2.1.output), by have := hI.size; omega, fun k hk => (hold k (by omega) (by have := HNW.out.lb; omega)).trans ((HBW2.out.block k (by omega)).trans (HD.out.2.1.block k hk))⟩
end Go.Proofs.YtklhjjgnhigbiaaGreatDoor
