/-
  RulW
-/
import Derived.Test.YtfdjchnckjgapaaGreatDoorX45
namespace Go.Proofs.YtfdjchnckjgapaaGreatDoor
open Go.RowKit Go.Shelf S1
set_option linter.unusedVariables false
def kwT (b : Bool) : List Int := if b = true then [98, 114, 101, 97, 107, 32] else [107, 101, 101, 112, 32]
def rlT (b : Bool) (l r : List Int) : List Int := kwT b ++ (l ++ (47 :: (r ++ [59, 10])))
set_option maxRecDepth 100000 in
set_option maxHeartbeats 8000000 in
theorem rule_of (bb : Bool) (lk ls : Int) (la : Option Addr) (ln lca : Nat) (rk rs : Int) (ra : Option Addr) (rn rca : Nat) (base P : Nat) (svv : Value) (zs tl tr : List Int) (m : Nat) (hl : tl.length + 3 ≤ m) (hr : tr.length + 3 ≤ m) (hb : zs.length + m + m + 20 ≤ 1000000000000) (w : World) (hP : PrAt base P w svv zs)
    (hcl : ∀ (zs' : List Int) W, zs'.length + m ≤ 1000000000000 → FrW P w W → PrAt base P W svv zs' → Calls Tryz.prog 56 #[.pointer (some ⟨P, 0, none⟩), .agg #[.int .i64 lk, .int .i64 ls, .slice la ln lca]] W fun e w'' => e = .returned (.tuple #[]) ∧ PrAt base P w'' svv (zs' ++ tl) ∧ FrW P W w'') (hcr : ∀ (zs' : List Int) W, zs'.length + m ≤ 1000000000000 → FrW P w W → PrAt base P W svv zs' → Calls Tryz.prog 56 #[.pointer (some ⟨P, 0, none⟩), .agg #[.int .i64 rk, .int .i64 rs, .slice ra rn rca]] W fun e w'' => e = .returned (.tuple #[]) ∧ PrAt base P w'' svv (zs' ++ tr) ∧ FrW P W w'') :
    Calls Tryz.prog 27 #[.pointer (some ⟨P, 0, none⟩), .agg #[.bool bb, .int .i64 lk, .int .i64 ls, .slice la ln lca, .int .i64 rk, .int .i64 rs, .slice ra rn rca]] w fun e w' => e = .returned (.tuple #[]) ∧ PrAt base P w' svv (zs ++ rlT bb tl tr) ∧ FrW P w w' := by
  have hPl := hP.lt
  have hBA := below_alloc w (.cells #[.bool bb, .int .i64 lk, .int .i64 ls, .slice la ln lca, .int .i64 rk, .int .i64 rs, .slice ra rn rca] 41)
  have HF1 : Hid (FrW P w (w.alloc (.cells #[.bool bb, .int .i64 lk, .int .i64 ls, .slice la ln lca, .int .i64 rk, .int .i64 rs, .slice ra rn rca] 41))) := frw_below hBA hPl
  have HP1 : Hid (PrAt base P (w.alloc (.cells #[.bool bb, .int .i64 lk, .int .i64 ls, .slice la ln lca, .int .i64 rk, .int .i64 rs, .slice ra rn rca] 41)) svv zs) := hP.below hBA
  have HWB : Hid (Wk (w.alloc (.cells #[.bool bb, .int .i64 lk, .int .i64 ls, .slice la ln lca, .int .i64 rk, .int .i64 rs, .slice ra rn rca] 41)) P w.heap.size) := hP.fresh hBA (Nat.le_refl _) (by simp)
  have HEA : Hid ((w.alloc (.cells #[.bool bb, .int .i64 lk, .int .i64 ls, .slice la ln lca, .int .i64 rk, .int .i64 rs, .slice ra rn rca] 41)).heap[w.heap.size]? = some (.cells #[.bool bb, .int .i64 lk, .int .i64 ls, .slice la ln lca, .int .i64 rk, .int .i64 rs, .slice ra rn rca] 41 (0, 0))) := heap_new' w _
  have HCL : Hid (∀ (zs' : List Int) W, zs'.length + m ≤ 1000000000000 → FrW P w W → PrAt base P W svv zs' → Calls Tryz.prog 56 #[.pointer (some ⟨P, 0, none⟩), .agg #[.int .i64 lk, .int .i64 ls, .slice la ln lca]] W fun e w'' => e = .returned (.tuple #[]) ∧ PrAt base P w'' svv (zs' ++ tl) ∧ FrW P W w'') := hcl
  have HCR : Hid (∀ (zs' : List Int) W, zs'.length + m ≤ 1000000000000 → FrW P w W → PrAt base P W svv zs' → Calls Tryz.prog 56 #[.pointer (some ⟨P, 0, none⟩), .agg #[.int .i64 rk, .int .i64 rs, .slice ra rn rca]] W fun e w'' => e = .returned (.tuple #[]) ∧ PrAt base P w'' svv (zs' ++ tr) ∧ FrW P W w'') := hcr
  clear hcl hcr hBA hP
  cases bb with
  | true =>
    have h1 : Calls Tryz.prog 55 #[.pointer (some ⟨P, 0, none⟩), .string ⟨#[98, 114, 101, 97, 107, 32]⟩] (w.alloc (.cells #[.bool true, .int .i64 lk, .int .i64 ls, .slice la ln lca, .int .i64 rk, .int .i64 rs, .slice ra rn rca] 41)) fun e w' => e = .returned (.tuple #[]) ∧ PrAt base P w' svv (zs ++ [98, 114, 101, 97, 107, 32]) ∧ FrW P (w.alloc (.cells #[.bool true, .int .i64 lk, .int .i64 ls, .slice la ln lca, .int .i64 rk, .int .i64 rs, .slice ra rn rca] 41)) w' := write_any base P _ svv zs [98, 114, 101, 97, 107, 32] (by intro c hc; simp at hc; omega) (by simp; omega) HP1.out
    go_enter Tryz.func27, Tryz.ntmps27
    go_wp2_with fail
    refine h1.mono ?_
    rintro e w1 ⟨rfl, hp1, hf1⟩
    clear h1
    have hE1 : w1.heap[w.heap.size]? = some (.cells #[.bool true, .int .i64 lk, .int .i64 ls, .slice la ln lca, .int .i64 rk, .int .i64 rs, .slice ra rn rca] 41 (0, 0)) := (hf1.keep _ HWB.out).1.trans HEA.out
    have HE1 : Hid (w1.heap[w.heap.size]? = some (.cells #[.bool true, .int .i64 lk, .int .i64 ls, .slice la ln lca, .int .i64 rk, .int .i64 rs, .slice ra rn rca] 41 (0, 0))) := hE1
    have HWB1 : Hid (Wk w1 P w.heap.size) := (hf1.keep _ HWB.out).2
    have HF1' : Hid (FrW P w w1) := HF1.out.trans hf1
    have c1 : w1.cell? ⟨w.heap.size, 1, none⟩ = some (.int .i64 lk) := cell_of_row _ _ 1 _ _ _ hE1
    have c2 : w1.cell? ⟨w.heap.size, 2, none⟩ = some (.int .i64 ls) := cell_of_row _ _ 2 _ _ _ hE1
    have c3 : w1.cell? ⟨w.heap.size, 3, none⟩ = some (.slice la ln lca) := cell_of_row _ _ 3 _ _ _ hE1
    have hl1 : w.heap.size < w1.heap.size := (Array.getElem?_eq_some_iff.1 hE1).1
    have h2 := HCL.out (zs ++ [98, 114, 101, 97, 107, 32]) w1 (by simp; omega) HF1'.out hp1
    clear hp1 hf1 hE1
    go_wp2_with fail
    refine h2.mono ?_
    rintro e w2 ⟨rfl, hp2, hf2⟩
    clear h2
    have HE2 : Hid (w2.heap[w.heap.size]? = some (.cells #[.bool true, .int .i64 lk, .int .i64 ls, .slice la ln lca, .int .i64 rk, .int .i64 rs, .slice ra rn rca] 41 (0, 0))) := (hf2.keep _ HWB1.out).1.trans HE1.out
    have HWB2 : Hid (Wk w2 P w.heap.size) := (hf2.keep _ HWB1.out).2
    have HF2 : Hid (FrW P w w2) := HF1'.out.trans hf2
    have h3 : Calls Tryz.prog 55 #[.pointer (some ⟨P, 0, none⟩), .string ⟨#[47]⟩] w2 fun e w' => e = .returned (.tuple #[]) ∧ PrAt base P w' svv (zs ++ [98, 114, 101, 97, 107, 32] ++ tl ++ [47]) ∧ FrW P w2 w' := write_any base P _ svv _ [47] (by intro c hc; simp at hc; omega) (by simp; omega) hp2
    clear hp2 hf2 c1 c2 c3 hl1
    go_wp2_with fail
    refine h3.mono ?_
    rintro e w3 ⟨rfl, hp3, hf3⟩
    clear h3
    have hE3 : w3.heap[w.heap.size]? = some (.cells #[.bool true, .int .i64 lk, .int .i64 ls, .slice la ln lca, .int .i64 rk, .int .i64 rs, .slice ra rn rca] 41 (0, 0)) := (hf3.keep _ HWB2.out).1.trans HE2.out
    have HF3 : Hid (FrW P w w3) := HF2.out.trans hf3
    have d4 : w3.cell? ⟨w.heap.size, 4, none⟩ = some (.int .i64 rk) := cell_of_row _ _ 4 _ _ _ hE3
    have d5 : w3.cell? ⟨w.heap.size, 5, none⟩ = some (.int .i64 rs) := cell_of_row _ _ 5 _ _ _ hE3
    have d6 : w3.cell? ⟨w.heap.size, 6, none⟩ = some (.slice ra rn rca) := cell_of_row _ _ 6 _ _ _ hE3
    have hl3 : w.heap.size < w3.heap.size := (Array.getElem?_eq_some_iff.1 hE3).1
    have h4 := HCR.out (zs ++ [98, 114, 101, 97, 107, 32] ++ tl ++ [47]) w3 (by simp; omega) HF3.out hp3
    clear hp3 hf3 hE3
    go_wp2_with fail
    refine h4.mono ?_
    rintro e w4 ⟨rfl, hp4, hf4⟩
    clear h4
    have HF4 : Hid (FrW P w w4) := HF3.out.trans hf4
    have h5 : Calls Tryz.prog 55 #[.pointer (some ⟨P, 0, none⟩), .string ⟨#[59, 10]⟩] w4 fun e w' => e = .returned (.tuple #[]) ∧ PrAt base P w' svv (zs ++ [98, 114, 101, 97, 107, 32] ++ tl ++ [47] ++ tr ++ [59, 10]) ∧ FrW P w4 w' := write_any base P _ svv _ [59, 10] (by intro c hc; simp at hc; omega) (by simp; omega) hp4
    clear hp4 hf4 d4 d5 d6 hl3
    go_wp2_with fail
    refine h5.mono ?_
    rintro e w5 ⟨rfl, hp5, hf5⟩
    clear h5
    go_wp2
    first | go_end0 | (refine bodyPost_ret (by simp [results, Tryz.f27, go_sem]; rfl) rfl ?_)
    refine ⟨rfl, ?_, HF4.out.trans hf5⟩
    have e : zs ++ rlT true tl tr = zs ++ [98, 114, 101, 97, 107, 32] ++ tl ++ [47] ++ tr ++ [59, 10] := by simp [rlT, kwT]
    rw [e]
    exact hp5
  | false =>
    have h1 : Calls Tryz.prog 55 #[.pointer (some ⟨P, 0, none⟩), .string ⟨#[107, 101, 101, 112, 32]⟩] (w.alloc (.cells #[.bool false, .int .i64 lk, .int .i64 ls, .slice la ln lca, .int .i64 rk, .int .i64 rs, .slice ra rn rca] 41)) fun e w' => e = .returned (.tuple #[]) ∧ PrAt base P w' svv (zs ++ [107, 101, 101, 112, 32]) ∧ FrW P (w.alloc (.cells #[.bool false, .int .i64 lk, .int .i64 ls, .slice la ln lca, .int .i64 rk, .int .i64 rs, .slice ra rn rca] 41)) w' := write_any base P _ svv zs [107, 101, 101, 112, 32] (by intro c hc; simp at hc; omega) (by simp; omega) HP1.out
    go_enter Tryz.func27, Tryz.ntmps27
    go_wp2_with fail
    refine h1.mono ?_
    rintro e w1 ⟨rfl, hp1, hf1⟩
    clear h1
    have hE1 : w1.heap[w.heap.size]? = some (.cells #[.bool false, .int .i64 lk, .int .i64 ls, .slice la ln lca, .int .i64 rk, .int .i64 rs, .slice ra rn rca] 41 (0, 0)) := (hf1.keep _ HWB.out).1.trans HEA.out
    have HE1 : Hid (w1.heap[w.heap.size]? = some (.cells #[.bool false, .int .i64 lk, .int .i64 ls, .slice la ln lca, .int .i64 rk, .int .i64 rs, .slice ra rn rca] 41 (0, 0))) := hE1
    have HWB1 : Hid (Wk w1 P w.heap.size) := (hf1.keep _ HWB.out).2
    have HF1' : Hid (FrW P w w1) := HF1.out.trans hf1
    have c1 : w1.cell? ⟨w.heap.size, 1, none⟩ = some (.int .i64 lk) := cell_of_row _ _ 1 _ _ _ hE1
    have c2 : w1.cell? ⟨w.heap.size, 2, none⟩ = some (.int .i64 ls) := cell_of_row _ _ 2 _ _ _ hE1
    have c3 : w1.cell? ⟨w.heap.size, 3, none⟩ = some (.slice la ln lca) := cell_of_row _ _ 3 _ _ _ hE1
    have hl1 : w.heap.size < w1.heap.size := (Array.getElem?_eq_some_iff.1 hE1).1
    have h2 := HCL.out (zs ++ [107, 101, 101, 112, 32]) w1 (by simp; omega) HF1'.out hp1
    clear hp1 hf1 hE1
    go_wp2_with fail
    refine h2.mono ?_
    rintro e w2 ⟨rfl, hp2, hf2⟩
    clear h2
    have HE2 : Hid (w2.heap[w.heap.size]? = some (.cells #[.bool false, .int .i64 lk, .int .i64 ls, .slice la ln lca, .int .i64 rk, .int .i64 rs, .slice ra rn rca] 41 (0, 0))) := (hf2.keep _ HWB1.out).1.trans HE1.out
    have HWB2 : Hid (Wk w2 P w.heap.size) := (hf2.keep _ HWB1.out).2
    have HF2 : Hid (FrW P w w2) := HF1'.out.trans hf2
    have h3 : Calls Tryz.prog 55 #[.pointer (some ⟨P, 0, none⟩), .string ⟨#[47]⟩] w2 fun e w' => e = .returned (.tuple #[]) ∧ PrAt base P w' svv (zs ++ [107, 101, 101, 112, 32] ++ tl ++ [47]) ∧ FrW P w2 w' := write_any base P _ svv _ [47] (by intro c hc; simp at hc; omega) (by simp; omega) hp2
    clear hp2 hf2 c1 c2 c3 hl1
    go_wp2_with fail
    refine h3.mono ?_
    rintro e w3 ⟨rfl, hp3, hf3⟩
    clear h3
    have hE3 : w3.heap[w.heap.size]? = some (.cells #[.bool false, .int .i64 lk, .int .i64 ls, .slice la ln lca, .int .i64 rk, .int .i64 rs, .slice ra rn rca] 41 (0, 0)) := (hf3.keep _ HWB2.out).1.trans HE2.out
    have HF3 : Hid (FrW P w w3) := HF2.out.trans hf3
    have d4 : w3.cell? ⟨w.heap.size, 4, none⟩ = some (.int .i64 rk) := cell_of_row _ _ 4 _ _ _ hE3
    have d5 : w3.cell? ⟨w.heap.size, 5, none⟩ = some (.int .i64 rs) := cell_of_row _ _ 5 _ _ _ hE3
    have d6 : w3.cell? ⟨w.heap.size, 6, none⟩ = some (.slice ra rn rca) := cell_of_row _ _ 6 _ _ _ hE3
    have hl3 : w.heap.size < w3.heap.size := (Array.getElem?_eq_some_iff.1 hE3).1
    have h4 := HCR.out (zs ++ [107, 101, 101, 112, 32] ++ tl ++ [47]) w3 (by simp; omega) HF3.out hp3
    clear hp3 hf3 hE3
    go_wp2_with fail
    refine h4.mono ?_
    rintro e w4 ⟨rfl, hp4, hf4⟩
    clear h4
    have HF4 : Hid (FrW P w w4) := HF3.out.trans hf4
    have h5 : Calls Tryz.prog 55 #[.pointer (some ⟨P, 0, none⟩), .string ⟨#[59, 10]⟩] w4 fun e w' => e = .returned (.tuple #[]) ∧ PrAt base P w' svv (zs ++ [107, 101, 101, 112, 32] ++ tl ++ [47] ++ tr ++ [59, 10]) ∧ FrW P w4 w' := write_any base P _ svv _ [59, 10] (by intro c hc; simp at hc; omega) (by simp; omega) hp4
    clear hp4 hf4 d4 d5 d6 hl3
    go_wp2_with fail
    refine h5.mono ?_
    rintro e w5 ⟨rfl, hp5, hf5⟩
    clear h5
    go_wp2
    first | go_end0 | (refine bodyPost_ret (by simp [results, Tryz.f27, go_sem]; rfl) rfl ?_)
    refine ⟨rfl, ?_, HF4.out.trans hf5⟩
    have e : zs ++ rlT false tl tr = zs ++ [107, 101, 101, 112, 32] ++ tl ++ [47] ++ tr ++ [59, 10] := by simp [rlT, kwT]
    rw [e]
    exact hp5
end Go.Proofs.YtfdjchnckjgapaaGreatDoor
