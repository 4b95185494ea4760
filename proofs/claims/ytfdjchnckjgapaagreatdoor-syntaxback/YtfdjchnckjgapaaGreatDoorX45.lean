/-
  PrtP
-/
import Derived.Test.YtfdjchnckjgapaaGreatDoorX44
import Derived.Test.YtfdjchnckjgapaaGreatDoorX40
import Derived.Deep.RegionHeld3
namespace Go.Proofs.YtfdjchnckjgapaaGreatDoor
open Go.RowKit Go.Shelf S1
set_option linter.unusedVariables false
def StrIn (Q : Nat → Prop) (w : World) (v : Value) (S : List (List Int)) : Prop := ∃ a cap, v = .slice a S.length cap ∧ S.length ≤ cap ∧ ∀ i, (h : i < S.length) → ∃ g off, a = some ⟨g, off, none⟩ ∧ Q g ∧ w.cell? ⟨g, off + i, none⟩ = some (.string (strOfNums S[i]))
theorem StrIn.to {Q Q' : Nat → Prop} {w w' : World} {v : Value} {S : List (List Int)} (h : StrIn Q w v S) (hq : ∀ k, Q k → w'.heap[k]? = w.heap[k]? ∧ Q' k) : StrIn Q' w' v S := by
  obtain ⟨a, cap, e, hc, hi⟩ := h
  refine ⟨a, cap, e, hc, fun i hlt => ?_⟩
  obtain ⟨g, off, h1, h2, h3⟩ := hi i hlt
  obtain ⟨hb, hg⟩ := hq g h2
  exact ⟨g, off, h1, hg, (World.cell?_of_block (a := ⟨g, _, none⟩) hb).trans h3⟩
theorem signT_byt (k : Int) : Byt (signT k) := by
  intro c hc
  unfold signT at hc
  repeat' split at hc
  all_goals simp at hc
  all_goals omega
theorem FrW.cell {P : Nat} {w w' : World} (h : FrW P w w') {k : Nat} (hk : Wk w P k) (o : Nat) : w'.cell? ⟨k, o, none⟩ = w.cell? ⟨k, o, none⟩ := World.cell?_of_block (a := ⟨k, o, none⟩) (h.keep k hk).1
theorem PrAt.sets {base P : Nat} {w : World} {svv : Value} {zs : List Int} (h : PrAt base P w svv zs) : w.cell? ⟨P, 0, none⟩ = some svv := by
  obtain ⟨tv, h1, _⟩ := h
  exact cell_of_row _ _ 0 _ _ _ h1
set_option maxRecDepth 100000 in
set_option maxHeartbeats 16000000 in
theorem expression_body (n : Nd) (za : Option Addr) (ca : Nat) (f base P : Nat) (svv : Value) (S : List (List Int)) (hS : ∀ s ∈ S, Byt s ∧ s.length ≤ 69900) (zs : List Int) (hlen : n.kids.length ≤ 3100) (hb : zs.length + (1 + (n.kids.map (Sz f)).sum) * 70000 ≤ 1000000000000) (w : World) (hP : PrAt base P w svv zs) (hSI : StrIn (Wk w P) w svv S) (hin : n.k = 1 → 0 ≤ n.s ∧ n.s < (S.length : Int))
    (HR : ∀ i, (h : i < n.kids.length) → n.kids.length ≤ ca ∧ ∃ ga oa xa ka, za = some ⟨ga, oa, none⟩ ∧ Wk w P ga ∧ w.cell? ⟨ga, oa + i * 3, none⟩ = some (.int .i64 n.kids[i].k) ∧ w.cell? ⟨ga, oa + i * 3 + 1, none⟩ = some (.int .i64 n.kids[i].s) ∧ w.cell? ⟨ga, oa + i * 3 + 2, none⟩ = some (.slice xa n.kids[i].kids.length ka) ∧
      (∀ (zs' : List Int) W, zs'.length + Sz f n.kids[i] * 70000 + 1 ≤ 1000000000000 → FrW P w W → PrAt base P W svv zs' → Calls Tryz.prog 97 #[.pointer (some ⟨P, 0, none⟩), .agg #[.int .i64 n.kids[i].k, .int .i64 n.kids[i].s, .slice xa n.kids[i].kids.length ka], .int .i64 n.k] W fun e w'' => e = .returned (.tuple #[]) ∧ PrAt base P w'' svv (zs' ++ brT (inBr n.kids[i].k n.k) (txN f S n.kids[i])) ∧ FrW P W w'')) :
    Calls Tryz.prog 56 #[.pointer (some ⟨P, 0, none⟩), .agg #[.int .i64 n.k, .int .i64 n.s, .slice za n.kids.length ca]] w fun e w' => e = .returned (.tuple #[]) ∧ PrAt base P w' svv (zs ++ (headT S n ++ (txK (txN f S) n.k true n.kids ++ signT n.k))) ∧ FrW P w w' := by
  have hPl := hP.lt
  have HHR : Hid (∀ i, (h : i < n.kids.length) → n.kids.length ≤ ca ∧ ∃ (ga oa : Nat) (xa : Option Addr) (ka : Nat) (yk ys : Int) (yl : Nat), yk = n.kids[i].k ∧ za = some ⟨ga, oa, none⟩ ∧ Wk w P ga ∧ w.cell? ⟨ga, oa + i * 3, none⟩ = some (.int .i64 yk) ∧ w.cell? ⟨ga, oa + i * 3 + 1, none⟩ = some (.int .i64 ys) ∧ w.cell? ⟨ga, oa + i * 3 + 2, none⟩ = some (.slice xa yl ka) ∧
      (∀ (zs' : List Int) W, zs'.length + Sz f n.kids[i] * 70000 + 1 ≤ 1000000000000 → FrW P w W → PrAt base P W svv zs' → Calls Tryz.prog 97 #[.pointer (some ⟨P, 0, none⟩), .agg #[.int .i64 yk, .int .i64 ys, .slice xa yl ka], .int .i64 n.k] W fun e w'' => e = .returned (.tuple #[]) ∧ PrAt base P w'' svv (zs' ++ brT (inBr n.kids[i].k n.k) (txN f S n.kids[i])) ∧ FrW P W w'')) := fun i hi => by
    obtain ⟨h1, ga, oa, xa, ka, h⟩ := HR i hi
    exact ⟨h1, ga, oa, xa, ka, _, _, _, rfl, h⟩
  have HS : Hid (∀ s ∈ S, Byt s ∧ s.length ≤ 69900) := hS
  have HBD : Hid (zs.length + (1 + (n.kids.map (Sz f)).sum) * 70000 ≤ 1000000000000) := hb
  have HIN : Hid (n.k = 1 → 0 ≤ n.s ∧ n.s < (S.length : Int)) := hin
  obtain ⟨T, hT⟩ : ∃ T, T = zs ++ (headT S n ++ (txK (txN f S) n.k true n.kids ++ signT n.k)) := ⟨_, rfl⟩
  rw [← hT]
  have HT : Hid (T = zs ++ (headT S n ++ (txK (txN f S) n.k true n.kids ++ signT n.k))) := hT
  obtain ⟨len, hle⟩ : ∃ len, len = n.kids.length := ⟨_, rfl⟩
  obtain ⟨nk, hnk⟩ : ∃ x, x = n.k := ⟨_, rfl⟩
  obtain ⟨ns, hns⟩ : ∃ x, x = n.s := ⟨_, rfl⟩
  rw [← hle, ← hnk, ← hns]
  have HLEN : Hid (len = n.kids.length ∧ nk = n.k ∧ ns = n.s) := ⟨hle, hnk, hns⟩
  have hlen' : len ≤ 3100 := by omega
  have hBA := below_alloc w (.cells #[.int .i64 nk, .int .i64 ns, .slice za len ca] 39)
  have HF1 : Hid (FrW P w (w.alloc (.cells #[.int .i64 nk, .int .i64 ns, .slice za len ca] 39))) := frw_below hBA hPl
  have HP1 : Hid (PrAt base P (w.alloc (.cells #[.int .i64 nk, .int .i64 ns, .slice za len ca] 39)) svv zs) := hP.below hBA
  have HWB : Hid (Wk (w.alloc (.cells #[.int .i64 nk, .int .i64 ns, .slice za len ca] 39)) P w.heap.size) := hP.fresh hBA (Nat.le_refl _) (by simp)
  have HEA : Hid ((w.alloc (.cells #[.int .i64 nk, .int .i64 ns, .slice za len ca] 39)).heap[w.heap.size]? = some (.cells #[.int .i64 nk, .int .i64 ns, .slice za len ca] 39 (0, 0))) := heap_new' w _
  have HSI1 : Hid (StrIn (Wk (w.alloc (.cells #[.int .i64 nk, .int .i64 ns, .slice za len ca] 39)) P) (w.alloc (.cells #[.int .i64 nk, .int .i64 ns, .slice za len ca] 39)) svv S) := hSI.to (fun k hk => HF1.out.keep k hk)
  clear HR hb hin hS hT hle hnk hns hlen hBA hP hSI
  by_cases hk1 : nk = 1
  · have hk1' : (nk == 1) = true := by simpa using hk1
    obtain ⟨hi0, hi1⟩ := HIN.out (by rw [← HLEN.out.2.1]; exact hk1)
    rw [← HLEN.out.2.2] at hi0 hi1
    obtain ⟨si, hsi⟩ : ∃ si : Nat, ns = (si : Int) := ⟨ns.toNat, by omega⟩
    have hsl : si < S.length := by omega
    have HHD : Hid (headT S n = S[si]) := by
      show _ = _
      unfold headT
      rw [if_pos (by rw [← HLEN.out.2.1]; exact hk1), ← HLEN.out.2.2, hsi]
      simp [hsl]
    have hby := HS.out _ (List.getElem_mem hsl)
    obtain ⟨gs, os, cs, rfl, hcs, hWs, hstr0⟩ : ∃ gs os cs, svv = .slice (some ⟨gs, os, none⟩) S.length cs ∧ S.length ≤ cs ∧ Wk (w.alloc (.cells #[.int .i64 nk, .int .i64 ns, .slice za len ca] 39)) P gs ∧ (w.alloc (.cells #[.int .i64 nk, .int .i64 ns, .slice za len ca] 39)).cell? ⟨gs, os + si, none⟩ = some (.string (strOfNums S[si])) := by
      obtain ⟨a, cap, e, hc, hi⟩ := HSI1.out
      obtain ⟨g, off, rfl, h2, h3⟩ := hi si hsl
      exact ⟨g, off, cap, e, hc, h2, h3⟩
    obtain ⟨SL, hSL⟩ : ∃ x, x = S.length := ⟨_, rfl⟩
    rw [← hSL] at hcs hsl HP1 HSI1 HHR ⊢
    have HW : Hid (∀ W, PrAt base P W (.slice (some ⟨gs, os, none⟩) SL cs) zs → Calls Tryz.prog 55 #[.pointer (some ⟨P, 0, none⟩), .string (strOfNums S[si])] W fun e w' => e = .returned (.tuple #[]) ∧ PrAt base P w' (.slice (some ⟨gs, os, none⟩) SL cs) (zs ++ S[si]) ∧ FrW P W w') := fun W hW => write_any base P W _ zs S[si] hby.1 (by have h5 := HBD.out; have := hby.2; simp only [Nat.add_mul] at h5; omega) hW
    have HTc0 : Hid (T = (zs ++ S[si]) ++ (txK (txN f S) nk true n.kids ++ signT nk)) := by
      show _ = _
      rw [HT.out, HHD.out, HLEN.out.2.1]; simp [List.append_assoc]
    have HBc0 : Hid ((zs ++ S[si]).length + (n.kids.map (Sz f)).sum * 70000 + 99 ≤ 1000000000000) := by
      have h5 := HBD.out
      have := hby.2
      simp only [Nat.add_mul] at h5
      show _ ≤ _
      rw [List.length_append]; omega
    obtain ⟨sx, hsx⟩ : ∃ x, x = S[si] := ⟨_, rfl⟩
    rw [← hsx] at HW hstr0 HTc0 HBc0
    obtain ⟨str, hstr⟩ : ∃ x, x = strOfNums sx := ⟨_, rfl⟩
    rw [← hstr] at HW hstr0
    have c0 : (w.alloc (.cells #[.int .i64 nk, .int .i64 ns, .slice za len ca] 39)).cell? ⟨P, 0, none⟩ = some (.slice (some ⟨gs, os, none⟩) SL cs) := HP1.out.sets
    have hgs : gs < w.heap.size + 1 := by have := hWs.1; simpa using this
    subst hsi
    have hE1 : (w.alloc (.cells #[.int .i64 nk, .int .i64 (si : Int), .slice za len ca] 39)).cell? ⟨w.heap.size, 1, none⟩ = some (.int .i64 (si : Int)) := cell_of_row _ _ 1 _ _ _ HEA.out
    have HKEEP : Hid (∀ W, PrAt base P W (.slice (some ⟨gs, os, none⟩) SL cs) (zs ++ sx) → FrW P ((w.alloc (.cells #[.int .i64 nk, .int .i64 (si : Int), .slice za len ca] 39)).drewN 1) W → W.cell? ⟨P, 0, none⟩ = some (.slice (some ⟨gs, os, none⟩) SL cs) ∧ W.cell? ⟨w.heap.size, 1, none⟩ = some (.int .i64 (si : Int)) ∧ W.cell? ⟨gs, os + si, none⟩ = some (.string str)) := fun W hp hf => ⟨hp.sets, (hf.cell (k := w.heap.size) HWB.out 1).trans hE1, (hf.cell (k := gs) hWs (os + si)).trans hstr0⟩
    have HPD : Hid (∀ k, PrAt base P ((w.alloc (.cells #[.int .i64 nk, .int .i64 (si : Int), .slice za len ca] 39)).drewN k) (.slice (some ⟨gs, os, none⟩) SL cs) zs) := fun k => HP1.out.below (below_drewN' (Below.refl _ _) k)
    have HFD : Hid (FrW P (w.alloc (.cells #[.int .i64 nk, .int .i64 (si : Int), .slice za len ca] 39)) ((w.alloc (.cells #[.int .i64 nk, .int .i64 (si : Int), .slice za len ca] 39)).drewN 1)) := frw_below (below_drewN' (Below.refl _ _) 1) HP1.out.lt
    have hsi0 : (0 : Int) ≤ (si : Int) := by omega
    have hsi1 : (si : Int) < (SL : Int) := by omega
    have hPl1 : P < w.heap.size + 1 := by omega
    have HPL : Hid (P < w.heap.size) := hPl
    have hsiS : si < SL := hsl
    clear hi0 hi1 hk1 hstr hsx hSL hby HHD hWs HSI1
    go_enter Tryz.func56, Tryz.ntmps56
    go_wp2
    go_region_held3 (fun w' => w'.cell? ⟨P, 0, none⟩ = some (.slice (some ⟨gs, os, none⟩) SL cs) ∧ w'.cell? ⟨w.heap.size, 1, none⟩ = some (.int .i64 (si : Int)) ∧ w'.cell? ⟨gs, os + si, none⟩ = some (.string str)) (first | exact HKEEP.out _ hp5 hf5 | go_keep) ((go_at_call 55; refine (HW.out _ (by exact HPD.out 1)).mono ?_; rintro e wh ⟨rfl, hp5, hf5⟩))
    have HPc : Hid (PrAt base P wh (.slice (some ⟨gs, os, none⟩) SL cs) (zs ++ sx)) := hp5
    have HF2 : Hid (FrW P (w.alloc (.cells #[.int .i64 nk, .int .i64 (si : Int), .slice za len ca] 39)) wh) := HFD.out.trans hf5
    have HTc : Hid (T = (zs ++ sx) ++ (txK (txN f S) nk true n.kids ++ signT nk)) := HTc0
    have HBc : Hid ((zs ++ sx).length + (n.kids.map (Sz f)).sum * 70000 + 99 ≤ 1000000000000) := HBc0
    clear hp5 hf5 c0 hE1 hstr0
    have hEA2 : wh.heap[w.heap.size]? = some (.cells #[.int .i64 nk, .int .i64 (si : Int), .slice za len ca] 39 (0, 0)) := (HF2.out.keep _ HWB.out).1.trans HEA.out
    have HWB2 : Hid (Wk wh P w.heap.size) := (HF2.out.keep _ HWB.out).2
    have HFW : Hid (FrW P w wh) := HF1.out.trans HF2.out
    have HEA2 : Hid (wh.heap[w.heap.size]? = some (.cells #[.int .i64 nk, .int .i64 (si : Int), .slice za len ca] 39 (0, 0))) := hEA2
    have a22 : wh.cell? ⟨w.heap.size, 2, none⟩ = some (.slice za len ca) := cell_of_row _ _ 2 _ _ _ hEA2
    have hlt2 : w.heap.size < wh.heap.size := (Array.getElem?_eq_some_iff.1 hEA2).1
    clear hEA2
    go_wp2
    go_loopw [22] (fun x wr => ∃ (j : Nat) (cur : List Int), j ≤ len ∧ x = .int .i64 (j : Int) ∧ Hid (T = cur ++ (txK (txN f S) nk (decide (j = 0)) (n.kids.drop j) ++ signT nk)) ∧ Hid (cur.length + ((n.kids.drop j).map (Sz f)).sum * 70000 + 99 ≤ 1000000000000) ∧ Hid (PrAt base P wr (.slice (some ⟨gs, os, none⟩) SL cs) cur) ∧ Hid (FrW P wh wr)) (fun x _ => len - (intOf x).toNat)
    case atStart => exact ⟨0, _, Nat.zero_le _, rfl, (show _ = _ by rw [List.drop_zero]; exact HTc.out), (show _ ≤ _ by rw [List.drop_zero]; exact HBc.out), HPc, (FrW.refl _ _)⟩
    case round =>
      obtain ⟨j, cur, hj, rfl, HTj, HBj, HPj, HFj⟩ := hrel
      have hPlr : P < wr.heap.size := HPj.out.lt
      have hEA3 : wr.heap[w.heap.size]? = some (.cells #[.int .i64 nk, .int .i64 (si : Int), .slice za len ca] 39 (0, 0)) := (HFj.out.keep _ HWB2.out).1.trans HEA2.out
      have HEA3 : Hid (wr.heap[w.heap.size]? = some (.cells #[.int .i64 nk, .int .i64 (si : Int), .slice za len ca] 39 (0, 0))) := hEA3
      have HWB3 : Hid (Wk wr P w.heap.size) := (HFj.out.keep _ HWB2.out).2
      have a0 : wr.cell? ⟨w.heap.size, 0, none⟩ = some (.int .i64 nk) := cell_of_row _ _ 0 _ _ _ hEA3
      have hlt3 : w.heap.size < wr.heap.size := (Array.getElem?_eq_some_iff.1 hEA3).1
      clear hEA3
      by_cases hjl : j < len
      · have hjl' : decide ((j : Int) < (len : Int)) = true := by simp; omega
        have hjn : j < n.kids.length := by rw [← HLEN.out.1]; exact hjl
        obtain ⟨hca, ga, oa, xa, ka, yk, ys, yl, hyk, rfl, hga, p0, p1, p2, hcall⟩ := HHR.out j hjn
        have HFwr : Hid (FrW P w wr) := HFW.out.trans HFj.out
        have r0 : wr.cell? ⟨ga, oa + j * 3, none⟩ = some (.int .i64 yk) := (HFwr.out.cell hga _).trans p0
        have r1 : wr.cell? ⟨ga, oa + j * 3 + 1, none⟩ = some (.int .i64 ys) := (HFwr.out.cell hga _).trans p1
        have r2 : wr.cell? ⟨ga, oa + j * 3 + 2, none⟩ = some (.slice xa yl ka) := (HFwr.out.cell hga _).trans p2
        have hga' : ga < wr.heap.size := (HFwr.out.keep _ hga).2.1
        have hj0 : (0 : Int) ≤ (j : Int) := by omega
        have hj1 : (j : Int) < (len : Int) := by omega
        have hca2 : len ≤ ca := by rw [HLEN.out.1]; exact hca
        have hBK := below_alloc wr (.cells #[.int .i64 yk, .int .i64 ys, .slice xa yl ka] 39)
        have HF4 : Hid (FrW P wr (wr.alloc (.cells #[.int .i64 yk, .int .i64 ys, .slice xa yl ka] 39))) := frw_below hBK hPlr
        have HP4 : Hid (PrAt base P (wr.alloc (.cells #[.int .i64 yk, .int .i64 ys, .slice xa yl ka] 39)) (.slice (some ⟨gs, os, none⟩) SL cs) cur) := HPj.out.below hBK
        have HWK : Hid (Wk (wr.alloc (.cells #[.int .i64 yk, .int .i64 ys, .slice xa yl ka] 39)) P wr.heap.size) := HPj.out.fresh hBK (Nat.le_refl _) (by simp)
        have HEK : Hid ((wr.alloc (.cells #[.int .i64 yk, .int .i64 ys, .slice xa yl ka] 39)).heap[wr.heap.size]? = some (.cells #[.int .i64 yk, .int .i64 ys, .slice xa yl ka] 39 (0, 0))) := heap_new' wr _
        have HWB4 : Hid (Wk (wr.alloc (.cells #[.int .i64 yk, .int .i64 ys, .slice xa yl ka] 39)) P w.heap.size) := (HF4.out.keep _ HWB3.out).2
        have HEA4 : Hid ((wr.alloc (.cells #[.int .i64 yk, .int .i64 ys, .slice xa yl ka] 39)).heap[w.heap.size]? = some (.cells #[.int .i64 nk, .int .i64 (si : Int), .slice (some ⟨ga, oa, none⟩) len ca] 39 (0, 0))) := (HF4.out.keep _ HWB3.out).1.trans HEA3.out
        have ed : n.kids.drop j = n.kids[j] :: n.kids.drop (j + 1) := List.drop_eq_getElem_cons hjn
        have HTL : Hid ((txN f S n.kids[j]).length + 3 ≤ Sz f n.kids[j] * 70000) := txN_len (fun s hs => (HS.out s hs).2) f _
        have HTJ : Hid (T = cur ++ barT (decide (j = 0)) nk ++ brT (inBr yk nk) (txN f S n.kids[j]) ++ (txK (txN f S) nk (decide (j + 1 = 0)) (n.kids.drop (j + 1)) ++ signT nk)) := by
          have h5 := HTj.out
          rw [ed, txK] at h5
          show _ = _
          rw [h5, hyk]
          simp [List.append_assoc]
        have HBJ : Hid (cur.length + (Sz f n.kids[j] + ((n.kids.drop (j + 1)).map (Sz f)).sum) * 70000 + 99 ≤ 1000000000000) := by
          have h5 := HBj.out
          rw [ed] at h5
          show _ ≤ _
          simpa only [List.map_cons, List.sum_cons] using h5
        have HCALL : Hid (∀ (zs' : List Int) W, zs'.length + Sz f n.kids[j] * 70000 + 1 ≤ 1000000000000 → FrW P w W → PrAt base P W (.slice (some ⟨gs, os, none⟩) SL cs) zs' → Calls Tryz.prog 97 #[.pointer (some ⟨P, 0, none⟩), .agg #[.int .i64 yk, .int .i64 ys, .slice xa yl ka], .int .i64 nk] W fun e w'' => e = .returned (.tuple #[]) ∧ PrAt base P w'' (.slice (some ⟨gs, os, none⟩) SL cs) (zs' ++ brT (inBr yk nk) (txN f S n.kids[j])) ∧ FrW P W w'') := fun zs' W q1 q2 q3 => by
          have h5 := hcall zs' W q1 q2 q3
          rw [← hyk, ← HLEN.out.2.1] at h5
          exact h5
        have HNEXT : Hid (∀ (cur2 : List Int) w6, cur2.length ≤ cur.length + 1 → PrAt base P w6 (.slice (some ⟨gs, os, none⟩) SL cs) (cur2 ++ brT (inBr yk nk) (txN f S n.kids[j])) → cur2 = cur ++ barT (decide (j = 0)) nk → Hid (T = (cur2 ++ brT (inBr yk nk) (txN f S n.kids[j])) ++ (txK (txN f S) nk (decide (j + 1 = 0)) (n.kids.drop (j + 1)) ++ signT nk)) ∧ Hid ((cur2 ++ brT (inBr yk nk) (txN f S n.kids[j])).length + ((n.kids.drop (j + 1)).map (Sz f)).sum * 70000 + 99 ≤ 1000000000000)) := fun cur2 w6 hc _ he => by
          refine ⟨(show _ = _ by rw [HTJ.out, he]), (show _ ≤ _ from ?_)⟩
          have h6 := HBJ.out
          have h7 := HTL.out
          have h8 : (brT (inBr yk nk) (txN f S n.kids[j])).length ≤ (txN f S n.kids[j]).length + 2 := by unfold brT; split <;> simp
          rw [List.length_append]
          simp only [Nat.add_mul] at h6
          omega
        clear p0 p1 p2 hcall hca ed hyk HTj HBj hBK
        by_cases hbar : 0 < j ∧ nk = 2
        · obtain ⟨hb1, hb2⟩ := hbar
          have hbj : decide ((j : Int) > 0) = true := by simp; omega
          have hbk : (nk == 2) = true := by simpa using hb2
          have HBT : Hid (barT (decide (j = 0)) nk = [124]) := by
            have : decide (j = 0) = false := by simp; omega
            show _ = _
            simp [barT, this, hb2]
          have h1 : Calls Tryz.prog 55 #[.pointer (some ⟨P, 0, none⟩), .string ⟨#[124]⟩] (wr.alloc (.cells #[.int .i64 yk, .int .i64 ys, .slice xa yl ka] 39)) fun e w' => e = .returned (.tuple #[]) ∧ PrAt base P w' (.slice (some ⟨gs, os, none⟩) SL cs) (cur ++ [124]) ∧ FrW P (wr.alloc (.cells #[.int .i64 yk, .int .i64 ys, .slice xa yl ka] 39)) w' := write_any base P _ (.slice (some ⟨gs, os, none⟩) SL cs) cur [124] (by intro c hc; simp at hc; omega) (by have := HBJ.out; simp; omega) HP4.out
          clear hb2
          go_wp2_with fail
          refine h1.mono ?_
          rintro e w5 ⟨rfl, hp5, hf5⟩
          clear h1
          have HP5 : Hid (PrAt base P w5 (.slice (some ⟨gs, os, none⟩) SL cs) (cur ++ [124])) := hp5
          have HF5 : Hid (FrW P wr w5) := HF4.out.trans hf5
          have hPl5 := hp5.lt
          have hK5 : w5.heap[wr.heap.size]? = some (.cells #[.int .i64 yk, .int .i64 ys, .slice xa yl ka] 39 (0, 0)) := (hf5.keep _ HWK.out).1.trans HEK.out
          have hE5 : w5.heap[w.heap.size]? = some (.cells #[.int .i64 nk, .int .i64 (si : Int), .slice (some ⟨ga, oa, none⟩) len ca] 39 (0, 0)) := (hf5.keep _ HWB4.out).1.trans HEA4.out
          have k0 : w5.cell? ⟨wr.heap.size, 0, none⟩ = some (.int .i64 yk) := cell_of_row _ _ 0 _ _ _ hK5
          have k1 : w5.cell? ⟨wr.heap.size, 1, none⟩ = some (.int .i64 ys) := cell_of_row _ _ 1 _ _ _ hK5
          have k2 : w5.cell? ⟨wr.heap.size, 2, none⟩ = some (.slice xa yl ka) := cell_of_row _ _ 2 _ _ _ hK5
          have b0 : w5.cell? ⟨w.heap.size, 0, none⟩ = some (.int .i64 nk) := cell_of_row _ _ 0 _ _ _ hE5
          have hl5 : wr.heap.size < w5.heap.size := (Array.getElem?_eq_some_iff.1 hK5).1
          have hl6 : w.heap.size < w5.heap.size := (Array.getElem?_eq_some_iff.1 hE5).1
          have h2 := HCALL.out (cur ++ [124]) w5 (by have := HBJ.out; simp only [Nat.add_mul] at this; simp; omega) (HFwr.out.trans HF5.out) hp5
          clear hp5 hf5 hK5 hE5
          go_wp2_with fail
          refine h2.mono ?_
          rintro e w6 ⟨rfl, hp6, hf6⟩
          clear h2
          have HP6 : Hid (PrAt base P w6 (.slice (some ⟨gs, os, none⟩) SL cs) ((cur ++ [124]) ++ brT (inBr yk nk) (txN f S n.kids[j]))) := hp6
          have HF6 : Hid (FrW P wh w6) := HFj.out.trans (HF5.out.trans hf6)
          have HNX := HNEXT.out (cur ++ [124]) w6 (by simp) hp6 (by rw [HBT.out])
          clear hp6 hf6
          go_wp2
          go_roundw
          case rel => exact ⟨j + 1, _, by omega, by go_num, HNX.1, HNX.2, HP6, HF6⟩
          case measure => simp [intOf]; omega
        · have HBT : Hid (cur = cur ++ barT (decide (j = 0)) nk) := by
            show _ = _
            unfold barT
            rw [if_neg (fun q => hbar ⟨by have := q.1; simp at this; omega, q.2⟩), List.append_nil]
          have hK5 : (wr.alloc (.cells #[.int .i64 yk, .int .i64 ys, .slice xa yl ka] 39)).heap[wr.heap.size]? = some (.cells #[.int .i64 yk, .int .i64 ys, .slice xa yl ka] 39 (0, 0)) := HEK.out
          have h2 := HCALL.out cur (wr.alloc (.cells #[.int .i64 yk, .int .i64 ys, .slice xa yl ka] 39)) (by have := HBJ.out; simp only [Nat.add_mul] at this; omega) (HFwr.out.trans HF4.out) HP4.out
          have HF5 : Hid (FrW P wh (wr.alloc (.cells #[.int .i64 yk, .int .i64 ys, .slice xa yl ka] 39))) := HFj.out.trans HF4.out
          clear hK5
          by_cases hb1 : 0 < j
          · have hbj : decide ((j : Int) > 0) = true := by simp; omega
            have hbk : (nk == 2) = false := by
              have : nk ≠ 2 := fun q => hbar ⟨hb1, q⟩
              simpa using this
            clear hbar
            go_wp2_with fail
            refine h2.mono ?_
            rintro e w6 ⟨rfl, hp6, hf6⟩
            clear h2
            have HP6 : Hid (PrAt base P w6 (.slice (some ⟨gs, os, none⟩) SL cs) (cur ++ brT (inBr yk nk) (txN f S n.kids[j]))) := hp6
            have HF6 : Hid (FrW P wh w6) := HF5.out.trans hf6
            have HNX := HNEXT.out cur w6 (by omega) hp6 HBT.out
            clear hp6 hf6
            go_wp2
            go_roundw
            case rel => exact ⟨j + 1, _, by omega, by go_num, HNX.1, HNX.2, HP6, HF6⟩
            case measure => simp [intOf]; omega
          · obtain rfl : j = 0 := by omega
            simp only [Nat.zero_mul, Nat.add_zero] at r0 r1 r2
            clear hbar hb1
            go_wp2_with fail
            refine h2.mono ?_
            rintro e w6 ⟨rfl, hp6, hf6⟩
            clear h2
            have HP6 : Hid (PrAt base P w6 (.slice (some ⟨gs, os, none⟩) SL cs) (cur ++ brT (inBr yk nk) (txN f S n.kids[0]))) := hp6
            have HF6 : Hid (FrW P wh w6) := HF5.out.trans hf6
            have HNX := HNEXT.out cur w6 (by omega) hp6 HBT.out
            clear hp6 hf6
            go_wp2
            go_roundw
            case rel => exact ⟨0 + 1, _, by omega, by go_num, HNX.1, HNX.2, HP6, HF6⟩
            case measure => simp [intOf]; omega
      · have hjl' : decide ((j : Int) < (len : Int)) = false := by simp; omega
        have HTE : Hid (T = cur ++ signT nk) := by
          have h5 := HTj.out
          rw [List.drop_eq_nil_of_le (by rw [← HLEN.out.1]; omega)] at h5
          show _ = _
          rw [h5]
          rfl
        have h1 := signOf_any nk wr
        have h2 := write_any base P wr (.slice (some ⟨gs, os, none⟩) SL cs) cur (signT nk) (signT_byt nk) (by have := HBj.out; have := signT_len nk; omega) HPj.out
        obtain ⟨str, hstr⟩ : ∃ x, x = strOfNums (signT nk) := ⟨_, rfl⟩
        rw [← hstr] at h1 h2
        have HFE : Hid (FrW P w wr) := HFW.out.trans HFj.out
        clear hstr
        go_wp2_with fail
        refine h1.mono ?_
        rintro e w5 ⟨rfl, rfl⟩
        clear h1
        go_wp2_with fail
        refine h2.mono ?_
        rintro e w6 ⟨rfl, hp6, hf6⟩
        clear h2
        go_wp2
        first | go_end0 | (refine bodyPost_ret (by simp [results, Tryz.f56, go_sem]; rfl) rfl ?_)
        rw [HTE.out]
        exact ⟨rfl, hp6, HFE.out.trans hf6⟩
  · have hk1' : (nk == 1) = false := by simpa using hk1
    have HTc : Hid (T = zs ++ (txK (txN f S) nk true n.kids ++ signT nk)) := by
      show _ = _
      rw [HT.out, HLEN.out.2.1]
      unfold headT
      rw [if_neg (by rw [← HLEN.out.2.1]; exact hk1)]
      rfl
    have HBc : Hid (zs.length + (n.kids.map (Sz f)).sum * 70000 + 99 ≤ 1000000000000) := by
      have h5 := HBD.out
      simp only [Nat.add_mul] at h5
      show _ ≤ _
      omega
    have HPc : Hid (PrAt base P (w.alloc (.cells #[.int .i64 nk, .int .i64 ns, .slice za len ca] 39)) svv zs) := HP1
    have HF2 : Hid (FrW P (w.alloc (.cells #[.int .i64 nk, .int .i64 ns, .slice za len ca] 39)) (w.alloc (.cells #[.int .i64 nk, .int .i64 ns, .slice za len ca] 39))) := FrW.refl _ _
    clear hk1
    go_enter Tryz.func56, Tryz.ntmps56
    have hEA2 : (w.alloc (.cells #[.int .i64 nk, .int .i64 ns, .slice za len ca] 39)).heap[w.heap.size]? = some (.cells #[.int .i64 nk, .int .i64 ns, .slice za len ca] 39 (0, 0)) := (HF2.out.keep _ HWB.out).1.trans HEA.out
    have HWB2 : Hid (Wk (w.alloc (.cells #[.int .i64 nk, .int .i64 ns, .slice za len ca] 39)) P w.heap.size) := (HF2.out.keep _ HWB.out).2
    have HFW : Hid (FrW P w (w.alloc (.cells #[.int .i64 nk, .int .i64 ns, .slice za len ca] 39))) := HF1.out.trans HF2.out
    have HEA2 : Hid ((w.alloc (.cells #[.int .i64 nk, .int .i64 ns, .slice za len ca] 39)).heap[w.heap.size]? = some (.cells #[.int .i64 nk, .int .i64 ns, .slice za len ca] 39 (0, 0))) := hEA2
    have a22 : (w.alloc (.cells #[.int .i64 nk, .int .i64 ns, .slice za len ca] 39)).cell? ⟨w.heap.size, 2, none⟩ = some (.slice za len ca) := cell_of_row _ _ 2 _ _ _ hEA2
    have hlt2 : w.heap.size < (w.alloc (.cells #[.int .i64 nk, .int .i64 ns, .slice za len ca] 39)).heap.size := (Array.getElem?_eq_some_iff.1 hEA2).1
    clear hEA2
    go_wp2
    go_loopw [22] (fun x wr => ∃ (j : Nat) (cur : List Int), j ≤ len ∧ x = .int .i64 (j : Int) ∧ Hid (T = cur ++ (txK (txN f S) nk (decide (j = 0)) (n.kids.drop j) ++ signT nk)) ∧ Hid (cur.length + ((n.kids.drop j).map (Sz f)).sum * 70000 + 99 ≤ 1000000000000) ∧ Hid (PrAt base P wr svv cur) ∧ Hid (FrW P (w.alloc (.cells #[.int .i64 nk, .int .i64 ns, .slice za len ca] 39)) wr)) (fun x _ => len - (intOf x).toNat)
    case atStart => exact ⟨0, _, Nat.zero_le _, rfl, (show _ = _ by rw [List.drop_zero]; exact HTc.out), (show _ ≤ _ by rw [List.drop_zero]; exact HBc.out), HPc, (FrW.refl _ _)⟩
    case round =>
      obtain ⟨j, cur, hj, rfl, HTj, HBj, HPj, HFj⟩ := hrel
      have hPlr : P < wr.heap.size := HPj.out.lt
      have hEA3 : wr.heap[w.heap.size]? = some (.cells #[.int .i64 nk, .int .i64 ns, .slice za len ca] 39 (0, 0)) := (HFj.out.keep _ HWB2.out).1.trans HEA2.out
      have HEA3 : Hid (wr.heap[w.heap.size]? = some (.cells #[.int .i64 nk, .int .i64 ns, .slice za len ca] 39 (0, 0))) := hEA3
      have HWB3 : Hid (Wk wr P w.heap.size) := (HFj.out.keep _ HWB2.out).2
      have a0 : wr.cell? ⟨w.heap.size, 0, none⟩ = some (.int .i64 nk) := cell_of_row _ _ 0 _ _ _ hEA3
      have hlt3 : w.heap.size < wr.heap.size := (Array.getElem?_eq_some_iff.1 hEA3).1
      clear hEA3
      by_cases hjl : j < len
      · have hjl' : decide ((j : Int) < (len : Int)) = true := by simp; omega
        have hjn : j < n.kids.length := by rw [← HLEN.out.1]; exact hjl
        obtain ⟨hca, ga, oa, xa, ka, yk, ys, yl, hyk, rfl, hga, p0, p1, p2, hcall⟩ := HHR.out j hjn
        have HFwr : Hid (FrW P w wr) := HFW.out.trans HFj.out
        have r0 : wr.cell? ⟨ga, oa + j * 3, none⟩ = some (.int .i64 yk) := (HFwr.out.cell hga _).trans p0
        have r1 : wr.cell? ⟨ga, oa + j * 3 + 1, none⟩ = some (.int .i64 ys) := (HFwr.out.cell hga _).trans p1
        have r2 : wr.cell? ⟨ga, oa + j * 3 + 2, none⟩ = some (.slice xa yl ka) := (HFwr.out.cell hga _).trans p2
        have hga' : ga < wr.heap.size := (HFwr.out.keep _ hga).2.1
        have hj0 : (0 : Int) ≤ (j : Int) := by omega
        have hj1 : (j : Int) < (len : Int) := by omega
        have hca2 : len ≤ ca := by rw [HLEN.out.1]; exact hca
        have hBK := below_alloc wr (.cells #[.int .i64 yk, .int .i64 ys, .slice xa yl ka] 39)
        have HF4 : Hid (FrW P wr (wr.alloc (.cells #[.int .i64 yk, .int .i64 ys, .slice xa yl ka] 39))) := frw_below hBK hPlr
        have HP4 : Hid (PrAt base P (wr.alloc (.cells #[.int .i64 yk, .int .i64 ys, .slice xa yl ka] 39)) svv cur) := HPj.out.below hBK
        have HWK : Hid (Wk (wr.alloc (.cells #[.int .i64 yk, .int .i64 ys, .slice xa yl ka] 39)) P wr.heap.size) := HPj.out.fresh hBK (Nat.le_refl _) (by simp)
        have HEK : Hid ((wr.alloc (.cells #[.int .i64 yk, .int .i64 ys, .slice xa yl ka] 39)).heap[wr.heap.size]? = some (.cells #[.int .i64 yk, .int .i64 ys, .slice xa yl ka] 39 (0, 0))) := heap_new' wr _
        have HWB4 : Hid (Wk (wr.alloc (.cells #[.int .i64 yk, .int .i64 ys, .slice xa yl ka] 39)) P w.heap.size) := (HF4.out.keep _ HWB3.out).2
        have HEA4 : Hid ((wr.alloc (.cells #[.int .i64 yk, .int .i64 ys, .slice xa yl ka] 39)).heap[w.heap.size]? = some (.cells #[.int .i64 nk, .int .i64 ns, .slice (some ⟨ga, oa, none⟩) len ca] 39 (0, 0))) := (HF4.out.keep _ HWB3.out).1.trans HEA3.out
        have ed : n.kids.drop j = n.kids[j] :: n.kids.drop (j + 1) := List.drop_eq_getElem_cons hjn
        have HTL : Hid ((txN f S n.kids[j]).length + 3 ≤ Sz f n.kids[j] * 70000) := txN_len (fun s hs => (HS.out s hs).2) f _
        have HTJ : Hid (T = cur ++ barT (decide (j = 0)) nk ++ brT (inBr yk nk) (txN f S n.kids[j]) ++ (txK (txN f S) nk (decide (j + 1 = 0)) (n.kids.drop (j + 1)) ++ signT nk)) := by
          have h5 := HTj.out
          rw [ed, txK] at h5
          show _ = _
          rw [h5, hyk]
          simp [List.append_assoc]
        have HBJ : Hid (cur.length + (Sz f n.kids[j] + ((n.kids.drop (j + 1)).map (Sz f)).sum) * 70000 + 99 ≤ 1000000000000) := by
          have h5 := HBj.out
          rw [ed] at h5
          show _ ≤ _
          simpa only [List.map_cons, List.sum_cons] using h5
        have HCALL : Hid (∀ (zs' : List Int) W, zs'.length + Sz f n.kids[j] * 70000 + 1 ≤ 1000000000000 → FrW P w W → PrAt base P W svv zs' → Calls Tryz.prog 97 #[.pointer (some ⟨P, 0, none⟩), .agg #[.int .i64 yk, .int .i64 ys, .slice xa yl ka], .int .i64 nk] W fun e w'' => e = .returned (.tuple #[]) ∧ PrAt base P w'' svv (zs' ++ brT (inBr yk nk) (txN f S n.kids[j])) ∧ FrW P W w'') := fun zs' W q1 q2 q3 => by
          have h5 := hcall zs' W q1 q2 q3
          rw [← hyk, ← HLEN.out.2.1] at h5
          exact h5
        have HNEXT : Hid (∀ (cur2 : List Int) w6, cur2.length ≤ cur.length + 1 → PrAt base P w6 svv (cur2 ++ brT (inBr yk nk) (txN f S n.kids[j])) → cur2 = cur ++ barT (decide (j = 0)) nk → Hid (T = (cur2 ++ brT (inBr yk nk) (txN f S n.kids[j])) ++ (txK (txN f S) nk (decide (j + 1 = 0)) (n.kids.drop (j + 1)) ++ signT nk)) ∧ Hid ((cur2 ++ brT (inBr yk nk) (txN f S n.kids[j])).length + ((n.kids.drop (j + 1)).map (Sz f)).sum * 70000 + 99 ≤ 1000000000000)) := fun cur2 w6 hc _ he => by
          refine ⟨(show _ = _ by rw [HTJ.out, he]), (show _ ≤ _ from ?_)⟩
          have h6 := HBJ.out
          have h7 := HTL.out
          have h8 : (brT (inBr yk nk) (txN f S n.kids[j])).length ≤ (txN f S n.kids[j]).length + 2 := by unfold brT; split <;> simp
          rw [List.length_append]
          simp only [Nat.add_mul] at h6
          omega
        clear p0 p1 p2 hcall hca ed hyk HTj HBj hBK
        by_cases hbar : 0 < j ∧ nk = 2
        · obtain ⟨hb1, hb2⟩ := hbar
          have hbj : decide ((j : Int) > 0) = true := by simp; omega
          have hbk : (nk == 2) = true := by simpa using hb2
          have HBT : Hid (barT (decide (j = 0)) nk = [124]) := by
            have : decide (j = 0) = false := by simp; omega
            show _ = _
            simp [barT, this, hb2]
          have h1 : Calls Tryz.prog 55 #[.pointer (some ⟨P, 0, none⟩), .string ⟨#[124]⟩] (wr.alloc (.cells #[.int .i64 yk, .int .i64 ys, .slice xa yl ka] 39)) fun e w' => e = .returned (.tuple #[]) ∧ PrAt base P w' svv (cur ++ [124]) ∧ FrW P (wr.alloc (.cells #[.int .i64 yk, .int .i64 ys, .slice xa yl ka] 39)) w' := write_any base P _ svv cur [124] (by intro c hc; simp at hc; omega) (by have := HBJ.out; simp; omega) HP4.out
          clear hb2
          go_wp2_with fail
          refine h1.mono ?_
          rintro e w5 ⟨rfl, hp5, hf5⟩
          clear h1
          have HP5 : Hid (PrAt base P w5 svv (cur ++ [124])) := hp5
          have HF5 : Hid (FrW P wr w5) := HF4.out.trans hf5
          have hPl5 := hp5.lt
          have hK5 : w5.heap[wr.heap.size]? = some (.cells #[.int .i64 yk, .int .i64 ys, .slice xa yl ka] 39 (0, 0)) := (hf5.keep _ HWK.out).1.trans HEK.out
          have hE5 : w5.heap[w.heap.size]? = some (.cells #[.int .i64 nk, .int .i64 ns, .slice (some ⟨ga, oa, none⟩) len ca] 39 (0, 0)) := (hf5.keep _ HWB4.out).1.trans HEA4.out
          have k0 : w5.cell? ⟨wr.heap.size, 0, none⟩ = some (.int .i64 yk) := cell_of_row _ _ 0 _ _ _ hK5
          have k1 : w5.cell? ⟨wr.heap.size, 1, none⟩ = some (.int .i64 ys) := cell_of_row _ _ 1 _ _ _ hK5
          have k2 : w5.cell? ⟨wr.heap.size, 2, none⟩ = some (.slice xa yl ka) := cell_of_row _ _ 2 _ _ _ hK5
          have b0 : w5.cell? ⟨w.heap.size, 0, none⟩ = some (.int .i64 nk) := cell_of_row _ _ 0 _ _ _ hE5
          have hl5 : wr.heap.size < w5.heap.size := (Array.getElem?_eq_some_iff.1 hK5).1
          have hl6 : w.heap.size < w5.heap.size := (Array.getElem?_eq_some_iff.1 hE5).1
          have h2 := HCALL.out (cur ++ [124]) w5 (by have := HBJ.out; simp only [Nat.add_mul] at this; simp; omega) (HFwr.out.trans HF5.out) hp5
          clear hp5 hf5 hK5 hE5
          go_wp2_with fail
          refine h2.mono ?_
          rintro e w6 ⟨rfl, hp6, hf6⟩
          clear h2
          have HP6 : Hid (PrAt base P w6 svv ((cur ++ [124]) ++ brT (inBr yk nk) (txN f S n.kids[j]))) := hp6
          have HF6 : Hid (FrW P (w.alloc (.cells #[.int .i64 nk, .int .i64 ns, .slice (some ⟨ga, oa, none⟩) len ca] 39)) w6) := HFj.out.trans (HF5.out.trans hf6)
          have HNX := HNEXT.out (cur ++ [124]) w6 (by simp) hp6 (by rw [HBT.out])
          clear hp6 hf6
          go_wp2
          go_roundw
          case rel => exact ⟨j + 1, _, by omega, by go_num, HNX.1, HNX.2, HP6, HF6⟩
          case measure => simp [intOf]; omega
        · have HBT : Hid (cur = cur ++ barT (decide (j = 0)) nk) := by
            show _ = _
            unfold barT
            rw [if_neg (fun q => hbar ⟨by have := q.1; simp at this; omega, q.2⟩), List.append_nil]
          have hK5 : (wr.alloc (.cells #[.int .i64 yk, .int .i64 ys, .slice xa yl ka] 39)).heap[wr.heap.size]? = some (.cells #[.int .i64 yk, .int .i64 ys, .slice xa yl ka] 39 (0, 0)) := HEK.out
          have h2 := HCALL.out cur (wr.alloc (.cells #[.int .i64 yk, .int .i64 ys, .slice xa yl ka] 39)) (by have := HBJ.out; simp only [Nat.add_mul] at this; omega) (HFwr.out.trans HF4.out) HP4.out
          have HF5 : Hid (FrW P (w.alloc (.cells #[.int .i64 nk, .int .i64 ns, .slice (some ⟨ga, oa, none⟩) len ca] 39)) (wr.alloc (.cells #[.int .i64 yk, .int .i64 ys, .slice xa yl ka] 39))) := HFj.out.trans HF4.out
          clear hK5
          by_cases hb1 : 0 < j
          · have hbj : decide ((j : Int) > 0) = true := by simp; omega
            have hbk : (nk == 2) = false := by
              have : nk ≠ 2 := fun q => hbar ⟨hb1, q⟩
              simpa using this
            clear hbar
            go_wp2_with fail
            refine h2.mono ?_
            rintro e w6 ⟨rfl, hp6, hf6⟩
            clear h2
            have HP6 : Hid (PrAt base P w6 svv (cur ++ brT (inBr yk nk) (txN f S n.kids[j]))) := hp6
            have HF6 : Hid (FrW P (w.alloc (.cells #[.int .i64 nk, .int .i64 ns, .slice (some ⟨ga, oa, none⟩) len ca] 39)) w6) := HF5.out.trans hf6
            have HNX := HNEXT.out cur w6 (by omega) hp6 HBT.out
            clear hp6 hf6
            go_wp2
            go_roundw
            case rel => exact ⟨j + 1, _, by omega, by go_num, HNX.1, HNX.2, HP6, HF6⟩
            case measure => simp [intOf]; omega
          · obtain rfl : j = 0 := by omega
            simp only [Nat.zero_mul, Nat.add_zero] at r0 r1 r2
            clear hbar hb1
            go_wp2_with fail
            refine h2.mono ?_
            rintro e w6 ⟨rfl, hp6, hf6⟩
            clear h2
            have HP6 : Hid (PrAt base P w6 svv (cur ++ brT (inBr yk nk) (txN f S n.kids[0]))) := hp6
            have HF6 : Hid (FrW P (w.alloc (.cells #[.int .i64 nk, .int .i64 ns, .slice (some ⟨ga, oa, none⟩) len ca] 39)) w6) := HF5.out.trans hf6
            have HNX := HNEXT.out cur w6 (by omega) hp6 HBT.out
            clear hp6 hf6
            go_wp2
            go_roundw
            case rel => exact ⟨0 + 1, _, by omega, by go_num, HNX.1, HNX.2, HP6, HF6⟩
            case measure => simp [intOf]; omega
      · have hjl' : decide ((j : Int) < (len : Int)) = false := by simp; omega
        have HTE : Hid (T = cur ++ signT nk) := by
          have h5 := HTj.out
          rw [List.drop_eq_nil_of_le (by rw [← HLEN.out.1]; omega)] at h5
          show _ = _
          rw [h5]
          rfl
        have h1 := signOf_any nk wr
        have h2 := write_any base P wr svv cur (signT nk) (signT_byt nk) (by have := HBj.out; have := signT_len nk; omega) HPj.out
        obtain ⟨str, hstr⟩ : ∃ x, x = strOfNums (signT nk) := ⟨_, rfl⟩
        rw [← hstr] at h1 h2
        have HFE : Hid (FrW P w wr) := HFW.out.trans HFj.out
        clear hstr
        go_wp2_with fail
        refine h1.mono ?_
        rintro e w5 ⟨rfl, rfl⟩
        clear h1
        go_wp2_with fail
        refine h2.mono ?_
        rintro e w6 ⟨rfl, hp6, hf6⟩
        clear h2
        go_wp2
        first | go_end0 | (refine bodyPost_ret (by simp [results, Tryz.f56, go_sem]; rfl) rfl ?_)
        rw [HTE.out]
        exact ⟨rfl, hp6, HFE.out.trans hf6⟩
set_option maxRecDepth 100000 in
set_option maxHeartbeats 4000000 in
theorem part_of (n : Nd) (za : Option Addr) (ca : Nat) (whole : Int) (base P : Nat) (svv : Value) (zs t : List Int) (m : Nat) (ht : t.length + 3 ≤ m) (hb : zs.length + m + 1 ≤ 1000000000000) (w : World) (hP : PrAt base P w svv zs)
    (hE : ∀ (zs' : List Int) W, zs'.length + m ≤ 1000000000000 → FrW P w W → PrAt base P W svv zs' → Calls Tryz.prog 56 #[.pointer (some ⟨P, 0, none⟩), .agg #[.int .i64 n.k, .int .i64 n.s, .slice za n.kids.length ca]] W fun e w'' => e = .returned (.tuple #[]) ∧ PrAt base P w'' svv (zs' ++ t) ∧ FrW P W w'') :
    Calls Tryz.prog 97 #[.pointer (some ⟨P, 0, none⟩), .agg #[.int .i64 n.k, .int .i64 n.s, .slice za n.kids.length ca], .int .i64 whole] w fun e w' => e = .returned (.tuple #[]) ∧ PrAt base P w' svv (zs ++ brT (inBr n.k whole) t) ∧ FrW P w w' := by
  have hPl := hP.lt
  have hBA := below_alloc w (.cells #[.int .i64 n.k, .int .i64 n.s, .slice za n.kids.length ca] 39)
  have HF1 : Hid (FrW P w (w.alloc (.cells #[.int .i64 n.k, .int .i64 n.s, .slice za n.kids.length ca] 39))) := frw_below hBA hPl
  have HP1 : Hid (PrAt base P (w.alloc (.cells #[.int .i64 n.k, .int .i64 n.s, .slice za n.kids.length ca] 39)) svv zs) := hP.below hBA
  have HWB : Hid (Wk (w.alloc (.cells #[.int .i64 n.k, .int .i64 n.s, .slice za n.kids.length ca] 39)) P w.heap.size) := hP.fresh hBA (Nat.le_refl _) (by simp)
  have HEA : Hid ((w.alloc (.cells #[.int .i64 n.k, .int .i64 n.s, .slice za n.kids.length ca] 39)).heap[w.heap.size]? = some (.cells #[.int .i64 n.k, .int .i64 n.s, .slice za n.kids.length ca] 39 (0, 0))) := heap_new' w _
  have HEX : Hid (∀ (zs' : List Int) W, zs'.length + m ≤ 1000000000000 → FrW P w W → PrAt base P W svv zs' → Calls Tryz.prog 56 #[.pointer (some ⟨P, 0, none⟩), .agg #[.int .i64 n.k, .int .i64 n.s, .slice za n.kids.length ca]] W fun e w'' => e = .returned (.tuple #[]) ∧ PrAt base P w'' svv (zs' ++ t) ∧ FrW P W w'') := hE
  obtain ⟨nk, hnk⟩ : ∃ x, x = n.k := ⟨_, rfl⟩
  obtain ⟨ns, hns⟩ : ∃ x, x = n.s := ⟨_, rfl⟩
  obtain ⟨len, hle⟩ : ∃ x, x = n.kids.length := ⟨_, rfl⟩
  rw [← hnk, ← hns, ← hle] at HF1 HP1 HWB HEA HEX ⊢
  have h1 := inBrackets_any nk whole (w.alloc (.cells #[.int .i64 nk, .int .i64 ns, .slice za len ca] 39))
  clear hE hP hBA hnk hns hle
  cases hbr : inBr nk whole with
  | false =>
    rw [hbr] at h1
    have h2 := HEX.out zs (w.alloc (.cells #[.int .i64 nk, .int .i64 ns, .slice za len ca] 39)) (by omega) HF1.out HP1.out
    clear hbr
    go_enter Tryz.func97, Tryz.ntmps97
    go_wp2_with fail
    refine h1.mono ?_
    rintro e w1 ⟨rfl, rfl⟩
    clear h1
    go_wp2_with fail
    refine h2.mono ?_
    rintro e w2 ⟨rfl, hp2, hf2⟩
    clear h2
    go_wp2
    first | go_end0 | (refine bodyPost_ret (by simp [results, Tryz.f97, go_sem]; rfl) rfl ?_)
    exact ⟨rfl, hp2, HF1.out.trans hf2⟩
  | true =>
    rw [hbr] at h1
    have h2 : Calls Tryz.prog 55 #[.pointer (some ⟨P, 0, none⟩), .string ⟨#[40]⟩] (w.alloc (.cells #[.int .i64 nk, .int .i64 ns, .slice za len ca] 39)) fun e w' => e = .returned (.tuple #[]) ∧ PrAt base P w' svv (zs ++ [40]) ∧ FrW P (w.alloc (.cells #[.int .i64 nk, .int .i64 ns, .slice za len ca] 39)) w' := write_any base P _ svv zs [40] (by intro c hc; simp at hc; omega) (by simp; omega) HP1.out
    clear hbr
    go_enter Tryz.func97, Tryz.ntmps97
    go_wp2_with fail
    refine h1.mono ?_
    rintro e w1 ⟨rfl, rfl⟩
    clear h1
    go_wp2_with fail
    refine h2.mono ?_
    rintro e w2 ⟨rfl, hp2, hf2⟩
    clear h2
    have hE2 : w2.heap[w.heap.size]? = some (.cells #[.int .i64 nk, .int .i64 ns, .slice za len ca] 39 (0, 0)) := (hf2.keep _ HWB.out).1.trans HEA.out
    have c0 : w2.cell? ⟨w.heap.size, 0, none⟩ = some (.int .i64 nk) := cell_of_row _ _ 0 _ _ _ hE2
    have c1 : w2.cell? ⟨w.heap.size, 1, none⟩ = some (.int .i64 ns) := cell_of_row _ _ 1 _ _ _ hE2
    have c2 : w2.cell? ⟨w.heap.size, 2, none⟩ = some (.slice za len ca) := cell_of_row _ _ 2 _ _ _ hE2
    have hlt : w.heap.size < w2.heap.size := (Array.getElem?_eq_some_iff.1 hE2).1
    have HF2 : Hid (FrW P w w2) := HF1.out.trans hf2
    have h3 := HEX.out (zs ++ [40]) w2 (by simp; omega) HF2.out hp2
    clear hE2 hf2 hp2
    go_wp2_with fail
    refine h3.mono ?_
    rintro e w3 ⟨rfl, hp3, hf3⟩
    clear h3
    have HF3 : Hid (FrW P w w3) := HF2.out.trans hf3
    have h4 : Calls Tryz.prog 55 #[.pointer (some ⟨P, 0, none⟩), .string ⟨#[41]⟩] w3 fun e w' => e = .returned (.tuple #[]) ∧ PrAt base P w' svv (zs ++ [40] ++ t ++ [41]) ∧ FrW P w3 w' := write_any base P _ svv (zs ++ [40] ++ t) [41] (by intro c hc; simp at hc; omega) (by simp; omega) hp3
    clear hp3 hf3 c0 c1 c2
    go_wp2_with fail
    refine h4.mono ?_
    rintro e w4 ⟨rfl, hp4, hf4⟩
    clear h4
    go_wp2
    first | go_end0 | (refine bodyPost_ret (by simp [results, Tryz.f97, go_sem]; rfl) rfl ?_)
    refine ⟨rfl, ?_, HF3.out.trans hf4⟩
    have e : zs ++ brT true t = zs ++ [40] ++ t ++ [41] := by simp [brT]
    rw [e]
    exact hp4
theorem expression_any (S : List (List Int)) (hS : ∀ s ∈ S, Byt s ∧ s.length ≤ 69900) (base P : Nat) (svv : Value) : ∀ (d : Nat) (n : Nd) (z : Value) (zs : List Int) (w : World), Dp d n.kids → SIn d S.length n → zs.length + Sz d n * 70000 ≤ 1000000000000 → PrAt base P w svv zs → StrIn (Wk w P) w svv S → KdX (Wk w P) w z n.kids →
    Calls Tryz.prog 56 #[.pointer (some ⟨P, 0, none⟩), ndV n z] w fun e w' => e = .returned (.tuple #[]) ∧ PrAt base P w' svv (zs ++ txN d S n) ∧ FrW P w w'
  | 0, n, z, zs, w, hd, hsi, hb, hP, hSI, hz => by
    obtain ⟨a, ca, rfl, _⟩ := hz.slice
    have h0 : n.kids = [] := hd
    have hb' : zs.length + 1 * 70000 ≤ 1000000000000 := hb
    have := expression_body n a ca 0 base P svv S hS zs (by rw [h0]; simp) (by rw [h0]; simp; omega) w hP hSI hsi.here (fun i hi => by rw [h0] at hi; cases hi)
    have e : headT S n ++ (txK (txN 0 S) n.k true n.kids ++ signT n.k) = txN 0 S n := by rw [h0]; rfl
    rw [e] at this
    exact this
  | d + 1, n, z, zs, w, hd, hsi, hb, hP, hSI, hz => by
    obtain ⟨a, ca, rfl, _⟩ := hz.slice
    have hb' : zs.length + (1 + (n.kids.map (Sz d)).sum) * 70000 ≤ 1000000000000 := hb
    refine expression_body n a ca d base P svv S hS zs hd.1 hb' w hP hSI hsi.here (fun i hi => ?_)
    obtain ⟨g, off, cap, z', e1, e2, e3, e4, e5, e6, e7⟩ := hz.at i hi
    obtain ⟨rfl, _, rfl⟩ : a = some ⟨g, off, none⟩ ∧ n.kids.length = n.kids.length ∧ ca = cap := by simpa using e1
    obtain ⟨xa, xc, rfl, _⟩ := e7.slice
    refine ⟨e2, g, off, xa, xc, rfl, e3, e4, e5, e6, fun zs' W h1 hF hP' => ?_⟩
    refine part_of n.kids[i] xa xc n.k base P svv zs' (txN d S n.kids[i]) (Sz d n.kids[i] * 70000) (txN_len (fun s hs => (hS s hs).2) d _) h1 W hP' (fun zs2 W2 h2 hF2 hP2 => ?_)
    have hk : ∀ k, Wk w P k → W2.heap[k]? = w.heap[k]? ∧ Wk W2 P k := fun k hk => (hF.trans hF2).keep k hk
    exact expression_any S hS base P svv d n.kids[i] _ zs2 W2 (hd.2 _ (List.getElem_mem hi)) (hsi.2 _ (List.getElem_mem hi)) h2 hP2 (hSI.to hk) (e7.to hk)
end Go.Proofs.YtfdjchnckjgapaaGreatDoor
