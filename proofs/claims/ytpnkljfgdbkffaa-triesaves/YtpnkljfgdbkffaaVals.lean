/-
  trie.Trie.values: the function that is ranged over: all numbers, rising, with their values.
-/
import Derived.Test.YtpnkljfgdbkffaaKept
namespace Go.Proofs.Ytpnkljfgdbkffaa
open Go.RowKit Go.Shelf
set_option linter.unusedVariables false
attribute [local go_sem] Oper.semAt_some

theorem Try.undL8' : Try.prog.underlying 56 = some (.array 4352 5) := by kernel_rfl
/-- A number and its value, as the program hands them out. -/
def encV (x : Int × Int) : Array Value := #[.int .i64 x.1, .int .u8 x.2]
/-- All numbers below k with their values. -/
def valsTo (like : List Int) (F : List (List Int)) (k : Nat) : List (Int × Int) := (List.range k).map fun (r : Nat) => ((r : Int), ofT like F (r : Int))
theorem valsTo_length (like : List Int) (F : List (List Int)) (k : Nat) : (valsTo like F k).length = k := by unfold valsTo; rw [List.length_map, List.length_range]
theorem valsTo_step (like : List Int) (F : List (List Int)) (k : Nat) : valsTo like F (k + 1) = valsTo like F k ++ [((k : Int), ofT like F (k : Int))] := by
  unfold valsTo; rw [List.range_succ, List.map_append]; rfl
/-- The value of a number by its block and its place. -/
theorem ofT_at {like : List Int} {F : List (List Int)} (hf : Fine like F) {i j m : Nat} (hi : i < 4352) (hj : j < 256) (hm : like[i]'(by rw [hf.len]; exact hi) = (m : Int)) (hmF : m < F.length) {u : Int} (hu : F[m][j]? = some u) : ofT like F ((i * 256 + j : Nat) : Int) = u := by
  have hil : i < like.length := by rw [hf.len]; exact hi
  unfold ofT
  rw [if_pos (by omega)]
  have e1 : (((i * 256 + j : Nat) : Int) / 256).toNat = i := by omega
  have e2 : (((i * 256 + j : Nat) : Int) % 256).toNat = j := by omega
  rw [e1, e2, List.getElem?_eq_getElem hil, Option.getD_some, hm, Int.toNat_natCast, flat_at (isB_even hf.isB) hmF hj, hu]
  rfl

set_option maxRecDepth 100000 in
set_option maxHeartbeats 4000000 in
theorem values1_in (n : Nat) (hn : 1 ≤ n) (l Bs n₀ B g gb cap : Nat) (like : List Int) (F : List (List Int)) (hfi : Fine like F) (hg : g < n₀) (hgb : gb < n₀) (J Jx : List (Int × Int) → World → Prop)
    (hY : ∀ pre x W1, J pre W1 → pre.length < 1114112 → YieldAt Fence.wide (n - 1) Try.prog l (encV x) W1 fun e W' =>
      (e = .returned (.bool true) ∧ J (pre ++ [x]) W' ∧ Kp1 n₀ B W1 W') ∨ (e = .returned (.bool false) ∧ Jx (pre ++ [x]) W'))
    (W : World) (hn₀ : n₀ ≤ W.heap.size) (hf : Fit1 B W) (hBc : Lies B W Bs #[.pointer (some ⟨g, 0, none⟩)] 24) (hT : W.heap[g]? = some (.cells (trCells like (.slice (some ⟨gb, 0, none⟩) F.length cap)).toArray 59 (0, 0))) (hR : W.rangeAt gb 0 (cellsBl F)) (h0 : J [] W) :
    CallsIn Fence.wide n Try.prog 31 #[.func (.yield l) #[] #[], .pointer (some ⟨Bs, 0, none⟩)] W fun e W' => (∃ v, e = .returned v) ∧
      ((∃ ys, ys = valsTo like F 1114112 ∧ J ys W') ∨ (∃ pre, True ∧ Jx pre W')) := by
  refine callsIn_of_wp Try.func31 rfl trivial ?_ rfl
  simp only [Try.ntmps31, List.size_toArray, List.length_cons, List.length_nil, Nat.reduceAdd, Nat.reduceSub, Array.replicate_succ, Array.replicate_zero, List.push_toArray, List.append_toArray, List.nil_append, List.cons_append]
  have hBx : W.cell? ⟨Bs, 0, none⟩ = some (.pointer (some ⟨g, 0, none⟩)) := hBc.cell 0
  have HR0 : Hid (W.rangeAt g 0 (i8 like)) := fun j u hj => by
    rw [Nat.zero_add]
    refine cell_row hT ?_
    unfold trCells
    rw [List.getElem?_append_left (List.getElem?_eq_some_iff.1 hj).1]
    exact hj
  have HI4 : Hid ((Try.prog.info? 56).map (·.size) = some (i8 like).length) := by show _ = _; rw [i8_length, hfi.len]; exact Try.sizeLike8
  have HCF : Hid (∀ W', Below n₀ W W' → W'.cell? ⟨g, 4352, none⟩ = some (.slice (some ⟨gb, 0, none⟩) F.length cap)) := fun W' hW' => (hW'.cell (p := ⟨g, _, none⟩) hg).trans (cell_row hT (trCells_at hfi.len))
  have HBL : Hid (∀ W', Below n₀ W W' → ∀ k, (h : k < F.length) → W'.rangeAt gb (k * 256) (i8 F[k])) := fun W' hW' k h j u hj => by
    have := hR (k * 256 + j) u (cellsBl_at (isB_even hfi.isB) h hj)
    rw [Nat.zero_add] at this
    exact (hW'.cell (p := ⟨gb, _, none⟩) hgb).trans this
  have HLI : Hid (∀ i, (h : i < 4352) → (i8 like).toArray[i]? = some (.int .u8 (like[i]'(by rw [hfi.len]; exact h)))) := fun i h => by
    rw [List.getElem?_toArray]; exact i8_get (by rw [hfi.len]; exact h)
  have HBc : Hid (Lies B W Bs #[.pointer (some ⟨g, 0, none⟩)] 24) := hBc
  have HFI : Hid (Fine like F) := hfi
  clear hBc hT hR
  gi_wp2_with (refine wpListIn_load_mid rfl 56 _ rfl g 0 rfl (i8 like) _ HR0.out Try.undL8' rfl HI4.out ?_)
  obtain ⟨LI, hLI⟩ : ∃ LI, LI = (i8 like).toArray := ⟨_, rfl⟩
  have HLD : Hid (LI = (i8 like).toArray) := hLI
  rw [← hLI]
  clear hLI hBx
  gi_loopw [11] (fun x wr => ∃ i : Nat, i ≤ 4352 ∧ x = .int .i64 i ∧ J (valsTo like F (i * 256)) wr ∧ Below n₀ W wr ∧ Fit1 B wr ∧ Lies B wr Bs #[.pointer (some ⟨g, 0, none⟩)] 24) (fun x _ => 4352 - (intOf x).toNat)
  case atStart => exact ⟨0, Nat.zero_le _, rfl, h0, Below.refl _ _, hf, HBc.out⟩
  case round =>
    obtain ⟨i, hi, rfl, hJs, hnx, hfx, hBl⟩ := hrel
    obtain ⟨HJS, HNX, HFX, HBl⟩ : Hid (J (valsTo like F (i * 256)) wr) ∧ Hid (Below n₀ W wr) ∧ Hid (Fit1 B wr) ∧ Hid (Lies B wr Bs #[.pointer (some ⟨g, 0, none⟩)] 24) := ⟨hJs, hnx, hfx, hBl⟩
    have hBx : wr.cell? ⟨Bs, 0, none⟩ = some (.pointer (some ⟨g, 0, none⟩)) := hBl.cell 0
    have hcf := HCF.out wr hnx
    clear hJs hnx hfx hBl
    by_cases hlt : i < 4352
    · have hlt' : (i : Int) < 4352 := by omega
      have hil : i < like.length := by rw [HFI.out.len]; exact hlt
      have hm0 := HFI.out.lt like[i] (List.getElem_mem hil)
      obtain ⟨m, hm⟩ : ∃ m : Nat, like[i] = (m : Int) := ⟨like[i].toNat, by omega⟩
      have hmF : m < F.length := by omega
      have hmF' : (m : Int) < (F.length : Int) := by omega
      have hIX : ∀ w', (Instr.index 56 (.agg LI) (.int .i64 (i : Int))).run Try.prog w' = .ok (.int .u8 (m : Int)) w' := fun w' => run_index_at Try.undL8' Try.undU Try.sizeByte hlt (by rw [HLD.out, HLI.out i hlt, hm]) rfl w'
      obtain ⟨b, hb⟩ : ∃ b, b = F[m] := ⟨_, rfl⟩
      have hbB : IsB b := by rw [hb]; exact HFI.out.isB _ (List.getElem_mem hmF)
      have HRB : Hid (wr.rangeAt gb (m * 256) (i8 b)) := by rw [hb]; exact HBL.out wr HNX.out m hmF
      have HIB : Hid ((Try.prog.info? 61).map (·.size) = some (i8 b).length) := by show _ = _; rw [i8_length, hbB.1]; exact Try.sizeBlock
      have HOF : Hid (∀ j, (h : j < 256) → ofT like F ((i * 256 + j : Nat) : Int) = b[j]'(by rw [hbB.1]; exact h)) := fun j h => by
        refine ofT_at HFI.out hlt h hm hmF ?_
        rw [← hb, List.getElem?_eq_getElem (by rw [hbB.1]; exact h)]
      obtain ⟨w0, rfl⟩ : ∃ w0, w0 = wr := ⟨_, rfl⟩
      clear hb hm hm0
      gi_wp2_with (refine wpListIn_load_mid rfl 61 _ rfl gb (m * 256) rfl (i8 b) _ HRB.out Try.undB rfl HIB.out ?_)
      obtain ⟨LB, hLB⟩ : ∃ LB, LB = (i8 b).toArray := ⟨_, rfl⟩
      have HLB : Hid (LB = (i8 b).toArray) := hLB
      rw [← hLB]
      clear hLB hBx hcf
      gi_loopw [22] (fun x wr => ∃ j : Nat, j ≤ 256 ∧ x = .int .i64 j ∧ J (valsTo like F (i * 256 + j)) wr ∧ Below n₀ W wr ∧ Fit1 B wr ∧ Lies B wr Bs #[.pointer (some ⟨g, 0, none⟩)] 24) (fun x _ => 256 - (intOf x).toNat)
      case atStart => exact ⟨0, Nat.zero_le _, rfl, HJS.out, HNX.out, HFX.out, HBl.out⟩
      case round =>
        obtain ⟨j, hj, rfl, hJj, hnj, hfj, hBj⟩ := hrel
        obtain ⟨HNJ, HFJ, HBJ⟩ : Hid (Below n₀ W wr) ∧ Hid (Fit1 B wr) ∧ Hid (Lies B wr Bs #[.pointer (some ⟨g, 0, none⟩)] 24) := ⟨hnj, hfj, hBj⟩
        clear hnj hfj hBj
        by_cases hjt : j < 256
        · have hjt' : (j : Int) < 256 := by omega
          have hjb : j < b.length := by rw [hbB.1]; exact hjt
          obtain ⟨u, hu⟩ : ∃ u, u = b[j] := ⟨_, rfl⟩
          have hIJ : ∀ w', (Instr.index 61 (.agg LB) (.int .i64 (j : Int))).run Try.prog w' = .ok (.int .u8 u) w' := fun w' => run_index_at Try.undB Try.undU Try.sizeByte hjt (by rw [HLB.out, List.getElem?_toArray, i8_get hjb, hu]) rfl w'
          have HST : Hid (valsTo like F (i * 256 + (j + 1)) = valsTo like F (i * 256 + j) ++ [((i : Int) * 256 + (j : Int), u)]) := by
            show _ = _
            rw [← Nat.add_assoc, valsTo_step, HOF.out j hjt, hu]
            congr 2
          obtain ⟨fn, tmps, assign, body, hy, hYR⟩ := hY (valsTo like F (i * 256 + j)) ((i : Int) * 256 + (j : Int), u) wr hJj (by rw [valsTo_length]; omega)
          dsimp only [encV] at hy
          clear hJj hu
          gi_wp2
          refine hYR.mono ?_
          rintro e W3 (⟨rfl, hJ3, hk3⟩ | ⟨rfl, hJx3⟩)
          · have HF3 : Hid (Fit1 B W3) := (hk3.2 HFJ.out).1
            have HB3 : Hid (Lies B W3 Bs #[.pointer (some ⟨g, 0, none⟩)] 24) := HBJ.out.kp HFJ.out hk3
            have HN3 : Hid (Below n₀ W W3) := HNJ.out.trans hk3.1
            have HJ3 : Hid (J (valsTo like F (i * 256 + (j + 1))) W3) := by show J _ _; rw [HST.out]; exact hJ3
            clear hJ3 hk3 hYR hy
            gi_wp2
            go_roundw
            case rel => exact ⟨j + 1, by omega, by go_num, HJ3.out, HN3.out, HF3.out, HB3.out⟩
            case measure => simp [intOf]; omega
          · clear hYR hy
            gi_wp2
            refine bodyPost_ret (results_none rfl _ _ _) rfl ?_
            exact ⟨⟨_, rfl⟩, .inr ⟨_, trivial, hJx3⟩⟩
        · obtain rfl : j = 256 := by omega
          have HJ3 : Hid (J (valsTo like F ((i + 1) * 256)) wr) := by
            have e : (i + 1) * 256 = i * 256 + 256 := by omega
            rw [e]; exact hJj
          clear hJj
          gi_wp2
          go_roundw
          case rel => exact ⟨i + 1, by omega, by go_num, HJ3.out, HNJ.out, HFJ.out, HBJ.out⟩
          case measure => simp [intOf]; omega
    · obtain rfl : i = 4352 := by omega
      clear hBx hcf
      gi_wp2
      go_end0
      exact ⟨⟨_, rfl⟩, .inl ⟨_, rfl, HJS.out⟩⟩

set_option maxHeartbeats 1000000 in
/-- values: the trie's pointer is boxed; the function value captures the box. -/
theorem values_in (n : Nat) (pv : Value) (w : World) (hp : ∃ ad, pv = .pointer (some ad)) :
    CallsIn Fence.wide n Try.prog 23 #[pv] w fun e w' => e = .returned (.func (.func 31) #[] #[.pointer (some ⟨w.heap.size, 0, none⟩)]) ∧ w.alloc (.cells #[pv] 24) = w' := by
  obtain ⟨ad, rfl⟩ := hp
  refine callsIn_of_wp Try.func23 rfl trivial ?_ rfl
  simp only [Try.ntmps23, List.size_toArray, List.length_cons, List.length_nil, Nat.reduceAdd, Nat.reduceSub, Array.replicate_succ, Array.replicate_zero, List.push_toArray, List.append_toArray, List.nil_append, List.cons_append]
  gi_wp2
  go_ret
  exact ⟨rfl, rfl⟩

/-- What values hands back, ranged over. -/
theorem values_stops (n : Nat) (hn : 1 ≤ n) (Bs n₀ B g gb cap : Nat) (like : List Int) (F : List (List Int)) (hfi : Fine like F) (hg : g < n₀) (hgb : gb < n₀) (w : World) (hn₀ : n₀ ≤ w.heap.size) (hf : Fit1 B w)
    (hc : Lies B w Bs #[.pointer (some ⟨g, 0, none⟩)] 24) (hT : w.heap[g]? = some (.cells (trCells like (.slice (some ⟨gb, 0, none⟩) F.length cap)).toArray 59 (0, 0))) (hR : w.rangeAt gb 0 (cellsBl F)) :
    SeqStopsK Fence.wide n Try.prog 31 #[.pointer (some ⟨Bs, 0, none⟩)] encV (Kp1 n₀ B) (fun ys => ys = valsTo like F 1114112) (fun pre => True) 1114112 w := fun l J Jx W hW hJ _ hY h0 => by
  have e : W.cell? ⟨B, 0, none⟩ = w.cell? ⟨B, 0, none⟩ := hW.cell (p := ⟨B, 0, none⟩) hf.1
  have hc' : Lies B W Bs #[.pointer (some ⟨g, 0, none⟩)] 24 := ⟨(hW.block Bs hc.lt).trans hc.1, fun o => hc.2 (o.elim .inl fun ⟨n, c, h⟩ => .inr ⟨n, c, by rw [← e]; exact h⟩)⟩
  have hf' : Fit1 B W := ⟨Nat.lt_of_lt_of_le hf.1 hW.size, fun k n c h => Nat.lt_of_lt_of_le (hf.2 k n c (by rw [← e]; exact h)) hW.size⟩
  exact values1_in n hn l Bs n₀ B g gb cap like F hfi hg hgb J Jx hY W (Nat.le_trans hn₀ hW.size) hf' hc' ((hW.block g (by omega)).trans hT) (fun j u hj => (hW.cell (p := ⟨gb, _, none⟩) (by show gb < _; omega)).trans (hR j u hj)) h0
end Go.Proofs.Ytpnkljfgdbkffaa
