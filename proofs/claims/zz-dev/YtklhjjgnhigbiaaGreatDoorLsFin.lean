/-
  least.finals.
-/
import Derived.Test.YtklhjjgnhigbiaaGreatDoorLsNew
namespace Go.Proofs.YtklhjjgnhigbiaaGreatDoor
open Go.RowKit Go.Shelf
set_option linter.unusedVariables false

set_option maxRecDepth 100000 in
set_option maxHeartbeats 8000000 in
theorem finals_any (N : List (List Int)) (F : List Bool) (dv : Value) (w : World) (hd : DfaAt w dv N F) (hr : rightD N F = true) :
    Calls Tryz.prog 52 #[dv] w fun e w' => ∃ v, e = .returned v ∧ w'.ownsRow w.heap.size 3 1 v (finS (mch N F)).length (cellP (finS (mch N F))) ∧ Below w.heap.size w w' := by
  obtain ⟨iI, hiI, hzI0, hzI1, hzI2⟩ := info_parts Tryz.infoInt
  obtain ⟨na, nc, fa, fc, rfl, hnc, hfc, hx, hfx⟩ := dfa_parts hd
  have hri := rightD_iff.1 hr
  have HAT : Hid (∀ W, Below w.heap.size w W → AtD W na fa N.length (N.getD 0 []).length (mch N F)) := fun W hb => at_of (hd.below hb) hr
  obtain ⟨n, hn⟩ : ∃ x, x = N.length := ⟨_, rfl⟩
  obtain ⟨m, hm⟩ : ∃ x, x = F.length := ⟨_, rfl⟩
  obtain ⟨M, hM⟩ : ∃ M, M = mch N F := ⟨_, rfl⟩
  have HN : Hid (M.n = n ∧ m = n) := ⟨by rw [hM, hn]; rfl, by omega⟩
  have hn5 : m ≤ 5000 := by omega
  rw [← hn, ← hM] at HAT
  rw [← hn, ← hm, ← hM]
  obtain ⟨W0, hW0⟩ : ∃ W, W = w.alloc (.cells #[.slice na n nc, .slice fa m fc] 35) := ⟨_, rfl⟩
  have hb0 : Below w.heap.size w W0 := by rw [hW0]; exact below_alloc _ _
  have h0 : DBox W0 w.heap.size (.slice na n nc) (.slice fa m fc) := by rw [hW0]; exact heap_new' _ _
  have HW0 : Hid (W0 = _) := hW0
  have HB0 : Hid (Below w.heap.size w W0 ∧ W0.heap.size = w.heap.size + 1) := ⟨hb0, by rw [hW0]; simp⟩
  have a1 := h0.c1
  have al := h0.lt
  clear hd hr hri hx hfx hn hm hM hb0 h0 hW0 hnc hfc
  go_enter Tryz.func52, Tryz.ntmps52
  go_upto_region 1 with fail
  rw [← HW0.out]
  go_wp2
  clear a1 al
  go_loopw [3, 9] (fun x3 x9 wr => ∃ i : Nat, i ≤ m ∧ x9 = .int .i64 (i : Int) ∧ Hid (wr.ownsRow W0.heap.size 3 1 x3 ((List.range i).filter M.f).length (cellP ((List.range i).filter M.f))) ∧ Hid (Below W0.heap.size W0 wr)) (fun _ x9 _ => m - (intOf x9).toNat)
  case atStart => exact ⟨0, Nat.zero_le _, rfl, World.ownsRow_nil _ _ _ _, Below.refl _ _⟩
  case round =>
    obtain ⟨i, hi, rfl, HR, HB⟩ := hrel
    by_cases hil : i < m
    · obtain ⟨gf, of, hfe, hgf, f0⟩ := (HAT.out wr (below_after HB0.out.1 HB.out)).2 i (by have := HN.out.2; omega)
      subst hfe
      obtain ⟨b, hb⟩ : ∃ b, b = M.f i := ⟨_, rfl⟩
      have HFL : Hid ((List.range (i + 1)).filter M.f = (List.range i).filter M.f ++ (if b then [i] else [])) := by
        show _ = _
        rw [List.range_succ, List.filter_append, hb]
        congr 1
        cases h : M.f i <;> simp [h]
      rw [← hb] at f0
      have hi0 : (0 : Int) ≤ (i : Int) := by omega
      have hi1 : (i : Int) < (m : Int) := by omega
      have hlen : ((List.range i).filter M.f).length ≤ i := by have := List.length_filter_le M.f (List.range i); rwa [List.length_range] at this
      have hsz := HB.out.size
      clear hb
      cases b with
      | false =>
        have HR2 : Hid (wr.ownsRow W0.heap.size 3 1 u3 ((List.range (i + 1)).filter M.f).length (cellP ((List.range (i + 1)).filter M.f))) := by
          rw [HFL.out, if_neg (by decide), List.append_nil]
          exact HR.out
        go_wp2
        go_roundw
        case rel => exact ⟨i + 1, by omega, by go_num, HR2, HB⟩
        case measure => simp [intOf]; omega
      | true =>
        obtain ⟨L, hL⟩ : ∃ L, L = (List.range i).filter M.f := ⟨_, rfl⟩
        rw [← hL] at HR HFL hlen
        clear hL
        obtain ⟨va, vn, vc, rfl⟩ := own_any HR.out
        have HFN : Hid (∀ w3 v', w3.ownsRow W0.heap.size 3 1 v' (L.length + 1) (cellP L ++ [.int .i64 (i : Int)]) → (wr.alloc (.cells #[.int .i64 (i : Int)] 3)).grownBy w3 (Value.slice va vn vc).ownBlock → Hid (w3.ownsRow W0.heap.size 3 1 v' ((List.range (i + 1)).filter M.f).length (cellP ((List.range (i + 1)).filter M.f))) ∧ Hid (Below W0.heap.size W0 w3)) := fun w3 v' ho hg => by
          refine ⟨?_, ?_⟩
          · rw [HFL.out, if_pos rfl, cellP_snoc, List.length_append, List.length_singleton]
            exact ho
          · exact (HB.out.alloc hsz _).grown hg (by simp; omega) (fun k e => (HR.out.lt k e).1)
        go_wp2_with (at_builtin; go_must (refine wpList_append_lies _ rfl _ _ 26 rfl W0.heap.size 3 iI (.int .i64 0) 1 8 Tryz.underlying26 hiI hzI0 hzI1 hzI2 rfl (by decide) _ _ _ rfl (HR.out.alloc _) ⟨wr.heap.size, 0, none⟩ 1 1 [.int .i64 (i : Int)] rfl rfl (World.news_of_block (by exact heap_new' _ _)) (by simp [Value.oneCell']) (by omega) (by unfold maxLen; omega) (by omega) (by simp; omega) _ rfl ?_); intro g3 c3 w3 ho3 hg3 hat3 _; obtain ⟨HR3, HB3⟩ := HFN.out w3 _ ho3 hg3; clear ho3 hg3 hat3)
        go_roundw
        case rel => exact ⟨i + 1, by omega, by go_num, HR3, HB3⟩
        case measure => simp [intOf]; omega
    · obtain rfl : i = m := by omega
      go_wp2
      go_ret
      refine ⟨_, rfl, ?_, below_after HB0.out.1 HB.out⟩
      have h1 := HN.out
      unfold finS
      rw [h1.1, ← h1.2]
      exact own_mono13 HR.out (by have := HB0.out.2; omega)
end Go.Proofs.YtklhjjgnhigbiaaGreatDoor
