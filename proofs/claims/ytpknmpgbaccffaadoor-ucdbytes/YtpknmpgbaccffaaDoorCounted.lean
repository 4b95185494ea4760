/-
  trie.Trie.counted, unlike.
-/
import Derived.Test.YtpknmpgbaccffaaDoorLoadMath
namespace Go.Proofs.YtpknmpgbaccffaaDoor
open Go.RowKit
set_option linter.unusedVariables false

theorem Tryd.undL8 : Tryd.prog.underlying 77 = some (.array 4352 5) := by kernel_rfl

set_option maxRecDepth 100000 in
set_option maxHeartbeats 2000000 in
theorem counted_any (like : List Int) (F : List (List Int)) (pv : Value) (w : World) (ht : TrieAt w.heap.size w pv like F) (hl : like.length = 4352) (hb : ByL like) :
    Calls Tryd.prog 47 #[pv] w fun e w' => e = .returned (.bool (decide (cntFrom 0 like = some (F.length : Int)))) ∧ Below w.heap.size w w' := by
  obtain ⟨g, gb, cap, rfl, hg, hgb, hgc, hrg, hcap⟩ := ht
  have hcf : w.cell? ⟨g, 4352, none⟩ = some (.slice (some ⟨gb, 0, none⟩) F.length cap) := cell_row hgc (trCells_at hl)
  have hR : w.rangeAt g 0 (i8 like) := fun j u hj => by
    rw [Nat.zero_add]
    refine cell_row hgc ?_
    unfold trCells
    rw [List.getElem?_append_left (List.getElem?_eq_some_iff.1 hj).1]
    exact hj
  have HI : Hid ((Tryd.prog.info? 77).map (·.size) = some (i8 like).length) := by show _ = _; rw [i8_length, hl]; exact Tryd.sizeLike8
  have HR : Hid (w.rangeAt g 0 (i8 like)) := hR
  have HLI : Hid (∀ i, (h : i < 4352) → (i8 like).toArray[i]? = some (.int .u8 (like[i]'(by omega)))) := fun i h => by
    rw [List.getElem?_toArray]; exact i8_get (by omega)
  obtain ⟨res, hres⟩ : ∃ res, res = decide (cntFrom 0 like = some (F.length : Int)) := ⟨_, rfl⟩
  rw [← hres]
  have HRES : Hid (res = decide (cntFrom 0 like = some (F.length : Int))) := hres
  have HL : Hid (like.length = 4352) := hl
  clear hgc hrg hR hres
  go_enter Tryd.func47, Tryd.ntmps47
  go_wp2_with (first | (refine wpList_load_mid rfl 77 _ rfl g 0 rfl (i8 like) _ HR.out Tryd.undL8 rfl HI.out ?_) | fail)
  obtain ⟨LI, hLI⟩ : ∃ LI, LI = (i8 like).toArray := ⟨_, rfl⟩
  have HLD : Hid (LI = (i8 like).toArray) := hLI
  rw [← hLI]
  clear hLI
  go_loopw [3, 10] (fun y x wr => ∃ k m : Nat, k ≤ 4352 ∧ x = .int .i64 k ∧ y = .int .i64 m ∧ m ≤ k ∧ cntFrom 0 (like.take k) = some (m : Int) ∧ wr = w) (fun _ x _ => 4352 - (intOf x).toNat)
  case atStart => exact ⟨0, 0, Nat.zero_le _, rfl, rfl, Nat.le_refl _, rfl, rfl⟩
  case round =>
    obtain ⟨k, m, hk, rfl, rfl, hmk, hcnt, rfl⟩ := hrel
    have HCN : Hid (cntFrom 0 (like.take k) = some (m : Int)) := hcnt
    clear hcnt
    by_cases hlt : k < 4352
    · have hlt' : (k : Int) < 4352 := by omega
      have hkl : k < like.length := by omega
      obtain ⟨n, hn⟩ : ∃ n, n = like[k] := ⟨_, rfl⟩
      have hnb := hb like[k] (List.getElem_mem hkl)
      rw [← hn] at hnb
      have hIX : ∀ w', (Instr.index 77 (.agg LI) (.int .i64 (k : Int))).run Tryd.prog w' = .ok (.int .u8 n) w' := fun w' => run_index_at Tryd.undL8 Tryd.undU Tryd.sizeByte hlt (by rw [HLD.out, HLI.out k hlt, hn]) rfl w'
      have HTK : Hid (like.take (k + 1) = like.take k ++ [n]) := by show _ = _; rw [List.take_succ_eq_append_getElem hkl, hn]
      have HST : Hid (cntFrom 0 (like.take (k + 1)) = cnt1 m n) := by show _ = _; rw [HTK.out, cnt_snoc, HCN.out]; rfl
      clear hn
      obtain ⟨n1, n2⟩ := hnb
      by_cases q1 : (m : Int) < n
      · have e0 : res = false := by
          rw [HRES.out]
          have : cntFrom 0 like = none := by
            have h1 : cntFrom 0 (like.take (k + 1)) = none := by rw [HST.out]; unfold cnt1; rw [if_pos q1]
            have h2 := cnt_none _ (like.drop (k + 1)) _ h1
            rwa [List.take_append_drop] at h2
          rw [this]; rfl
        subst e0
        go_wp2
        go_ret
        exact ⟨rfl, Below.refl _ _⟩
      · by_cases q2 : n = (m : Int)
        · subst q2
          go_wp2
          go_roundw
          case rel => exact ⟨k + 1, m + 1, by omega, by go_num, by go_num, by omega, by rw [HST.out]; unfold cnt1; rw [if_neg q1, if_pos rfl]; simp, trivial⟩
          case measure => simp [intOf]; omega
        · have q3 : ¬ (n = (m : Int)) := q2
          go_wp2
          go_roundw
          case rel => exact ⟨k + 1, m, by omega, by go_num, rfl, by omega, by rw [HST.out]; unfold cnt1; rw [if_neg q1, if_neg q2], trivial⟩
          case measure => simp [intOf]; omega
    · obtain rfl : k = 4352 := by omega
      have e1 : like.take 4352 = like := List.take_of_length_le (by omega)
      have hc := HCN.out
      rw [e1] at hc
      have HE : Hid (res = ((m : Int) == (F.length : Int))) := by
        show _ = _
        rw [HRES.out, hc]
        by_cases e : (m : Int) = (F.length : Int)
        · rw [e]; simp
        · have e2 : ((m : Int) == (F.length : Int)) = false := by simpa using e
          rw [e2]
          simpa using e
      clear hc e1
      go_wp2
      go_ret
      refine ⟨?_, Below.refl _ _⟩
      rw [HE.out]
      rfl

/-- len in a region that draws its order. -/
theorem yields_len {P : Program} {ops : Array Oper} {S : World → Prop} {op : Oper} {a : Act} (hw : Region.wanted op (yielded ops a.tmps) = true) {t : TypeId} {m : Operand} (ho : op.op = .call { callee := .builtin .len, args := #[m], argTypes := #[t] }) {mv res : Value}
    (hm : a.eval m = mv) (hS : ∀ w, S w → ∀ ty, (Builtin.len_ #[t] ty #[mv]).run P w = .ok res w) : YieldsIf P ops S op res a :=
  .inl ⟨hw, fun w hw' => by
    have h := hS w hw' op.type
    unfold execOp
    simp [ho, resolve, invoke, builtin, hm, h, Result.andThen]⟩
/-- What the map of unlike says. -/
def Kn (D : DataW Unit) (F : List (List Int)) : Prop := ∀ b, IsB b → (Maps.has D (kB b) = true ↔ b ∈ F)
theorem kn_put {D : DataW Unit} {F : List (List Int)} {b : List Int} (d : DataW Unit) (hD : Maps.IsMap D) (h : Kn D F) (hb : IsB b) : Kn (D.put (kB b) d) (F ++ [b]) := fun x hx => by
  by_cases e : x = b
  · subst e
    simp [Maps.has_put_same hD (kB_key _)]
  · have hne : kB x ≠ kB b := fun q => e (Tryd.kB_inj hx hb q)
    rw [Maps.has_put_other hne, h x hx]
    simp [e]

set_option maxRecDepth 100000 in
set_option maxHeartbeats 4000000 in
theorem unlike_any (like : List Int) (F : List (List Int)) (pv : Value) (w : World) (ht : TrieAt w.heap.size w pv like F) (hl : like.length = 4352) (hF : ∀ b ∈ F, IsB b) (hlen : F.length ≤ 256) :
    Calls Tryd.prog 48 #[pv] w fun e w' => e = .returned (.bool (decide ((firstsOf F).length = F.length))) ∧ Below w.heap.size w w' := by
  have hmm := @run_makeMap Tryd.prog
  have hzb := Tryd.zeroBlock
  obtain ⟨zb, hzB⟩ : ∃ zb, zb = (i8 zeroB).toArray := ⟨_, rfl⟩
  rw [← hzB] at hzb
  have HZS : Hid (zb.size = 256) := by show _ = _; rw [hzB, List.size_toArray, i8_length, zeroB_length]
  clear hzB
  obtain ⟨g, gb, cap, rfl, hg, hgb, hgc, hrg, hcap⟩ := ht
  have hcf : ∀ w', Below w.heap.size w w' → w'.cell? ⟨g, 4352, none⟩ = some (.slice (some ⟨gb, 0, none⟩) F.length cap) := fun w' hw' => (hw'.cell (p := ⟨g, _, none⟩) hg).trans (cell_row hgc (trCells_at hl))
  have HCF : Hid (∀ w', Below w.heap.size w w' → w'.cell? ⟨g, 4352, none⟩ = some (.slice (some ⟨gb, 0, none⟩) F.length cap)) := hcf
  have HBL : Hid (∀ k, (h : k < F.length) → w.rangeAt gb (k * 256) (i8 F[k])) := fun k h j u hj => by
    have := hrg (k * 256 + j) u (cellsBl_at (isB_even hF) h hj)
    rwa [Nat.zero_add] at this
  have hB0 : Below w.heap.size w (w.alloc (.map #[] 0)) := (Below.refl _ _).alloc (Nat.le_refl _) _
  have hcf0 := hcf _ hB0
  have HB0 : Hid (Below w.heap.size w (w.alloc (.map #[] 0))) := hB0
  have HM0 : Hid ((w.alloc (.map #[] 0)).ownsMap Tryd.prog 82 (plainElem (H := Unit) Tryd.prog 3) w.heap.size 0 (.map [])) := World.ownsMap_made w _ _ _
  obtain ⟨res, hres⟩ : ∃ res, res = decide ((firstsOf F).length = F.length) := ⟨_, rfl⟩
  rw [← hres]
  have HRES : Hid (res = decide ((firstsOf F).length = F.length)) := hres
  clear hgc hrg hcf hB0 hres
  go_enter Tryd.func48, Tryd.ntmps48
  go_wp2
  clear hcf0
  go_loopw [12] (fun x wr => ∃ k : Nat, k ≤ F.length ∧ x = .int .i64 k ∧ Below w.heap.size w wr ∧ w.heap.size < wr.heap.size ∧ ∃ D, wr.ownsMap Tryd.prog 82 (plainElem (H := Unit) Tryd.prog 3) w.heap.size k D ∧ Kn D (F.take k) ∧ Maps.size D = (firstsOf (F.take k)).length) (fun x _ => F.length - (intOf x).toNat)
  case atStart => exact ⟨0, Nat.zero_le _, rfl, HB0.out, by simp, .map [], HM0.out, fun b hb => by simp [Maps.has], by simp [Maps.size, firstsOf, firstsF]⟩
  case round =>
    obtain ⟨k, hk, rfl, hB, hbs, D, hmp, hkn, hsz⟩ := hrel
    obtain ⟨HB, HMP, HKN, HSZ⟩ : Hid (Below w.heap.size w wr) ∧ Hid (wr.ownsMap Tryd.prog 82 (plainElem (H := Unit) Tryd.prog 3) w.heap.size k D) ∧ Hid (Kn D (F.take k)) ∧ Hid (Maps.size D = (firstsOf (F.take k)).length) := ⟨hB, hmp, hkn, hsz⟩
    clear hmp hkn hsz HM0 HB0
    by_cases hlt : k < F.length
    · have hlt' : (k : Int) < (F.length : Int) := by omega
      obtain ⟨b, hb⟩ : ∃ b, b = F[k] := ⟨_, rfl⟩
      have hbB : IsB b := by rw [hb]; exact hF _ (List.getElem_mem hlt)
      have HRB : Hid (wr.rangeAt gb (k * 256) (i8 b)) := fun j u hj => (hB.cell (p := ⟨gb, k * 256 + j, none⟩) hgb).trans (HBL.out k hlt j u (by rw [← hb]; exact hj))
      have HTK : Hid (F.take (k + 1) = F.take k ++ [b]) := by show _ = _; rw [List.take_succ_eq_append_getElem hlt, hb]
      have HI : Hid ((Tryd.prog.info? 82).map (·.size) = some (i8 b).length) := by show _ = _; rw [i8_length, hbB.1]; exact Tryd.sizeBlock
      have HI2 : Hid ((Tryd.prog.info? 82).map (·.size) = some (i8 b).toArray.size) := by show _ = _; rw [List.size_toArray, i8_length, hbB.1]; exact Tryd.sizeBlock
      have HZ2 : Hid (zb.size = (i8 b).toArray.size) := by show _ = _; rw [HZS.out, List.size_toArray, i8_length, hbB.1]
      obtain ⟨wa, hwa⟩ : ∃ wa, wa = (wr.alloc (.cells zb 82)).setRow wr.heap.size (i8 b).toArray := ⟨_, rfl⟩
      have hwa2 : wa = wr.alloc (.cells (i8 b).toArray 82) := by rw [hwa, World.setRow_alloc_new]
      have HWA : Hid (wa = (wr.alloc (.cells zb 82)).setRow wr.heap.size (i8 b).toArray) := hwa
      have HRA : Hid (wa.rangeAt wr.heap.size 0 (i8 b)) := by rw [hwa2]; exact rangeAt_row (heap_new' wr _)
      have HMA : Hid (wa.ownsMap Tryd.prog 82 (plainElem (H := Unit) Tryd.prog 3) w.heap.size k D) := by rw [hwa2]; exact HMP.out.alloc _
      have HSA : Hid (w.heap.size < wa.heap.size) := by show _ < _; rw [hwa2]; simp; omega
      have HBA : Hid (Below w.heap.size w wa) := by show Below _ _ _; rw [hwa2]; exact HB.out.alloc (by omega) _
      clear hwa hwa2 hb hB
      go_wp2_with (first | (refine wpList_load_mid rfl 82 _ rfl gb (k * 256) rfl (i8 b) _ HRB.out Tryd.undB rfl HI.out ?_) | (refine wpList_store_row rfl 82 _ _ rfl wr.heap.size (i8 b).toArray rfl rfl 82 zb (heap_new' wr _) HI2.out HZ2.out (all_oneCell_toArray (i8_one b)) ?_; rw [← HWA.out]) | (refine wpList_load_mid rfl 82 _ rfl wr.heap.size 0 rfl (i8 b) _ HRA.out Tryd.undB rfl HI.out ?_) | (refine wpList_mapUpdate_own _ rfl _ _ _ 90 rfl 82 3 Tryd.keyLawB Tryd.undM _ w.heap.size k D rfl HMA.out (by unfold maxLen; omega) _ _ (kB b) rfl rfl (Tryd.keyBlock hbB) (.lit (.int .i64 (k : Int))) [] (plainElem_int Tryd.undI (WalkArith.wf_i64 (by omega))) ?_; intro w1 hm1 hg1) | fail)
      go_roundw
      case rel =>
        have hg1s := hg1.size
        refine ⟨k + 1, by omega, by go_num, HBA.out.grown hg1 (by have := HSA.out; omega) (fun j e => by
          have : w.heap.size = j := by simpa using e
          omega), by have := HSA.out; omega, _, hm1, ?_, ?_⟩
        · rw [HTK.out]; exact kn_put _ HMA.out.isMap HKN.out hbB
        · rw [Maps.size_put (HMA.out.tidy Tryd.keyLawB), HTK.out, firsts_snoc, HSZ.out]
          by_cases q : b ∈ F.take k
          · rw [if_pos ((HKN.out b hbB).2 q), if_pos q]
          · rw [if_neg (fun z => q ((HKN.out b hbB).1 z)), if_neg q]; simp
      case measure => simp [intOf]; omega
    · have hlt' : ¬ ((k : Int) < (F.length : Int)) := by omega
      have ek : F.take k = F := List.take_of_length_le (by omega)
      obtain ⟨nD, hnD⟩ : ∃ nD : Nat, nD = Maps.size D := ⟨_, rfl⟩
      have HE : Hid (res = ((nD : Int) == (F.length : Int))) := by
        show _ = _
        rw [HRES.out, hnD, HSZ.out, ek]
        by_cases e : (firstsOf F).length = F.length
        · rw [e]; simp
        · have e2 : (((firstsOf F).length : Int) == (F.length : Int)) = false := by simp; omega
          rw [e2]; simpa using e
      have HLN : Hid (∀ w', Below wr.heap.size wr w' → ∀ ty, (Builtin.len_ #[90] ty #[.map (some w.heap.size)]).run Tryd.prog w' = .ok (.int .i64 (nD : Int)) w') := fun w' hw' ty => by rw [hnD]; exact (ownsMap_below HMP.out hw').len Tryd.undM ty
      have HCF1 : Hid (∀ w', Below wr.heap.size wr w' → w'.cell? ⟨g, 4352, none⟩ = some (.slice (some ⟨gb, 0, none⟩) F.length cap)) := fun w' hw' => HCF.out w' (HB.out.trans (hw'.mono (by omega)))
      clear hnD ek hB
      go_wp2_with fail
      refine wp_region_bad (fun w' => Below wr.heap.size wr w') [] (by kernel_rfl) ((Below.refl _ _).drew) (fun hS => ?_)
      have hLN := HLN.out
      have hCF := HCF1.out
      refine wpAnyB_pure (i := 0) (v := .map (some w.heap.size)) rfl (by kernel_rfl) (fun _ _ _ h => h) (Or.inl ⟨by rfl, fun w _ => by go_simp⟩) hS ?_
      simp only [List.getElem_toArray, List.getElem_cons_zero, Act.put, List.setIfInBounds_toArray, List.set_cons_zero, List.set_cons_succ]
      refine wpAnyB_take [] (i := 1) (v := .int .i64 (nD : Int)) rfl (by kernel_rfl) (fun _ _ _ h => h) (yields_len (by rfl) rfl rfl (fun w' hw' => hLN w' hw')) hS ?_
      simp only [List.getElem_toArray, List.getElem_cons_succ, List.getElem_cons_zero, Act.put, List.setIfInBounds_toArray, List.set_cons_zero, List.set_cons_succ]
      refine wpAnyB_pure (i := 2) (v := .pointer (some ⟨g, 0, none⟩)) rfl (by kernel_rfl) (fun _ _ _ h => h) (Or.inl ⟨by rfl, fun w _ => by go_simp⟩) hS ?_
      simp only [List.getElem_toArray, List.getElem_cons_succ, List.getElem_cons_zero, Act.put, List.setIfInBounds_toArray, List.set_cons_zero, List.set_cons_succ]
      refine wpAnyB_pure (i := 3) (v := .pointer (some ⟨g, 0, none⟩)) rfl (by kernel_rfl) (fun _ _ _ h => h) (Or.inl ⟨by rfl, fun w _ => by go_simp⟩) hS ?_
      simp only [List.getElem_toArray, List.getElem_cons_succ, List.getElem_cons_zero, Act.put, List.setIfInBounds_toArray, List.set_cons_zero, List.set_cons_succ]
      refine wpAnyB_pure (i := 4) (v := .pointer (some ⟨g, 4352, none⟩)) rfl (by kernel_rfl) (fun _ _ _ h => h) (Or.inl ⟨by rfl, fun w _ => by go_simp⟩) hS ?_
      simp only [List.getElem_toArray, List.getElem_cons_succ, List.getElem_cons_zero, Act.put, List.setIfInBounds_toArray, List.set_cons_zero, List.set_cons_succ]
      refine wpAnyB_take [] (i := 5) (v := .slice (some ⟨gb, 0, none⟩) F.length cap) rfl (by kernel_rfl) (fun _ _ _ h => h) (Or.inl ⟨by rfl, fun w hSw => by have := hCF w hSw; go_simp⟩) hS ?_
      simp only [List.getElem_toArray, List.getElem_cons_succ, List.getElem_cons_zero, Act.put, List.setIfInBounds_toArray, List.set_cons_zero, List.set_cons_succ]
      refine wpAnyB_pure (i := 6) (v := .int .i64 (F.length : Int)) rfl (by kernel_rfl) (fun _ _ _ h => h) (Or.inl ⟨by rfl, fun w _ => by go_simp⟩) hS ?_
      simp only [List.getElem_toArray, List.getElem_cons_succ, List.getElem_cons_zero, Act.put, List.setIfInBounds_toArray, List.set_cons_zero, List.set_cons_succ]
      refine wpAnyB_pure (i := 7) (v := .bool ((nD : Int) == (F.length : Int))) rfl (by kernel_rfl) (fun _ _ _ h => h) (Or.inl ⟨by rfl, fun w _ => by go_simp⟩) hS ?_
      simp only [List.getElem_toArray, List.getElem_cons_succ, List.getElem_cons_zero, Act.put, List.setIfInBounds_toArray, List.set_cons_zero, List.set_cons_succ]
      refine wpAnyB_pure (i := 8) (v := .bool ((nD : Int) == (F.length : Int))) rfl (by kernel_rfl) (fun _ _ _ h => h) (Or.inl ⟨by rfl, fun w _ => by go_simp⟩) hS ?_
      simp only [List.getElem_toArray, List.getElem_cons_succ, List.getElem_cons_zero, Act.put, List.setIfInBounds_toArray, List.set_cons_zero, List.set_cons_succ]
      refine wpAnyB_done (by kernel_rfl) ?_ _
      refine NoPanic.normal ?_
      clear hLN hCF
      go_wp2
      go_ret
      refine ⟨?_, HB.out.trans (hS.mono (by omega))⟩
      rw [HE.out]
      rfl
end Go.Proofs.YtpknmpgbaccffaaDoor
