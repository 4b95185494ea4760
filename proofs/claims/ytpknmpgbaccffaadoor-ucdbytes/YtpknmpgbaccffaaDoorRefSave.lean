/-
  scansionref03.Save.
-/
import Derived.Test.YtpknmpgbaccffaaDoorRefOf
namespace Go.Proofs.YtpknmpgbaccffaaDoor
open Go.RowKit
set_option linter.unusedVariables false

/-- The bytes so far. -/
def rsTo (F : List (List Int)) (L : List Nat) (i : Nat) : List Int := ((F.length : Int) - 1) :: (L.take i).map (fun k : Nat => (k : Int))
theorem rsTo_step {F : List (List Int)} {L : List Nat} {i : Nat} (h : i < L.length) : rsTo F L (i + 1) = rsTo F L i ++ [(L[i] : Int)] := by
  unfold rsTo
  rw [List.take_succ_eq_append_getElem h, List.map_append]
  rfl
theorem rsTo_length {F : List (List Int)} {L : List Nat} {i : Nat} (h : i ≤ L.length) : (rsTo F L i).length = 1 + i := by
  unfold rsTo
  simp
  omega

theorem owns_one8 (w : World) (x : Int) : (w.alloc (.cells #[.int .u8 x] 5)).ownsRow w.heap.size 5 1 (.slice (some ⟨w.heap.size, 0, none⟩) 1 1) 1 [.int .u8 x] :=
  ⟨rfl, .inr ⟨w.heap.size, 1, #[.int .u8 x], rfl, Nat.le_refl _, heap_new' w _, Nat.le_refl _, by unfold maxLen; omega, by simp, by simp⟩⟩
set_option maxRecDepth 100000 in
set_option maxHeartbeats 8000000 in
theorem refSave_any (n : Nat) (F : List (List Int)) (L : List Nat) (g : Nat) (w : World) (hn : n ≤ w.heap.size) (ht : RefAt n w g F L) (hF : 1 ≤ F.length) (hF2 : F.length ≤ 256) (hL : L.length = 4352) (hlt : ∀ x ∈ L, x < F.length) :
    Calls Tryd.prog 34 #[.pointer (some ⟨g, 0, none⟩)] w fun e w' => ∃ v, e = .returned v ∧ w'.ownsRow w.heap.size 5 1 v (4353 + F.length * 256) (i8 (rsTo F L 4352 ++ F.flatten)) ∧ Below w.heap.size w w' := by
  obtain ⟨iU, hiU, hzU0, hzU1, hzU2⟩ := info_parts Tryd.infoByte
  have HT : Hid (RefAt n w g F L) := ht
  obtain ⟨vF, vL, hng, hg, hoF, hoL, hisF⟩ := ht
  obtain ⟨aF, capF, rfl⟩ := slice_of_row hoF
  obtain ⟨aL, capL, rfl⟩ := slice_of_row hoL
  have hgl := heap_lt hg
  obtain ⟨gL, rfl, hgL⟩ : ∃ gL, aL = some ⟨gL, 0, none⟩ ∧ gL < w.heap.size := by
    rcases hoL.2 with ⟨_, h0⟩ | ⟨g', cap', cur, e, _, hg', _⟩
    · omega
    · exact ⟨g', by simpa using (by simpa using e : _ ∧ _).1, heap_lt hg'⟩
  obtain ⟨gF, rfl, hgF⟩ : ∃ gF, aF = some ⟨gF, 0, none⟩ ∧ gF < w.heap.size := by
    rcases hoF.2 with ⟨_, h0⟩ | ⟨g', cap', cur, e, _, hg', _⟩
    · omega
    · exact ⟨g', by simpa using (by simpa using e : _ ∧ _).1, heap_lt hg'⟩
  have HC0 : Hid (∀ w', Below w.heap.size w w' → w'.cell? ⟨g, 0, none⟩ = some (.slice (some ⟨gF, 0, none⟩) (F.length * 256) capF)) := fun w' hw' => (hw'.cell (p := ⟨g, 0, none⟩) hgl).trans (cell_row hg rfl)
  have HC1 : Hid (∀ w', Below w.heap.size w w' → w'.cell? ⟨g, 1, none⟩ = some (.slice (some ⟨gL, 0, none⟩) 4352 capL)) := fun w' hw' => (hw'.cell (p := ⟨g, 1, none⟩) hgl).trans (cell_row hg (by rw [← hL]; rfl))
  have HCL : Hid (∀ w', Below w.heap.size w w' → ∀ k (hk : k < L.length), w'.cell? ⟨gL, k, none⟩ = some (.int .i64 (L[k] : Int))) := fun w' hw' k hk => (hw'.cell (p := ⟨gL, k, none⟩) hgL).trans (by
    have := hoL.cells (g := gL) rfl k (.int .i64 (L[k] : Int)) (by rw [List.getElem?_map, List.getElem?_eq_getElem hk]; rfl)
    rw [Addr.add_mid, Nat.zero_add] at this
    exact this)
  have HCF : Hid (∀ w', Below w.heap.size w w' → ∀ j u, (cellsBl F)[j]? = some u → w'.cell? ((⟨gF, 0, none⟩ : Addr).add j) = some u) := fun w' hw' j u hj => by
    have := hoF.cells (g := gF) rfl j u hj
    rw [Addr.add_mid] at this ⊢
    exact (hw'.cell (p := ⟨gF, _, none⟩) hgF).trans this
  have HLEN : Hid ((cellsBl F).length = F.length * 256) := cellsBl_length (isB_even hisF)
  have HLTE : Hid (∀ x ∈ L, x < F.length) := hlt
  have HLL : Hid (L.length = 4352) := hL
  clear hg hoF hoL hisF hlt
  go_enter Tryd.func34, Tryd.ntmps34
  go_wp2_with fail
  refine (refBlocks_any n F L g w HT.out (by omega)).mono ?_
  rintro e wb ⟨rfl, hwb⟩
  obtain rfl : w = wb := hwb.symm
  have hw1 : IntKind.i64.wrap ((F.length : Int) - 1) = (F.length : Int) - 1 := IntWalk.i64_in _ (by omega)
  have hw2 : IntKind.u8.wrap ((F.length : Int) - 1) = (F.length : Int) - 1 := by
    have : IntKind.u8.wrap ((F.length : Int) - 1) = ((F.length : Int) - 1) % 256 := by simp [IntKind.wrap, IntKind.signed, IntKind.bits]
    omega
  have HO0 : Hid ((w.alloc (.cells #[.int .u8 ((F.length : Int) - 1)] 5)).ownsRow w.heap.size 5 1 (.slice (some ⟨w.heap.size, 0, none⟩) 1 1) (1 + 0) (i8 (rsTo F L 0))) := owns_one8 w _
  have HB0 : Hid (Below w.heap.size w (w.alloc (.cells #[.int .u8 ((F.length : Int) - 1)] 5))) := (Below.refl _ _).alloc (Nat.le_refl _) _
  clear hL
  go_wp2_with fail
  go_loopw [3, 4] (fun y x wr => ∃ k : Nat, k ≤ 4352 ∧ x = .int .i64 k ∧ wr.ownsRow w.heap.size 5 1 y (1 + k) (i8 (rsTo F L k)) ∧ Below w.heap.size w wr) (fun _ x _ => 4352 - (intOf x).toNat)
  case atStart => exact ⟨0, Nat.zero_le _, rfl, HO0.out, HB0.out⟩
  case round =>
    obtain ⟨k, hk, rfl, ho, hB⟩ := hrel
    have c0 := HC0.out wr hB
    have c1 := HC1.out wr hB
    have hbs := hB.size
    obtain ⟨HO, HB⟩ : Hid (wr.ownsRow w.heap.size 5 1 u3 (1 + k) (i8 (rsTo F L k))) ∧ Hid (Below w.heap.size w wr) := ⟨ho, hB⟩
    by_cases hlt : k < 4352
    · have hlt' : (k : Int) < 4352 := by omega
      have hkL : k < L.length := by rw [HLL.out]; exact hlt
      obtain ⟨x, hx⟩ : ∃ x : Nat, x = L[k] := ⟨_, rfl⟩
      have ck := HCL.out wr hB k hkL
      rw [← hx] at ck
      have hxl : x < F.length := by rw [hx]; exact HLTE.out _ (List.getElem_mem hkL)
      have HST : Hid (rsTo F L (k + 1) = rsTo F L k ++ [(x : Int)]) := by show _ = _; rw [rsTo_step hkL, hx]
      have hwx : IntKind.u8.wrap (x : Int) = (x : Int) := by
        have : IntKind.u8.wrap (x : Int) = (x : Int) % 256 := by simp [IntKind.wrap, IntKind.signed, IntKind.bits]
        omega
      have HOA : Hid ((wr.alloc (.cells #[.int .u8 (x : Int)] 5)).ownsRow w.heap.size 5 1 u3 (1 + k) (i8 (rsTo F L k))) := HO.out.alloc _
      have HNA : Hid ((wr.alloc (.cells #[.int .u8 (x : Int)] 5)).heap[wr.heap.size]? = some (.cells #[.int .u8 (x : Int)] 5 (0, 0))) := heap_new' wr _
      clear ho hB hx
      go_wp2_with (first | (at_builtin; refine wpList_append_own _ rfl _ _ 30 rfl w.heap.size 5 iU (.int .u8 0) 1 1 Tryd.undUs hiU hzU0 hzU1 hzU2 rfl (by decide) _ _ _ rfl HOA.out ⟨wr.heap.size, 0, none⟩ 1 1 [.int .u8 (x : Int)] rfl rfl (World.news_of_block HNA.out) (by simp [Value.oneCell']) (by unfold maxLen; omega) (by omega) (by simp; omega) ?_; intro v2 w2 ho2 hg2 _) | fail)
      go_roundw
      case rel =>
        refine ⟨k + 1, by omega, by go_num, ?_, ?_⟩
        · rw [HST.out, i8_append]
          exact ho2
        · exact (HB.out.alloc hbs _).grown hg2 (by simp; omega) (fun j e => (HOA.out.lt j e).1)
      case measure => simp [intOf]; omega
    · have hlt' : ¬ ((k : Int) < 4352) := by omega
      obtain rfl : k = 4352 := by omega
      have HSRC : Hid (∀ j u, (cellsBl F)[j]? = some u → wr.cell? ((⟨gF, 0, none⟩ : Addr).add j) = some u) := HCF.out wr hB
      clear ho hB hlt hlt'
      go_wp2_with (first | (at_builtin; refine wpList_append_own _ rfl _ _ 30 rfl w.heap.size 5 iU (.int .u8 0) 1 1 Tryd.undUs hiU hzU0 hzU1 hzU2 rfl (by decide) _ _ _ rfl HO.out ⟨gF, 0, none⟩ (F.length * 256) capF (cellsBl F) rfl (by rw [HLEN.out, Nat.mul_one]) HSRC.out (i8_one _) (by unfold maxLen; omega) (by omega) (by omega) ?_; intro v2 w2 ho2 hg2 _) | fail)
      go_ret
      refine ⟨_, rfl, ?_, HB.out.grown hg2 hbs (fun j e => (HO.out.lt j e).1)⟩
      rw [i8_append]
      exact ho2
end Go.Proofs.YtpknmpgbaccffaaDoor
