/-
  scansionref03.add: one block more.
-/
import Derived.Test.YtmknifnhcgdkaaaX33
namespace Go.Proofs.Ytmknifnhcgdkaaa.S3
open Go.RowKit
set_option linter.unusedVariables false

theorem Try.undIs : Try.prog.underlying 23 = some (.slice 3) := by kernel_rfl
theorem Try.undUs : Try.prog.underlying 86 = some (.slice 5) := by kernel_rfl
/-- Rows of unlike types lie apart. -/
theorem rows_apart {w : World} {b1 e1 s1 n1 b2 e2 s2 n2 : Nat} {v1 v2 : Value} {x1 x2 : List Value} (h1 : w.ownsRow b1 e1 s1 v1 n1 x1) (h2 : w.ownsRow b2 e2 s2 v2 n2 x2) (he : e1 ≠ e2) : v1.ownBlock = none ∨ v1.ownBlock ≠ v2.ownBlock := by
  rcases h2.2 with ⟨rfl, _⟩ | ⟨g, cap, cur, rfl, _, hg, _⟩
  · cases z : v1.ownBlock with
    | none => exact .inl rfl
    | some k => right; simp [Value.ownBlock]
  · right
    rcases h1.2 with ⟨rfl, _⟩ | ⟨g', cap', cur', rfl, _, hg', _⟩
    · simp [Value.ownBlock]
    · intro q
      have : g' = g := by simpa [Value.ownBlock] using q
      rw [this, hg] at hg'
      simp at hg'
      exact he hg'.2.symm
theorem set_grown (w : World) (g j : Nat) (v : Value) : w.grownBy (w.setCell ⟨g, j, none⟩ v) (some g) := ⟨rfl, rfl, rfl, by simp [World.setCell], fun k hk hne => heap_setCell_other _ _ _ _ (fun e => hne (by rw [e]))⟩

set_option maxRecDepth 100000 in
set_option maxHeartbeats 8000000 in
theorem add_any (n : Nat) (F : List (List Int)) (L : List Nat) (g : Nat) (b : List Int) (vb : Value) (w : World) (hn : n ≤ w.heap.size) (ht : RefAt n w g F L) (hb : BytesAt w.heap.size w vb b) (hib : IsB b) (hF : F.length ≤ 4352) (hL : L.length ≤ 4352) :
    Calls Try.prog 48 #[.pointer (some ⟨g, 0, none⟩), vb] w fun e w' => e = .returned (.tuple #[]) ∧ RefAt n w' g (addF F b) (L ++ [(addF F b).idxOf b]) ∧ Below n w w' := by
  obtain ⟨iI, hiI, hzI0, hzI1, hzI2⟩ := info_parts Try.infoInt
  obtain ⟨iU, hiU, hzU0, hzU1, hzU2⟩ := info_parts Try.infoByte
  have HT : Hid (RefAt n w g F L) := ht
  have HBB : Hid (BytesAt w.heap.size w vb b) := hb
  have HIB : Hid (IsB b) := hib
  obtain ⟨vF, vL, hng, hg, hoF, hoL, hisF⟩ := ht
  obtain ⟨aF, capF, hvF⟩ := slice_of_row hoF
  obtain ⟨aL, capL, rfl⟩ := slice_of_row hoL
  have hgl := heap_lt hg
  obtain ⟨HG, HOF, HOL, HIS⟩ : Hid (w.heap[g]? = some (.cells [vF, .slice aL L.length capL].toArray 88 (0, 0))) ∧ Hid (w.ownsRow n 5 1 vF (F.length * 256) (cellsBl F)) ∧ Hid (w.ownsRow n 3 1 (.slice aL L.length capL) L.length (L.map (fun k : Nat => Value.int .i64 (k : Int)))) ∧ Hid (∀ b ∈ F, IsB b) := ⟨hg, hoF, hoL, hisF⟩
  have HVF : Hid (vF = .slice aF (F.length * 256) capF) := hvF
  obtain ⟨F', hF'⟩ : ∃ F', F' = addF F b := ⟨_, rfl⟩
  obtain ⟨k', hk'⟩ : ∃ k', k' = F'.idxOf b := ⟨_, rfl⟩
  have HF' : Hid (F' = addF F b) := hF'
  have HK' : Hid (k' = F'.idxOf b) := hk'
  rw [← hF', ← hk']
  clear hg hoF hoL hisF hib hb hvF hF' hk'
  go_enter Try.func48, Try.ntmps48
  go_wp2_with fail
  refine (place_any n F L g b vb w hn HT.out HBB.out HIB.out hF).mono ?_
  rintro e w1 ⟨rfl, hB1⟩
  have hb1 := hB1.size
  have HB1 : Hid (Below w.heap.size w w1) := hB1
  clear hB1
  by_cases hm : b ∈ F
  · have hp : placeOf F b = ((F.idxOf b : Nat) : Int) := by unfold placeOf; rw [if_pos hm]
    rw [hp]
    obtain ⟨q, hq⟩ : ∃ q, q = F.idxOf b := ⟨_, rfl⟩
    have HFE : Hid (F' = F) := by show _ = _; rw [HF'.out, addF_of_mem hm]
    have HKE : Hid (k' = q) := by show _ = _; rw [HK'.out, HFE.out, hq]
    rw [← hq]
    have hnn : ¬ (((q : Nat) : Int) < 0) := by omega
    have HGT : Hid (w1.heap[g]? = some (.cells [vF, .slice aL L.length capL].toArray 88 (0, 0))) := (HB1.out.block g hgl).trans HG.out
    have HFT : Hid (w1.ownsRow n 5 1 vF (F.length * 256) (cellsBl F)) := ownsRow_below HOF.out HB1.out
    have HLT : Hid (w1.ownsRow n 3 1 (.slice aL L.length capL) L.length (L.map (fun k : Nat => Value.int .i64 (k : Int)))) := ownsRow_below HOL.out HB1.out
    have HBT : Hid (Below n w w1) := HB1.out.mono hn
    have HIT : Hid (∀ b ∈ F, IsB b) := HIS.out
    have hgt : g < w1.heap.size := by omega
    clear hp hq hm
    have c1 : w1.cell? ⟨g, 1, none⟩ = some (.slice aL L.length capL) := cell_row HGT.out rfl
    have HLA : Hid ((w1.alloc (.cells #[.int .i64 (q : Int)] 3)).ownsRow n 3 1 (.slice aL L.length capL) L.length (L.map (fun k : Nat => Value.int .i64 (k : Int)))) := HLT.out.alloc _
    have HNA : Hid ((w1.alloc (.cells #[.int .i64 (q : Int)] 3)).heap[w1.heap.size]? = some (.cells #[.int .i64 (q : Int)] 3 (0, 0))) := heap_new' w1 _
    have HGA : Hid ((w1.alloc (.cells #[.int .i64 (q : Int)] 3)).heap[g]? = some (.cells [vF, .slice aL L.length capL].toArray 88 (0, 0))) := (((Below.refl w1.heap.size w1).alloc (Nat.le_refl _) _).block g hgt).trans HGT.out
    have HON : Hid ((Value.slice aL L.length capL).ownBlock ≠ some g) := own_ne HLA.out HGA.out (by decide)
    go_wp2_with (first | (at_builtin; refine wpList_append_own _ rfl _ _ 23 rfl n 3 iI (.int .i64 0) 1 8 Try.undIs hiI hzI0 hzI1 hzI2 rfl (by decide) _ _ _ rfl HLA.out ⟨w1.heap.size, 0, none⟩ 1 1 [.int .i64 (q : Int)] rfl rfl (World.news_of_block HNA.out) (by simp [Value.oneCell']) (by unfold maxLen; omega) (by omega) (by simp; omega) ?_; intro v2 w2 ho2 hg2 _; obtain ⟨a2, cap2, rfl⟩ := slice_of_row ho2; have HG2 : Hid (w2.heap[g]? = some (.cells [vF, .slice aL L.length capL].toArray 88 (0, 0))) := (hg2.block g (by simp; omega) (fun e => HON.out e.symm)).trans HGA.out; have hc2 : w2.cell? ⟨g, 1, none⟩ = some (.slice aL L.length capL) := cell_row HG2.out rfl; have hf2 : w2.frozen? ⟨g, 1, none⟩ = false := frozen_of_row _ _ _ _ _ HG2.out; have HO2 : Hid (w2.ownsRow n 3 1 (.slice a2 (L.length + 1) cap2) (L.length + 1) ((L.map (fun k : Nat => Value.int .i64 (k : Int))) ++ [.int .i64 (q : Int)])) := ho2; have HGR : Hid ((w1.alloc (.cells #[.int .i64 (q : Int)] 3)).grownBy w2 (Value.slice aL L.length capL).ownBlock) := hg2; clear ho2 hg2) | fail)
    refine bodyPost_end (results_none rfl _ _ _) rfl ?_
    refine ⟨rfl, ⟨vF, .slice a2 (L.length + 1) cap2, hng, heap_set_row HG2.out rfl, ?_, ?_, ?_⟩, ?_⟩
    · rw [HFE.out]
      have e1 : w2.ownsRow n 5 1 (vF) (F.length * 256) (cellsBl F) := (HFT.out.alloc _).kept HGR.out (rows_apart (HFT.out.alloc _) HLA.out (by decide))
      exact e1.kept (set_grown w2 g 1 _) (.inr (own_ne e1 HG2.out (by decide)))
    · rw [HKE.out, List.length_append, List.map_append]
      exact HO2.out.kept (set_grown w2 g 1 _) (.inr (own_ne HO2.out HG2.out (by decide)))
    · rw [HFE.out]; exact HIT.out
    · have hr := HLA.out.lt
      refine Below.setCell ?_ (show n ≤ g from hng) _
      exact (HBT.out.alloc (by omega) _).grown HGR.out (by simp; omega) (fun k hk => (hr k hk).1)
  · have hp : placeOf F b = -1 := by unfold placeOf; rw [if_neg hm]
    rw [hp]
    obtain ⟨ab, capb, hvb, hcb, hcc⟩ := HBB.out.below HB1.out
    obtain ⟨gb, ob, hab, hgb, _⟩ := hcc 0 (by have := HIB.out.1; omega)
    subst hab
    have hlb := HIB.out.1
    rw [hlb] at hvb
    subst hvb
    have HSRC : Hid (∀ j u, (i8 b)[j]? = some u → w1.cell? ((⟨gb, ob, none⟩ : Addr).add j) = some u) := fun j u hj => by
      have hj' : j < b.length := by have := (List.getElem?_eq_some_iff.1 hj).1; rwa [i8_length] at this
      obtain ⟨g', o', e, _, hc⟩ := hcc j hj'
      obtain ⟨rfl, rfl⟩ : gb = g' ∧ ob = o' := by simpa using e
      rw [i8_get hj'] at hj
      rw [Addr.add_mid, hc, hj]
    have HFE : Hid (F' = F ++ [b]) := by show _ = _; rw [HF'.out, addF_new hm]
    have HKE : Hid (k' = F.length) := by show _ = _; rw [HK'.out, HF'.out, idx_addF hm]
    have hvF := HVF.out
    subst hvF
    have HG1 : Hid (w1.heap[g]? = some (.cells [.slice aF (F.length * 256) capF, .slice aL L.length capL].toArray 88 (0, 0))) := (HB1.out.block g hgl).trans HG.out
    have HF1 : Hid (w1.ownsRow n 5 1 (.slice aF (F.length * 256) capF) (F.length * 256) (cellsBl F)) := ownsRow_below HOF.out HB1.out
    have HL1 : Hid (w1.ownsRow n 3 1 (.slice aL L.length capL) L.length (L.map (fun k : Nat => Value.int .i64 (k : Int)))) := ownsRow_below HOL.out HB1.out
    have HON1 : Hid ((Value.slice aF (F.length * 256) capF).ownBlock ≠ some g) := own_ne HF1.out HG1.out (by decide)
    have HLB : Hid (b.length = 256) := hlb
    have c0 : w1.cell? ⟨g, 0, none⟩ = some (.slice aF (F.length * 256) capF) := cell_row HG1.out rfl
    have HIT : Hid (∀ x ∈ F ++ [b], IsB x) := fun x hx => by
      rcases List.mem_append.1 hx with z | z
      · exact HIS.out x z
      · rw [List.mem_singleton.1 z]; exact HIB.out
    clear hp hm hcc hcb hlb
    go_wp2_with (first | (at_builtin; refine wpList_append_own _ rfl _ _ 86 rfl n 5 iU (.int .u8 0) 1 1 Try.undUs hiU hzU0 hzU1 hzU2 rfl (by decide) _ _ _ rfl HF1.out ⟨gb, ob, none⟩ 256 capb (i8 b) rfl (by rw [i8_length, HLB.out]) HSRC.out (i8_one b) (by unfold maxLen; omega) (by omega) (by omega) ?_; intro v3 w3 ho3 hg3 _; obtain ⟨a3, cap3, rfl⟩ := slice_of_row ho3; have HG3 : Hid (w3.heap[g]? = some (.cells [.slice aF (F.length * 256) capF, .slice aL L.length capL].toArray 88 (0, 0))) := (hg3.block g (by omega) (fun e => HON1.out e.symm)).trans HG1.out; have hc3 : w3.cell? ⟨g, 0, none⟩ = some (.slice aF (F.length * 256) capF) := cell_row HG3.out rfl; have hf3 : w3.frozen? ⟨g, 0, none⟩ = false := frozen_of_row _ _ _ _ _ HG3.out; have HO3 : Hid (w3.ownsRow n 5 1 (.slice a3 (F.length * 256 + 256) cap3) (F.length * 256 + 256) (cellsBl F ++ i8 b)) := ho3; have HGR3 : Hid (w1.grownBy w3 (Value.slice aF (F.length * 256) capF).ownBlock) := hg3; clear ho3 hg3 c0; have HGT : Hid ((w3.setCell ⟨g, 0, none⟩ (.slice a3 (F.length * 256 + 256) cap3)).heap[g]? = some (.cells [.slice a3 (F.length * 256 + 256) cap3, .slice aL L.length capL].toArray 88 (0, 0))) := heap_set_row HG3.out rfl; have c1 : (w3.setCell ⟨g, 0, none⟩ (.slice a3 (F.length * 256 + 256) cap3)).cell? ⟨g, 1, none⟩ = some (.slice aL L.length capL) := cell_row HGT.out rfl; have hs3 := HGR3.out.size; have HSZ : Hid ((w3.setCell ⟨g, 0, none⟩ (.slice a3 (F.length * 256 + 256) cap3)).heap.size = w3.heap.size) := (by show _ = _; simp [World.setCell]); have hgt : g < (w3.setCell ⟨g, 0, none⟩ (.slice a3 (F.length * 256 + 256) cap3)).heap.size := (by simp [World.setCell]; omega); have hnt : n ≤ (w3.setCell ⟨g, 0, none⟩ (.slice a3 (F.length * 256 + 256) cap3)).heap.size := (by simp [World.setCell]; omega); have HLT : Hid ((w3.setCell ⟨g, 0, none⟩ (.slice a3 (F.length * 256 + 256) cap3)).ownsRow n 3 1 (.slice aL L.length capL) L.length (L.map (fun k : Nat => Value.int .i64 (k : Int)))) := (HL1.out.kept HGR3.out (rows_apart HL1.out HF1.out (by decide))).kept (set_grown w3 g 0 _) (.inr (own_ne (HL1.out.kept HGR3.out (rows_apart HL1.out HF1.out (by decide))) HG3.out (by decide))); have HFT : Hid ((w3.setCell ⟨g, 0, none⟩ (.slice a3 (F.length * 256 + 256) cap3)).ownsRow n 5 1 (.slice a3 (F.length * 256 + 256) cap3) ((F ++ [b]).length * 256) (cellsBl (F ++ [b]))) := (by rw [List.length_append, cellsBl_snoc, Nat.add_mul]; exact HO3.out.kept (set_grown w3 g 0 _) (.inr (own_ne HO3.out HG3.out (by decide)))); have HBT : Hid (Below n w (w3.setCell ⟨g, 0, none⟩ (.slice a3 (F.length * 256 + 256) cap3))) := Below.setCell ((HB1.out.mono hn).grown HGR3.out (by omega) (fun k hk => (HF1.out.lt k hk).1)) (show n ≤ g from hng) _; have HLA : Hid (((w3.setCell ⟨g, 0, none⟩ (.slice a3 (F.length * 256 + 256) cap3)).alloc (.cells #[.int .i64 (F.length : Int)] 3)).ownsRow n 3 1 (.slice aL L.length capL) L.length (L.map (fun k : Nat => Value.int .i64 (k : Int)))) := HLT.out.alloc _; have HNA : Hid (((w3.setCell ⟨g, 0, none⟩ (.slice a3 (F.length * 256 + 256) cap3)).alloc (.cells #[.int .i64 (F.length : Int)] 3)).heap[w3.heap.size]? = some (.cells #[.int .i64 (F.length : Int)] 3 (0, 0))) := (by rw [← HSZ.out]; exact heap_new' _ _); have HGA : Hid (((w3.setCell ⟨g, 0, none⟩ (.slice a3 (F.length * 256 + 256) cap3)).alloc (.cells #[.int .i64 (F.length : Int)] 3)).heap[g]? = some (.cells [.slice a3 (F.length * 256 + 256) cap3, .slice aL L.length capL].toArray 88 (0, 0))) := (((Below.refl (w3.setCell ⟨g, 0, none⟩ (.slice a3 (F.length * 256 + 256) cap3)).heap.size (w3.setCell ⟨g, 0, none⟩ (.slice a3 (F.length * 256 + 256) cap3))).alloc (Nat.le_refl _) _).block g hgt).trans HGT.out; have HON : Hid ((Value.slice aL L.length capL).ownBlock ≠ some g) := own_ne HLA.out HGA.out (by decide)) | (at_builtin; refine wpList_append_own _ rfl _ _ 23 rfl n 3 iI (.int .i64 0) 1 8 Try.undIs hiI hzI0 hzI1 hzI2 rfl (by decide) _ _ _ rfl HLA.out ⟨w3.heap.size, 0, none⟩ 1 1 [.int .i64 (F.length : Int)] rfl rfl (World.news_of_block HNA.out) (by simp [Value.oneCell']) (by unfold maxLen; omega) (by omega) (by simp; omega) ?_; intro v2 w2 ho2 hg2 _; obtain ⟨a2, cap2, rfl⟩ := slice_of_row ho2; have HG2 : Hid (w2.heap[g]? = some (.cells [.slice a3 (F.length * 256 + 256) cap3, .slice aL L.length capL].toArray 88 (0, 0))) := (hg2.block g (by simp; omega) (fun e => HON.out e.symm)).trans HGA.out; have hc2 : w2.cell? ⟨g, 1, none⟩ = some (.slice aL L.length capL) := cell_row HG2.out rfl; have hf2 : w2.frozen? ⟨g, 1, none⟩ = false := frozen_of_row _ _ _ _ _ HG2.out; have HO2 : Hid (w2.ownsRow n 3 1 (.slice a2 (L.length + 1) cap2) (L.length + 1) ((L.map (fun k : Nat => Value.int .i64 (k : Int))) ++ [.int .i64 (F.length : Int)])) := ho2; have HGR : Hid (((w3.setCell ⟨g, 0, none⟩ (.slice a3 (F.length * 256 + 256) cap3)).alloc (.cells #[.int .i64 (F.length : Int)] 3)).grownBy w2 (Value.slice aL L.length capL).ownBlock) := hg2; clear ho2 hg2) | fail)
    refine bodyPost_end (results_none rfl _ _ _) rfl ?_
    refine ⟨rfl, ⟨.slice a3 (F.length * 256 + 256) cap3, .slice a2 (L.length + 1) cap2, hng, heap_set_row HG2.out rfl, ?_, ?_, ?_⟩, ?_⟩
    · rw [HFE.out]
      have e1 : w2.ownsRow n 5 1 (.slice a3 (F.length * 256 + 256) cap3) ((F ++ [b]).length * 256) (cellsBl (F ++ [b])) := (HFT.out.alloc _).kept HGR.out (rows_apart (HFT.out.alloc _) HLA.out (by decide))
      exact e1.kept (set_grown w2 g 1 _) (.inr (own_ne e1 HG2.out (by decide)))
    · rw [HKE.out, List.length_append, List.map_append]
      exact HO2.out.kept (set_grown w2 g 1 _) (.inr (own_ne HO2.out HG2.out (by decide)))
    · rw [HFE.out]; exact HIT.out
    · have hr := HLA.out.lt
      refine Below.setCell ?_ (show n ≤ g from hng) _
      exact (HBT.out.alloc (by omega) _).grown HGR.out (by simp; omega) (fun k hk => (hr k hk).1)
end Go.Proofs.Ytmknifnhcgdkaaa.S3
