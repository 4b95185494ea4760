/-
  ucd.shipped: the entries of each table; data in memory.
-/
import Derived.Test.YtpmlbdfdiebkcaaDoorUcdMath
import Derived.Test.YtpmlbdfdiebkcaaDoorScripts
import Derived.Test.YtpmlbdfdiebkcaaDoorBuild
namespace Go.Proofs.YtpmlbdfdiebkcaaDoor
open Go.RowKit
set_option linter.unusedVariables false

theorem entsP {w : World} {base : Nat} {v : Value} {l : List Pp} (h : w.ownsRow base 70 3 v l.length (cellsPs l)) : PropsIn w v l := props_of_row h
set_option maxRecDepth 100000 in
theorem ents_lens : ([] :: clLL).length ≤ 255 ∧ (entsF 0 ([] :: clLL)).length ≤ 4096 ∧ ([] :: wdLL).length ≤ 255 ∧ (entsF 0 ([] :: wdLL)).length ≤ 4096 ∧ (entsF 0 [[], picL]).length ≤ 4096 := by
  refine ⟨by decide +kernel, by decide +kernel, by decide +kernel, by decide +kernel, by decide +kernel⟩
theorem pic_lists {w : World} {v : Value} {l : List Sp} (h : SpansIn w v l) : ListsIn (w.alloc (.cells #[.slice none 0 0, v] 79)) (.slice (some ⟨w.heap.size, 0, none⟩) 2 2) [[], l] := by
  refine ⟨_, _, rfl, fun i hi => ?_⟩
  have hsz : (w.alloc (.cells #[.slice none 0 0, v] 79)).heap.size = w.heap.size + 1 := by simp
  have : i = 0 ∨ i = 1 := by simp at hi; omega
  rcases this with rfl | rfl
  · exact ⟨_, 0, .slice none 0 0, rfl, by omega, cell_row (cs := [.slice none 0 0, v]) (heap_new' _ _) rfl, none, 0, rfl, fun i hi => by simp at hi⟩
  · exact ⟨_, 0, v, rfl, by omega, cell_row (cs := [.slice none 0 0, v]) (heap_new' _ _) rfl, h.below ((Below.refl _ _).alloc (Nat.le_refl _) _)⟩

theorem clusters_c (w : World) : Calls Tryd.prog 46 #[] w fun e w' => ∃ v, e = .returned v ∧ ListsIn w' v ([] :: clLL) ∧ Below w.heap.size w w' :=
  (clusters_any w).mono (by rintro e w' ⟨rfl, rfl⟩; exact ⟨_, rfl, lists_in w clLL, listsW_below w clLL⟩)
theorem words_c (w : World) : Calls Tryd.prog 47 #[] w fun e w' => ∃ v, e = .returned v ∧ ListsIn w' v ([] :: wdLL) ∧ Below w.heap.size w w' :=
  (words_any w).mono (by rintro e w' ⟨rfl, rfl⟩; exact ⟨_, rfl, lists_in w wdLL, listsW_below w wdLL⟩)
theorem pictures_c (w : World) : Calls Tryd.prog 49 #[] w fun e w' => ∃ v, e = .returned v ∧ SpansIn w' v picL ∧ v.oneCell' = true ∧ Below w.heap.size w w' :=
  (pictures_any w).mono (by rintro e w' ⟨rfl, rfl⟩; exact ⟨_, rfl, span_in w picL, rfl, spanW_below w picL⟩)

set_option maxRecDepth 100000 in
set_option maxHeartbeats 8000000 in
theorem shipped_any (i : Nat) (hi : i < 4) (w : World) (hs : Scripts w) (h0 : 0 < w.heap.size) :
    Calls Tryd.prog 22 #[.int .i64 (i : Int)] w fun e w' => ∃ v, e = .returned v ∧ PropsIn w' v (tabP i) ∧ Below w.heap.size w w' := by
  have HS : Hid (Scripts w) := hs
  clear hs
  have : i = 0 ∨ i = 1 ∨ i = 2 ∨ i = 3 := by omega
  rcases this with rfl | rfl | rfl | rfl
  · obtain ⟨E, hE⟩ : ∃ E, E = tabP 0 := ⟨_, rfl⟩
    obtain ⟨LL, hLL⟩ : ∃ LL, LL = [] :: clLL := ⟨_, rfl⟩
    have HL : Hid (LL.length ≤ 255 ∧ (entsF 0 LL).length ≤ 4096) := by rw [hLL]; exact ⟨ents_lens.1, ents_lens.2.1⟩
    have HT : Hid (E = entsF 0 LL) := by rw [hLL, hE]; rfl
    have HC : Hid (Calls Tryd.prog 46 #[] w fun e w' => ∃ v, e = .returned v ∧ ListsIn w' v LL ∧ Below w.heap.size w w') := by rw [hLL]; exact clusters_c w
    rw [← hE]
    clear hLL hE
    go_enter Tryd.func22, Tryd.ntmps22
    go_wp2_with fail
    refine HC.out.mono ?_
    rintro e w1 ⟨v1, rfl, hl1, hB1⟩
    obtain ⟨HI, HB⟩ : Hid (ListsIn w1 v1 LL) ∧ Hid (Below w.heap.size w w1) := ⟨hl1, hB1⟩
    clear hl1 hB1
    go_wp2_with fail
    refine (entries_any LL v1 w1 HI.out HL.out.1 HL.out.2).mono ?_
    rintro e w2 ⟨v2, rfl, ho2, hB2⟩
    obtain ⟨HO2, HB2⟩ : Hid (PropsIn w2 v2 E) ∧ Hid (Below w.heap.size w w2) := ⟨by rw [HT.out]; exact props_of_row ho2, HB.out.trans (hB2.mono HB.out.size)⟩
    clear ho2 hB2
    go_wp2
    go_ret
    exact ⟨_, rfl, HO2.out, HB2.out⟩
  · obtain ⟨E, hE⟩ : ∃ E, E = tabP 1 := ⟨_, rfl⟩
    obtain ⟨LL, hLL⟩ : ∃ LL, LL = [] :: wdLL := ⟨_, rfl⟩
    have HL : Hid (LL.length ≤ 255 ∧ (entsF 0 LL).length ≤ 4096) := by rw [hLL]; exact ⟨ents_lens.2.2.1, ents_lens.2.2.2.1⟩
    have HT : Hid (E = entsF 0 LL) := by rw [hLL, hE]; rfl
    have HC : Hid (Calls Tryd.prog 47 #[] w fun e w' => ∃ v, e = .returned v ∧ ListsIn w' v LL ∧ Below w.heap.size w w') := by rw [hLL]; exact words_c w
    rw [← hE]
    clear hLL hE
    go_enter Tryd.func22, Tryd.ntmps22
    go_wp2_with fail
    refine HC.out.mono ?_
    rintro e w1 ⟨v1, rfl, hl1, hB1⟩
    obtain ⟨HI, HB⟩ : Hid (ListsIn w1 v1 LL) ∧ Hid (Below w.heap.size w w1) := ⟨hl1, hB1⟩
    clear hl1 hB1
    go_wp2_with fail
    refine (entries_any LL v1 w1 HI.out HL.out.1 HL.out.2).mono ?_
    rintro e w2 ⟨v2, rfl, ho2, hB2⟩
    obtain ⟨HO2, HB2⟩ : Hid (PropsIn w2 v2 E) ∧ Hid (Below w.heap.size w w2) := ⟨by rw [HT.out]; exact props_of_row ho2, HB.out.trans (hB2.mono HB.out.size)⟩
    clear ho2 hB2
    go_wp2
    go_ret
    exact ⟨_, rfl, HO2.out, HB2.out⟩
  · obtain ⟨E, hE⟩ : ∃ E, E = tabP 2 := ⟨_, rfl⟩
    have HT : Hid (E = scP) := hE
    rw [← hE]
    clear hE
    go_enter Tryd.func22, Tryd.ntmps22
    go_wp2_with fail
    refine (scriptEntries_any w HS.out h0).mono ?_
    rintro e w2 ⟨v2, rfl, ho2, hB2⟩
    obtain ⟨HO2, HB2⟩ : Hid (PropsIn w2 v2 E) ∧ Hid (Below w.heap.size w w2) := ⟨by rw [HT.out]; exact props_of_row ho2, hB2⟩
    clear ho2 hB2
    go_wp2
    go_ret
    exact ⟨_, rfl, HO2.out, HB2.out⟩
  · obtain ⟨E, hE⟩ : ∃ E, E = tabP 3 := ⟨_, rfl⟩
    obtain ⟨l, hl⟩ : ∃ l, l = picL := ⟨_, rfl⟩
    have HL : Hid ((entsF 0 [[], l]).length ≤ 4096) := by rw [hl]; exact ents_lens.2.2.2.2
    have HT : Hid (E = entsF 0 [[], l]) := by rw [hl, hE]; rfl
    have HC : Hid (Calls Tryd.prog 49 #[] w fun e w' => ∃ v, e = .returned v ∧ SpansIn w' v l ∧ v.oneCell' = true ∧ Below w.heap.size w w') := by rw [hl]; exact pictures_c w
    rw [← hE]
    clear hl hE
    go_enter Tryd.func22, Tryd.ntmps22
    go_wp2_with fail
    refine HC.out.mono ?_
    rintro e w1 ⟨v1, rfl, hl1, hv1, hB1⟩
    obtain ⟨a1, c1, rfl, hc1⟩ := hl1
    obtain ⟨HI, HB⟩ : Hid (SpansIn w1 (.slice a1 l.length c1) l) ∧ Hid (Below w.heap.size w w1) := ⟨⟨a1, c1, rfl, hc1⟩, hB1⟩
    clear hc1 hB1
    go_wp2_with fail
    refine (entries_any [[], l] _ _ (pic_lists HI.out) (by show 2 ≤ 255; omega) HL.out).mono ?_
    rintro e w2 ⟨v2, rfl, ho2, hB2⟩
    have hb1 := HB.out.size
    obtain ⟨HO2, HB2⟩ : Hid (PropsIn w2 v2 E) ∧ Hid (Below w.heap.size w w2) := ⟨by rw [HT.out]; exact props_of_row ho2, (HB.out.alloc hb1 _).trans (hB2.mono (by simp; omega))⟩
    clear ho2 hB2
    go_wp2
    go_ret
    exact ⟨_, rfl, HO2.out, HB2.out⟩

/-- Data in memory: its four tries. -/
def DataAt (w : World) (g : Nat) (TL : Nat → List Int) (TF : Nat → List (List Int)) : Prop :=
  ∃ p : Nat → Value, w.heap[g]? = some (.cells [p 0, p 1, p 2, p 3].toArray 41 (0, 0)) ∧ ∀ i, i < 4 → TrieAt w.heap.size w (p i) (TL i) (TF i)
/-- Data while its tries are put in: those ahead of k are there. -/
def DataTo (w : World) (g k : Nat) (TL : Nat → List Int) (TF : Nat → List (List Int)) : Prop :=
  ∃ p : Nat → Value, w.heap[g]? = some (.cells [p 0, p 1, p 2, p 3].toArray 41 (0, 0)) ∧ (∀ i, i < 4 → ∃ q, p i = .pointer q) ∧ ∀ i, i < k → TrieAt w.heap.size w (p i) (TL i) (TF i)

/-- A pointer's cell of another block is set: a trie stays. -/
theorem TrieAt.setData {n : Nat} {w : World} {pv : Value} {like : List Int} {F : List (List Int)} (h : TrieAt n w pv like F) (hf : Fine like F) {g : Nat} {p : Nat → Value} (hg : w.heap[g]? = some (.cells [p 0, p 1, p 2, p 3].toArray 41 (0, 0))) (hp : ∃ q, p 0 = .pointer q) (j : Nat) (x : Value) : TrieAt n (w.setCell ⟨g, j, none⟩ x) pv like F := by
  obtain ⟨gt, gb, cap, rfl, h1, h2, h3, h4, h5⟩ := h
  obtain ⟨q, hq⟩ := hp
  have e1 : gt ≠ g := fun e => by
    rw [e, hg] at h3
    simp at h3
  have e2 : gb ≠ g := fun e => by
    have hl : 0 < (cellsBl F).length := by rw [cellsBl_length (isB_even hf.isB)]; have := hf.pos; omega
    have hc := h4 0 (cellsBl F)[0] (List.getElem?_eq_getElem hl)
    have hc2 : w.cell? ⟨g, 0, none⟩ = some (p 0) := cell_row hg rfl
    rw [e, Nat.zero_add, hc2, hq] at hc
    have hu : (cellsBl F)[0] ∈ cellsBl F := List.getElem_mem hl
    obtain ⟨y, _, hy⟩ := List.mem_map.1 (show (cellsBl F)[0] ∈ F.flatten.map (Value.int .u8) from hu)
    rw [← hy] at hc
    cases hc
  refine ⟨gt, gb, cap, rfl, h1, h2, ?_, fun j' u hj => ?_, h5⟩
  · rw [heap_setCell_other _ _ _ _ (fun e => e1 e)]
    exact h3
  · exact (World.cell?_setCell_far _ _ _ _ (fun e => e2 e.symm)).trans (h4 j' u hj)
theorem DataTo.below {w w' : World} {g k : Nat} {TL : Nat → List Int} {TF : Nat → List (List Int)} (h : DataTo w g k TL TF) (hb : Below w.heap.size w w') : DataTo w' g k TL TF := by
  obtain ⟨p, h1, h2, h3⟩ := h
  exact ⟨p, (hb.block g (heap_lt h1)).trans h1, h2, fun i hi => ((h3 i hi).below hb).mono hb.size⟩
theorem DataTo.at {w : World} {g : Nat} {TL : Nat → List Int} {TF : Nat → List (List Int)} (h : DataTo w g 4 TL TF) : DataAt w g TL TF := by
  obtain ⟨p, h1, _, h3⟩ := h
  exact ⟨p, h1, h3⟩
theorem DataAt.below {w w' : World} {g : Nat} {TL : Nat → List Int} {TF : Nat → List (List Int)} (h : DataAt w g TL TF) (hb : Below w.heap.size w w') : DataAt w' g TL TF := by
  obtain ⟨p, h1, h3⟩ := h
  exact ⟨p, (hb.block g (heap_lt h1)).trans h1, fun i hi => ((h3 i hi).below hb).mono hb.size⟩
theorem DataTo.store {w : World} {g k : Nat} {TL : Nat → List Int} {TF : Nat → List (List Int)} (h : DataTo w g k TL TF) (hk : k < 4) {pv : Value} (ht : TrieAt w.heap.size w pv (TL k) (TF k)) (hf : ∀ i, i ≤ k → Fine (TL i) (TF i)) : DataTo (w.setCell ⟨g, k, none⟩ pv) g (k + 1) TL TF := by
  obtain ⟨p, h1, h2, h3⟩ := h
  have hsz : (w.setCell ⟨g, k, none⟩ pv).heap.size = w.heap.size := by simp [World.setCell]
  obtain ⟨gt, hpv⟩ := ht.ptr
  refine ⟨fun i => if i = k then pv else p i, heap_set_row h1 ?_, fun i hi => ?_, fun i hi => ?_⟩
  · have : k = 0 ∨ k = 1 ∨ k = 2 ∨ k = 3 := by omega
    rcases this with rfl | rfl | rfl | rfl <;> rfl
  · by_cases e : i = k
    · exact ⟨_, by show (if i = k then pv else p i) = _; rw [if_pos e]; exact hpv⟩
    · obtain ⟨q, hq⟩ := h2 i hi
      exact ⟨q, by show (if i = k then pv else p i) = _; rw [if_neg e]; exact hq⟩
  · rw [hsz]
    by_cases e : i = k
    · subst e
      simp only [if_true]
      exact ht.setData (hf i (Nat.le_refl _)) h1 (h2 0 (by omega)) i pv
    · simp only [if_neg e]
      exact (h3 i (by omega)).setData (hf i (by omega)) h1 (h2 0 (by omega)) k pv
theorem DataTo.cell {w : World} {g k : Nat} {TL : Nat → List Int} {TF : Nat → List (List Int)} (h : DataTo w g k TL TF) {i : Nat} (hi : i < 4) : (∃ u, w.cell? ⟨g, i, none⟩ = some u) ∧ w.frozen? ⟨g, i, none⟩ = false := by
  obtain ⟨p, h1, _⟩ := h
  refine ⟨⟨p i, ?_⟩, frozen_of_row _ _ _ _ _ h1⟩
  have : i = 0 ∨ i = 1 ∨ i = 2 ∨ i = 3 := by omega
  rcases this with rfl | rfl | rfl | rfl <;> exact cell_row h1 rfl

end Go.Proofs.YtpmlbdfdiebkcaaDoor
