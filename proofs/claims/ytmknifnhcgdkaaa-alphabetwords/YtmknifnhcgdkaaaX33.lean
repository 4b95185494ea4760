/-
  The document's trie in memory; scansionref03.place: where a block stands.
-/
import Derived.Test.YtmknifnhcgdkaaaX31
import Derived.Test.YtmknifnhcgdkaaaX32
namespace Go.Proofs.Ytmknifnhcgdkaaa.S3
open Go.RowKit
set_option linter.unusedVariables false

/-- The document's trie at block g, all its blocks from n on: its first blocks' values, and which one each block is like. -/
def RefAt (n : Nat) (w : World) (g : Nat) (F : List (List Int)) (L : List Nat) : Prop :=
  ∃ vF vL, n ≤ g ∧ w.heap[g]? = some (.cells [vF, vL].toArray 88 (0, 0)) ∧ w.ownsRow n 5 1 vF (F.length * 256) (cellsBl F) ∧
    w.ownsRow n 3 1 vL L.length (L.map (fun k : Nat => Value.int .i64 (k : Int))) ∧ ∀ b ∈ F, IsB b

def placeOf (F : List (List Int)) (b : List Int) : Int := if b ∈ F then (F.idxOf b : Nat) else -1
theorem place_here {F : List (List Int)} {b : List Int} {k : Nat} (hk : k < F.length) (h : ∀ i, (hi : i < F.length) → i < k → ¬ F[i] = b) (e : F[k] = b) : placeOf F b = (k : Int) := by
  unfold placeOf
  have hm : b ∈ F := e ▸ List.getElem_mem hk
  rw [if_pos hm]
  have h1 : F.idxOf b ≤ k := by
    rcases Nat.lt_or_ge k (F.idxOf b) with q | q
    · have := List.not_of_lt_findIdx (p := fun x => x == b) (xs := F) (i := k) q
      simp [e] at this
    · exact q
  have h2 : F.idxOf b < F.length := List.idxOf_lt_length_iff.2 hm
  rcases Nat.lt_or_ge (F.idxOf b) k with q | q
  · exact absurd (List.getElem_idxOf h2) (h _ h2 q)
  · have : F.idxOf b = k := by omega
    rw [this]
theorem place_none {F : List (List Int)} {b : List Int} (h : ∀ i, (hi : i < F.length) → ¬ F[i] = b) : placeOf F b = -1 := by
  unfold placeOf
  rw [if_neg (fun hm => by obtain ⟨i, hi, e⟩ := List.mem_iff_getElem.1 hm; exact h i hi e)]
theorem nums_inj : ∀ {x y : List Int}, (∀ c ∈ x, 0 ≤ c ∧ c ≤ 255) → (∀ c ∈ y, 0 ≤ c ∧ c ≤ 255) → (x.map fun n => UInt8.ofNat n.toNat) = (y.map fun n => UInt8.ofNat n.toNat) → x = y
  | [], [], _, _, _ => rfl
  | [], b :: y, _, _, h => by simp at h
  | a :: x, [], _, _, h => by simp at h
  | a :: x, b :: y, hx, hy, h => by
    simp only [List.map_cons, List.cons.injEq] at h
    have ha := hx a (by simp)
    have hb := hy b (by simp)
    have e : a = b := by
      have := congrArg UInt8.toNat h.1
      simp only [UInt8.toNat_ofNat'] at this
      omega
    rw [e, nums_inj (fun c hc => hx c (by simp [hc])) (fun c hc => hy c (by simp [hc])) h.2]
theorem str_same {x y : List Int} (h : x = y) : ((strOfNums x).toList == (strOfNums y).toList) = true := by subst h; simp
theorem str_other {x y : List Int} (hx : IsB x) (hy : IsB y) (h : ¬ x = y) : ((strOfNums x).toList == (strOfNums y).toList) = false := by
  have : (strOfNums x).toList ≠ (strOfNums y).toList := fun q => h (nums_inj hx.2 hy.2 (by simpa [strOfNums, ByteArray.toList_eq] using q))
  simpa using this

set_option maxRecDepth 100000 in
set_option maxHeartbeats 8000000 in
theorem place_any (n : Nat) (F : List (List Int)) (L : List Nat) (g : Nat) (b : List Int) (vb : Value) (w : World) (hn : n ≤ w.heap.size) (ht : RefAt n w g F L) (hb : BytesAt w.heap.size w vb b) (hib : IsB b) (hF : F.length ≤ 4352) :
    Calls Try.prog 59 #[.pointer (some ⟨g, 0, none⟩), vb] w fun e w' => e = .returned (.int .i64 (placeOf F b)) ∧ Below w.heap.size w w' := by
  obtain ⟨vF, vL, hng, hg, hoF, hoL, hisF⟩ := ht
  obtain ⟨aF, capF, rfl⟩ := slice_of_row hoF
  have hgl := heap_lt hg
  have HC : Hid (∀ w', Below w.heap.size w w' → w'.cell? ⟨g, 0, none⟩ = some (.slice aF (F.length * 256) capF)) := fun w' hw' => (hw'.cell (p := ⟨g, 0, none⟩) hgl).trans (cell_row hg rfl)
  obtain ⟨HO, HIS, HBB⟩ : Hid (w.ownsRow n 5 1 (.slice aF (F.length * 256) capF) (F.length * 256) (cellsBl F)) ∧ Hid (∀ b ∈ F, IsB b) ∧ Hid (BytesAt w.heap.size w vb b) := ⟨hoF, hisF, hb⟩
  have HIB : Hid (IsB b) := hib
  obtain ⟨pl, hpl⟩ : ∃ pl, pl = placeOf F b := ⟨_, rfl⟩
  have HPL : Hid (pl = placeOf F b) := hpl
  rw [← hpl]
  clear hg hoF hoL hisF hb hib hpl
  go_enter Try.func59, Try.ntmps59
  go_wp2
  go_loopw [5] (fun x wr => ∃ k : Nat, k ≤ F.length ∧ x = .int .i64 k ∧ (∀ i, (hi : i < F.length) → i < k → ¬ F[i] = b) ∧ Below w.heap.size w wr) (fun x _ => F.length - (intOf x).toNat)
  case atStart => exact ⟨0, Nat.zero_le _, rfl, fun i _ hi => by omega, Below.refl _ _⟩
  case round =>
    obtain ⟨k, hk, rfl, hno, hB⟩ := hrel
    have c0 := HC.out wr hB
    have HNO : Hid (∀ i, (hi : i < F.length) → i < k → ¬ F[i] = b) := hno
    clear hno
    have hw1 : IntKind.i64.wrap ((k : Int) * 256) = (k : Int) * 256 := IntWalk.i64_in _ (by omega)
    have hw2 : IntKind.i64.wrap ((k : Int) + 1) = (k : Int) + 1 := IntWalk.i64_in _ (by omega)
    have hw3 : IntKind.i64.wrap (((k : Int) + 1) * 256) = ((k : Int) + 1) * 256 := IntWalk.i64_in _ (by omega)
    by_cases hlt : k < F.length
    · have hlt' : (k : Int) * 256 < (F.length : Int) * 256 := by omega
      obtain ⟨gF, haF, hcF, hgF⟩ : ∃ gF, aF = some ⟨gF, 0, none⟩ ∧ F.length * 256 ≤ capF ∧ gF < w.heap.size := by
        rcases HO.out.2 with ⟨_, h0⟩ | ⟨g', cap', cur, e, _, hg', hc', _⟩
        · omega
        · obtain ⟨rfl, rfl⟩ : aF = some ⟨g', 0, none⟩ ∧ capF = cap' := by simpa using e
          exact ⟨g', rfl, hc', heap_lt hg'⟩
      subst haF
      have hbs := hB.size
      have HX : Hid (∀ w', Below wr.heap.size wr w' → BytesAt w'.heap.size w' (.slice (some ⟨gF, k * 256, none⟩) 256 (capF - k * 256)) F[k]) := fun w' hw' => by
        have hl : F[k].length = 256 := (HIS.out _ (List.getElem_mem hlt)).1
        refine ⟨some ⟨gF, k * 256, none⟩, capF - k * 256, by rw [hl], by omega, fun i hi => ⟨gF, k * 256, rfl, by have := hw'.size; omega, ?_⟩⟩
        have e1 := cellsBl_at (isB_even HIS.out) hlt (j := i) (u := .int .u8 F[k][i]) (i8_get hi)
        have e2 := HO.out.cells (g := gF) rfl _ _ e1
        rw [Addr.add_mid] at e2
        rw [hw'.cell (p := ⟨gF, _, none⟩) (by show gF < _; omega), hB.cell (p := ⟨gF, _, none⟩) hgF, ← e2]
        simp
      have HY : Hid (∀ w', Below wr.heap.size wr w' → BytesAt w'.heap.size w' vb b) := fun w' hw' => ((HBB.out.below hB).below (hw'.mono hbs)).mono (by have := hw'.size; omega)
      have HC0 : Hid (∀ w', Below wr.heap.size wr w' → w'.cell? ⟨g, 0, none⟩ = some (.slice (some ⟨gF, 0, none⟩) (F.length * 256) capF)) := fun w' hw' => (hw'.cell (p := ⟨g, 0, none⟩) (by show g < _; omega)).trans c0
      have HB : Hid (Below w.heap.size w wr) := hB
      have hs1 : (k : Int) * 256 ≤ ((k : Int) + 1) * 256 := by omega
      have hs2 : ((k : Int) + 1) * 256 ≤ (capF : Int) := by omega
      have hs3 : (0 : Int) ≤ (k : Int) * 256 := by omega
      have hs4 : ((k : Int) * 256).toNat = k * 256 := by omega
      have hs5 : (((k : Int) + 1) * 256).toNat = (k + 1) * 256 := by omega
      have hs6 : (k + 1) * 256 - k * 256 = 256 := by omega
      have hs7 : ¬ (capF - k * 256 = 0) := by omega
      have hs8 : ¬ (capF = k * 256) := by omega
      have hs9 : (0 : Int) ≤ ((k : Int) + 1) * 256 := by omega
      have hs10 : (k : Int) ≤ (k : Int) + 1 := by omega
      clear hB
      by_cases hq : F[k] = b
      · have HR : Hid (pl = (k : Int)) := by show _ = _; rw [HPL.out]; exact place_here hlt HNO.out hq
        have HSE : Hid (((strOfNums F[k]).toList == (strOfNums b).toList) = true) := str_same hq
        clear hq
        go_wp2_with fail
        refine wp_region_bad (fun w' => Below wr.heap.size wr w') [] (by kernel_rfl) ((Below.refl _ _).drew) (fun hS => ?_)
        have hC0 := HC0.out
        have hse := HSE.out
        refine wpAnyB_pure (i := 0) (v := .pointer (some ⟨g, 0, none⟩)) rfl (by kernel_rfl) (fun _ _ _ h => h) (Or.inl ⟨by rfl, fun w _ => by go_simp⟩) hS ?_
        simp only [List.getElem_toArray, List.getElem_cons_zero, Act.put, List.setIfInBounds_toArray, List.set_cons_zero, List.set_cons_succ]
        refine wpAnyB_pure (i := 1) (v := .pointer (some ⟨g, 0, none⟩)) rfl (by kernel_rfl) (fun _ _ _ h => h) (Or.inl ⟨by rfl, fun w _ => by go_simp⟩) hS ?_
        simp only [List.getElem_toArray, List.getElem_cons_succ, List.getElem_cons_zero, Act.put, List.setIfInBounds_toArray, List.set_cons_zero, List.set_cons_succ]
        refine wpAnyB_pure (i := 2) (v := .pointer (some ⟨g, 0, none⟩)) rfl (by kernel_rfl) (fun _ _ _ h => h) (Or.inl ⟨by rfl, fun w _ => by go_simp⟩) hS ?_
        simp only [List.getElem_toArray, List.getElem_cons_succ, List.getElem_cons_zero, Act.put, List.setIfInBounds_toArray, List.set_cons_zero, List.set_cons_succ]
        refine wpAnyB_take [] (i := 3) (v := .slice (some ⟨gF, 0, none⟩) (F.length * 256) capF) rfl (by kernel_rfl) (fun _ _ _ h => h) (Or.inl ⟨by rfl, fun w hSw => by have := hC0 w hSw; go_simp⟩) hS ?_
        simp only [List.getElem_toArray, List.getElem_cons_succ, List.getElem_cons_zero, Act.put, List.setIfInBounds_toArray, List.set_cons_zero, List.set_cons_succ]
        refine wpAnyB_pure (i := 4) (v := .int .i64 (k : Int)) rfl (by kernel_rfl) (fun _ _ _ h => h) (Or.inl ⟨by rfl, fun w _ => by go_simp⟩) hS ?_
        simp only [List.getElem_toArray, List.getElem_cons_succ, List.getElem_cons_zero, Act.put, List.setIfInBounds_toArray, List.set_cons_zero, List.set_cons_succ]
        refine wpAnyB_pure (i := 5) (v := .int .i64 ((k : Int) * 256)) rfl (by kernel_rfl) (fun _ _ _ h => h) (Or.inl ⟨by rfl, fun w _ => by go_simp⟩) hS ?_
        simp only [List.getElem_toArray, List.getElem_cons_succ, List.getElem_cons_zero, Act.put, List.setIfInBounds_toArray, List.set_cons_zero, List.set_cons_succ]
        refine wpAnyB_pure (i := 6) (v := .int .i64 (k : Int)) rfl (by kernel_rfl) (fun _ _ _ h => h) (Or.inl ⟨by rfl, fun w _ => by go_simp⟩) hS ?_
        simp only [List.getElem_toArray, List.getElem_cons_succ, List.getElem_cons_zero, Act.put, List.setIfInBounds_toArray, List.set_cons_zero, List.set_cons_succ]
        refine wpAnyB_pure (i := 7) (v := .int .i64 ((k : Int) + 1)) rfl (by kernel_rfl) (fun _ _ _ h => h) (Or.inl ⟨by rfl, fun w _ => by go_simp⟩) hS ?_
        simp only [List.getElem_toArray, List.getElem_cons_succ, List.getElem_cons_zero, Act.put, List.setIfInBounds_toArray, List.set_cons_zero, List.set_cons_succ]
        refine wpAnyB_pure (i := 8) (v := .int .i64 (((k : Int) + 1) * 256)) rfl (by kernel_rfl) (fun _ _ _ h => h) (Or.inl ⟨by rfl, fun w _ => by go_simp⟩) hS ?_
        simp only [List.getElem_toArray, List.getElem_cons_succ, List.getElem_cons_zero, Act.put, List.setIfInBounds_toArray, List.set_cons_zero, List.set_cons_succ]
        refine wpAnyB_pure (i := 9) (v := .slice (some ⟨gF, k * 256, none⟩) 256 (capF - k * 256)) rfl (by kernel_rfl) (fun _ _ _ h => h) (Or.inl ⟨by rfl, fun w _ => by go_simp⟩) hS ?_
        simp only [List.getElem_toArray, List.getElem_cons_succ, List.getElem_cons_zero, Act.put, List.setIfInBounds_toArray, List.set_cons_zero, List.set_cons_succ]
        refine wpAnyB_take [] (i := 10) (v := .string (strOfNums F[k])) rfl (by kernel_rfl) (fun _ _ _ h => h) (yields_convert (by rfl) rfl rfl (fun w' hw' => (HX.out w' hw').conv)) hS ?_
        simp only [List.getElem_toArray, List.getElem_cons_succ, List.getElem_cons_zero, Act.put, List.setIfInBounds_toArray, List.set_cons_zero, List.set_cons_succ]
        refine wpAnyB_pure (i := 11) (v := vb) rfl (by kernel_rfl) (fun _ _ _ h => h) (Or.inl ⟨by rfl, fun w _ => by go_simp⟩) hS ?_
        simp only [List.getElem_toArray, List.getElem_cons_succ, List.getElem_cons_zero, Act.put, List.setIfInBounds_toArray, List.set_cons_zero, List.set_cons_succ]
        refine wpAnyB_take [] (i := 12) (v := .string (strOfNums b)) rfl (by kernel_rfl) (fun _ _ _ h => h) (yields_convert (by rfl) rfl rfl (fun w' hw' => (HY.out w' hw').conv)) hS ?_
        simp only [List.getElem_toArray, List.getElem_cons_succ, List.getElem_cons_zero, Act.put, List.setIfInBounds_toArray, List.set_cons_zero, List.set_cons_succ]
        refine wpAnyB_pure (i := 13) (v := .bool true) rfl (by kernel_rfl) (fun _ _ _ h => h) (Or.inl ⟨by rfl, fun w _ => by go_simp⟩) hS ?_
        simp only [List.getElem_toArray, List.getElem_cons_succ, List.getElem_cons_zero, Act.put, List.setIfInBounds_toArray, List.set_cons_zero, List.set_cons_succ]
        refine wpAnyB_done (by kernel_rfl) ?_ _
        refine NoPanic.normal ?_
        clear hC0 hse
        have HS : Hid (Below wr.heap.size wr wr.drew) := hS
        clear hS
        go_wp2
        go_ret
        exact ⟨by rw [HR.out]; rfl, HB.out.trans (HS.out.mono hbs)⟩
      · have HSE : Hid (((strOfNums F[k]).toList == (strOfNums b).toList) = false) := str_other (HIS.out _ (List.getElem_mem hlt)) HIB.out hq
        have HNO' : Hid (∀ i, (hi : i < F.length) → i < k + 1 → ¬ F[i] = b) := fun i hi h => by
          rcases Nat.lt_or_ge i k with z | z
          · exact HNO.out i hi z
          · have : i = k := by omega
            subst this; exact hq
        clear hq
        go_wp2_with fail
        refine wp_region_bad (fun w' => Below wr.heap.size wr w') [] (by kernel_rfl) ((Below.refl _ _).drew) (fun hS => ?_)
        have hC0 := HC0.out
        have hse := HSE.out
        refine wpAnyB_pure (i := 0) (v := .pointer (some ⟨g, 0, none⟩)) rfl (by kernel_rfl) (fun _ _ _ h => h) (Or.inl ⟨by rfl, fun w _ => by go_simp⟩) hS ?_
        simp only [List.getElem_toArray, List.getElem_cons_zero, Act.put, List.setIfInBounds_toArray, List.set_cons_zero, List.set_cons_succ]
        refine wpAnyB_pure (i := 1) (v := .pointer (some ⟨g, 0, none⟩)) rfl (by kernel_rfl) (fun _ _ _ h => h) (Or.inl ⟨by rfl, fun w _ => by go_simp⟩) hS ?_
        simp only [List.getElem_toArray, List.getElem_cons_succ, List.getElem_cons_zero, Act.put, List.setIfInBounds_toArray, List.set_cons_zero, List.set_cons_succ]
        refine wpAnyB_pure (i := 2) (v := .pointer (some ⟨g, 0, none⟩)) rfl (by kernel_rfl) (fun _ _ _ h => h) (Or.inl ⟨by rfl, fun w _ => by go_simp⟩) hS ?_
        simp only [List.getElem_toArray, List.getElem_cons_succ, List.getElem_cons_zero, Act.put, List.setIfInBounds_toArray, List.set_cons_zero, List.set_cons_succ]
        refine wpAnyB_take [] (i := 3) (v := .slice (some ⟨gF, 0, none⟩) (F.length * 256) capF) rfl (by kernel_rfl) (fun _ _ _ h => h) (Or.inl ⟨by rfl, fun w hSw => by have := hC0 w hSw; go_simp⟩) hS ?_
        simp only [List.getElem_toArray, List.getElem_cons_succ, List.getElem_cons_zero, Act.put, List.setIfInBounds_toArray, List.set_cons_zero, List.set_cons_succ]
        refine wpAnyB_pure (i := 4) (v := .int .i64 (k : Int)) rfl (by kernel_rfl) (fun _ _ _ h => h) (Or.inl ⟨by rfl, fun w _ => by go_simp⟩) hS ?_
        simp only [List.getElem_toArray, List.getElem_cons_succ, List.getElem_cons_zero, Act.put, List.setIfInBounds_toArray, List.set_cons_zero, List.set_cons_succ]
        refine wpAnyB_pure (i := 5) (v := .int .i64 ((k : Int) * 256)) rfl (by kernel_rfl) (fun _ _ _ h => h) (Or.inl ⟨by rfl, fun w _ => by go_simp⟩) hS ?_
        simp only [List.getElem_toArray, List.getElem_cons_succ, List.getElem_cons_zero, Act.put, List.setIfInBounds_toArray, List.set_cons_zero, List.set_cons_succ]
        refine wpAnyB_pure (i := 6) (v := .int .i64 (k : Int)) rfl (by kernel_rfl) (fun _ _ _ h => h) (Or.inl ⟨by rfl, fun w _ => by go_simp⟩) hS ?_
        simp only [List.getElem_toArray, List.getElem_cons_succ, List.getElem_cons_zero, Act.put, List.setIfInBounds_toArray, List.set_cons_zero, List.set_cons_succ]
        refine wpAnyB_pure (i := 7) (v := .int .i64 ((k : Int) + 1)) rfl (by kernel_rfl) (fun _ _ _ h => h) (Or.inl ⟨by rfl, fun w _ => by go_simp⟩) hS ?_
        simp only [List.getElem_toArray, List.getElem_cons_succ, List.getElem_cons_zero, Act.put, List.setIfInBounds_toArray, List.set_cons_zero, List.set_cons_succ]
        refine wpAnyB_pure (i := 8) (v := .int .i64 (((k : Int) + 1) * 256)) rfl (by kernel_rfl) (fun _ _ _ h => h) (Or.inl ⟨by rfl, fun w _ => by go_simp⟩) hS ?_
        simp only [List.getElem_toArray, List.getElem_cons_succ, List.getElem_cons_zero, Act.put, List.setIfInBounds_toArray, List.set_cons_zero, List.set_cons_succ]
        refine wpAnyB_pure (i := 9) (v := .slice (some ⟨gF, k * 256, none⟩) 256 (capF - k * 256)) rfl (by kernel_rfl) (fun _ _ _ h => h) (Or.inl ⟨by rfl, fun w _ => by go_simp⟩) hS ?_
        simp only [List.getElem_toArray, List.getElem_cons_succ, List.getElem_cons_zero, Act.put, List.setIfInBounds_toArray, List.set_cons_zero, List.set_cons_succ]
        refine wpAnyB_take [] (i := 10) (v := .string (strOfNums F[k])) rfl (by kernel_rfl) (fun _ _ _ h => h) (yields_convert (by rfl) rfl rfl (fun w' hw' => (HX.out w' hw').conv)) hS ?_
        simp only [List.getElem_toArray, List.getElem_cons_succ, List.getElem_cons_zero, Act.put, List.setIfInBounds_toArray, List.set_cons_zero, List.set_cons_succ]
        refine wpAnyB_pure (i := 11) (v := vb) rfl (by kernel_rfl) (fun _ _ _ h => h) (Or.inl ⟨by rfl, fun w _ => by go_simp⟩) hS ?_
        simp only [List.getElem_toArray, List.getElem_cons_succ, List.getElem_cons_zero, Act.put, List.setIfInBounds_toArray, List.set_cons_zero, List.set_cons_succ]
        refine wpAnyB_take [] (i := 12) (v := .string (strOfNums b)) rfl (by kernel_rfl) (fun _ _ _ h => h) (yields_convert (by rfl) rfl rfl (fun w' hw' => (HY.out w' hw').conv)) hS ?_
        simp only [List.getElem_toArray, List.getElem_cons_succ, List.getElem_cons_zero, Act.put, List.setIfInBounds_toArray, List.set_cons_zero, List.set_cons_succ]
        refine wpAnyB_pure (i := 13) (v := .bool false) rfl (by kernel_rfl) (fun _ _ _ h => h) (Or.inl ⟨by rfl, fun w _ => by go_simp⟩) hS ?_
        simp only [List.getElem_toArray, List.getElem_cons_succ, List.getElem_cons_zero, Act.put, List.setIfInBounds_toArray, List.set_cons_zero, List.set_cons_succ]
        refine wpAnyB_done (by kernel_rfl) ?_ _
        refine NoPanic.normal ?_
        clear hC0 hse c0
        have HS : Hid (Below wr.heap.size wr wr.drew) := hS
        clear hS
        go_wp2
        go_roundw
        case rel => exact ⟨k + 1, by omega, by go_num, HNO'.out, HB.out.trans (HS.out.mono hbs)⟩
        case measure => simp [intOf]; omega
    · have hlt' : ¬ ((k : Int) * 256 < (F.length : Int) * 256) := by omega
      have HR : Hid (pl = -1) := by show _ = _; rw [HPL.out]; exact place_none (fun i hi => HNO.out i hi (by omega))
      have HB : Hid (Below w.heap.size w wr) := hB
      clear hB
      go_wp2
      go_ret
      exact ⟨by rw [HR.out]; rfl, HB.out⟩
end Go.Proofs.Ytmknifnhcgdkaaa.S3
