/-
  scansionref03.Build: the document's trie of entries.
-/
import Derived.Test.YtmknifnhcgdkaaaX34
import Derived.Test.YtmknifnhcgdkaaaX35
namespace Go.Proofs.Ytmknifnhcgdkaaa.S3
open Go.RowKit
set_option linter.unusedVariables false

/-- A block while its values are put in. -/
def fillR (f : Int → Int) (k i : Nat) : List Int := (List.range 256).map fun j => if j < i then f ((k * 256 + j : Nat) : Int) else 0
theorem fillR_length (f : Int → Int) (k i : Nat) : (fillR f k i).length = 256 := by simp [fillR]
theorem zeroB_get {i : Nat} (h : i < zeroB.length) : zeroB[i] = 0 := List.eq_of_mem_replicate (n := 256) (List.getElem_mem h : zeroB[i] ∈ List.replicate 256 (0 : Int))
theorem fillR_zero (f : Int → Int) (k : Nat) : fillR f k 0 = zeroB := by
  apply List.ext_getElem
  · rw [fillR_length, zeroB_length]
  · intro i h1 h2
    rw [zeroB_get h2]
    simp only [fillR, List.getElem_map, Nat.not_lt_zero, if_false]
theorem fillR_step (f : Int → Int) {k i : Nat} (h : i < 256) : (fillR f k i).set i (f ((k * 256 + i : Nat) : Int)) = fillR f k (i + 1) := by
  apply List.ext_getElem
  · simp [fillR]
  · intro j h1 h2
    rw [List.getElem_set]
    by_cases e : i = j
    · subst e
      simp [fillR]
    · rw [if_neg e]
      simp only [fillR, List.getElem_map, List.getElem_range]
      by_cases q : j < i
      · rw [if_pos q, if_pos (by omega)]
      · rw [if_neg q, if_neg (by omega)]
theorem fillR_end (f : Int → Int) (k : Nat) : fillR f k 256 = blkF f k := by
  apply List.ext_getElem
  · simp [fillR, blkF]
  · intro j h1 h2
    have : j < 256 := by simpa [blkF] using h2
    simp [fillR, blkF, this]
theorem fill_touch (l : List Pp) (k : Nat) : blkF (valP (touchL l k)) k = blkF (valP l) k := blkF_congr fun r h1 h2 => by
  unfold valP touchL
  refine val_filter l _ r 0 fun p hp h => ?_
  have := hasP_iff.1 h
  exact touchB_iff.2 ⟨by omega, by omega⟩
theorem fill_none (l : List Pp) (k i : Nat) (h : (touchL l k).length = 0) : fillR (valP (touchL l k)) k i = blkF (valP l) k := by
  rw [← fill_touch, List.length_eq_zero_iff.1 h]
  apply List.ext_getElem
  · rw [fillR_length, blkF_length]
  · intro j h1 h2
    simp only [fillR, blkF, List.getElem_map, val_nil, ite_self]
theorem made_zero {iU : TypeInfo} (h : iU.size = 1) : madeCells (Value.int .u8 0).cells (256 * iU.size) = (i8 zeroB).toArray := by
  rw [h, i8_zeroB]
  apply Array.toList_inj.1
  show (madeCells #[Value.int .u8 0] 256).toList = _
  rw [toList_madeCells_one]
theorem RefAt.below {n : Nat} {w w' : World} {g : Nat} {F : List (List Int)} {L : List Nat} (h : RefAt n w g F L) (hb : Below w.heap.size w w') : RefAt n w' g F L := by
  obtain ⟨vF, vL, h1, h2, h3, h4, h5⟩ := h
  exact ⟨vF, vL, h1, (hb.block g (heap_lt h2)).trans h2, ownsRow_below h3 hb, ownsRow_below h4 hb, h5⟩
theorem RefAt.first {n : Nat} {w : World} {g : Nat} {F : List (List Int)} {L : List Nat} (h : RefAt n w g F L) : ∃ aF cap, w.cell? ⟨g, 0, none⟩ = some (.slice aF (F.length * 256) cap) := by
  obtain ⟨vF, vL, h1, h2, h3, h4, h5⟩ := h
  obtain ⟨aF, capF, rfl⟩ := slice_of_row h3
  exact ⟨aF, capF, cell_row h2 rfl⟩

set_option maxRecDepth 100000 in
set_option maxHeartbeats 16000000 in
theorem refBuild_any (l : List Pp) (v : Value) (w : World) (hv : PropsIn w v l) (hby : Bytes l) :
    Calls Try.prog 35 #[v] w fun e w' => ∃ pv, e = .returned (.tuple #[pv, .int .i64 (errB l)]) ∧ (errB l ≠ 0 → pv = .pointer none) ∧ (errB l = 0 → ∃ g, pv = .pointer (some ⟨g, 0, none⟩) ∧ RefAt w.heap.size w' g (firstB l) (likeOf (blocksF (valP l)))) ∧ Below w.heap.size w w' := by
  obtain ⟨iU, hiU, hzU0, hzU1, hzU2⟩ := info_parts Try.infoByte
  have HV : Hid (PropsIn w v l) := hv
  obtain ⟨a, cap, rfl, hc, hcell⟩ := hv
  have HC : Hid (∀ i, (h : i < l.length) → ∃ g off, a = some ⟨g, off, none⟩ ∧ g < w.heap.size ∧ w.cell? ⟨g, off + i * 3, none⟩ = some (.int .i64 l[i].lo) ∧ w.cell? ⟨g, off + i * 3 + 1, none⟩ = some (.int .i64 l[i].hi) ∧ w.cell? ⟨g, off + i * 3 + 2, none⟩ = some (.int .u8 l[i].v)) := hcell
  clear hcell
  obtain ⟨er, her⟩ : ∃ er, er = errB l := ⟨_, rfl⟩
  rw [← her]
  have HER : Hid (er = errB l) := her
  clear her
  obtain ⟨bs, hbs0⟩ : ∃ bs, bs = blocksF (valP l) := ⟨_, rfl⟩
  have HBS : Hid (bs = blocksF (valP l)) := hbs0
  have HFB : Hid (firstB l = firstsOf bs) := by show _ = _; unfold firstB; rw [hbs0]
  rw [← hbs0]
  have hbl : bs.length = 4352 := by rw [hbs0]; exact blocksF_length _
  have HBL : Hid (bs.length = 4352) := hbl
  clear hbs0 hbl
  by_cases h4 : 4096 < l.length
  · have h4' : (4096 : Int) < (l.length : Int) := by omega
    have e3 : er = 3 := by rw [HER.out]; unfold errB; rw [if_pos h4]
    subst e3
    go_enter Try.func35, Try.ntmps35
    go_wp2
    go_ret2
    exact ⟨_, rfl, fun _ => rfl, fun h => by omega, Below.refl _ _⟩
  · have h4' : ¬ ((4096 : Int) < (l.length : Int)) := by omega
    go_enter Try.func35, Try.ntmps35
    go_wp2
    go_loopw [4] (fun x wr => ∃ k : Nat, k ≤ l.length ∧ x = .int .i64 k ∧ (∀ i, (h : i < l.length) → i < k → good1 l[i] = true) ∧ Below w.heap.size w wr) (fun x _ => l.length - (intOf x).toNat)
    case atStart => exact ⟨0, Nat.zero_le _, rfl, fun i h q => by omega, Below.refl _ _⟩
    case round =>
      obtain ⟨k, hk, rfl, hgd, hB⟩ := hrel
      have HGD : Hid (∀ i, (h : i < l.length) → i < k → good1 l[i] = true) := hgd
      have hbs := hB.size
      clear hgd
      by_cases hlt : k < l.length
      · obtain ⟨g, off, rfl, hg, c0, c1, c2⟩ := HC.out k hlt
        obtain ⟨p, hp⟩ : ∃ p, p = l[k] := ⟨_, rfl⟩
        rw [← hp] at c0 c1 c2
        have HP : Hid (p = l[k]) := hp
        have HP0 : Hid (∀ w', Below wr.heap.size wr w' → w'.cell? ⟨g, off + k * 3, none⟩ = some (.int .i64 p.lo)) := fun w' hw' => (hw'.cell (p := ⟨g, _, none⟩) (by show g < _; omega)).trans ((hB.cell (p := ⟨g, _, none⟩) hg).trans c0)
        have HP1 : Hid (∀ w', Below wr.heap.size wr w' → w'.cell? ⟨g, off + k * 3 + 1, none⟩ = some (.int .i64 p.hi)) := fun w' hw' => (hw'.cell (p := ⟨g, _, none⟩) (by show g < _; omega)).trans ((hB.cell (p := ⟨g, _, none⟩) hg).trans c1)
        have HB : Hid (Below w.heap.size w wr) := hB
        have hlt' : (k : Int) < (l.length : Int) := by omega
        clear c0 c1 c2 hp hB
        by_cases hgood : good1 p = true
        · obtain ⟨g1, g2, g3⟩ := good1_iff.1 hgood
          have n1 : ¬ (p.lo < 0) := by omega
          have n2 : ¬ (1114111 < p.hi) := by omega
          have n3 : ¬ (p.hi < p.lo) := by omega
          have HGO : Hid (good1 p = true) := hgood
          clear hgood
          go_wp2_with fail
          refine wp_region_bad (fun w' => Below wr.heap.size wr w') [] (by kernel_rfl) ((Below.refl _ _).drew) (fun hS => ?_)
          have hP0 := HP0.out
          have hP1 := HP1.out
          refine wpAnyB_pure (i := 0) (v := .slice (some ⟨g, off, none⟩) l.length cap) rfl (by kernel_rfl) (fun _ _ _ h => h) (Or.inl ⟨by rfl, fun w _ => by go_simp⟩) hS ?_
          simp only [List.getElem_toArray, List.getElem_cons_zero, Act.put, List.setIfInBounds_toArray, List.set_cons_zero, List.set_cons_succ]
          refine wpAnyB_pure (i := 1) (v := .int .i64 (k : Int)) rfl (by kernel_rfl) (fun _ _ _ h => h) (Or.inl ⟨by rfl, fun w _ => by go_simp⟩) hS ?_
          simp only [List.getElem_toArray, List.getElem_cons_succ, List.getElem_cons_zero, Act.put, List.setIfInBounds_toArray, List.set_cons_zero, List.set_cons_succ]
          refine wpAnyB_pure (i := 2) (v := .pointer (some ⟨g, off + k * 3, none⟩)) rfl (by kernel_rfl) (fun _ _ _ h => h) (Or.inl ⟨by rfl, fun w _ => by go_simp⟩) hS ?_
          simp only [List.getElem_toArray, List.getElem_cons_succ, List.getElem_cons_zero, Act.put, List.setIfInBounds_toArray, List.set_cons_zero, List.set_cons_succ]
          refine wpAnyB_pure (i := 3) (v := .pointer (some ⟨g, off + k * 3, none⟩)) rfl (by kernel_rfl) (fun _ _ _ h => h) (Or.inl ⟨by rfl, fun w _ => by go_simp⟩) hS ?_
          simp only [List.getElem_toArray, List.getElem_cons_succ, List.getElem_cons_zero, Act.put, List.setIfInBounds_toArray, List.set_cons_zero, List.set_cons_succ]
          refine wpAnyB_take [] (i := 4) (v := .int .i64 p.lo) rfl (by kernel_rfl) (fun _ _ _ h => h) (Or.inl ⟨by rfl, fun w hSw => by have := hP0 w hSw; go_simp⟩) hS ?_
          simp only [List.getElem_toArray, List.getElem_cons_succ, List.getElem_cons_zero, Act.put, List.setIfInBounds_toArray, List.set_cons_zero, List.set_cons_succ]
          refine wpAnyB_pure (i := 5) (v := .bool false) rfl (by kernel_rfl) (fun _ _ _ h => h) (Or.inl ⟨by rfl, fun w _ => by go_simp⟩) hS ?_
          simp only [List.getElem_toArray, List.getElem_cons_succ, List.getElem_cons_zero, Act.put, List.setIfInBounds_toArray, List.set_cons_zero, List.set_cons_succ]
          refine wpAnyB_pure (i := 6) (v := .bool false) rfl (by kernel_rfl) (fun _ _ _ h => h) (Or.inl ⟨by rfl, fun w _ => by go_simp⟩) hS ?_
          simp only [List.getElem_toArray, List.getElem_cons_succ, List.getElem_cons_zero, Act.put, List.setIfInBounds_toArray, List.set_cons_zero, List.set_cons_succ]
          refine wpAnyB_pure (i := 7) (v := .slice (some ⟨g, off, none⟩) l.length cap) rfl (by kernel_rfl) (fun _ _ _ h => h) (Or.inl ⟨by rfl, fun w _ => by go_simp⟩) hS ?_
          simp only [List.getElem_toArray, List.getElem_cons_succ, List.getElem_cons_zero, Act.put, List.setIfInBounds_toArray, List.set_cons_zero, List.set_cons_succ]
          refine wpAnyB_pure (i := 8) (v := .int .i64 (k : Int)) rfl (by kernel_rfl) (fun _ _ _ h => h) (Or.inl ⟨by rfl, fun w _ => by go_simp⟩) hS ?_
          simp only [List.getElem_toArray, List.getElem_cons_succ, List.getElem_cons_zero, Act.put, List.setIfInBounds_toArray, List.set_cons_zero, List.set_cons_succ]
          refine wpAnyB_pure (i := 9) (v := .pointer (some ⟨g, off + k * 3, none⟩)) rfl (by kernel_rfl) (fun _ _ _ h => h) (Or.inl ⟨by rfl, fun w _ => by go_simp⟩) hS ?_
          simp only [List.getElem_toArray, List.getElem_cons_succ, List.getElem_cons_zero, Act.put, List.setIfInBounds_toArray, List.set_cons_zero, List.set_cons_succ]
          refine wpAnyB_pure (i := 10) (v := .pointer (some ⟨g, off + k * 3 + 1, none⟩)) rfl (by kernel_rfl) (fun _ _ _ h => h) (Or.inl ⟨by rfl, fun w _ => by go_simp⟩) hS ?_
          simp only [List.getElem_toArray, List.getElem_cons_succ, List.getElem_cons_zero, Act.put, List.setIfInBounds_toArray, List.set_cons_zero, List.set_cons_succ]
          refine wpAnyB_take [] (i := 11) (v := .int .i64 p.hi) rfl (by kernel_rfl) (fun _ _ _ h => h) (Or.inl ⟨by rfl, fun w hSw => by have := hP1 w hSw; go_simp⟩) hS ?_
          simp only [List.getElem_toArray, List.getElem_cons_succ, List.getElem_cons_zero, Act.put, List.setIfInBounds_toArray, List.set_cons_zero, List.set_cons_succ]
          refine wpAnyB_pure (i := 12) (v := .bool false) rfl (by kernel_rfl) (fun _ _ _ h => h) (Or.inl ⟨by rfl, fun w _ => by go_simp⟩) hS ?_
          simp only [List.getElem_toArray, List.getElem_cons_succ, List.getElem_cons_zero, Act.put, List.setIfInBounds_toArray, List.set_cons_zero, List.set_cons_succ]
          refine wpAnyB_pure (i := 13) (v := .bool false) rfl (by kernel_rfl) (fun _ _ _ h => h) (Or.inl ⟨by rfl, fun w _ => by go_simp⟩) hS ?_
          simp only [List.getElem_toArray, List.getElem_cons_succ, List.getElem_cons_zero, Act.put, List.setIfInBounds_toArray, List.set_cons_zero, List.set_cons_succ]
          refine wpAnyB_pure (i := 14) (v := .bool false) rfl (by kernel_rfl) (fun _ _ _ h => h) (Or.inl ⟨by rfl, fun w _ => by go_simp⟩) hS ?_
          simp only [List.getElem_toArray, List.getElem_cons_succ, List.getElem_cons_zero, Act.put, List.setIfInBounds_toArray, List.set_cons_zero, List.set_cons_succ]
          refine wpAnyB_pure (i := 15) (v := .slice (some ⟨g, off, none⟩) l.length cap) rfl (by kernel_rfl) (fun _ _ _ h => h) (Or.inl ⟨by rfl, fun w _ => by go_simp⟩) hS ?_
          simp only [List.getElem_toArray, List.getElem_cons_succ, List.getElem_cons_zero, Act.put, List.setIfInBounds_toArray, List.set_cons_zero, List.set_cons_succ]
          refine wpAnyB_pure (i := 16) (v := .int .i64 (k : Int)) rfl (by kernel_rfl) (fun _ _ _ h => h) (Or.inl ⟨by rfl, fun w _ => by go_simp⟩) hS ?_
          simp only [List.getElem_toArray, List.getElem_cons_succ, List.getElem_cons_zero, Act.put, List.setIfInBounds_toArray, List.set_cons_zero, List.set_cons_succ]
          refine wpAnyB_pure (i := 17) (v := .pointer (some ⟨g, off + k * 3, none⟩)) rfl (by kernel_rfl) (fun _ _ _ h => h) (Or.inl ⟨by rfl, fun w _ => by go_simp⟩) hS ?_
          simp only [List.getElem_toArray, List.getElem_cons_succ, List.getElem_cons_zero, Act.put, List.setIfInBounds_toArray, List.set_cons_zero, List.set_cons_succ]
          refine wpAnyB_pure (i := 18) (v := .pointer (some ⟨g, off + k * 3, none⟩)) rfl (by kernel_rfl) (fun _ _ _ h => h) (Or.inl ⟨by rfl, fun w _ => by go_simp⟩) hS ?_
          simp only [List.getElem_toArray, List.getElem_cons_succ, List.getElem_cons_zero, Act.put, List.setIfInBounds_toArray, List.set_cons_zero, List.set_cons_succ]
          refine wpAnyB_take [] (i := 19) (v := .int .i64 p.lo) rfl (by kernel_rfl) (fun _ _ _ h => h) (Or.inl ⟨by rfl, fun w hSw => by have := hP0 w hSw; go_simp⟩) hS ?_
          simp only [List.getElem_toArray, List.getElem_cons_succ, List.getElem_cons_zero, Act.put, List.setIfInBounds_toArray, List.set_cons_zero, List.set_cons_succ]
          refine wpAnyB_pure (i := 20) (v := .slice (some ⟨g, off, none⟩) l.length cap) rfl (by kernel_rfl) (fun _ _ _ h => h) (Or.inl ⟨by rfl, fun w _ => by go_simp⟩) hS ?_
          simp only [List.getElem_toArray, List.getElem_cons_succ, List.getElem_cons_zero, Act.put, List.setIfInBounds_toArray, List.set_cons_zero, List.set_cons_succ]
          refine wpAnyB_pure (i := 21) (v := .int .i64 (k : Int)) rfl (by kernel_rfl) (fun _ _ _ h => h) (Or.inl ⟨by rfl, fun w _ => by go_simp⟩) hS ?_
          simp only [List.getElem_toArray, List.getElem_cons_succ, List.getElem_cons_zero, Act.put, List.setIfInBounds_toArray, List.set_cons_zero, List.set_cons_succ]
          refine wpAnyB_pure (i := 22) (v := .pointer (some ⟨g, off + k * 3, none⟩)) rfl (by kernel_rfl) (fun _ _ _ h => h) (Or.inl ⟨by rfl, fun w _ => by go_simp⟩) hS ?_
          simp only [List.getElem_toArray, List.getElem_cons_succ, List.getElem_cons_zero, Act.put, List.setIfInBounds_toArray, List.set_cons_zero, List.set_cons_succ]
          refine wpAnyB_pure (i := 23) (v := .pointer (some ⟨g, off + k * 3 + 1, none⟩)) rfl (by kernel_rfl) (fun _ _ _ h => h) (Or.inl ⟨by rfl, fun w _ => by go_simp⟩) hS ?_
          simp only [List.getElem_toArray, List.getElem_cons_succ, List.getElem_cons_zero, Act.put, List.setIfInBounds_toArray, List.set_cons_zero, List.set_cons_succ]
          refine wpAnyB_take [] (i := 24) (v := .int .i64 p.hi) rfl (by kernel_rfl) (fun _ _ _ h => h) (Or.inl ⟨by rfl, fun w hSw => by have := hP1 w hSw; go_simp⟩) hS ?_
          simp only [List.getElem_toArray, List.getElem_cons_succ, List.getElem_cons_zero, Act.put, List.setIfInBounds_toArray, List.set_cons_zero, List.set_cons_succ]
          refine wpAnyB_pure (i := 25) (v := .bool false) rfl (by kernel_rfl) (fun _ _ _ h => h) (Or.inl ⟨by rfl, fun w _ => by go_simp⟩) hS ?_
          simp only [List.getElem_toArray, List.getElem_cons_succ, List.getElem_cons_zero, Act.put, List.setIfInBounds_toArray, List.set_cons_zero, List.set_cons_succ]
          refine wpAnyB_pure (i := 26) (v := .bool false) rfl (by kernel_rfl) (fun _ _ _ h => h) (Or.inl ⟨by rfl, fun w _ => by go_simp⟩) hS ?_
          simp only [List.getElem_toArray, List.getElem_cons_succ, List.getElem_cons_zero, Act.put, List.setIfInBounds_toArray, List.set_cons_zero, List.set_cons_succ]
          refine wpAnyB_done (by kernel_rfl) ?_ _
          refine NoPanic.normal ?_
          clear hP0 hP1
          have HS : Hid (Below wr.heap.size wr wr.drew) := hS
          clear hS
          go_wp2
          go_roundw
          case rel =>
            refine ⟨k + 1, by omega, by go_num, fun i h q => ?_, HB.out.trans (HS.out.mono hbs)⟩
            by_cases e : i = k
            · subst e; rw [← HP.out]; exact HGO.out
            · exact HGD.out i h (by omega)
          case measure => simp [intOf]; omega
        · have e1 : er = 1 := by
            have hall : l.all good1 = false := by
              rw [← Bool.not_eq_true]
              intro h
              exact hgood (by rw [HP.out]; exact List.all_eq_true.1 h _ (List.getElem_mem hlt))
            rw [HER.out]; unfold errB; rw [if_neg h4, if_pos hall]
          subst e1
          have hor : p.lo < 0 ∨ ¬ (p.lo < 0) ∧ 1114111 < p.hi ∨ ¬ (p.lo < 0) ∧ ¬ (1114111 < p.hi) ∧ p.hi < p.lo := by
            rw [good1_iff] at hgood
            omega
          clear hgood
          rcases hor with n1 | ⟨n1, n2⟩ | ⟨n1, n2, n3⟩
          ·
            go_wp2_with fail
            refine wp_region_bad (fun w' => Below wr.heap.size wr w') [] (by kernel_rfl) ((Below.refl _ _).drew) (fun hS => ?_)
            have hP0 := HP0.out
            have hP1 := HP1.out
            refine wpAnyB_pure (i := 0) (v := .slice (some ⟨g, off, none⟩) l.length cap) rfl (by kernel_rfl) (fun _ _ _ h => h) (Or.inl ⟨by rfl, fun w _ => by go_simp⟩) hS ?_
            simp only [List.getElem_toArray, List.getElem_cons_zero, Act.put, List.setIfInBounds_toArray, List.set_cons_zero, List.set_cons_succ]
            refine wpAnyB_pure (i := 1) (v := .int .i64 (k : Int)) rfl (by kernel_rfl) (fun _ _ _ h => h) (Or.inl ⟨by rfl, fun w _ => by go_simp⟩) hS ?_
            simp only [List.getElem_toArray, List.getElem_cons_succ, List.getElem_cons_zero, Act.put, List.setIfInBounds_toArray, List.set_cons_zero, List.set_cons_succ]
            refine wpAnyB_pure (i := 2) (v := .pointer (some ⟨g, off + k * 3, none⟩)) rfl (by kernel_rfl) (fun _ _ _ h => h) (Or.inl ⟨by rfl, fun w _ => by go_simp⟩) hS ?_
            simp only [List.getElem_toArray, List.getElem_cons_succ, List.getElem_cons_zero, Act.put, List.setIfInBounds_toArray, List.set_cons_zero, List.set_cons_succ]
            refine wpAnyB_pure (i := 3) (v := .pointer (some ⟨g, off + k * 3, none⟩)) rfl (by kernel_rfl) (fun _ _ _ h => h) (Or.inl ⟨by rfl, fun w _ => by go_simp⟩) hS ?_
            simp only [List.getElem_toArray, List.getElem_cons_succ, List.getElem_cons_zero, Act.put, List.setIfInBounds_toArray, List.set_cons_zero, List.set_cons_succ]
            refine wpAnyB_take [] (i := 4) (v := .int .i64 p.lo) rfl (by kernel_rfl) (fun _ _ _ h => h) (Or.inl ⟨by rfl, fun w hSw => by have := hP0 w hSw; go_simp⟩) hS ?_
            simp only [List.getElem_toArray, List.getElem_cons_succ, List.getElem_cons_zero, Act.put, List.setIfInBounds_toArray, List.set_cons_zero, List.set_cons_succ]
            refine wpAnyB_pure (i := 5) (v := .bool true) rfl (by kernel_rfl) (fun _ _ _ h => h) (Or.inl ⟨by rfl, fun w _ => by go_simp⟩) hS ?_
            simp only [List.getElem_toArray, List.getElem_cons_succ, List.getElem_cons_zero, Act.put, List.setIfInBounds_toArray, List.set_cons_zero, List.set_cons_succ]
            refine wpAnyB_pure (i := 6) (v := .bool true) rfl (by kernel_rfl) (fun _ _ _ h => h) (Or.inl ⟨by rfl, fun w _ => by go_simp⟩) hS ?_
            simp only [List.getElem_toArray, List.getElem_cons_succ, List.getElem_cons_zero, Act.put, List.setIfInBounds_toArray, List.set_cons_zero, List.set_cons_succ]
            refine wpAnyB_pure (i := 7) (v := undef) rfl (by kernel_rfl) (fun _ _ _ h => h) (Or.inr ⟨by rfl, rfl⟩) hS ?_
            simp only [List.getElem_toArray, List.getElem_cons_succ, List.getElem_cons_zero, Act.put, List.setIfInBounds_toArray, List.set_cons_zero, List.set_cons_succ]
            refine wpAnyB_pure (i := 8) (v := undef) rfl (by kernel_rfl) (fun _ _ _ h => h) (Or.inr ⟨by rfl, rfl⟩) hS ?_
            simp only [List.getElem_toArray, List.getElem_cons_succ, List.getElem_cons_zero, Act.put, List.setIfInBounds_toArray, List.set_cons_zero, List.set_cons_succ]
            refine wpAnyB_pure (i := 9) (v := undef) rfl (by kernel_rfl) (fun _ _ _ h => h) (Or.inr ⟨by rfl, rfl⟩) hS ?_
            simp only [List.getElem_toArray, List.getElem_cons_succ, List.getElem_cons_zero, Act.put, List.setIfInBounds_toArray, List.set_cons_zero, List.set_cons_succ]
            refine wpAnyB_pure (i := 10) (v := undef) rfl (by kernel_rfl) (fun _ _ _ h => h) (Or.inr ⟨by rfl, rfl⟩) hS ?_
            simp only [List.getElem_toArray, List.getElem_cons_succ, List.getElem_cons_zero, Act.put, List.setIfInBounds_toArray, List.set_cons_zero, List.set_cons_succ]
            refine wpAnyB_pure (i := 11) (v := undef) rfl (by kernel_rfl) (fun _ _ _ h => h) (Or.inr ⟨by rfl, rfl⟩) hS ?_
            simp only [List.getElem_toArray, List.getElem_cons_succ, List.getElem_cons_zero, Act.put, List.setIfInBounds_toArray, List.set_cons_zero, List.set_cons_succ]
            refine wpAnyB_pure (i := 12) (v := undef) rfl (by kernel_rfl) (fun _ _ _ h => h) (Or.inr ⟨by rfl, rfl⟩) hS ?_
            simp only [List.getElem_toArray, List.getElem_cons_succ, List.getElem_cons_zero, Act.put, List.setIfInBounds_toArray, List.set_cons_zero, List.set_cons_succ]
            refine wpAnyB_pure (i := 13) (v := .bool true) rfl (by kernel_rfl) (fun _ _ _ h => h) (Or.inl ⟨by rfl, fun w _ => by go_simp⟩) hS ?_
            simp only [List.getElem_toArray, List.getElem_cons_succ, List.getElem_cons_zero, Act.put, List.setIfInBounds_toArray, List.set_cons_zero, List.set_cons_succ]
            refine wpAnyB_pure (i := 14) (v := .bool true) rfl (by kernel_rfl) (fun _ _ _ h => h) (Or.inl ⟨by rfl, fun w _ => by go_simp⟩) hS ?_
            simp only [List.getElem_toArray, List.getElem_cons_succ, List.getElem_cons_zero, Act.put, List.setIfInBounds_toArray, List.set_cons_zero, List.set_cons_succ]
            refine wpAnyB_pure (i := 15) (v := undef) rfl (by kernel_rfl) (fun _ _ _ h => h) (Or.inr ⟨by rfl, rfl⟩) hS ?_
            simp only [List.getElem_toArray, List.getElem_cons_succ, List.getElem_cons_zero, Act.put, List.setIfInBounds_toArray, List.set_cons_zero, List.set_cons_succ]
            refine wpAnyB_pure (i := 16) (v := undef) rfl (by kernel_rfl) (fun _ _ _ h => h) (Or.inr ⟨by rfl, rfl⟩) hS ?_
            simp only [List.getElem_toArray, List.getElem_cons_succ, List.getElem_cons_zero, Act.put, List.setIfInBounds_toArray, List.set_cons_zero, List.set_cons_succ]
            refine wpAnyB_pure (i := 17) (v := undef) rfl (by kernel_rfl) (fun _ _ _ h => h) (Or.inr ⟨by rfl, rfl⟩) hS ?_
            simp only [List.getElem_toArray, List.getElem_cons_succ, List.getElem_cons_zero, Act.put, List.setIfInBounds_toArray, List.set_cons_zero, List.set_cons_succ]
            refine wpAnyB_pure (i := 18) (v := undef) rfl (by kernel_rfl) (fun _ _ _ h => h) (Or.inr ⟨by rfl, rfl⟩) hS ?_
            simp only [List.getElem_toArray, List.getElem_cons_succ, List.getElem_cons_zero, Act.put, List.setIfInBounds_toArray, List.set_cons_zero, List.set_cons_succ]
            refine wpAnyB_pure (i := 19) (v := undef) rfl (by kernel_rfl) (fun _ _ _ h => h) (Or.inr ⟨by rfl, rfl⟩) hS ?_
            simp only [List.getElem_toArray, List.getElem_cons_succ, List.getElem_cons_zero, Act.put, List.setIfInBounds_toArray, List.set_cons_zero, List.set_cons_succ]
            refine wpAnyB_pure (i := 20) (v := undef) rfl (by kernel_rfl) (fun _ _ _ h => h) (Or.inr ⟨by rfl, rfl⟩) hS ?_
            simp only [List.getElem_toArray, List.getElem_cons_succ, List.getElem_cons_zero, Act.put, List.setIfInBounds_toArray, List.set_cons_zero, List.set_cons_succ]
            refine wpAnyB_pure (i := 21) (v := undef) rfl (by kernel_rfl) (fun _ _ _ h => h) (Or.inr ⟨by rfl, rfl⟩) hS ?_
            simp only [List.getElem_toArray, List.getElem_cons_succ, List.getElem_cons_zero, Act.put, List.setIfInBounds_toArray, List.set_cons_zero, List.set_cons_succ]
            refine wpAnyB_pure (i := 22) (v := undef) rfl (by kernel_rfl) (fun _ _ _ h => h) (Or.inr ⟨by rfl, rfl⟩) hS ?_
            simp only [List.getElem_toArray, List.getElem_cons_succ, List.getElem_cons_zero, Act.put, List.setIfInBounds_toArray, List.set_cons_zero, List.set_cons_succ]
            refine wpAnyB_pure (i := 23) (v := undef) rfl (by kernel_rfl) (fun _ _ _ h => h) (Or.inr ⟨by rfl, rfl⟩) hS ?_
            simp only [List.getElem_toArray, List.getElem_cons_succ, List.getElem_cons_zero, Act.put, List.setIfInBounds_toArray, List.set_cons_zero, List.set_cons_succ]
            refine wpAnyB_pure (i := 24) (v := undef) rfl (by kernel_rfl) (fun _ _ _ h => h) (Or.inr ⟨by rfl, rfl⟩) hS ?_
            simp only [List.getElem_toArray, List.getElem_cons_succ, List.getElem_cons_zero, Act.put, List.setIfInBounds_toArray, List.set_cons_zero, List.set_cons_succ]
            refine wpAnyB_pure (i := 25) (v := undef) rfl (by kernel_rfl) (fun _ _ _ h => h) (Or.inr ⟨by rfl, rfl⟩) hS ?_
            simp only [List.getElem_toArray, List.getElem_cons_succ, List.getElem_cons_zero, Act.put, List.setIfInBounds_toArray, List.set_cons_zero, List.set_cons_succ]
            refine wpAnyB_pure (i := 26) (v := .bool true) rfl (by kernel_rfl) (fun _ _ _ h => h) (Or.inl ⟨by rfl, fun w _ => by go_simp⟩) hS ?_
            simp only [List.getElem_toArray, List.getElem_cons_succ, List.getElem_cons_zero, Act.put, List.setIfInBounds_toArray, List.set_cons_zero, List.set_cons_succ]
            refine wpAnyB_done (by kernel_rfl) ?_ _
            refine NoPanic.normal ?_
            clear hP0 hP1
            have HS : Hid (Below wr.heap.size wr wr.drew) := hS
            clear hS
            go_wp2
            go_ret2
            first | exact ⟨_, rfl, fun _ => rfl, fun h => by omega, HB.out.trans (HS.out.mono hbs)⟩ | exact ⟨_, rfl, rfl, HB.out.trans (HS.out.mono hbs)⟩
          ·
            go_wp2_with fail
            refine wp_region_bad (fun w' => Below wr.heap.size wr w') [] (by kernel_rfl) ((Below.refl _ _).drew) (fun hS => ?_)
            have hP0 := HP0.out
            have hP1 := HP1.out
            refine wpAnyB_pure (i := 0) (v := .slice (some ⟨g, off, none⟩) l.length cap) rfl (by kernel_rfl) (fun _ _ _ h => h) (Or.inl ⟨by rfl, fun w _ => by go_simp⟩) hS ?_
            simp only [List.getElem_toArray, List.getElem_cons_zero, Act.put, List.setIfInBounds_toArray, List.set_cons_zero, List.set_cons_succ]
            refine wpAnyB_pure (i := 1) (v := .int .i64 (k : Int)) rfl (by kernel_rfl) (fun _ _ _ h => h) (Or.inl ⟨by rfl, fun w _ => by go_simp⟩) hS ?_
            simp only [List.getElem_toArray, List.getElem_cons_succ, List.getElem_cons_zero, Act.put, List.setIfInBounds_toArray, List.set_cons_zero, List.set_cons_succ]
            refine wpAnyB_pure (i := 2) (v := .pointer (some ⟨g, off + k * 3, none⟩)) rfl (by kernel_rfl) (fun _ _ _ h => h) (Or.inl ⟨by rfl, fun w _ => by go_simp⟩) hS ?_
            simp only [List.getElem_toArray, List.getElem_cons_succ, List.getElem_cons_zero, Act.put, List.setIfInBounds_toArray, List.set_cons_zero, List.set_cons_succ]
            refine wpAnyB_pure (i := 3) (v := .pointer (some ⟨g, off + k * 3, none⟩)) rfl (by kernel_rfl) (fun _ _ _ h => h) (Or.inl ⟨by rfl, fun w _ => by go_simp⟩) hS ?_
            simp only [List.getElem_toArray, List.getElem_cons_succ, List.getElem_cons_zero, Act.put, List.setIfInBounds_toArray, List.set_cons_zero, List.set_cons_succ]
            refine wpAnyB_take [] (i := 4) (v := .int .i64 p.lo) rfl (by kernel_rfl) (fun _ _ _ h => h) (Or.inl ⟨by rfl, fun w hSw => by have := hP0 w hSw; go_simp⟩) hS ?_
            simp only [List.getElem_toArray, List.getElem_cons_succ, List.getElem_cons_zero, Act.put, List.setIfInBounds_toArray, List.set_cons_zero, List.set_cons_succ]
            refine wpAnyB_pure (i := 5) (v := .bool false) rfl (by kernel_rfl) (fun _ _ _ h => h) (Or.inl ⟨by rfl, fun w _ => by go_simp⟩) hS ?_
            simp only [List.getElem_toArray, List.getElem_cons_succ, List.getElem_cons_zero, Act.put, List.setIfInBounds_toArray, List.set_cons_zero, List.set_cons_succ]
            refine wpAnyB_pure (i := 6) (v := .bool false) rfl (by kernel_rfl) (fun _ _ _ h => h) (Or.inl ⟨by rfl, fun w _ => by go_simp⟩) hS ?_
            simp only [List.getElem_toArray, List.getElem_cons_succ, List.getElem_cons_zero, Act.put, List.setIfInBounds_toArray, List.set_cons_zero, List.set_cons_succ]
            refine wpAnyB_pure (i := 7) (v := .slice (some ⟨g, off, none⟩) l.length cap) rfl (by kernel_rfl) (fun _ _ _ h => h) (Or.inl ⟨by rfl, fun w _ => by go_simp⟩) hS ?_
            simp only [List.getElem_toArray, List.getElem_cons_succ, List.getElem_cons_zero, Act.put, List.setIfInBounds_toArray, List.set_cons_zero, List.set_cons_succ]
            refine wpAnyB_pure (i := 8) (v := .int .i64 (k : Int)) rfl (by kernel_rfl) (fun _ _ _ h => h) (Or.inl ⟨by rfl, fun w _ => by go_simp⟩) hS ?_
            simp only [List.getElem_toArray, List.getElem_cons_succ, List.getElem_cons_zero, Act.put, List.setIfInBounds_toArray, List.set_cons_zero, List.set_cons_succ]
            refine wpAnyB_pure (i := 9) (v := .pointer (some ⟨g, off + k * 3, none⟩)) rfl (by kernel_rfl) (fun _ _ _ h => h) (Or.inl ⟨by rfl, fun w _ => by go_simp⟩) hS ?_
            simp only [List.getElem_toArray, List.getElem_cons_succ, List.getElem_cons_zero, Act.put, List.setIfInBounds_toArray, List.set_cons_zero, List.set_cons_succ]
            refine wpAnyB_pure (i := 10) (v := .pointer (some ⟨g, off + k * 3 + 1, none⟩)) rfl (by kernel_rfl) (fun _ _ _ h => h) (Or.inl ⟨by rfl, fun w _ => by go_simp⟩) hS ?_
            simp only [List.getElem_toArray, List.getElem_cons_succ, List.getElem_cons_zero, Act.put, List.setIfInBounds_toArray, List.set_cons_zero, List.set_cons_succ]
            refine wpAnyB_take [] (i := 11) (v := .int .i64 p.hi) rfl (by kernel_rfl) (fun _ _ _ h => h) (Or.inl ⟨by rfl, fun w hSw => by have := hP1 w hSw; go_simp⟩) hS ?_
            simp only [List.getElem_toArray, List.getElem_cons_succ, List.getElem_cons_zero, Act.put, List.setIfInBounds_toArray, List.set_cons_zero, List.set_cons_succ]
            refine wpAnyB_pure (i := 12) (v := .bool true) rfl (by kernel_rfl) (fun _ _ _ h => h) (Or.inl ⟨by rfl, fun w _ => by go_simp⟩) hS ?_
            simp only [List.getElem_toArray, List.getElem_cons_succ, List.getElem_cons_zero, Act.put, List.setIfInBounds_toArray, List.set_cons_zero, List.set_cons_succ]
            refine wpAnyB_pure (i := 13) (v := .bool true) rfl (by kernel_rfl) (fun _ _ _ h => h) (Or.inl ⟨by rfl, fun w _ => by go_simp⟩) hS ?_
            simp only [List.getElem_toArray, List.getElem_cons_succ, List.getElem_cons_zero, Act.put, List.setIfInBounds_toArray, List.set_cons_zero, List.set_cons_succ]
            refine wpAnyB_pure (i := 14) (v := .bool true) rfl (by kernel_rfl) (fun _ _ _ h => h) (Or.inl ⟨by rfl, fun w _ => by go_simp⟩) hS ?_
            simp only [List.getElem_toArray, List.getElem_cons_succ, List.getElem_cons_zero, Act.put, List.setIfInBounds_toArray, List.set_cons_zero, List.set_cons_succ]
            refine wpAnyB_pure (i := 15) (v := undef) rfl (by kernel_rfl) (fun _ _ _ h => h) (Or.inr ⟨by rfl, rfl⟩) hS ?_
            simp only [List.getElem_toArray, List.getElem_cons_succ, List.getElem_cons_zero, Act.put, List.setIfInBounds_toArray, List.set_cons_zero, List.set_cons_succ]
            refine wpAnyB_pure (i := 16) (v := undef) rfl (by kernel_rfl) (fun _ _ _ h => h) (Or.inr ⟨by rfl, rfl⟩) hS ?_
            simp only [List.getElem_toArray, List.getElem_cons_succ, List.getElem_cons_zero, Act.put, List.setIfInBounds_toArray, List.set_cons_zero, List.set_cons_succ]
            refine wpAnyB_pure (i := 17) (v := undef) rfl (by kernel_rfl) (fun _ _ _ h => h) (Or.inr ⟨by rfl, rfl⟩) hS ?_
            simp only [List.getElem_toArray, List.getElem_cons_succ, List.getElem_cons_zero, Act.put, List.setIfInBounds_toArray, List.set_cons_zero, List.set_cons_succ]
            refine wpAnyB_pure (i := 18) (v := undef) rfl (by kernel_rfl) (fun _ _ _ h => h) (Or.inr ⟨by rfl, rfl⟩) hS ?_
            simp only [List.getElem_toArray, List.getElem_cons_succ, List.getElem_cons_zero, Act.put, List.setIfInBounds_toArray, List.set_cons_zero, List.set_cons_succ]
            refine wpAnyB_pure (i := 19) (v := undef) rfl (by kernel_rfl) (fun _ _ _ h => h) (Or.inr ⟨by rfl, rfl⟩) hS ?_
            simp only [List.getElem_toArray, List.getElem_cons_succ, List.getElem_cons_zero, Act.put, List.setIfInBounds_toArray, List.set_cons_zero, List.set_cons_succ]
            refine wpAnyB_pure (i := 20) (v := undef) rfl (by kernel_rfl) (fun _ _ _ h => h) (Or.inr ⟨by rfl, rfl⟩) hS ?_
            simp only [List.getElem_toArray, List.getElem_cons_succ, List.getElem_cons_zero, Act.put, List.setIfInBounds_toArray, List.set_cons_zero, List.set_cons_succ]
            refine wpAnyB_pure (i := 21) (v := undef) rfl (by kernel_rfl) (fun _ _ _ h => h) (Or.inr ⟨by rfl, rfl⟩) hS ?_
            simp only [List.getElem_toArray, List.getElem_cons_succ, List.getElem_cons_zero, Act.put, List.setIfInBounds_toArray, List.set_cons_zero, List.set_cons_succ]
            refine wpAnyB_pure (i := 22) (v := undef) rfl (by kernel_rfl) (fun _ _ _ h => h) (Or.inr ⟨by rfl, rfl⟩) hS ?_
            simp only [List.getElem_toArray, List.getElem_cons_succ, List.getElem_cons_zero, Act.put, List.setIfInBounds_toArray, List.set_cons_zero, List.set_cons_succ]
            refine wpAnyB_pure (i := 23) (v := undef) rfl (by kernel_rfl) (fun _ _ _ h => h) (Or.inr ⟨by rfl, rfl⟩) hS ?_
            simp only [List.getElem_toArray, List.getElem_cons_succ, List.getElem_cons_zero, Act.put, List.setIfInBounds_toArray, List.set_cons_zero, List.set_cons_succ]
            refine wpAnyB_pure (i := 24) (v := undef) rfl (by kernel_rfl) (fun _ _ _ h => h) (Or.inr ⟨by rfl, rfl⟩) hS ?_
            simp only [List.getElem_toArray, List.getElem_cons_succ, List.getElem_cons_zero, Act.put, List.setIfInBounds_toArray, List.set_cons_zero, List.set_cons_succ]
            refine wpAnyB_pure (i := 25) (v := undef) rfl (by kernel_rfl) (fun _ _ _ h => h) (Or.inr ⟨by rfl, rfl⟩) hS ?_
            simp only [List.getElem_toArray, List.getElem_cons_succ, List.getElem_cons_zero, Act.put, List.setIfInBounds_toArray, List.set_cons_zero, List.set_cons_succ]
            refine wpAnyB_pure (i := 26) (v := .bool true) rfl (by kernel_rfl) (fun _ _ _ h => h) (Or.inl ⟨by rfl, fun w _ => by go_simp⟩) hS ?_
            simp only [List.getElem_toArray, List.getElem_cons_succ, List.getElem_cons_zero, Act.put, List.setIfInBounds_toArray, List.set_cons_zero, List.set_cons_succ]
            refine wpAnyB_done (by kernel_rfl) ?_ _
            refine NoPanic.normal ?_
            clear hP0 hP1
            have HS : Hid (Below wr.heap.size wr wr.drew) := hS
            clear hS
            go_wp2
            go_ret2
            first | exact ⟨_, rfl, fun _ => rfl, fun h => by omega, HB.out.trans (HS.out.mono hbs)⟩ | exact ⟨_, rfl, rfl, HB.out.trans (HS.out.mono hbs)⟩
          ·
            go_wp2_with fail
            refine wp_region_bad (fun w' => Below wr.heap.size wr w') [] (by kernel_rfl) ((Below.refl _ _).drew) (fun hS => ?_)
            have hP0 := HP0.out
            have hP1 := HP1.out
            refine wpAnyB_pure (i := 0) (v := .slice (some ⟨g, off, none⟩) l.length cap) rfl (by kernel_rfl) (fun _ _ _ h => h) (Or.inl ⟨by rfl, fun w _ => by go_simp⟩) hS ?_
            simp only [List.getElem_toArray, List.getElem_cons_zero, Act.put, List.setIfInBounds_toArray, List.set_cons_zero, List.set_cons_succ]
            refine wpAnyB_pure (i := 1) (v := .int .i64 (k : Int)) rfl (by kernel_rfl) (fun _ _ _ h => h) (Or.inl ⟨by rfl, fun w _ => by go_simp⟩) hS ?_
            simp only [List.getElem_toArray, List.getElem_cons_succ, List.getElem_cons_zero, Act.put, List.setIfInBounds_toArray, List.set_cons_zero, List.set_cons_succ]
            refine wpAnyB_pure (i := 2) (v := .pointer (some ⟨g, off + k * 3, none⟩)) rfl (by kernel_rfl) (fun _ _ _ h => h) (Or.inl ⟨by rfl, fun w _ => by go_simp⟩) hS ?_
            simp only [List.getElem_toArray, List.getElem_cons_succ, List.getElem_cons_zero, Act.put, List.setIfInBounds_toArray, List.set_cons_zero, List.set_cons_succ]
            refine wpAnyB_pure (i := 3) (v := .pointer (some ⟨g, off + k * 3, none⟩)) rfl (by kernel_rfl) (fun _ _ _ h => h) (Or.inl ⟨by rfl, fun w _ => by go_simp⟩) hS ?_
            simp only [List.getElem_toArray, List.getElem_cons_succ, List.getElem_cons_zero, Act.put, List.setIfInBounds_toArray, List.set_cons_zero, List.set_cons_succ]
            refine wpAnyB_take [] (i := 4) (v := .int .i64 p.lo) rfl (by kernel_rfl) (fun _ _ _ h => h) (Or.inl ⟨by rfl, fun w hSw => by have := hP0 w hSw; go_simp⟩) hS ?_
            simp only [List.getElem_toArray, List.getElem_cons_succ, List.getElem_cons_zero, Act.put, List.setIfInBounds_toArray, List.set_cons_zero, List.set_cons_succ]
            refine wpAnyB_pure (i := 5) (v := .bool false) rfl (by kernel_rfl) (fun _ _ _ h => h) (Or.inl ⟨by rfl, fun w _ => by go_simp⟩) hS ?_
            simp only [List.getElem_toArray, List.getElem_cons_succ, List.getElem_cons_zero, Act.put, List.setIfInBounds_toArray, List.set_cons_zero, List.set_cons_succ]
            refine wpAnyB_pure (i := 6) (v := .bool false) rfl (by kernel_rfl) (fun _ _ _ h => h) (Or.inl ⟨by rfl, fun w _ => by go_simp⟩) hS ?_
            simp only [List.getElem_toArray, List.getElem_cons_succ, List.getElem_cons_zero, Act.put, List.setIfInBounds_toArray, List.set_cons_zero, List.set_cons_succ]
            refine wpAnyB_pure (i := 7) (v := .slice (some ⟨g, off, none⟩) l.length cap) rfl (by kernel_rfl) (fun _ _ _ h => h) (Or.inl ⟨by rfl, fun w _ => by go_simp⟩) hS ?_
            simp only [List.getElem_toArray, List.getElem_cons_succ, List.getElem_cons_zero, Act.put, List.setIfInBounds_toArray, List.set_cons_zero, List.set_cons_succ]
            refine wpAnyB_pure (i := 8) (v := .int .i64 (k : Int)) rfl (by kernel_rfl) (fun _ _ _ h => h) (Or.inl ⟨by rfl, fun w _ => by go_simp⟩) hS ?_
            simp only [List.getElem_toArray, List.getElem_cons_succ, List.getElem_cons_zero, Act.put, List.setIfInBounds_toArray, List.set_cons_zero, List.set_cons_succ]
            refine wpAnyB_pure (i := 9) (v := .pointer (some ⟨g, off + k * 3, none⟩)) rfl (by kernel_rfl) (fun _ _ _ h => h) (Or.inl ⟨by rfl, fun w _ => by go_simp⟩) hS ?_
            simp only [List.getElem_toArray, List.getElem_cons_succ, List.getElem_cons_zero, Act.put, List.setIfInBounds_toArray, List.set_cons_zero, List.set_cons_succ]
            refine wpAnyB_pure (i := 10) (v := .pointer (some ⟨g, off + k * 3 + 1, none⟩)) rfl (by kernel_rfl) (fun _ _ _ h => h) (Or.inl ⟨by rfl, fun w _ => by go_simp⟩) hS ?_
            simp only [List.getElem_toArray, List.getElem_cons_succ, List.getElem_cons_zero, Act.put, List.setIfInBounds_toArray, List.set_cons_zero, List.set_cons_succ]
            refine wpAnyB_take [] (i := 11) (v := .int .i64 p.hi) rfl (by kernel_rfl) (fun _ _ _ h => h) (Or.inl ⟨by rfl, fun w hSw => by have := hP1 w hSw; go_simp⟩) hS ?_
            simp only [List.getElem_toArray, List.getElem_cons_succ, List.getElem_cons_zero, Act.put, List.setIfInBounds_toArray, List.set_cons_zero, List.set_cons_succ]
            refine wpAnyB_pure (i := 12) (v := .bool false) rfl (by kernel_rfl) (fun _ _ _ h => h) (Or.inl ⟨by rfl, fun w _ => by go_simp⟩) hS ?_
            simp only [List.getElem_toArray, List.getElem_cons_succ, List.getElem_cons_zero, Act.put, List.setIfInBounds_toArray, List.set_cons_zero, List.set_cons_succ]
            refine wpAnyB_pure (i := 13) (v := .bool false) rfl (by kernel_rfl) (fun _ _ _ h => h) (Or.inl ⟨by rfl, fun w _ => by go_simp⟩) hS ?_
            simp only [List.getElem_toArray, List.getElem_cons_succ, List.getElem_cons_zero, Act.put, List.setIfInBounds_toArray, List.set_cons_zero, List.set_cons_succ]
            refine wpAnyB_pure (i := 14) (v := .bool false) rfl (by kernel_rfl) (fun _ _ _ h => h) (Or.inl ⟨by rfl, fun w _ => by go_simp⟩) hS ?_
            simp only [List.getElem_toArray, List.getElem_cons_succ, List.getElem_cons_zero, Act.put, List.setIfInBounds_toArray, List.set_cons_zero, List.set_cons_succ]
            refine wpAnyB_pure (i := 15) (v := .slice (some ⟨g, off, none⟩) l.length cap) rfl (by kernel_rfl) (fun _ _ _ h => h) (Or.inl ⟨by rfl, fun w _ => by go_simp⟩) hS ?_
            simp only [List.getElem_toArray, List.getElem_cons_succ, List.getElem_cons_zero, Act.put, List.setIfInBounds_toArray, List.set_cons_zero, List.set_cons_succ]
            refine wpAnyB_pure (i := 16) (v := .int .i64 (k : Int)) rfl (by kernel_rfl) (fun _ _ _ h => h) (Or.inl ⟨by rfl, fun w _ => by go_simp⟩) hS ?_
            simp only [List.getElem_toArray, List.getElem_cons_succ, List.getElem_cons_zero, Act.put, List.setIfInBounds_toArray, List.set_cons_zero, List.set_cons_succ]
            refine wpAnyB_pure (i := 17) (v := .pointer (some ⟨g, off + k * 3, none⟩)) rfl (by kernel_rfl) (fun _ _ _ h => h) (Or.inl ⟨by rfl, fun w _ => by go_simp⟩) hS ?_
            simp only [List.getElem_toArray, List.getElem_cons_succ, List.getElem_cons_zero, Act.put, List.setIfInBounds_toArray, List.set_cons_zero, List.set_cons_succ]
            refine wpAnyB_pure (i := 18) (v := .pointer (some ⟨g, off + k * 3, none⟩)) rfl (by kernel_rfl) (fun _ _ _ h => h) (Or.inl ⟨by rfl, fun w _ => by go_simp⟩) hS ?_
            simp only [List.getElem_toArray, List.getElem_cons_succ, List.getElem_cons_zero, Act.put, List.setIfInBounds_toArray, List.set_cons_zero, List.set_cons_succ]
            refine wpAnyB_take [] (i := 19) (v := .int .i64 p.lo) rfl (by kernel_rfl) (fun _ _ _ h => h) (Or.inl ⟨by rfl, fun w hSw => by have := hP0 w hSw; go_simp⟩) hS ?_
            simp only [List.getElem_toArray, List.getElem_cons_succ, List.getElem_cons_zero, Act.put, List.setIfInBounds_toArray, List.set_cons_zero, List.set_cons_succ]
            refine wpAnyB_pure (i := 20) (v := .slice (some ⟨g, off, none⟩) l.length cap) rfl (by kernel_rfl) (fun _ _ _ h => h) (Or.inl ⟨by rfl, fun w _ => by go_simp⟩) hS ?_
            simp only [List.getElem_toArray, List.getElem_cons_succ, List.getElem_cons_zero, Act.put, List.setIfInBounds_toArray, List.set_cons_zero, List.set_cons_succ]
            refine wpAnyB_pure (i := 21) (v := .int .i64 (k : Int)) rfl (by kernel_rfl) (fun _ _ _ h => h) (Or.inl ⟨by rfl, fun w _ => by go_simp⟩) hS ?_
            simp only [List.getElem_toArray, List.getElem_cons_succ, List.getElem_cons_zero, Act.put, List.setIfInBounds_toArray, List.set_cons_zero, List.set_cons_succ]
            refine wpAnyB_pure (i := 22) (v := .pointer (some ⟨g, off + k * 3, none⟩)) rfl (by kernel_rfl) (fun _ _ _ h => h) (Or.inl ⟨by rfl, fun w _ => by go_simp⟩) hS ?_
            simp only [List.getElem_toArray, List.getElem_cons_succ, List.getElem_cons_zero, Act.put, List.setIfInBounds_toArray, List.set_cons_zero, List.set_cons_succ]
            refine wpAnyB_pure (i := 23) (v := .pointer (some ⟨g, off + k * 3 + 1, none⟩)) rfl (by kernel_rfl) (fun _ _ _ h => h) (Or.inl ⟨by rfl, fun w _ => by go_simp⟩) hS ?_
            simp only [List.getElem_toArray, List.getElem_cons_succ, List.getElem_cons_zero, Act.put, List.setIfInBounds_toArray, List.set_cons_zero, List.set_cons_succ]
            refine wpAnyB_take [] (i := 24) (v := .int .i64 p.hi) rfl (by kernel_rfl) (fun _ _ _ h => h) (Or.inl ⟨by rfl, fun w hSw => by have := hP1 w hSw; go_simp⟩) hS ?_
            simp only [List.getElem_toArray, List.getElem_cons_succ, List.getElem_cons_zero, Act.put, List.setIfInBounds_toArray, List.set_cons_zero, List.set_cons_succ]
            refine wpAnyB_pure (i := 25) (v := .bool true) rfl (by kernel_rfl) (fun _ _ _ h => h) (Or.inl ⟨by rfl, fun w _ => by go_simp⟩) hS ?_
            simp only [List.getElem_toArray, List.getElem_cons_succ, List.getElem_cons_zero, Act.put, List.setIfInBounds_toArray, List.set_cons_zero, List.set_cons_succ]
            refine wpAnyB_pure (i := 26) (v := .bool true) rfl (by kernel_rfl) (fun _ _ _ h => h) (Or.inl ⟨by rfl, fun w _ => by go_simp⟩) hS ?_
            simp only [List.getElem_toArray, List.getElem_cons_succ, List.getElem_cons_zero, Act.put, List.setIfInBounds_toArray, List.set_cons_zero, List.set_cons_succ]
            refine wpAnyB_done (by kernel_rfl) ?_ _
            refine NoPanic.normal ?_
            clear hP0 hP1
            have HS : Hid (Below wr.heap.size wr wr.drew) := hS
            clear hS
            go_wp2
            go_ret2
            first | exact ⟨_, rfl, fun _ => rfl, fun h => by omega, HB.out.trans (HS.out.mono hbs)⟩ | exact ⟨_, rfl, rfl, HB.out.trans (HS.out.mono hbs)⟩
      · have hlt' : ¬ ((k : Int) < (l.length : Int)) := by omega
        have HALL : Hid (∀ p ∈ l, 0 ≤ p.lo ∧ p.hi ≤ 1114111 ∧ p.lo ≤ p.hi) := fun p hp => by
          obtain ⟨i, hi, rfl⟩ := List.getElem_of_mem hp
          exact good1_iff.1 (HGD.out i hi (by omega))
        have HE : Hid (errB l = if 256 < (firstsOf bs).length then 3 else 0) := by
          show _ = _
          have hall : ¬ (l.all good1 = false) := by
            rw [Bool.not_eq_false, List.all_eq_true]
            exact fun p hp => good1_iff.2 (HALL.out p hp)
          unfold errB; rw [if_neg h4, if_neg hall, HFB.out]
        have HB : Hid (Below w.heap.size w wr) := hB
        clear hB HGD
        obtain ⟨w0, rfl⟩ : ∃ w0, w0 = wr := ⟨_, rfl⟩
        have HMZ : Hid (madeCells (Value.int .u8 0).cells (256 * iU.size) = (i8 zeroB).toArray) := made_zero hzU1
        have HR0 : Hid (RefAt w.heap.size (w0.alloc (.cells #[.slice none 0 0, .slice none 0 0] 88)) w0.heap.size [] []) := ⟨.slice none 0 0, .slice none 0 0, hbs, heap_new' w0 _, World.ownsRow_nil _ _ _ _, World.ownsRow_nil _ _ _ _, fun b hb => by cases hb⟩
        have HB0 : Hid (Below w.heap.size w (w0.alloc (.cells #[.slice none 0 0, .slice none 0 0] 88))) := HB.out.alloc hbs _
        go_wp2
        obtain ⟨w1, hw1⟩ : ∃ w1, w1 = w0.alloc (.cells #[.slice none 0 0, .slice none 0 0] 88) := ⟨_, rfl⟩
        rw [← hw1] at HR0 HB0
        rw [← hw1]
        obtain ⟨gt, hgt⟩ : ∃ gt, gt = w0.heap.size := ⟨_, rfl⟩
        rw [← hgt] at HR0
        rw [← hgt]
        clear hw1 hgt HB hbs hlt hlt' hk
        go_loopw [6] (fun x wr => ∃ j : Nat, j ≤ 4352 ∧ x = .int .i64 j ∧ RefAt w.heap.size wr gt (firstsOf (bs.take j)) ((likeOf bs).take j) ∧ (firstsOf (bs.take j)).length ≤ 256 ∧ Below w.heap.size w wr ∧ w.heap.size ≤ wr.heap.size) (fun x _ => 4352 - (intOf x).toNat)
        case atStart => exact ⟨0, Nat.zero_le _, rfl, HR0.out, by simp [firstsOf, firstsF], HB0.out, HB0.out.size⟩
        case round =>
          obtain ⟨j, hj, rfl, hR, hfl, hB, hbs⟩ := hrel
          obtain ⟨wk, rfl⟩ : ∃ wk, wk = wr := ⟨_, rfl⟩
          obtain ⟨HR, HB⟩ : Hid (RefAt w.heap.size wk gt (firstsOf (bs.take j)) ((likeOf bs).take j)) ∧ Hid (Below w.heap.size w wk) := ⟨hR, hB⟩
          clear hR hB HR0 HB0
          by_cases hjl : j < 4352
          · have hjl' : (j : Int) < 4352 := by omega
            have hjb : j < bs.length := by have := HBL.out; omega
            have HBJ : Hid (bs[j] = blkF (valP l) j) := blocks_get' HBS.out hjb
            obtain ⟨b, hb⟩ : ∃ b, b = bs[j] := ⟨_, rfl⟩
            have HBE : Hid (b = blkF (valP l) j) := by show _ = _; rw [hb, HBJ.out]
            have HST : Hid (firstsOf (bs.take (j + 1)) = addF (firstsOf (bs.take j)) b) := by show _ = _; rw [hb]; exact (firsts_step hjb).1
            have HSL : Hid ((likeOf bs).take (j + 1) = (likeOf bs).take j ++ [(addF (firstsOf (bs.take j)) b).idxOf b]) := by
              show _ = _
              rw [List.take_succ_eq_append_getElem (by rw [like_length]; exact hjb), (firsts_step hjb).2, (firsts_step hjb).1, hb]
            have HIB : Hid (IsB b) := ⟨by rw [HBE.out, blkF_length], fun x hx => by
              rw [HBE.out] at hx
              obtain ⟨t, _, rfl⟩ := List.mem_map.1 hx
              exact val_bytes hby _⟩
            have hle : (addF (firstsOf (bs.take j)) b).length ≤ 257 := by have := addF_len (firstsOf (bs.take j)) b; omega
            have HLE : Hid ((addF (firstsOf (bs.take j)) b).length ≤ (firstsOf bs).length) := by show _ ≤ _; rw [← HST.out]; exact firsts_take_le _ _
            obtain ⟨F, hF⟩ : ∃ F, F = firstsOf (bs.take j) := ⟨_, rfl⟩
            obtain ⟨L, hL⟩ : ∃ L, L = (likeOf bs).take j := ⟨_, rfl⟩
            have hLl : L.length ≤ 4352 := by rw [hL, List.length_take, like_length]; omega
            rw [← hF] at HR HST HSL hle HLE hfl
            rw [← hL] at HR HSL
            have hll : l.length ≤ 4096 := by omega
            obtain ⟨tl, htl⟩ : ∃ tl, tl = touchL l j := ⟨_, rfl⟩
            have HTL : Hid (tl = touchL l j) := htl
            have htll : tl.length ≤ 4096 := by have := touch_len l j; rw [htl]; omega
            clear hb hF hL HBJ htl
            go_wp2_with fail
            refine (touched_any l _ j wk ((HV.out.below HB.out).mono HB.out.size) hll hjl).mono ?_
            rintro e w2 ⟨vm, rfl, ho2, hB2⟩
            rw [← HTL.out] at ho2
            obtain ⟨am, capm, rfl⟩ := slice_of_row ho2
            have hs2 := hB2.size
            obtain ⟨HO2, HB2⟩ : Hid (w2.ownsRow wk.heap.size 66 3 (.slice am tl.length capm) tl.length (cellsPs tl)) ∧ Hid (Below wk.heap.size wk w2) := ⟨ho2, hB2⟩
            clear ho2 hB2
            go_wp2_with (first | (at_make; refine wpList_make_full _ rfl _ _ 86 rfl 5 iU _ Try.undUs hiU hzU0 256 rfl rfl (by rw [hzU2]; decide) (by unfold maxLen; decide) ?_; rw [HMZ.out]) | fail)
            have HG0 : Hid ((w2.alloc (.cells (i8 zeroB).toArray 5)).heap[w2.heap.size]? = some (.cells (i8 (fillR (valP tl) j 0)).toArray 5 (0, 0))) := by show _ = _; rw [fillR_zero]; exact heap_new' w2 _
            have HO0 : Hid ((w2.alloc (.cells (i8 zeroB).toArray 5)).ownsRow wk.heap.size 66 3 (.slice am tl.length capm) tl.length (cellsPs tl)) := HO2.out.alloc _
            have HB0 : Hid (Below wk.heap.size wk (w2.alloc (.cells (i8 zeroB).toArray 5))) := HB2.out.alloc hs2 _
            obtain ⟨gb, hgb⟩ : ∃ gb, gb = w2.heap.size := ⟨_, rfl⟩
            have hgbl : wk.heap.size ≤ gb := by omega
            rw [← hgb] at HG0
            rw [← hgb]
            clear hgb
            go_loopw [9] (fun x wi => ∃ i : Nat, i ≤ 256 ∧ x = .int .i64 i ∧ wi.heap[gb]? = some (.cells (i8 (fillR (valP tl) j i)).toArray 5 (0, 0)) ∧ wi.ownsRow wk.heap.size 66 3 (.slice am tl.length capm) tl.length (cellsPs tl) ∧ Below wk.heap.size wk wi) (fun x _ => 256 - (intOf x).toNat)
            case atStart => exact ⟨0, Nat.zero_le _, rfl, HG0.out, HO0.out, HB0.out⟩
            case round =>
              obtain ⟨i, hi, rfl, hg, ho, hB⟩ := hrel
              obtain ⟨HG, HO, HBI⟩ : Hid (wr.heap[gb]? = some (.cells (i8 (fillR (valP tl) j i)).toArray 5 (0, 0))) ∧ Hid (wr.ownsRow wk.heap.size 66 3 (.slice am tl.length capm) tl.length (cellsPs tl)) ∧ Hid (Below wk.heap.size wk wr) := ⟨hg, ho, hB⟩
              have hsi := hB.size
              clear hg ho hB HG0 HO0 HB0
              by_cases hgo : i < 256 ∧ 0 < tl.length
              · have hi' : (i : Int) < 256 := by omega
                have ht' : (0 : Int) < (tl.length : Int) := by omega
                have ht'' : 0 < tl.length := hgo.2
                have hw1 : IntKind.i64.wrap ((j : Int) * 256) = (j : Int) * 256 := IntWalk.i64_in _ (by omega)
                have hw2 : IntKind.i64.wrap ((j : Int) * 256 + (i : Int)) = (j : Int) * 256 + (i : Int) := IntWalk.i64_in _ (by omega)
                have hfl2 : (fillR (valP tl) j i).length = 256 := fillR_length _ _ _
                have hcb : wr.cell? ⟨gb, i, none⟩ = some (.int .u8 ((fillR (valP tl) j i)[i]'(by omega))) := cell_row HG.out (i8_get (by omega))
                have hfb : wr.frozen? ⟨gb, i, none⟩ = false := frozen_of_row _ _ _ _ _ HG.out
                have HSET : Hid ((i8 (fillR (valP tl) j i)).set i (.int .u8 (valP tl ((j : Int) * 256 + (i : Int)))) = i8 (fillR (valP tl) j (i + 1))) := by
                  show _ = _
                  have e : ((j : Int) * 256 + (i : Int)) = ((j * 256 + i : Nat) : Int) := by omega
                  rw [e, i8_set, fillR_step _ hgo.1]
                obtain ⟨vv, hvv⟩ : ∃ vv, vv = valP tl ((j : Int) * 256 + (i : Int)) := ⟨_, rfl⟩
                rw [← hvv] at HSET
                have HVV : Hid (vv = valP tl ((j : Int) * 256 + (i : Int))) := hvv
                obtain ⟨ov, hov⟩ : ∃ ov, ov = (fillR (valP tl) j i)[i]'(by omega) := ⟨_, rfl⟩
                rw [← hov] at hcb
                clear hgo hvv hov hfl2
                go_wp2_with fail
                refine (value_any tl _ _ wr (props_of_row HO.out) htll).mono ?_
                rintro e wv ⟨rfl, hwv⟩
                subst hwv
                rw [← HVV.out]
                go_wp2
                go_roundw
                case rel =>
                  refine ⟨i + 1, by omega, by go_num, heap_set_row HG.out HSET.out, HO.out.kept (set_grown _ gb i _) (.inr (own_ne HO.out HG.out (by decide))), HBI.out.setCell (show wk.heap.size ≤ gb from hgbl) _⟩
                case measure => simp [intOf]; omega
              · have HEQ : Hid (fillR (valP tl) j i = b) := by
                  show _ = _
                  rw [HBE.out]
                  by_cases z : tl.length = 0
                  · rw [HTL.out] at z ⊢
                    exact fill_none l j i z
                  · have : i = 256 := by omega
                    rw [this, fillR_end, HTL.out, fill_touch]
                have HGB : Hid (wr.heap[gb]? = some (.cells (i8 b).toArray 5 (0, 0))) := by show _ = _; rw [← HEQ.out]; exact HG.out
                have HBY : Hid (BytesAt wr.heap.size wr (.slice (some ⟨gb, 0, none⟩) 256 256) b) := by
                  have hlb := HIB.out.1
                  refine ⟨some ⟨gb, 0, none⟩, 256, by rw [hlb], by omega, fun t ht => ⟨gb, 0, rfl, heap_lt HGB.out, ?_⟩⟩
                  rw [Nat.zero_add]
                  exact cell_row HGB.out (i8_get ht)
                have HRI : Hid (RefAt w.heap.size wr gt F L) := HR.out.below HBI.out
                have HBW : Hid (Below w.heap.size w wr) := HB.out.trans (HBI.out.mono hbs)
                have hns : w.heap.size ≤ wr.heap.size := by omega
                have hF2 : F.length ≤ 4352 := by omega
                obtain ⟨F', hF'⟩ : ∃ F', F' = addF F b := ⟨_, rfl⟩
                rw [← hF'] at HST HSL hle HLE
                have HF' : Hid (F' = addF F b) := hF'
                clear hF'
                obtain ⟨we, rfl⟩ : ∃ we, we = wr := ⟨_, rfl⟩
                have hgo2 : ((i : Int) < 256 ∧ ¬ ((0 : Int) < (tl.length : Int))) ∨ ¬ ((i : Int) < 256) := by omega
                clear hgo
                rcases hgo2 with ⟨n1, n2⟩ | n1
                · obtain rfl : tl = [] := List.length_eq_zero_iff.1 (by omega)
                  clear n2
                  go_wp2_with fail
                  refine (add_any w.heap.size F L gt b _ we hns HRI.out HBY.out HIB.out hF2 hLl).mono ?_
                  rintro e w4 ⟨rfl, hR4, hB4⟩
                  rw [← HF'.out] at hR4
                  obtain ⟨aF, capF, hc4⟩ := hR4.first
                  obtain ⟨m, hm⟩ : ∃ m, m = F'.length * 256 := ⟨_, rfl⟩
                  rw [← hm] at hc4
                  have hs4 := hB4.size
                  obtain ⟨HR4, HB4⟩ : Hid (RefAt w.heap.size w4 gt F' (L ++ [F'.idxOf b])) ∧ Hid (Below w.heap.size w w4) := ⟨hR4, HBW.out.trans hB4⟩
                  clear hR4 hB4
                  by_cases hff : 256 < F'.length
                  · have hff' : (65536 : Int) < (m : Int) := by omega
                    clear hm
                    have e3 : er = 3 := by rw [HER.out, HE.out, if_pos (by have := HLE.out; omega)]
                    subst e3
                    go_wp2
                    go_ret2
                    first | exact ⟨_, rfl, fun _ => rfl, fun h => by omega, HB4.out⟩ | exact ⟨_, rfl, rfl, HB4.out⟩
                  · have hff' : decide ((65536 : Int) < (m : Int)) = false := by simp; omega
                    have HFF : Hid (F'.length ≤ 256) := by show _ ≤ _; omega
                    clear hm hff hle hfl hF2
                    go_wp2_with fail
                    go_roundw
                    case rel => exact ⟨j + 1, by omega, by go_num, by rw [HST.out, HSL.out]; exact HR4.out, by rw [HST.out]; exact HFF.out, HB4.out, by have := HB4.out.size; omega⟩
                    case measure => simp [intOf]; omega
                · obtain rfl : i = 256 := by omega
                  clear n1
                  go_wp2_with fail
                  refine (add_any w.heap.size F L gt b _ we hns HRI.out HBY.out HIB.out hF2 hLl).mono ?_
                  rintro e w4 ⟨rfl, hR4, hB4⟩
                  rw [← HF'.out] at hR4
                  obtain ⟨aF, capF, hc4⟩ := hR4.first
                  obtain ⟨m, hm⟩ : ∃ m, m = F'.length * 256 := ⟨_, rfl⟩
                  rw [← hm] at hc4
                  have hs4 := hB4.size
                  obtain ⟨HR4, HB4⟩ : Hid (RefAt w.heap.size w4 gt F' (L ++ [F'.idxOf b])) ∧ Hid (Below w.heap.size w w4) := ⟨hR4, HBW.out.trans hB4⟩
                  clear hR4 hB4
                  by_cases hff : 256 < F'.length
                  · have hff' : (65536 : Int) < (m : Int) := by omega
                    clear hm
                    have e3 : er = 3 := by rw [HER.out, HE.out, if_pos (by have := HLE.out; omega)]
                    subst e3
                    go_wp2
                    go_ret2
                    first | exact ⟨_, rfl, fun _ => rfl, fun h => by omega, HB4.out⟩ | exact ⟨_, rfl, rfl, HB4.out⟩
                  · have hff' : decide ((65536 : Int) < (m : Int)) = false := by simp; omega
                    have HFF : Hid (F'.length ≤ 256) := by show _ ≤ _; omega
                    clear hm hff hle hfl hF2
                    go_wp2_with fail
                    go_roundw
                    case rel => exact ⟨j + 1, by omega, by go_num, by rw [HST.out, HSL.out]; exact HR4.out, by rw [HST.out]; exact HFF.out, HB4.out, by have := HB4.out.size; omega⟩
                    case measure => simp [intOf]; omega
          · have hjl' : ¬ ((j : Int) < 4352) := by omega
            have hje : bs.take j = bs := List.take_of_length_le (by have := HBL.out; omega)
            have hje2 : (likeOf bs).take j = likeOf bs := List.take_of_length_le (by rw [like_length]; have := HBL.out; omega)
            rw [hje, hje2] at HR
            rw [hje] at hfl
            have e0 : er = 0 := by rw [HER.out, HE.out, if_neg (by omega)]
            have HRF : Hid (RefAt w.heap.size wk gt (firstB l) (likeOf bs)) := by rw [HFB.out]; exact HR.out
            subst e0
            clear hje hje2
            go_wp2
            go_ret2
            first | exact ⟨_, rfl, fun h => absurd rfl h, fun _ => ⟨gt, rfl, HRF.out⟩, HB.out⟩ | exact ⟨_, rfl, ⟨gt, rfl, HRF.out⟩, HB.out⟩
end Go.Proofs.Ytmknifnhcgdkaaa.S3
