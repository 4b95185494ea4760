/-
  Plain mathematics of the document's Load: the bytes are those of the trie of the blocks that they tell just where they are counted as they come, none left over, no two alike.
-/
import Derived.Test.YtpknmpgbaccffaaDoorLoadMath
namespace Go.Proofs.YtpknmpgbaccffaaDoor
open Go.RowKit
set_option linter.unusedVariables false

theorem cnt_firstsF {F : List (List Int)} (hnd : F.Nodup) : ∀ (ls : List Nat) (m m0 : Nat), cntFrom (m0 : Int) (ls.map (fun k : Nat => (k : Int))) = some (m : Int) → (∀ x ∈ ls, x < F.length) → m0 ≤ F.length → firstsF (F.take m0) (ls.map (fun k => F[k]?.getD [])) = F.take m
  | [], m, m0, h, _, _ => by
    have : (m0 : Int) = (m : Int) := by simpa [cntFrom] using h
    have e : m0 = m := by omega
    rw [e]; rfl
  | x :: ls, m, m0, h, hx, h0 => by
    have hxF := hx x (by simp)
    rw [List.map_cons] at h
    unfold cntFrom at h
    show firstsF (addF (F.take m0) (F[x]?.getD [])) (ls.map (fun k => F[k]?.getD [])) = _
    rw [List.getElem?_eq_getElem hxF, Option.getD_some]
    by_cases q : (m0 : Int) < (x : Int)
    · rw [if_pos q] at h; cases h
    · rw [if_neg q] at h
      by_cases q2 : (x : Int) = (m0 : Int)
      · rw [if_pos q2] at h
        have e : x = m0 := by omega
        subst e
        have hn : ¬ F[x] ∈ F.take x := by
          intro hm
          obtain ⟨i, hi, e⟩ := List.getElem_of_mem hm
          rw [List.length_take] at hi
          rw [List.getElem_take] at e
          have := (List.getElem_inj (i := i) (j := x) (h₀ := by omega) (h₁ := hxF) hnd).1 e
          omega
        rw [addF_new hn, ← List.take_succ_eq_append_getElem hxF]
        have h' : cntFrom ((x + 1 : Nat) : Int) (ls.map (fun k : Nat => (k : Int))) = some (m : Int) := by
          have : ((x + 1 : Nat) : Int) = (x : Int) + 1 := by omega
          rw [this]; exact h
        exact cnt_firstsF hnd ls m (x + 1) h' (fun y hy => hx y (by simp [hy])) hxF
      · rw [if_neg q2] at h
        have hm : F[x] ∈ F.take m0 := by
          refine List.mem_take_iff_getElem.2 ⟨x, by omega, rfl⟩
        rw [addF_of_mem hm]
        exact cnt_firstsF hnd ls m m0 h (fun y hy => hx y (by simp [hy])) h0
theorem idx_nodup {β : Type} [DecidableEq β] {F : List β} (hnd : F.Nodup) {k : Nat} (hk : k < F.length) : F.idxOf F[k] = k := by
  have h1 : F.idxOf F[k] < F.length := List.idxOf_lt_length_of_mem (List.getElem_mem hk)
  have h2 : F[F.idxOf F[k]] = F[k] := List.getElem_idxOf h1
  exact (List.getElem_inj (h₀ := h1) (h₁ := hk) hnd).1 h2
theorem like_nodup {β : Type} [DecidableEq β] {F : List β} (d : β) {ls : List Nat} (hnd : F.Nodup) (hlt : ∀ x ∈ ls, x < F.length) (e1 : firstsOf (ls.map fun k => F[k]?.getD d) = F) : likeOf (ls.map fun k => F[k]?.getD d) = ls := by
  unfold likeOf
  rw [e1, List.map_map]
  refine Eq.trans (List.map_congr_left (g := fun x => x) (fun x hx => ?_)) (by simp)
  show F.idxOf (F[x]?.getD d) = x
  rw [List.getElem?_eq_getElem (hlt x hx), Option.getD_some]
  exact idx_nodup hnd (hlt x hx)
/-- The numbers of the bytes, as counts. -/
def likeN (l : List Int) : List Nat := (likeL l).map Int.toNat
theorem likeN_int {l : List Int} (hb : ByL l) : (likeN l).map (fun k : Nat => (k : Int)) = likeL l := by
  unfold likeN
  rw [List.map_map]
  have : ∀ x ∈ likeL l, ((fun k : Nat => (k : Int)) ∘ Int.toNat) x = x := fun x hx => by
    have := ((hb.drop 1).take 4352) x hx
    show ((x.toNat : Nat) : Int) = x
    omega
  rw [List.map_congr_left this]
  simp
theorem likeN_length {l : List Int} (h : lenL l) : (likeN l).length = 4352 := by unfold likeN; rw [List.length_map, likeL_length h]
theorem bsB_like {l : List Int} (h : lenL l) (hk : ∀ k, k < 4352 → (l[1 + k]?.getD 0).toNat < cntL l) : bsB l = (likeN l).map (fun k => (firstL l)[k]?.getD []) := by
  apply List.ext_getElem
  · rw [bsB_length, List.length_map, likeN_length h]
  · intro k h1 h2
    have hk4 : k < 4352 := by rw [bsB_length] at h1; exact h1
    rw [bsB_get, List.getElem_map]
    have e : (likeN l)[k]'(by rw [likeN_length h]; exact hk4) = (l[1 + k]?.getD 0).toNat := by
      unfold likeN
      rw [List.getElem_map]
      have : (likeL l)[k]'(by rw [likeL_length h]; exact hk4) = l[1 + k]?.getD 0 := by
        unfold likeL
        rw [List.getElem_take, List.getElem_drop]
        have hl : 1 + k < l.length := by rw [h.2]; omega
        rw [List.getElem?_eq_getElem hl]; rfl
      rw [this]
    rw [e]
    have hlt := hk k hk4
    have hlt' : (l[1 + k]?.getD 0).toNat < (firstL l).length := by rw [firstL_length]; exact hlt
    rw [List.getElem?_eq_getElem hlt', Option.getD_some]
    have e2 : ∀ i (hi : i < (firstL l).length), (firstL l)[i] = blkB l i := fun i hi => by simp [firstL]; rfl
    rw [e2]
theorem like_small {l : List Int} (hb : ByL l) (h : okL l) : ∀ k, k < 4352 → (l[1 + k]?.getD 0).toNat < cntL l := fun k hk => by
  have hl : 1 + k < l.length := by rw [h.1.2]; omega
  have h1 := (cnt_bounds _ _ _ h.2.1).2.2 (l[1 + k]) (by
    unfold likeL
    refine List.mem_take_iff_getElem.2 ⟨k, by rw [List.length_drop]; omega, ?_⟩
    rw [List.getElem_drop])
  have h2 := hb l[1 + k] (List.getElem_mem hl)
  rw [List.getElem?_eq_getElem hl, Option.getD_some]
  omega
theorem firsts_nodup_of {F : List (List Int)} : ∀ {F acc : List (List Int)}, acc.Nodup → (firstsF acc F).length = acc.length + F.length → firstsF acc F = acc ++ F
  | [], acc, _, _ => by simp [firstsF]
  | b :: F, acc, hn, h => by
    have e : firstsF acc (b :: F) = firstsF (addF acc b) F := rfl
    have hle : ∀ (F acc : List (List Int)), (firstsF acc F).length ≤ acc.length + F.length := by
      intro F
      induction F with
      | nil => intro acc; simp [firstsF]
      | cons x F ih =>
        intro acc
        show (firstsF (addF acc x) F).length ≤ _
        have h1 := ih (addF acc x)
        have h2 : (addF acc x).length ≤ acc.length + 1 := by
          unfold addF; split
          · omega
          · simp
        rw [List.length_cons]; omega
    rw [e] at h ⊢
    by_cases q : b ∈ acc
    · rw [addF_of_mem q] at h
      have := hle F acc
      rw [List.length_cons] at h
      omega
    · rw [addF_new q] at h ⊢
      have hn2 : (acc ++ [b]).Nodup := by rw [← addF_new q]; exact addF_nodup hn
      rw [firsts_nodup_of (F := F) hn2 (by rw [h]; simp; omega)]
      simp
/-- Bytes that are taken tell their own blocks. -/
theorem okL_ref {l : List Int} (hb : ByL l) (h : okL l) : firstsOf (bsB l) = firstL l ∧ likeOf (bsB l) = likeN l := by
  have hk := like_small hb h
  have hF : firstsOf (firstL l) = firstL l := by
    have := firsts_nodup_of (F := firstL l) (acc := []) List.nodup_nil (by show (firstsOf (firstL l)).length = _; rw [h.2.2, firstL_length]; simp)
    exact this.trans (List.nil_append _)
  have hnd : (firstL l).Nodup := by rw [← hF]; exact firsts_nodup _
  have hlt : ∀ x ∈ likeN l, x < (firstL l).length := fun x hx => by
    obtain ⟨y, hy, rfl⟩ := List.mem_map.1 hx
    have h1 := (cnt_bounds _ _ _ h.2.1).2.2 y hy
    have h2 := ((hb.drop 1).take 4352) y hy
    rw [firstL_length]; omega
  have e1 : firstsOf (bsB l) = firstL l := by
    have := cnt_firstsF hnd (likeN l) (cntL l) 0 (by rw [likeN_int hb]; exact h.2.1) hlt (Nat.zero_le _)
    rw [← bsB_like h.1 hk, List.take_zero, List.take_of_length_le (by rw [firstL_length]; exact Nat.le_refl _)] at this
    exact this
  refine ⟨e1, ?_⟩
  rw [bsB_like h.1 hk] at e1 ⊢
  exact like_nodup [] hnd hlt e1
theorem ref_okL {l : List Int} (hb : ByL l) (hl : lenL l) (hk : ∀ k, k < 4352 → (l[1 + k]?.getD 0).toNat < cntL l) : saveL (bsB l) = l ↔ okL l := by
  constructor
  · intro e
    have := okL_save (even_bytes hl.2 hk) (bsB_length l)
    rwa [e] at this
  · intro h
    obtain ⟨h1, h2⟩ := okL_ref hb h
    unfold saveL
    rw [h1, h2, likeN_int hb]
    exact raw_back hb hl
end Go.Proofs.YtpknmpgbaccffaaDoor
