/-
  Plain mathematics: sets in another order make the same classes; a set less joins some, and parts none.
-/
import Derived.Test.YtmknifnhcgdkaaaX50
namespace Go.Proofs.Ytmknifnhcgdkaaa
open Go.RowKit
set_option linter.unusedVariables false

section
variable {α β γ : Type} [DecidableEq β] [DecidableEq γ]
theorem nub_both (f : α → β) (g : α → γ) (h : ∀ x y, f x = f y ↔ g x = g y) : ∀ (n : Nat) (E : List α), E.length = n → ∃ N : List α, S3.firstsOf (E.map f) = N.map f ∧ S3.firstsOf (E.map g) = N.map g
  | 0, E, hE => by
    obtain rfl := List.length_eq_zero_iff.1 hE
    exact ⟨[], rfl, rfl⟩
  | n + 1, E, hE => by
    rcases list_last E with rfl | ⟨ini, b, rfl⟩
    · simp at hE
    · obtain ⟨N, h1, h2⟩ := nub_both f g h n ini (by simpa using hE)
      rw [List.map_append, List.map_append]
      show ∃ N, S3.firstsOf (ini.map f ++ [f b]) = _ ∧ S3.firstsOf (ini.map g ++ [g b]) = _
      rw [S3.firsts_snoc, S3.firsts_snoc]
      have hm : f b ∈ ini.map f ↔ g b ∈ ini.map g := by
        rw [List.mem_map, List.mem_map]
        constructor
        · rintro ⟨x, hx, e⟩; exact ⟨x, hx, (h x b).1 e⟩
        · rintro ⟨x, hx, e⟩; exact ⟨x, hx, (h x b).2 e⟩
      by_cases q : f b ∈ ini.map f
      · rw [if_pos q, if_pos (hm.1 q)]
        exact ⟨N, h1, h2⟩
      · rw [if_neg q, if_neg (fun z => q (hm.2 z)), h1, h2]
        exact ⟨N ++ [b], by simp, by simp⟩
theorem idx_both (f : α → β) (g : α → γ) (h : ∀ x y, f x = f y ↔ g x = g y) (x : α) : ∀ N : List α, (N.map f).idxOf (f x) = (N.map g).idxOf (g x)
  | [] => rfl
  | a :: N => by
    have ih := idx_both f g h x N
    rw [List.map_cons, List.map_cons]
    by_cases q : f a = f x
    · have z := (h a x).1 q
      rw [q, z, List.idxOf_cons_self, List.idxOf_cons_self]
    · have z : ¬ g a = g x := fun e => q ((h a x).2 e)
      have q' : (f a == f x) = false := by simpa using q
      have z' : (g a == g x) = false := by simpa using z
      rw [List.idxOf_cons, List.idxOf_cons, q', z', ih]
theorem firsts_coarse (f : α → β) (g : α → γ) (h : ∀ x y, f x = f y → g x = g y) : ∀ (n : Nat) (E : List α), E.length = n → (S3.firstsOf (E.map g)).length ≤ (S3.firstsOf (E.map f)).length
  | 0, E, hE => by
    obtain rfl := List.length_eq_zero_iff.1 hE
    exact Nat.le_refl _
  | n + 1, E, hE => by
    rcases list_last E with rfl | ⟨ini, b, rfl⟩
    · simp at hE
    · have ih := firsts_coarse f g h n ini (by simpa using hE)
      rw [List.map_append, List.map_append]
      show (S3.firstsOf (ini.map g ++ [g b])).length ≤ (S3.firstsOf (ini.map f ++ [f b])).length
      rw [S3.firsts_snoc, S3.firsts_snoc]
      by_cases q : f b ∈ ini.map f
      · have z : g b ∈ ini.map g := by
          obtain ⟨x, hx, e⟩ := List.mem_map.1 q
          exact List.mem_map.2 ⟨x, hx, h x b e⟩
        rw [if_pos q, if_pos z]
        exact ih
      · rw [if_neg q, List.length_append]
        split
        · simp; omega
        · rw [List.length_append]; simp; omega
end

theorem mask_rev (T : List (List Rg)) (x y : Int) : maskN T x = maskN T y ↔ maskN T.reverse x = maskN T.reverse y := by
  rw [mask_eq, mask_eq]
  simp
theorem edg_rev (T : List (List Rg)) : edgS T.reverse = edgS T := up_unique (edg_up _) (edg_up _) (fun x => by rw [edg_mem, edg_mem]; simp)
theorem all_rev {T : List (List Rg)} (h : AllS T) : AllS T.reverse := fun s hs => h s (by simpa using hs)
theorem cls_rev (T : List (List Rg)) : ∃ N : List Int, clsS T = N.map (maskN T) ∧ clsS T.reverse = N.map (maskN T.reverse) := by
  obtain ⟨N, h1, h2⟩ := nub_both (maskN T) (maskN T.reverse) (mask_rev T) _ (edgS T) rfl
  refine ⟨N, h1, ?_⟩
  unfold clsS msS
  rw [edg_rev]
  exact h2
theorem len_rev (T : List (List Rg)) : (clsS T.reverse).length = (clsS T).length := by
  obtain ⟨N, h1, h2⟩ := cls_rev T
  rw [h1, h2, List.length_map, List.length_map]
theorem idx_rev (T : List (List Rg)) (x : Int) : (clsS T.reverse).idxOf (maskN T.reverse x) = (clsS T).idxOf (maskN T x) := by
  obtain ⟨N, h1, h2⟩ := cls_rev T
  rw [h1, h2, idx_both (maskN T) (maskN T.reverse) (mask_rev T) x N]
theorem of_rev (T : List (List Rg)) (x : Int) : ofC T.reverse x = ofC T x := by
  unfold ofC
  rw [idx_rev]
theorem ent_rev (T : List (List Rg)) : entsS T.reverse = entsS T := by
  unfold entsS entsK
  rw [edg_rev]
  refine List.map_congr_left (fun k hk => ?_)
  have hk := List.mem_range.1 hk
  have hk' : k < (edgS T.reverse).length := by rw [edg_rev]; exact hk
  rw [ent_at hk, ent_at hk', idx_rev]
  have e : (edgS T.reverse)[k] = (edgS T)[k] := by congr 1; exact edg_rev T
  rw [e, edg_rev]
theorem err_rev {T : List (List Rg)} : errN T.reverse = errN T := by
  unfold errN
  rw [List.length_reverse, len_rev, ent_rev]
  have : T.reverse.all isSB = T.all isSB := by rw [Bool.eq_iff_iff, List.all_eq_true, List.all_eq_true]; simp
  rw [this]

theorem mask_tail {t : List Rg} {V : List (List Rg)} (x y : Int) (h : maskN (t :: V) x = maskN (t :: V) y) : maskN V x = maskN V y :=
  mask_eq.2 (fun s hs => mask_eq.1 h s (by simp [hs]))
theorem edg_tail {t : List Rg} {V : List (List Rg)} {x : Int} (h : x ∈ edgS V) : x ∈ edgS (t :: V) := by
  rcases edg_mem.1 h with q | ⟨s, hs, r, hr, q⟩
  · exact edg_mem.2 (.inl q)
  · exact edg_mem.2 (.inr ⟨s, by simp [hs], r, hr, q⟩)
theorem up_nodup : ∀ {l : List Int}, Up l → l.Nodup
  | [], _ => List.nodup_nil
  | a :: l, h => List.nodup_cons.2 ⟨fun q => by have := h.lt a q; omega, up_nodup h.tail⟩
theorem edgl_tail (t : List Rg) (V : List (List Rg)) : (edgS V).length ≤ (edgS (t :: V)).length := S3.nodup_le (up_nodup (edg_up V)) (fun x hx => edg_tail hx)
theorem len_tail (t : List Rg) (V : List (List Rg)) : (clsS V).length ≤ (clsS (t :: V)).length := by
  have h1 := S3.firsts_le (bs := msS V) (m := S3.firstsOf ((edgS (t :: V)).map (maskN V))) (fun m hm => by
    obtain ⟨x, hx, rfl⟩ := List.mem_map.1 hm
    exact S3.firsts_mem.2 (List.mem_map.2 ⟨x, edg_tail hx, rfl⟩))
  have h2 := firsts_coarse (maskN (t :: V)) (maskN V) mask_tail _ (edgS (t :: V)) rfl
  exact Nat.le_trans h1 h2
theorem all_tail {t : List Rg} {V : List (List Rg)} (h : AllS (t :: V)) : AllS V := fun s hs => h s (by simp [hs])
theorem of_tail {t : List Rg} {V : List (List Rg)} (hS : AllS (t :: V)) {x y : Int} (h : ofC (t :: V) x = ofC (t :: V) y) : ofC V x = ofC V y := by
  by_cases hx : 0 ≤ x ∧ x ≤ 1114111
  · by_cases hy : 0 ≤ y ∧ y ≤ 1114111
    · rw [of_eq (all_tail hS) hx.1 hx.2 hy.1 hy.2]
      exact mask_tail x y ((of_eq hS hx.1 hx.2 hy.1 hy.2).1 h)
    · rw [ofC_in hx.1 hx.2, ofC_out (by omega)] at h
      omega
  · by_cases hy : 0 ≤ y ∧ y ≤ 1114111
    · rw [ofC_in hy.1 hy.2, ofC_out (by omega)] at h
      omega
    · rw [ofC_out (by omega), ofC_out (by omega)]
theorem blocks_map (φ : Int → Int) (p : Int → Int) : S3.blocksF (fun r => φ (p r)) = (S3.blocksF p).map (List.map φ) := by
  simp [S3.blocksF, S3.blkF, List.map_map, Function.comp_def]
theorem first_tail {t : List Rg} {V : List (List Rg)} (hS : AllS (t :: V)) : (S3.firstB (entsS V)).length ≤ (S3.firstB (entsS (t :: V))).length := by
  have hV := all_tail hS
  obtain ⟨φ, hφ⟩ : ∃ φ : Int → Int, φ = fun v => (((clsS V).idxOf (maskN V (fstS (t :: V) (((clsS (t :: V))[v.toNat]?).getD 0))) : Nat) : Int) := ⟨_, rfl⟩
  have hval : ∀ r : Int, 0 ≤ r → r ≤ 1114111 → S3.valP (entsS V) r = φ (S3.valP (entsS (t :: V)) r) := fun r h0 h1 => by
    have hm := mask_met hS h0 h1
    have hi := List.idxOf_lt_length_of_mem hm
    rw [val_ents hV h0 h1, val_ents hS h0 h1, hφ]
    show _ = (((clsS V).idxOf (maskN V (fstS (t :: V) (((clsS (t :: V))[(((clsS (t :: V)).idxOf (maskN (t :: V) r) : Nat) : Int).toNat]?).getD 0))) : Nat) : Int)
    rw [Int.toNat_natCast, List.getElem?_eq_getElem hi, Option.getD_some, List.getElem_idxOf hi]
    rw [mask_tail _ _ (fst_mask hm).1]
  have hb : S3.blocksF (S3.valP (entsS V)) = (S3.blocksF (S3.valP (entsS (t :: V)))).map (List.map φ) := by
    rw [← blocks_map]
    exact S3.blocksF_congr hval
  unfold S3.firstB
  rw [hb]
  have := firsts_coarse (fun b : List Int => b) (List.map φ) (fun x y e => by rw [e]) _ (S3.blocksF (S3.valP (entsS (t :: V)))) rfl
  simpa using this
theorem err_tail {t : List Rg} {V : List (List Rg)} (h : errN (t :: V) = 0) : errN V = 0 := by
  obtain ⟨⟨hS, h2, h3⟩, h4⟩ := errN_ok h
  have hV := all_tail hS
  have hz := S3.errB_zero h3
  have h5 := len_tail t V
  have h6 := first_tail hS
  have h7 := edgl_tail t V
  have h8 : (entsS V).length = (edgS V).length := ents_length _ _
  have h9 : (entsS (t :: V)).length = (edgS (t :: V)).length := ents_length _ _
  have hall : ¬ ((entsS V).all S3.good1 = false) := by
    rw [Bool.not_eq_false]
    exact List.all_eq_true.2 (fun p hp => S3.good1_iff.2 (ents_good hV p hp))
  have h10 : V.length ≤ 60 := by simp at h4; omega
  unfold errN
  rw [if_neg (by omega), if_neg (by rw [allS_iff.2 hV]; simp), if_neg (by omega)]
  unfold S3.errB
  rw [if_neg (by omega), if_neg hall, if_neg (by omega)]
theorem cls_nil : (clsS []).length = 1 := by decide
end Go.Proofs.Ytmknifnhcgdkaaa
