/-
  Plain mathematics of alphabets: classes.
-/
import Derived.Test.YtmknifnhcgdkaaaX15
namespace Go.Proofs.Ytmknifnhcgdkaaa
open Go.RowKit
set_option linter.unusedVariables false

/-- The masks at the edges. -/
def msS (S : List (List Rg)) : List Nat := (edgS S).map (maskN S)
theorem ms_length (S : List (List Rg)) : (msS S).length = (edgS S).length := by simp [msS]
/-- The masks of the classes. -/
def clsS (S : List (List Rg)) : List Nat := S3.firstsOf (msS S)
/-- The masks of the classes that are met up to an edge. -/
def clsK (S : List (List Rg)) (k : Nat) : List Nat := S3.firstsOf ((msS S).take k)
/-- The least number of a mask. -/
def fstS (S : List (List Rg)) (m : Nat) : Int := ((edgS S)[(msS S).idxOf m]?).getD 0
/-- The entry of an edge. -/
def entS (S : List (List Rg)) (k : Nat) : S3.Pp := ⟨((edgS S)[k]?).getD 0, nxtE (edgS S) k, (((clsS S).idxOf (((msS S)[k]?).getD 0) : Nat) : Int)⟩
def entsK (S : List (List Rg)) (k : Nat) : List S3.Pp := (List.range k).map (entS S)
def entsS (S : List (List Rg)) : List S3.Pp := entsK S (edgS S).length

theorem cls_all (S : List (List Rg)) : clsK S (edgS S).length = clsS S := by
  unfold clsK clsS
  rw [← ms_length, List.take_length]
theorem ms_get {S : List (List Rg)} {k : Nat} (h : k < (edgS S).length) : (msS S)[k]'(by rw [ms_length]; exact h) = maskN S (edgS S)[k] := by simp [msS]
theorem cls_step {S : List (List Rg)} {k : Nat} (h : k < (edgS S).length) : clsK S (k + 1) = S3.addF (clsK S k) (maskN S (edgS S)[k]) := by
  unfold clsK
  rw [List.take_succ_eq_append_getElem (by rw [ms_length]; exact h), ms_get h]
  unfold S3.firstsOf
  rw [S3.firstsF_append]
  rfl
theorem cls_ahead (S : List (List Rg)) (k : Nat) : ∃ t, clsS S = clsK S k ++ t := by
  unfold clsS clsK
  conv => enter [1, t, 1, 1]; rw [← List.take_append_drop k (msS S)]
  exact S3.firsts_ahead _ _
theorem cls_nodup (S : List (List Rg)) (k : Nat) : (clsK S k).Nodup := S3.firsts_nodup _
theorem clsS_nodup (S : List (List Rg)) : (clsS S).Nodup := S3.firsts_nodup _
theorem clsK_le (S : List (List Rg)) (k : Nat) : (clsK S k).length ≤ (clsS S).length := by
  obtain ⟨t, e⟩ := cls_ahead S k
  rw [e, List.length_append]
  omega
theorem clsK_len (S : List (List Rg)) (k : Nat) : (clsK S k).length ≤ k := by
  unfold clsK
  have := S3.firsts_le (bs := (msS S).take k) (m := (msS S).take k) (fun x hx => hx)
  rw [List.length_take] at this
  omega
theorem clsS_le (S : List (List Rg)) : (clsS S).length ≤ (edgS S).length := by
  have := clsK_len S (edgS S).length
  rwa [cls_all] at this
/-- The class of an edge is known as soon as it is met. -/
theorem cls_idx {S : List (List Rg)} {k : Nat} (h : k < (edgS S).length) : (clsS S).idxOf (maskN S (edgS S)[k]) = (clsK S (k + 1)).idxOf (maskN S (edgS S)[k]) := by
  obtain ⟨t, e⟩ := cls_ahead S (k + 1)
  rw [e, S3.idx_ahead]
  rw [cls_step h, S3.addF_mem]
  exact .inr rfl
theorem ent_at {S : List (List Rg)} {k : Nat} (h : k < (edgS S).length) : entS S k = ⟨(edgS S)[k], nxtE (edgS S) k, (((clsS S).idxOf (maskN S (edgS S)[k]) : Nat) : Int)⟩ := by
  unfold entS
  rw [List.getElem?_eq_getElem h, List.getElem?_eq_getElem (by rw [ms_length]; exact h), Option.getD_some, Option.getD_some, ms_get h]
theorem ents_step (S : List (List Rg)) (k : Nat) : entsK S (k + 1) = entsK S k ++ [entS S k] := by
  unfold entsK
  rw [List.range_succ, List.map_append]
  rfl
theorem ents_length (S : List (List Rg)) (k : Nat) : (entsK S k).length = k := by simp [entsK]
/-- Where a mask is met first. -/
theorem fst_new {S : List (List Rg)} {k : Nat} (h : k < (edgS S).length) (hn : ¬ maskN S (edgS S)[k] ∈ clsK S k) : fstS S (maskN S (edgS S)[k]) = (edgS S)[k] := by
  have hk : k < (msS S).length := by rw [ms_length]; exact h
  have hn' : ¬ maskN S (edgS S)[k] ∈ (msS S).take k := fun q => hn (S3.firsts_mem.2 q)
  have e : (msS S).idxOf (maskN S (edgS S)[k]) = k := by
    have e1 : msS S = (msS S).take k ++ (msS S).drop k := (List.take_append_drop k _).symm
    rw [e1, List.idxOf_append, if_neg hn', List.drop_eq_getElem_cons hk, ms_get h, List.idxOf_cons_self, List.length_take, Nat.min_eq_left (by omega)]
    omega
  unfold fstS
  rw [e, List.getElem?_eq_getElem h]
  rfl

theorem has_still {S : List (List Rg)} (hS : AllS S) {d x : Int} (h1 : d ≤ x) (h2 : x ≤ 1114111) (h3 : ∀ y ∈ edgS S, y ≤ d ∨ x < y) : maskN S x = maskN S d := by
  refine mask_eq.2 (fun s hs => ?_)
  rw [Bool.eq_iff_iff, hasR_iff, hasR_iff]
  constructor
  · rintro ⟨r, hr, q1, q2⟩
    refine ⟨r, hr, ?_, by omega⟩
    rcases h3 r.lo (edg_mem.2 (.inr ⟨s, hs, r, hr, .inl rfl⟩)) with z | z
    · exact z
    · omega
  · rintro ⟨r, hr, q1, q2⟩
    refine ⟨r, hr, by omega, ?_⟩
    have hf := (hS s hs).2 r hr
    by_cases z : r.hi < 1114111
    · rcases h3 (r.hi + 1) (edg_mem.2 (.inr ⟨s, hs, r, hr, .inr ⟨rfl, z⟩⟩)) with y | y
      · omega
      · omega
    · omega
theorem nxt_edges {E : List Int} (hu : Up E) {k : Nat} (hk : k < E.length) {x : Int} (hx : x ≤ nxtE E k) : ∀ y ∈ E, y ≤ E[k] ∨ x < y := fun y hy => by
  obtain ⟨j, hj, rfl⟩ := List.getElem_of_mem hy
  rcases Nat.lt_trichotomy j k with q | q | q
  · exact .inl (by have := up_get hu j k hj hk q; omega)
  · subst q; exact .inl (Int.le_refl _)
  · refine .inr ?_
    have h1 : k + 1 < E.length := by omega
    rw [nxt_some h1] at hx
    rcases Nat.lt_or_ge (k + 1) j with z | z
    · have := up_get hu (k + 1) j h1 hj z; omega
    · obtain rfl : j = k + 1 := by omega
      omega
theorem nxt_le {S : List (List Rg)} (hS : AllS S) {k : Nat} : nxtE (edgS S) k ≤ 1114111 := by
  by_cases h : k + 1 < (edgS S).length
  · rw [nxt_some h]
    have := (edg_bounds hS _ (List.getElem_mem h)).2
    omega
  · rw [nxt_none h]; omega
theorem nxt_ge {S : List (List Rg)} (hS : AllS S) {k : Nat} (hk : k < (edgS S).length) : (edgS S)[k] ≤ nxtE (edgS S) k := by
  by_cases h : k + 1 < (edgS S).length
  · rw [nxt_some h]
    have := up_get (edg_up S) k (k + 1) hk h (by omega)
    omega
  · rw [nxt_none h]
    exact (edg_bounds hS _ (List.getElem_mem hk)).2
theorem mask_still {S : List (List Rg)} (hS : AllS S) {k : Nat} (hk : k < (edgS S).length) {x : Int} (h1 : (edgS S)[k] ≤ x) (h2 : x ≤ nxtE (edgS S) k) : maskN S x = maskN S (edgS S)[k] :=
  has_still hS h1 (by have := nxt_le hS (k := k); omega) (nxt_edges (edg_up S) hk h2)
/-- Each number is behind an edge, and none between. -/
theorem edge_of : ∀ (l : List Int) (a r : Int), Up (a :: l) → a ≤ r → r ≤ 1114111 → ∃ k, ∃ h : k < (a :: l).length, (a :: l)[k] ≤ r ∧ r ≤ nxtE (a :: l) k
  | [], a, r, _, h, h2 => ⟨0, by simp, h, h2⟩
  | b :: l, a, r, hu, h, h2 => by
    by_cases q : r < b
    · exact ⟨0, by simp, h, by show r ≤ b - 1; omega⟩
    · obtain ⟨k, hk, h3, h4⟩ := edge_of l b r hu.tail (by omega) h2
      refine ⟨k + 1, by simpa using hk, by simpa using h3, ?_⟩
      unfold nxtE at h4 ⊢
      rw [List.getElem?_cons_succ]
      exact h4
theorem edge_at {S : List (List Rg)} (hS : AllS S) {r : Int} (h0 : 0 ≤ r) (h1 : r ≤ 1114111) : ∃ k, ∃ h : k < (edgS S).length, (edgS S)[k] ≤ r ∧ r ≤ nxtE (edgS S) k := by
  have hz := edg_zero hS
  have hu := edg_up S
  obtain ⟨E, hE⟩ : ∃ E, E = edgS S := ⟨_, rfl⟩
  have hp : 0 < E.length := by rw [hE]; exact edg_pos S
  have hz' : E[0] = 0 := by rw [← hz]; congr 1
  rw [← hE] at hu ⊢
  clear hE hz
  cases E with
  | nil => simp at hp
  | cons a l => exact edge_of l a r hu (by simp at hz'; omega) h1
theorem mask_met {S : List (List Rg)} (hS : AllS S) {r : Int} (h0 : 0 ≤ r) (h1 : r ≤ 1114111) : maskN S r ∈ clsS S := by
  obtain ⟨k, hk, h2, h3⟩ := edge_at hS h0 h1
  rw [mask_still hS hk h2 h3]
  exact S3.firsts_mem.2 (by rw [← ms_get hk]; exact List.getElem_mem _)
/-- The value of a number by the entries is its class. -/
theorem val_ents {S : List (List Rg)} (hS : AllS S) {r : Int} (h0 : 0 ≤ r) (h1 : r ≤ 1114111) : S3.valP (entsS S) r = (((clsS S).idxOf (maskN S r) : Nat) : Int) := by
  obtain ⟨k, hk, h2, h3⟩ := edge_at hS h0 h1
  have hv : ∀ j, (hj : j < (edgS S).length) → S3.hasP (entS S j) r = true → (entS S j).v = (((clsS S).idxOf (maskN S r) : Nat) : Int) := fun j hj q => by
    rw [ent_at hj] at q ⊢
    have q := S3.hasP_iff.1 q
    show (((clsS S).idxOf (maskN S (edgS S)[j]) : Nat) : Int) = _
    rw [← mask_still hS hj q.1 q.2]
  have hin : entS S k ∈ entsS S := List.mem_map.2 ⟨k, List.mem_range.2 hk, rfl⟩
  have hh : S3.hasP (entS S k) r = true := by rw [ent_at hk]; exact S3.hasP_iff.2 ⟨h2, h3⟩
  rw [← hv k hk hh]
  refine S3.val_one hin hh (fun q hq hqr => ?_)
  obtain ⟨j, hj, rfl⟩ := List.mem_map.1 hq
  rw [hv j (List.mem_range.1 hj) hqr, hv k hk hh]

/-- The least number of a class. -/
theorem fst_mask {S : List (List Rg)} {m : Nat} (h : m ∈ clsS S) : maskN S (fstS S m) = m ∧ fstS S m ∈ edgS S := by
  have hm : m ∈ msS S := S3.firsts_mem.1 h
  have hi : (msS S).idxOf m < (msS S).length := List.idxOf_lt_length_of_mem hm
  have hi' : (msS S).idxOf m < (edgS S).length := by rw [← ms_length]; exact hi
  have e : fstS S m = (edgS S)[(msS S).idxOf m] := by unfold fstS; rw [List.getElem?_eq_getElem hi']; rfl
  rw [e, ← ms_get hi']
  exact ⟨List.getElem_idxOf hi, List.getElem_mem _⟩
theorem fst_le {S : List (List Rg)} (hS : AllS S) {r : Int} (h0 : 0 ≤ r) (h1 : r ≤ 1114111) : fstS S (maskN S r) ≤ r := by
  obtain ⟨k, hk, h2, h3⟩ := edge_at hS h0 h1
  rw [mask_still hS hk h2 h3]
  have hk' : k < (msS S).length := by rw [ms_length]; exact hk
  have hle : (msS S).idxOf (maskN S (edgS S)[k]) ≤ k := by
    rw [← ms_get hk]
    apply Nat.le_of_not_lt
    intro q
    have := List.not_of_lt_findIdx (p := fun x => x == (msS S)[k]) q
    simp at this
  unfold fstS
  rw [List.getElem?_eq_getElem (by omega)]
  show (edgS S)[(msS S).idxOf (maskN S (edgS S)[k])] ≤ r
  rcases Nat.lt_or_ge ((msS S).idxOf (maskN S (edgS S)[k])) k with q | q
  · have := up_get (edg_up S) _ k (by omega) hk q
    omega
  · have e : (msS S).idxOf (maskN S (edgS S)[k]) = k := by omega
    have : (edgS S)[(msS S).idxOf (maskN S (edgS S)[k])]'(by omega) = (edgS S)[k] := by congr 1
    omega
/-- Classes rise by their least numbers. -/
theorem idx_rises {β : Type} [DecidableEq β] : ∀ (bs : List β) (i j : Nat) (hi : i < (S3.firstsOf bs).length) (hj : j < (S3.firstsOf bs).length), i < j → bs.idxOf (S3.firstsOf bs)[i] < bs.idxOf (S3.firstsOf bs)[j] := by
  intro bs
  have : ∀ n, ∀ bs : List β, bs.length = n → ∀ (i j : Nat) (hi : i < (S3.firstsOf bs).length) (hj : j < (S3.firstsOf bs).length), i < j → bs.idxOf (S3.firstsOf bs)[i] < bs.idxOf (S3.firstsOf bs)[j] := by
    intro n
    induction n with
    | zero =>
      intro bs hb i j hi hj q
      obtain rfl := List.length_eq_zero_iff.1 hb
      exact absurd hi (by simp [S3.firstsOf, S3.firstsF])
    | succ n ih =>
      intro bs hb i j hi hj q
      rcases list_last bs with rfl | ⟨ini, b, rfl⟩
      · simp at hb
      · have ih := ih ini (by simpa using hb)
        by_cases hm : b ∈ ini
        · have e : S3.firstsOf (ini ++ [b]) = S3.firstsOf ini := by rw [S3.firsts_snoc, if_pos hm]
          have hi' : i < (S3.firstsOf ini).length := by rw [← e]; exact hi
          have hj' : j < (S3.firstsOf ini).length := by rw [← e]; exact hj
          have e1 : (S3.firstsOf (ini ++ [b]))[i] = (S3.firstsOf ini)[i] := by congr 1
          have e2 : (S3.firstsOf (ini ++ [b]))[j] = (S3.firstsOf ini)[j] := by congr 1
          rw [e1, e2, S3.idx_ahead (S3.firsts_mem.1 (List.getElem_mem hi')), S3.idx_ahead (S3.firsts_mem.1 (List.getElem_mem hj'))]
          exact ih i j hi' hj' q
        · have e : S3.firstsOf (ini ++ [b]) = S3.firstsOf ini ++ [b] := by rw [S3.firsts_snoc, if_neg hm]
          have hl : (S3.firstsOf (ini ++ [b])).length = (S3.firstsOf ini).length + 1 := by rw [e]; simp
          have hi' : i < (S3.firstsOf ini).length := by omega
          have e1 : (S3.firstsOf (ini ++ [b]))[i] = (S3.firstsOf ini)[i] := by
            have : (S3.firstsOf (ini ++ [b]))[i] = (S3.firstsOf ini ++ [b])[i]'(by simp; omega) := by congr 1
            rw [this, List.getElem_append_left hi']
          rw [e1, S3.idx_ahead (S3.firsts_mem.1 (List.getElem_mem hi'))]
          by_cases hj' : j < (S3.firstsOf ini).length
          · have e2 : (S3.firstsOf (ini ++ [b]))[j] = (S3.firstsOf ini)[j] := by
              have : (S3.firstsOf (ini ++ [b]))[j] = (S3.firstsOf ini ++ [b])[j]'(by simp; omega) := by congr 1
              rw [this, List.getElem_append_left hj']
            rw [e2, S3.idx_ahead (S3.firsts_mem.1 (List.getElem_mem hj'))]
            exact ih i j hi' hj' q
          · have e2 : (S3.firstsOf (ini ++ [b]))[j] = b := by
              have : (S3.firstsOf (ini ++ [b]))[j] = (S3.firstsOf ini ++ [b])[j]'(by simp; omega) := by congr 1
              rw [this, List.getElem_append_right (by omega)]
              simp
            rw [e2, List.idxOf_append, if_neg hm]
            have := List.idxOf_lt_length_of_mem (S3.firsts_mem.1 (List.getElem_mem hi'))
            simp
            omega
  exact this bs.length bs rfl
theorem fst_rises {S : List (List Rg)} {i j : Nat} (hi : i < (clsS S).length) (hj : j < (clsS S).length) (q : i < j) : fstS S (clsS S)[i] < fstS S (clsS S)[j] := by
  have h := idx_rises (msS S) i j hi hj q
  have h1 : (msS S).idxOf (clsS S)[i] < (edgS S).length := by rw [← ms_length]; exact List.idxOf_lt_length_of_mem (S3.firsts_mem.1 (List.getElem_mem hi))
  have h2 : (msS S).idxOf (clsS S)[j] < (edgS S).length := by rw [← ms_length]; exact List.idxOf_lt_length_of_mem (S3.firsts_mem.1 (List.getElem_mem hj))
  unfold fstS
  rw [List.getElem?_eq_getElem h1, List.getElem?_eq_getElem h2]
  exact up_get (edg_up S) _ _ h1 h2 h
theorem cls_pos (S : List (List Rg)) : 0 < (clsS S).length := S3.firsts_pos (fun e => by
  have := ms_length S
  have := edg_pos S
  rw [e] at *
  simp at *
  omega)
theorem fst_zero {S : List (List Rg)} (hS : AllS S) : fstS S ((clsS S)[0]'(cls_pos S)) = 0 := by
  have hm : maskN S 0 ∈ clsS S := mask_met hS (Int.le_refl _) (by omega)
  have h1 := fst_le hS (r := 0) (Int.le_refl _) (by omega)
  obtain ⟨j, hj, e⟩ := List.getElem_of_mem hm
  have hb := (edg_bounds hS _ (fst_mask (List.getElem_mem (cls_pos S))).2).1
  rcases Nat.eq_zero_or_pos j with q | q
  · subst q; rw [e]; rw [e] at hb; omega
  · have := fst_rises (cls_pos S) hj q
    rw [e] at this
    omega
theorem idx_nodup {β : Type} [DecidableEq β] : ∀ {l : List β} (h : l.Nodup) (i : Nat) (hi : i < l.length), l.idxOf l[i] = i := by
  intro l h i hi
  exact h.idxOf_getElem i hi
theorem ents_good {S : List (List Rg)} (hS : AllS S) : ∀ p ∈ entsS S, 0 ≤ p.lo ∧ p.hi ≤ 1114111 ∧ p.lo ≤ p.hi := fun p hp => by
  obtain ⟨k, hk, rfl⟩ := List.mem_map.1 hp
  have hk := List.mem_range.1 hk
  rw [ent_at hk]
  exact ⟨(edg_bounds hS _ (List.getElem_mem hk)).1, nxt_le hS, nxt_ge hS hk⟩
theorem ents_bytes {S : List (List Rg)} {k : Nat} (hk : k ≤ (edgS S).length) (h : (clsS S).length ≤ 200) : ∀ p ∈ entsK S k, 0 ≤ p.v ∧ p.v ≤ 255 := fun p hp => by
  obtain ⟨j, hj, rfl⟩ := List.mem_map.1 hp
  have hj : j < (edgS S).length := by have := List.mem_range.1 hj; omega
  rw [ent_at hj]
  have : (clsS S).idxOf (maskN S (edgS S)[j]) < (clsS S).length := List.idxOf_lt_length_of_mem (S3.firsts_mem.2 (by rw [← ms_get hj]; exact List.getElem_mem _))
  show 0 ≤ (((clsS S).idxOf (maskN S (edgS S)[j]) : Nat) : Int) ∧ (((clsS S).idxOf (maskN S (edgS S)[j]) : Nat) : Int) ≤ 255
  omega
end Go.Proofs.Ytmknifnhcgdkaaa
