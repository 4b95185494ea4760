/-
  Plain mathematics of draft.finish: the first blocks, block by block; tries in memory.
-/
import Derived.Test.YtmknifnhcgdkaaaX24
namespace Go.Proofs.Ytmknifnhcgdkaaa.S3
open Go.RowKit
set_option linter.unusedVariables false

/-- The cells of a trie. -/
def trCells (like : List Int) (v : Value) : List Value := i8 like ++ [v]
theorem trCells_at {like : List Int} {v : Value} (hl : like.length = 4352) : (trCells like v)[4352]? = some v := by
  unfold trCells
  rw [List.getElem?_append_right (by rw [i8_length]; omega), i8_length, hl]
  rfl
theorem trCells_like {like : List Int} {v : Value} {i : Nat} (hl : i < like.length) : (trCells like v)[i]? = some (.int .u8 like[i]) := by
  unfold trCells
  rw [List.getElem?_append_left (by rw [i8_length]; exact hl), i8_get hl]
theorem trCells_set {like : List Int} {v v' : Value} (hl : like.length = 4352) : (trCells like v).set 4352 v' = trCells like v' := by
  unfold trCells
  rw [List.set_append_right _ _ (by rw [i8_length]; omega), i8_length, hl]
  rfl
theorem trCells_setLike {like : List Int} {v : Value} {i : Nat} {k : Int} (hl : i < like.length) : (trCells like v).set i (.int .u8 k) = trCells (like.set i k) v := by
  unfold trCells
  rw [List.set_append_left _ _ (by rw [i8_length]; exact hl), i8_set]

/-- A trie in memory, all its blocks below n. -/
def TrieAt (n : Nat) (w : World) (pv : Value) (like : List Int) (F : List (List Int)) : Prop :=
  ∃ g gb cap, pv = .pointer (some ⟨g, 0, none⟩) ∧ g < n ∧ gb < n ∧ w.heap[g]? = some (.cells (trCells like (.slice (some ⟨gb, 0, none⟩) F.length cap)).toArray 97 (0, 0)) ∧ w.rangeAt gb 0 (cellsBl F) ∧ F.length ≤ cap
structure Fine (like : List Int) (F : List (List Int)) : Prop where
  len : like.length = 4352
  lt : ∀ x ∈ like, 0 ≤ x ∧ x < F.length
  isB : ∀ b ∈ F, IsB b
  pos : 1 ≤ F.length
  le : F.length ≤ 256
theorem TrieAt.below {n : Nat} {w w' : World} {pv : Value} {like : List Int} {F : List (List Int)} (h : TrieAt n w pv like F) (hb : Below n w w') : TrieAt n w' pv like F := by
  obtain ⟨g, gb, cap, h1, h2, h3, h4, h5, h6⟩ := h
  exact ⟨g, gb, cap, h1, h2, h3, (hb.block g h2).trans h4, fun j u hj => (hb.cell (p := ⟨gb, 0 + j, none⟩) h3).trans (h5 j u hj), h6⟩
theorem TrieAt.mono {n m : Nat} {w : World} {pv : Value} {like : List Int} {F : List (List Int)} (h : TrieAt n w pv like F) (hm : n ≤ m) : TrieAt m w pv like F := by
  obtain ⟨g, gb, cap, h1, h2, h3, h4, h5, h6⟩ := h
  exact ⟨g, gb, cap, h1, by omega, by omega, h4, h5, h6⟩

theorem nodup_inj {l : List (List Int)} (h : l.Nodup) {i j : Nat} (hi : i < l.length) (hj : j < l.length) (e : l[i] = l[j]) : i = j := by
  have hp := List.pairwise_iff_getElem.1 h
  rcases Nat.lt_trichotomy i j with q | q | q
  · exact absurd e (hp i j hi hj q)
  · exact q
  · exact absurd e.symm (hp j i hj hi q)
/-- Where the draft's blocks stand among the first ones. -/
def Placed (D : DataW Unit) (bl F : List (List Int)) : Prop :=
  ∀ (m : Nat) (b : List Int), bl[m]? = some b → (Maps.has D (.int .i64 (m : Int)) = true ↔ b ∈ F) ∧ (b ∈ F → D.atKey (.int .i64 (m : Int)) (.lit (.int .i64 0)) = .lit (.int .i64 (F.idxOf b : Nat)))
theorem placed_put {D : DataW Unit} {bl F : List (List Int)} {m : Nat} {b : List Int} (hD : Maps.IsMap D) (h : Placed D bl F) (hn : bl.Nodup) (hm : bl[m]? = some b) (hb : ¬ b ∈ F) : Placed (D.put (.int .i64 (m : Int)) (.lit (.int .i64 (F.length : Nat)))) bl (F ++ [b]) := by
  intro x c hx
  by_cases e : x = m
  · subst e
    obtain rfl : b = c := by rw [hm] at hx; simpa using hx
    refine ⟨by simp [Maps.has_put_same hD (show WideAt.IsKeyLit (.int .i64 (x : Int)) from trivial)], fun _ => ?_⟩
    rw [Maps.atKey_put_same hD (show WideAt.IsKeyLit (.int .i64 (x : Int)) from trivial), List.idxOf_append, if_neg hb]
    simp
  · have hne : (Lit.int .i64 (x : Int)) ≠ .int .i64 (m : Int) := fun q => by
      have : (x : Int) = (m : Int) := by simpa using q
      exact e (by omega)
    have hcb : c ≠ b := fun q => by
      rw [q] at hx
      obtain ⟨hx1, hx2⟩ := List.getElem?_eq_some_iff.1 hx
      obtain ⟨hm1, hm2⟩ := List.getElem?_eq_some_iff.1 hm
      exact e (nodup_inj hn hx1 hm1 (hx2.trans hm2.symm))
    have hmem : c ∈ F ++ [b] ↔ c ∈ F := by simp [hcb]
    rw [hmem, Maps.has_put_other hne, Maps.atKey_put_other hne]
    refine ⟨(h x c hx).1, fun hc => ?_⟩
    rw [(h x c hx).2 hc, List.idxOf_append, if_pos hc]

/-- Which first blocks the blocks up to i are like; 0 for the others. -/
def likeTo (bs : List (List Int)) (i : Nat) : List Int := ((likeOf bs).take i).map (fun k : Nat => (k : Int)) ++ List.replicate (bs.length - i) 0
theorem likeTo_length {bs : List (List Int)} {i : Nat} (h : i ≤ bs.length) : (likeTo bs i).length = bs.length := by
  unfold likeTo
  rw [List.length_append, List.length_map, List.length_take, like_length, List.length_replicate]
  omega
theorem likeTo_end (bs : List (List Int)) : likeTo bs bs.length = (likeOf bs).map (fun k : Nat => (k : Int)) := by
  unfold likeTo
  rw [List.take_of_length_le (by rw [like_length]; omega), Nat.sub_self, List.replicate_zero, List.append_nil]
theorem likeTo_step {bs : List (List Int)} {i : Nat} (h : i < bs.length) : (likeTo bs i).set i (((likeOf bs)[i]'(by rw [like_length]; exact h) : Nat) : Int) = likeTo bs (i + 1) := by
  have hl : i < (likeOf bs).length := by rw [like_length]; exact h
  unfold likeTo
  have e1 : ((likeOf bs).take i).length = i := by rw [List.length_take]; omega
  have e2 : bs.length - i = (bs.length - (i + 1)) + 1 := by omega
  rw [List.set_append_right _ _ (by rw [List.length_map, e1]; omega), List.length_map, e1, Nat.sub_self, e2, List.replicate_succ, List.set_cons_zero, List.take_succ_eq_append_getElem hl, List.map_append, List.append_assoc]
  rfl
theorem beq_same : (List.instBEq : BEq (List Int)) = instBEqOfDecidableEq := by
  have h : ∀ a b : List Int, @BEq.beq _ List.instBEq a b = decide (a = b) := fun a b => by
    by_cases e : a = b <;> simp [e]
  exact congrArg BEq.mk (funext fun a => funext fun b => h a b)
theorem idx_same (b : List Int) (l : List (List Int)) : @List.idxOf _ List.instBEq b l = @List.idxOf _ instBEqOfDecidableEq b l := by rw [beq_same]
/-- The first blocks, one block further. -/
theorem firsts_step {bs : List (List Int)} {i : Nat} (h : i < bs.length) : firstsOf (bs.take (i + 1)) = addF (firstsOf (bs.take i)) bs[i] ∧ (likeOf bs)[i]'(by rw [like_length]; exact h) = (firstsOf (bs.take (i + 1))).idxOf bs[i] := by
  have e : bs.take (i + 1) = bs.take i ++ [bs[i]] := List.take_succ_eq_append_getElem h
  constructor
  · rw [e, firsts_snoc]
    unfold addF
    by_cases q : bs[i] ∈ bs.take i
    · rw [if_pos q, if_pos (firsts_mem.2 q)]
    · rw [if_neg q, if_neg (fun z => q (firsts_mem.1 z))]
  · have hm : bs[i] ∈ bs.take (i + 1) := by
      rw [e]
      exact List.mem_append.2 (.inr (List.mem_singleton.2 rfl))
    have h2 := idx_firsts (cs := bs.drop (i + 1)) hm
    rw [List.take_append_drop] at h2
    rw [idx_same]
    exact (like_unique (F := firstsOf bs) rfl i h).trans h2
theorem firsts_take_le (bs : List (List Int)) (i : Nat) : (firstsOf (bs.take i)).length ≤ (firstsOf bs).length := by
  have := firsts_mono (bs.take i) (bs.drop i)
  rwa [List.take_append_drop] at this
end Go.Proofs.Ytmknifnhcgdkaaa.S3
