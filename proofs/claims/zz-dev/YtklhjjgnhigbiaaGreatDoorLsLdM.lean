/-
  States in groups of one text. Plain mathematics.
-/
import Derived.Test.YtklhjjgnhigbiaaGreatDoorLsHop
import Derived.Test.YtklhjjgnhigbiaaGreatDoorSbTxt
namespace Go.Proofs.YtklhjjgnhigbiaaGreatDoor
open Go.Lib
set_option linter.unusedVariables false

/-- The text of a part and of classes. -/
def keyB (x : Nat) (l : List Nat) : List UInt8 := decDigits x ++ 32 :: l.map (fun c => UInt8.ofNat c)
theorem keyB_inj {x y : Nat} {a b : List Nat} (ha : ∀ c ∈ a, c < 256) (hb : ∀ c ∈ b, c < 256) (h : keyB x a = keyB y b) : x = y ∧ a = b := by
  obtain ⟨h1, h2⟩ := cut_at _ _ _ _ (dec_fig x) (dec_fig y) h
  refine ⟨dec_inj h1, ?_⟩
  clear h h1
  induction a generalizing b with
  | nil =>
    cases b with
    | nil => rfl
    | cons y b => simp at h2
  | cons x a ih =>
    cases b with
    | nil => simp at h2
    | cons y b =>
      simp only [List.map_cons, List.cons.injEq] at h2
      have e := congrArg UInt8.toNat h2.1
      rw [UInt8.toNat_ofNat', UInt8.toNat_ofNat'] at e
      have e1 := ha x (by simp)
      have e2 := hb y (by simp)
      rw [show x = y by omega, ih (fun c hc => ha c (by simp [hc])) (fun c hc => hb c (by simp [hc])) h2.2]
theorem snoc_rec {P : List Nat → Prop} (h0 : P []) (h1 : ∀ l s, P l → P (l ++ [s])) (l : List Nat) : P l := by
  have h : ∀ r : List Nat, P r.reverse := fun r => by
    induction r with
    | nil => exact h0
    | cons s r ih =>
      rw [List.reverse_cons]
      exact h1 _ _ ih
  have := h l.reverse
  rwa [List.reverse_reverse] at this
section
variable (key : Nat → List UInt8)
/-- The texts, as they are met. -/
def kysF (l : List Nat) : List (List UInt8) := l.foldl (fun K s => if key s ∈ K then K else K ++ [key s]) []
def grpF (l : List Nat) : List (List Nat) := (kysF key l).map fun k => l.filter fun s => decide (key s = k)
theorem kysF_snoc (l : List Nat) (s : Nat) : kysF key (l ++ [s]) = if key s ∈ kysF key l then kysF key l else kysF key l ++ [key s] := by
  unfold kysF
  rw [List.foldl_append]
  rfl
theorem kysF_mem (l : List Nat) : ∀ k, k ∈ kysF key l ↔ ∃ s ∈ l, key s = k := by
  refine snoc_rec (P := fun l => ∀ k, k ∈ kysF key l ↔ ∃ s ∈ l, key s = k) (by simp [kysF]) ?_ l
  intro l s ih k
  rw [kysF_snoc]
  by_cases q : key s ∈ kysF key l
  · rw [if_pos q, ih k]
    constructor
    · rintro ⟨t, ht, e⟩
      exact ⟨t, List.mem_append_left _ ht, e⟩
    · rintro ⟨t, ht, e⟩
      rcases List.mem_append.1 ht with r | r
      · exact ⟨t, r, e⟩
      · rw [List.mem_singleton.1 r] at e
        rw [e] at q
        exact (ih k).1 q
  · rw [if_neg q, List.mem_append, ih k]
    constructor
    · rintro (⟨t, ht, e⟩ | r)
      · exact ⟨t, List.mem_append_left _ ht, e⟩
      · exact ⟨s, by simp, (List.mem_singleton.1 r).symm⟩
    · rintro ⟨t, ht, e⟩
      rcases List.mem_append.1 ht with r | r
      · exact .inl ⟨t, r, e⟩
      · rw [List.mem_singleton.1 r] at e
        exact .inr (List.mem_singleton.2 e.symm)
theorem kysF_nodup (l : List Nat) : (kysF key l).Nodup := by
  refine snoc_rec (P := fun l => (kysF key l).Nodup) (by simp [kysF]) ?_ l
  intro l s ih
  rw [kysF_snoc]
  by_cases q : key s ∈ kysF key l
  · rw [if_pos q]; exact ih
  · rw [if_neg q, List.nodup_append]
    exact ⟨ih, by simp, fun a ha b hb e => by
      rw [List.mem_singleton.1 hb] at e
      rw [e] at ha
      exact q ha⟩
theorem grpF_len (l : List Nat) : (grpF key l).length = (kysF key l).length := by simp [grpF]
/-- A state more, of a text that was met. -/
theorem grpF_in {l : List Nat} {s : Nat} (h : key s ∈ kysF key l) : (kysF key l).idxOf (key s) < (grpF key l).length ∧ kysF key (l ++ [s]) = kysF key l ∧ grpF key (l ++ [s]) = (grpF key l).set ((kysF key l).idxOf (key s)) ((grpF key l).getD ((kysF key l).idxOf (key s)) [] ++ [s]) := by
  have h1 := List.idxOf_lt_length_of_mem h
  have h2 : kysF key (l ++ [s]) = kysF key l := by rw [kysF_snoc, if_pos h]
  have hl := grpF_len key l
  refine ⟨by omega, h2, ?_⟩
  have hnd := kysF_nodup key l
  unfold grpF
  rw [h2]
  refine List.ext_getElem (by simp) (fun i a b => ?_)
  have hi : i < (kysF key l).length := by simpa using a
  rw [List.getElem_set, List.getElem_map, List.filter_append]
  by_cases e : (kysF key l).idxOf (key s) = i
  · rw [if_pos e]
    subst e
    have e2 : (kysF key l)[(kysF key l).idxOf (key s)] = key s := List.getElem_idxOf h1
    simp [h1, e2]
  · rw [if_neg e, List.getElem_map]
    have e2 : ¬ key s = (kysF key l)[i] := fun q => e (by rw [q]; exact List.Nodup.idxOf_getElem hnd i hi)
    simp [e2]
theorem grpF_out {l : List Nat} {s : Nat} (h : ¬ key s ∈ kysF key l) : kysF key (l ++ [s]) = kysF key l ++ [key s] ∧ grpF key (l ++ [s]) = (grpF key l ++ [[]]).set (grpF key l).length ((grpF key l ++ [[]]).getD (grpF key l).length [] ++ [s]) := by
  have h2 : kysF key (l ++ [s]) = kysF key l ++ [key s] := by rw [kysF_snoc, if_neg h]
  refine ⟨h2, ?_⟩
  have hnone : l.filter (fun t => decide (key t = key s)) = [] := List.filter_eq_nil_iff.2 (fun t ht e => h ((kysF_mem key l _).2 ⟨t, ht, by simpa using e⟩))
  have e3 : (grpF key l ++ [[]]).set (grpF key l).length ((grpF key l ++ [[]]).getD (grpF key l).length [] ++ [s]) = grpF key l ++ [[s]] := by
    rw [List.set_append_right _ _ (Nat.le_refl _)]
    simp
  rw [e3]
  show (kysF key (l ++ [s])).map _ = _
  rw [h2, List.map_append, List.map_singleton, List.filter_append, hnone]
  congr 1
  · refine List.map_congr_left (fun k hk => ?_)
    have : ¬ key s = k := fun e => h (by rw [e]; exact hk)
    rw [List.filter_append]
    simp [this]
  · simp
end
/-- All of a part's groups. -/
theorem grp_ok {M : Mach} {p : Nat → Nat} {T L : List Nat} {key : Nat → List UInt8} (hn : L.Nodup) (hL : ∀ s, s ∈ L ↔ s < M.n ∧ sgT M T s ≠ []) (hk : ∀ s, s < M.n → key s = keyB (p s) (sgT M T s)) (hc : M.k ≤ 256) : GrpOk M p T (grpF key L) := by
  have hsg : ∀ s, ∀ c ∈ sgT M T s, c < 256 := fun s c hc' => by
    have := List.mem_range.1 (List.mem_filter.1 hc').1
    omega
  have hin : ∀ g ∈ grpF key L, ∃ k, g = L.filter (fun s => decide (key s = k)) := fun g hg => by
    obtain ⟨k, _, e⟩ := List.mem_map.1 hg
    exact ⟨k, e.symm⟩
  refine ⟨fun g hg => ?_, fun g hg s hs => ?_, fun s hs hne => ?_⟩
  · obtain ⟨k, rfl⟩ := hin g hg
    exact hn.filter _
  · obtain ⟨k, rfl⟩ := hin g hg
    obtain ⟨a, b⟩ := List.mem_filter.1 hs
    have hb : key s = k := by simpa using b
    obtain ⟨c, d⟩ := (hL s).1 a
    refine ⟨c, d, fun t ht => ?_⟩
    rw [List.mem_filter]
    constructor
    · rintro ⟨e, f⟩
      have hf : key t = k := by simpa using f
      rw [← hb, hk t ht, hk s c] at hf
      exact keyB_inj (hsg t) (hsg s) hf
    · rintro ⟨e, f⟩
      refine ⟨(hL t).2 ⟨ht, by rw [f]; exact d⟩, ?_⟩
      have : key t = k := by rw [← hb, hk t ht, hk s c, e, f]
      simpa using this
  · have hs2 := (hL s).2 ⟨hs, hne⟩
    refine ⟨L.filter (fun t => decide (key t = key s)), ?_, ?_⟩
    · exact List.mem_map.2 ⟨key s, (kysF_mem key L _).2 ⟨s, hs2, rfl⟩, rfl⟩
    · exact List.mem_filter.2 ⟨hs2, by simp⟩
end Go.Proofs.YtklhjjgnhigbiaaGreatDoor
