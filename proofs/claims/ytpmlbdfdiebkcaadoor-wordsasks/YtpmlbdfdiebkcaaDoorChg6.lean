/-
  Blocks whose cells are changed, and others that stay; kinds of heads, one behind the other.
-/
import Derived.Test.YtpmlbdfdiebkcaaDoorWith
namespace Go.Proofs.YtpmlbdfdiebkcaaDoor
open Go.RowKit Go.Shelf
set_option linter.unusedVariables false

theorem cells_own {β : Type} (B : Nat) (t : TypeId) (cs : β → Array Value) (B0 : Nat) : OwnFrom B0 (fun (s : β) W => W.heap[B]? = some (.cells (cs s) t (0, 0))) := fun s W W' row h hg hr => by
  have h' : W.heap[B]? = some (.cells (cs s) t (0, 0)) := h
  have lt := (Array.getElem?_eq_some_iff.1 h').1
  refine (hg.block B lt (fun e => ?_)).trans h'
  obtain ⟨_, o, ho, hc⟩ := hr B e.symm
  rw [h'] at ho
  cases ho
  cases hc
/-- The kinds of some places. -/
def kindsH {l : List Int} (xs : List (Fin l.length)) : List Int := xs.map fun x : Fin l.length => wdV l[x.val]
theorem kindsH_vals {l : List Int} (xs : List (Fin l.length)) : kindsH xs = (valsH xs).map (kd l) := by
  unfold kindsH valsH
  rw [List.map_map]
  apply List.map_congr_left
  intro x _
  exact (kd_get x.2).symm
theorem kindsH_snoc {l : List Int} (xs : List (Fin l.length)) (x : Fin l.length) : kindsH (xs ++ [x]) = kindsH xs ++ [wdV l[x.val]] := by simp [kindsH]
theorem kindsH_len {l : List Int} (xs : List (Fin l.length)) : (kindsH xs).length = xs.length := by simp [kindsH]
/-- Gone back so far without a stop. -/
def NS (K : List Int) : Prop := 2 ≤ K.length → regK K = K.length
theorem regK_snoc : ∀ (K : List Int) (k : Int), regK (K ++ [k]) = if regK K = K.length ∧ k = 7 then regK K + 1 else regK K
  | [], k => by
    by_cases h : k = 7
    · simp [regK, h]
    · simp [regK, h]
  | y :: K, k => by
    rw [List.cons_append]
    have ih := regK_snoc K k
    by_cases h : y = 7
    · have e1 : regK (y :: (K ++ [k])) = regK (K ++ [k]) + 1 := by rw [regK, if_pos h]
      have e2 : regK (y :: K) = regK K + 1 := by rw [regK, if_pos h]
      rw [e1, e2, ih, List.length_cons]
      by_cases q : regK K = K.length ∧ k = 7
      · rw [if_pos q, if_pos ⟨by omega, q.2⟩]
      · rw [if_neg q, if_neg (fun r => q ⟨by omega, r.2⟩)]
    · have e1 : regK (y :: (K ++ [k])) = 0 := by rw [regK, if_neg h]
      have e2 : regK (y :: K) = 0 := by rw [regK, if_neg h]
      rw [e1, e2, if_neg (fun r => by have := r.1; simp at this)]
theorem regK_short : ∀ (K tl : List Int), regK K < K.length → regK (K ++ tl) = regK K
  | [], tl, h => by simp at h
  | y :: K, tl, h => by
    rw [List.cons_append]
    by_cases q : y = 7
    · have e1 : regK (y :: (K ++ tl)) = regK (K ++ tl) + 1 := by rw [regK, if_pos q]
      have e2 : regK (y :: K) = regK K + 1 := by rw [regK, if_pos q]
      rw [e2, List.length_cons] at h
      rw [e1, e2, regK_short K tl (by omega)]
    · have e1 : regK (y :: (K ++ tl)) = 0 := by rw [regK, if_neg q]
      have e2 : regK (y :: K) = 0 := by rw [regK, if_neg q]
      rw [e1, e2]
/-- The stop: what stands beyond plays no part. -/
theorem past_stop {K : List Int} {k : Int} (h : ¬ (regK K = K.length ∧ k = 7)) (tl : List Int) : regK (K ++ [k] ++ tl) = regK K := by
  have e : regK (K ++ [k]) = regK K := by rw [regK_snoc, if_neg h]
  rw [regK_short (K ++ [k]) tl (by rw [e, List.length_append, List.length_singleton]; have := regK_le K; omega), e]

theorem kpS_set {n₀ : Nat} {ks : List Nat} {W : World} {B : Nat} (j : Nat) (v : Value) (hB : n₀ ≤ B) (hk : ¬ B ∈ ks) : KpS n₀ ks W (W.setCell ⟨B, j, none⟩ v) :=
  ⟨(Below.refl _ _).setCell (p := ⟨B, j, none⟩) hB _, fun k h => Below.heap_setCell W ⟨B, j, none⟩ v k (fun e => hk (by rw [← show k = B from e]; exact h))⟩
theorem past_last (K : List Int) (k : Int) : (K ++ [k])[0]?.getD 0 = if K.length = 0 then k else K[0]?.getD 0 := by
  cases K with
  | nil => rfl
  | cons y K => simp
theorem past_before (K : List Int) (k : Int) : (K ++ [k])[1]?.getD 0 = if K.length = 1 then k else K[1]?.getD 0 := by
  match K with
  | [] => rfl
  | [y] => rfl
  | y :: z :: K => simp
theorem NS.go {K : List Int} {k : Int} (h : NS K) (q : regK K = K.length ∧ k = 7) : NS (K ++ [k]) := fun _ => by
  rw [regK_snoc, if_pos q, List.length_append, List.length_singleton, q.1]
theorem NS.one (k : Int) : NS [k] := fun h => by simp at h
/-- What has been changed: cells of some blocks alone. -/
structure Chg (ks : List Nat) (W W' : World) : Prop where
  size : W.heap.size ≤ W'.heap.size
  only : ∀ k, ¬ k ∈ ks → W'.heap[k]? = W.heap[k]?
  bel : ∀ n, (∀ k ∈ ks, n ≤ k) → Below n W W'
  keeps : KeepsOthers W W'
theorem Chg.refl (ks : List Nat) (W : World) : Chg ks W W := ⟨Nat.le_refl _, fun _ _ => rfl, fun _ _ => Below.refl _ _, ⟨Nat.le_refl _, fun _ _ e _ => e⟩⟩
theorem Chg.set {ks : List Nat} {W W' : World} (h : Chg ks W W') {B : Nat} (hB : B ∈ ks) (j : Nat) (v : Value) : Chg ks W (W'.setCell ⟨B, j, none⟩ v) :=
  ⟨by have := h.size; simpa [World.setCell] using this, fun k hk => (Below.heap_setCell W' ⟨B, j, none⟩ v k (fun e => hk (by rw [show k = B from e]; exact hB))).trans (h.only k hk), fun n hn => (h.bel n hn).setCell (p := ⟨B, j, none⟩) (hn B hB) _, h.keeps.trans (KeepsOthers.setCell _ _ _)⟩
theorem Chg.keepsFrom {ks : List Nat} {W w1 Wf : World} (h : Chg ks w1 Wf) (hb : Below W.heap.size W w1) (n : Nat) : KeepsFrom n W Wf := ((keeps_below hb).trans h.keeps).from _
theorem Chg.kps {ks hs : List Nat} {W w1 Wf : World} (h : Chg ks w1 Wf) (hb : Below W.heap.size W w1) {n : Nat} (hn : n ≤ W.heap.size) (hk : ∀ k ∈ ks, n ≤ k) (hh : ∀ k ∈ hs, k < W.heap.size ∧ ¬ k ∈ ks) : KpS n hs W Wf :=
  ⟨(hb.mono hn).trans (h.bel n hk), fun k e => (h.only k (hh k e).2).trans (hb.block k (hh k e).1)⟩
theorem Chg.boxed {ks : List Nat} {W w1 Wf : World} (h : Chg ks w1 Wf) (hb : Below W.heap.size W w1) {B : Nat} {cs : Array Value} {t : TypeId} (hB : ¬ B ∈ ks) (hx : W.heap[B]? = some (.cells cs t (0, 0))) : Wf.heap[B]? = some (.cells cs t (0, 0)) :=
  (h.only B hB).trans ((hb.block B (Array.getElem?_eq_some_iff.1 hx).1).trans hx)
/-- The past as cells. -/
def pC (b la : Int) (r : Nat) : Array Value := #[.int .i64 b, .int .i64 la, .int .i64 (r : Int)]

end Go.Proofs.YtpmlbdfdiebkcaaDoor
