/-
  Plain mathematics of the tables: the program's and the document's tell the same of every number; they are small enough for a trie.
-/
import Derived.Test.YtpmlbdfdiebkcaaDoorEnts
namespace Go.Proofs.YtpmlbdfdiebkcaaDoor
open Go.RowKit
set_option linter.unusedVariables false

def ppEq (a b : Pp) : Bool := a.lo == b.lo && a.hi == b.hi && a.v == b.v
theorem ppEq_iff {a b : Pp} : ppEq a b = true ↔ a = b := by
  cases a; cases b
  simp [ppEq, and_assoc]
def subB (A B : List Pp) : Bool := A.all fun p => B.any (ppEq p)
theorem subB_mem {A B : List Pp} (h : subB A B = true) : ∀ p ∈ A, p ∈ B := fun p hp => by
  obtain ⟨q, hq, e⟩ := List.any_eq_true.1 (List.all_eq_true.1 h p hp)
  rw [ppEq_iff.1 e]; exact hq
def ascB : Int → List Pp → Bool
  | _, [] => true
  | b, p :: l => decide (b ≤ p.lo) && decide (p.lo ≤ p.hi) && ascB (p.hi + 1) l
theorem asc_ge : ∀ {l : List Pp} {b : Int}, ascB b l = true → ∀ p ∈ l, b ≤ p.lo ∧ p.lo ≤ p.hi
  | x :: l, b, h, p, hp => by
    simp only [ascB, Bool.and_eq_true, decide_eq_true_eq] at h
    rcases List.mem_cons.1 hp with e | e
    · rw [e]; exact h.1
    · have := asc_ge h.2 p e
      omega
theorem asc_apart : ∀ {l : List Pp} {b : Int}, ascB b l = true → Apart l
  | [], b, _ => trivial
  | x :: l, b, h => by
    have h' := h
    simp only [ascB, Bool.and_eq_true, decide_eq_true_eq] at h'
    refine ⟨fun q hq r hr => ?_, asc_apart h'.2⟩
    have h1 := asc_ge h'.2 q hq
    have h2 := hasP_iff.1 hr
    cases z : hasP q r with
    | false => rfl
    | true => have := hasP_iff.1 z; omega
def goodB (l : List Pp) : Bool := l.all fun p => decide (0 ≤ p.lo) && decide (p.hi ≤ 1114111) && decide (p.lo ≤ p.hi) && decide (0 ≤ p.v) && decide (p.v ≤ 255)
theorem goodB_mem {l : List Pp} (h : goodB l = true) : ∀ p ∈ l, 0 ≤ p.lo ∧ p.hi ≤ 1114111 ∧ p.lo ≤ p.hi ∧ 0 ≤ p.v ∧ p.v ≤ 255 := fun p hp => by
  have := List.all_eq_true.1 h p hp
  simp only [Bool.and_eq_true, decide_eq_true_eq] at this
  omega
/-- The entries of the program's tables, and the rows of the document's. -/
def tabP : Nat → List Pp
  | 0 => entsF 0 ([] :: clLL)
  | 1 => entsF 0 ([] :: wdLL)
  | 2 => scP
  | _ => entsF 0 [[], picL]
def tabR : Nat → List Pp
  | 0 => clR
  | 1 => wdR
  | 2 => scR
  | _ => piR
theorem four {P : Nat → Prop} (h0 : P 0) (h1 : P 1) (h2 : P 2) (h3 : P 3) : ∀ i, i < 4 → P i := fun i hi => by
  have : i = 0 ∨ i = 1 ∨ i = 2 ∨ i = 3 := by omega
  rcases this with rfl | rfl | rfl | rfl <;> assumption
set_option maxRecDepth 100000 in
theorem tab_sub : ∀ i, i < 4 → subB (tabP i) (tabR i) = true ∧ subB (tabR i) (tabP i) = true ∧ ascB 0 (tabR i) = true ∧ goodB (tabP i) = true ∧ goodB (tabR i) = true :=
  four ⟨by kernel_rfl, by kernel_rfl, by kernel_rfl, by kernel_rfl, by kernel_rfl⟩ ⟨by kernel_rfl, by kernel_rfl, by kernel_rfl, by kernel_rfl, by kernel_rfl⟩ ⟨by kernel_rfl, by kernel_rfl, by kernel_rfl, by kernel_rfl, by kernel_rfl⟩ ⟨by kernel_rfl, by kernel_rfl, by kernel_rfl, by kernel_rfl, by kernel_rfl⟩
theorem tab_apart (i : Nat) (hi : i < 4) : Apart (tabR i) := asc_apart (tab_sub i hi).2.2.1
theorem tab_val (i : Nat) (hi : i < 4) (r : Int) : valP (tabP i) r = valP (tabR i) r :=
  val_apart (tab_apart i hi) (fun p => ⟨subB_mem (tab_sub i hi).2.1 p, subB_mem (tab_sub i hi).1 p⟩) r
theorem tab_valF (i : Nat) (hi : i < 4) : valP (tabP i) = valP (tabR i) := funext (tab_val i hi)
theorem tab_good (i : Nat) (hi : i < 4) : ∀ p ∈ tabP i, 0 ≤ p.lo ∧ p.hi ≤ 1114111 ∧ p.lo ≤ p.hi ∧ 0 ≤ p.v ∧ p.v ≤ 255 := goodB_mem (tab_sub i hi).2.2.2.1
theorem tab_goodR (i : Nat) (hi : i < 4) : ∀ p ∈ tabR i, 0 ≤ p.lo ∧ p.hi ≤ 1114111 ∧ p.lo ≤ p.hi ∧ 0 ≤ p.v ∧ p.v ≤ 255 := goodB_mem (tab_sub i hi).2.2.2.2
theorem tab_bytes (i : Nat) (hi : i < 4) : Bytes (tabP i) := fun p hp => (tab_good i hi p hp).2.2.2
theorem tab_bytesR (i : Nat) (hi : i < 4) : Bytes (tabR i) := fun p hp => (tab_goodR i hi p hp).2.2.2
set_option maxRecDepth 100000 in
theorem tab_len : ∀ i, i < 4 → (tabP i).length ≤ 129 ∧ (tabR i).length ≤ 129 :=
  four ⟨by decide +kernel, by decide +kernel⟩ ⟨by decide +kernel, by decide +kernel⟩ ⟨by decide +kernel, by decide +kernel⟩ ⟨by decide +kernel, by decide +kernel⟩
/-- Entries of low numbers touch few blocks. -/
theorem blocks_lowN {l : List Pp} (n : Nat) (h : ∀ p ∈ l, 0 ≤ p.lo ∧ p.hi < 256 * n) : (firstB l).length ≤ n + 1 := by
  have := firsts_le (bs := blocksF (valP l)) (m := blkF (fun _ => 0) 0 :: (List.range n).map (blkF (valP l))) (fun x hx => by
    obtain ⟨k, hk, rfl⟩ := List.mem_map.1 hx
    by_cases q : k < n
    · exact List.mem_cons.2 (.inr (List.mem_map.2 ⟨k, List.mem_range.2 q, rfl⟩))
    · have e : blkF (valP l) k = blkF (fun _ => 0) 0 := by
        unfold blkF
        refine List.map_congr_left (fun i hi => ?_)
        exact val_none (fun p hp => by
          have := h p hp
          cases z : hasP p ((k * 256 + i : Nat) : Int) with
          | false => rfl
          | true => have := hasP_iff.1 z; omega)
      rw [e]; exact List.mem_cons.2 (.inl rfl))
  unfold firstB
  simpa using this
theorem grow_bound (f : List Pp → Nat) (h : ∀ t x, f (t ++ [x]) ≤ f t + 3) : ∀ t, f t ≤ f [] + 3 * t.length := by
  refine snoc_ind (P := fun t => f t ≤ f [] + 3 * t.length) (by simp) (fun t x ih => ?_)
  have h1 := h t x
  rw [List.length_append]
  simp only [List.length_cons, List.length_nil]
  omega
theorem firstB_moreL (l t : List Pp) : (firstB (l ++ t)).length ≤ (firstB l).length + 3 * t.length := by
  have h := grow_bound (fun t => (firstB (l ++ t)).length) (fun t x => by
    show (firstB (l ++ (t ++ [x]))).length ≤ _
    rw [← List.append_assoc]
    exact blocks_more (l ++ t) x) t
  simp only [List.append_nil] at h
  exact h
theorem firstB_tab (i : Nat) (hi : i < 4) : firstB (tabP i) = firstB (tabR i) := by unfold firstB; rw [tab_valF i hi]
theorem likeB_tab (i : Nat) (hi : i < 4) : likeB (tabP i) = likeB (tabR i) := by unfold likeB; rw [tab_valF i hi]
set_option maxRecDepth 100000 in
theorem first_small : ∀ i, i < 4 → (firstB (tabR i)).length ≤ 256 := by
  refine four ?_ ?_ ?_ ?_
  · have := firstB_le (tabR 0)
    have h : (tabR 0).length = 62 := by decide +kernel
    omega
  · have h0 : tabR 1 = wdR.take 103 ++ wdR.drop 103 := (List.take_append_drop 103 wdR).symm
    have h1 : ((wdR.take 103).all fun p => decide (0 ≤ p.lo) && decide (p.hi < 12800)) = true := by kernel_rfl
    have h2 : (wdR.drop 103).length = 26 := by decide +kernel
    have h3 := blocks_lowN (l := wdR.take 103) 50 (fun p hp => by
      have := List.all_eq_true.1 h1 p hp
      simp only [Bool.and_eq_true, decide_eq_true_eq] at this
      omega)
    have h4 := firstB_moreL (wdR.take 103) (wdR.drop 103)
    rw [h0]
    omega
  · have := firstB_le (tabR 2)
    have h : (tabR 2).length = 24 := by decide +kernel
    omega
  · have := firstB_le (tabR 3)
    have h : (tabR 3).length = 66 := by decide +kernel
    omega
theorem tab_err (i : Nat) (hi : i < 4) : errB (tabP i) = 0 :=
  errB_mk (by have := (tab_len i hi).1; omega) (fun p hp => by have := tab_good i hi p hp; omega) (by rw [firstB_tab i hi]; exact first_small i hi)
theorem tab_errR (i : Nat) (hi : i < 4) : errB (tabR i) = 0 :=
  errB_mk (by have := (tab_len i hi).2; omega) (fun p hp => by have := tab_goodR i hi p hp; omega) (first_small i hi)
/-- The tables as tries. -/
theorem tab_fine (i : Nat) (hi : i < 4) : Fine (likeB (tabP i)) (firstB (tabP i)) := fineB (tab_bytes i hi) (errB_zero (tab_err i hi)).2.2
theorem tab_of (i : Nat) (hi : i < 4) (r : Int) : ofT (likeB (tabP i)) (firstB (tabP i)) r = valP (tabR i) r := by
  have h : ∀ p ∈ tabP i, 0 ≤ p.lo ∧ p.hi ≤ 1114111 ∧ p.lo ≤ p.hi := fun p hp => by have := tab_good i hi p hp; omega
  rw [← tab_val i hi r]
  exact of_val' h r
/-- What a row of the document's tables says of its numbers. -/
theorem row_val {i : Nat} (hi : i < 4) {p : Pp} (hp : p ∈ tabR i) {r : Int} (hr : hasP p r = true) : valP (tabR i) r = p.v :=
  val_one hp hr (fun q hq hz => (tab_apart i hi).one hp hq hr hz)
end Go.Proofs.YtpmlbdfdiebkcaaDoor
