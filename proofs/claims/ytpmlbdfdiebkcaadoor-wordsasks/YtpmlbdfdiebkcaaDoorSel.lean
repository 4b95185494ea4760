/-
  What words.All takes of the heads; blocks that stay while a row grows.
-/
import Derived.Test.YtpmlbdfdiebkcaaDoorChg6
namespace Go.Proofs.YtpmlbdfdiebkcaaDoor
open Go.RowKit Go.Shelf
set_option linter.unusedVariables false

/-- Blocks below m, but for some, stay; what is no cells stays; all below n stays. -/
structure Loose (n m : Nat) (ks : List Nat) (W W' : World) : Prop where
  size : W.heap.size ≤ W'.heap.size
  only : ∀ k, k < m → ¬ k ∈ ks → W'.heap[k]? = W.heap[k]?
  keeps : KeepsOthers W W'
  bel : Below n W W'
theorem Loose.trans {n m : Nat} {ks : List Nat} {X Y Z : World} (h : Loose n m ks X Y) (k : Loose n m ks Y Z) : Loose n m ks X Z :=
  ⟨Nat.le_trans h.size k.size, fun j h1 h2 => (k.only j h1 h2).trans (h.only j h1 h2), h.keeps.trans k.keeps, h.bel.trans k.bel⟩
theorem loose_below {n m : Nat} {ks : List Nat} {W W' : World} (h : Below W.heap.size W W') (hn : n ≤ W.heap.size) (hm : m ≤ W.heap.size) : Loose n m ks W W' :=
  ⟨h.size, fun k h1 _ => h.block k (by omega), keeps_below h, h.mono hn⟩
theorem loose_chg {n m : Nat} {ks : List Nat} {W W' : World} (h : Chg ks W W') (hn : ∀ k ∈ ks, n ≤ k) : Loose n m ks W W' :=
  ⟨h.size, fun k _ h2 => h.only k h2, h.keeps, h.bel n hn⟩
theorem loose_append {W w2 : World} {tmp : Obj} {e : TypeId} {size k : Nat} {v : Value} {xs : List Value} {n m : Nat} {ks : List Nat} (hrow : W.ownsRow m e size v k xs) (hg : (W.alloc tmp).grownBy w2 v.ownBlock) (hn : n ≤ m) (hm : m ≤ W.heap.size) : Loose n m ks W w2 := by
  have hrl : ∀ r, v.ownBlock = some r → m ≤ r ∧ r < W.heap.size ∧ ∃ o, W.heap[r]? = some o ∧ o.isCells = true := fun r hr => by
    obtain ⟨h1, h2⟩ := hrow.lt r hr
    refine ⟨h1, h2, ?_⟩
    rcases hrow.2 with ⟨rfl, _⟩ | ⟨g, cap, cur, rfl, _, hgc, _⟩
    · simp [Value.ownBlock] at hr
    · obtain rfl : g = r := by simpa [Value.ownBlock] using hr
      exact ⟨_, hgc, rfl⟩
  have hsz : W.heap.size ≤ w2.heap.size := by have := hg.size; simp at this; omega
  refine ⟨hsz, fun j h1 _ => ?_, ⟨hsz, fun j o ho hc => ?_⟩, ?_⟩
  · rw [hg.block j (by simp; omega) (fun q => by have := (hrl j q.symm).1; omega), Below.heap_alloc W tmp j (by omega)]
  · have hj := (Array.getElem?_eq_some_iff.1 ho).1
    rw [hg.block j (by simp; omega) (fun q => by
      obtain ⟨_, _, o', h1, h2⟩ := hrl j q.symm
      rw [ho] at h1
      cases h1
      rw [hc] at h2
      cases h2), Below.heap_alloc W tmp j hj]
    exact ho
  · exact ((Below.refl n W).alloc (by omega) tmp).grown hg (by simp; omega) (fun r hr => by have := (hrl r hr).1; omega)
theorem Loose.kps {n m : Nat} {ks hs : List Nat} {W W' : World} (h : Loose n m ks W W') (hh : ∀ k ∈ hs, k < m ∧ ¬ k ∈ ks) : KpS n hs W W' := ⟨h.bel, fun k e => h.only k (hh k e).1 (hh k e).2⟩
theorem Loose.cells {n m : Nat} {ks : List Nat} {W W' : World} (h : Loose n m ks W W') {B : Nat} {cs : Array Value} {t : TypeId} (hB : B < m) (hk : ¬ B ∈ ks) (hx : W.heap[B]? = some (.cells cs t (0, 0))) : W'.heap[B]? = some (.cells cs t (0, 0)) := (h.only B hB hk).trans hx
theorem row_mono {w : World} {b b' : Nat} {e : TypeId} {size : Nat} {v : Value} {n : Nat} {xs : List Value} (h : w.ownsRow b e size v n xs) (hb : b' ≤ b) : w.ownsRow b' e size v n xs :=
  ⟨h.1, h.2.elim .inl (fun ⟨g, c, cur, e1, e2, r⟩ => .inr ⟨g, c, cur, e1, Nat.le_trans hb e2, r⟩)⟩
theorem set_grown6 (w : World) (B j : Nat) (u : Value) : w.grownBy (w.setCell ⟨B, j, none⟩ u) (some B) :=
  ⟨rfl, rfl, rfl, by simp [World.setCell], fun k _ hne => Below.heap_setCell w ⟨B, j, none⟩ u k (fun e => hne (by rw [show k = B from e]))⟩
theorem row_set {w : World} {b : Nat} {e : TypeId} {size : Nat} {v : Value} {n : Nat} {xs : List Value} (h : w.ownsRow b e size v n xs) {B : Nat} (hB : B < b) (j : Nat) (u : Value) : (w.setCell ⟨B, j, none⟩ u).ownsRow b e size v n xs := by
  refine h.kept (set_grown6 w B j u) ?_
  cases hv : v.ownBlock with
  | none => exact .inl rfl
  | some r =>
    refine .inr (fun q => ?_)
    have := (h.lt r hv).1
    cases q
    omega
theorem row_below {w w' : World} {b : Nat} {e : TypeId} {size : Nat} {v : Value} {n : Nat} {xs : List Value} (h : w.ownsRow b e size v n xs) (hb : Below w.heap.size w w') : w'.ownsRow b e size v n xs := by
  refine h.kept (grown_below hb none) ?_
  cases hv : v.ownBlock with
  | none => exact .inl rfl
  | some r => exact .inr (fun q => by cases q)

/-- Places as ints, and as cells. -/
def intsP (ys : List Nat) : List Int := ys.map (fun k : Nat => (k : Int))
def cellsP5 (ys : List Nat) : List Value := (intsP ys).map (Value.int .i64)
theorem cellsP5_snoc (ys : List Nat) (x : Nat) : cellsP5 (ys ++ [x]) = cellsP5 ys ++ [.int .i64 (x : Int)] := by simp [cellsP5, intsP]
theorem intsP_length (ys : List Nat) : (intsP ys).length = ys.length := by simp [intsP]
/-- What All takes of heads, the last one first. -/
def selR {l : List Int} : List (Fin l.length) → List Nat
  | [] => []
  | x :: r => if endsP l x.val ((kindsH r)[1]?.getD 0) ((kindsH r)[0]?.getD 0) (regK (kindsH r)) = true then selR r ++ [x.val] else selR r
theorem selR_cons {l : List Int} (x : Fin l.length) (r : List (Fin l.length)) : selR (x :: r) = if endsP l x.val ((kindsH r)[1]?.getD 0) ((kindsH r)[0]?.getD 0) (regK (kindsH r)) = true then selR r ++ [x.val] else selR r := rfl
theorem selR_len {l : List Int} : ∀ r : List (Fin l.length), (selR r).length ≤ r.length
  | [] => Nat.le_refl _
  | x :: r => by
    have := selR_len r
    rw [selR_cons]
    split
    · rw [List.length_append, List.length_singleton, List.length_cons]; omega
    · rw [List.length_cons]; omega
theorem kindsH_cons {l : List Int} (x : Fin l.length) (r : List (Fin l.length)) : kindsH (x :: r) = wdV l[x.val] :: kindsH r := rfl
/-- Where the heads are those of the text, All takes the places. -/
theorem sel_heads (l : List Int) : ∀ (t : Nat), t ≤ l.length → ∀ xs : List (Fin l.length), valsH xs = headsT l (fun t => 0 + t) t → kindsH xs.reverse = hk l t ∧ selR xs.reverse = below l t
  | 0, _, xs, h => by
    have : xs = [] := by
      have h2 : valsH xs = [] := h
      simpa [valsH] using h2
    subst this
    exact ⟨rfl, rfl⟩
  | t + 1, ht, xs, h => by
    rw [headsT_succ, Nat.zero_add] at h
    cases q : headB l t with
    | false =>
      rw [q, if_neg (by simp)] at h
      obtain ⟨h1, h2⟩ := sel_heads l t (by omega) xs h
      have hk1 : hk l (t + 1) = if headB l t = true then kd l t :: hk l t else hk l t := rfl
      refine ⟨by rw [h1, hk1, q, if_neg (by simp)], ?_⟩
      rw [h2, below_succ, brk_nohead (by omega) q, if_neg (by simp)]
    | true =>
      rw [q, if_pos rfl] at h
      have hne : xs ≠ [] := fun e => by
        rw [e] at h
        have h2 := congrArg List.length h
        simp [valsH] at h2
      obtain ⟨ys, x, rfl⟩ : ∃ ys x, xs = ys ++ [x] := ⟨xs.dropLast, xs.getLast hne, (List.dropLast_concat_getLast hne).symm⟩
      rw [valsH_snoc] at h
      have h3 := List.append_inj' h rfl
      obtain ⟨h1, h2⟩ := sel_heads l t (by omega) ys h3.1
      have hx : x.val = t := by simpa using h3.2
      rw [List.reverse_append, List.reverse_singleton, List.singleton_append, kindsH_cons, selR_cons, h1, h2]
      have hk1 : hk l (t + 1) = if headB l t = true then kd l t :: hk l t else hk l t := rfl
      rw [hk1, q, if_pos rfl, below_succ]
      refine ⟨?_, ?_⟩
      · rw [kd_get (by omega : t < l.length)]
        congr 2
        exact getElem_congr rfl hx _
      · rw [hx, ends_brk q]
theorem sel_all (l : List Int) (xs : List (Fin l.length)) (h : valsH xs = headsT l (fun t => 0 + t) (l.length - 0)) : selR xs.reverse ++ [l.length] = allL l := by
  rw [(sel_heads l l.length (Nat.le_refl _) xs h).2, all_snoc]
end Go.Proofs.YtpmlbdfdiebkcaaDoor
