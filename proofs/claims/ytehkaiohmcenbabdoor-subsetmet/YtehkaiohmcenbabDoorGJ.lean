/-
  The sets of an expression's places. An expression read part by part: read and inTurn.
-/
import Derived.Test.YtehkaiohmcenbabDoorGB
import Derived.Test.YtehkaiohmcenbabDoorGC
namespace Go.Proofs.YtehkaiohmcenbabDoor
open Go.RowKit Go.Shelf
set_option linter.unusedVariables false

def cellI (l : List Int) : List Value := l.map fun n => Value.int .i64 n
theorem cellI_snoc (l : List Int) (x : Int) : cellI (l ++ [x]) = cellI l ++ [.int .i64 x] := by simp [cellI]
theorem setsL_snoc : ∀ (l : List Nd) (x : Nd), setsL (l ++ [x]) = setsL l ++ setsN x
  | [], x => by rw [List.nil_append, setsL, setsL, setsL, List.append_nil, List.nil_append]
  | y :: l, x => by rw [List.cons_append, setsL, setsL, setsL_snoc l x, List.append_assoc]
theorem setsL_take_le (l : List Nd) (j : Nat) : (setsL (l.take j)).length ≤ (setsL l).length := by
  have key : ∀ a b : List Nd, setsL (a ++ b) = setsL a ++ setsL b := fun a b => by
    induction a with
    | nil => rfl
    | cons x a ih => rw [List.cons_append, setsL, setsL, ih, List.append_assoc]
  have : setsL l = setsL (l.take j) ++ setsL (l.drop j) := by rw [← key, List.take_append_drop]
  rw [this, List.length_append]; omega
theorem own_any {w : World} {base e size n : Nat} {v : Value} {xs : List Value} (h : w.ownsRow base e size v n xs) : ∃ a m c, v = .slice a m c := by
  rcases h.2 with ⟨rfl, _⟩ | ⟨g, cap, cur, rfl, _⟩
  · exact ⟨_, _, _, rfl⟩
  · exact ⟨_, _, _, rfl⟩

/-- What setsOf answers. -/
def StA (base : Nat) (n : Nd) (S : List Int) (w : World) (e : Ending) (w' : World) : Prop := ∃ v', e = .returned v' ∧ w'.ownsRow base 3 1 v' (S ++ setsN n).length (cellI (S ++ setsN n)) ∧ Below base w w'


end Go.Proofs.YtehkaiohmcenbabDoor

namespace Go.Proofs.YtehkaiohmcenbabDoor
open Go.RowKit Go.Shelf
set_option linter.unusedVariables false

/-- The function fn with caps notes what follows; I tells what has been noted; its memory is lo .. hi. -/
structure NoteT (fn : Nat) (caps : Array Value) (lo hi m : Nat) (I : World → List (List Nat × List Nat) → Prop) : Prop where
  ent : ∀ args w, (callFunc fn args).run Tryd.prog w = .ok (.enter fn args) w
  le : lo ≤ hi
  size : ∀ w L, I w L → hi ≤ w.heap.size
  keep : ∀ w w' L, I w L → (∀ k, lo ≤ k → k < hi → w'.heap[k]? = w.heap[k]?) → w.heap.size ≤ w'.heap.size → I w' L
  call : ∀ w L v1 a v2 b, I w L → LstAt hi w v1 a → LstAt hi w v2 b → InR 0 m a → InR 0 m b → Calls Tryd.prog fn (#[v1, v2] ++ caps) w fun e w' => e = .returned (.tuple #[]) ∧ I w' (L ++ [(a, b)]) ∧ FrI lo hi w w'
theorem NoteT.below {fn : Nat} {caps : Array Value} {lo hi m : Nat} {I : World → List (List Nat × List Nat) → Prop} (N : NoteT fn caps lo hi m I) {w w' : World} {L : List (List Nat × List Nat)} (h : I w L) (hb : Below w.heap.size w w') : I w' L :=
  N.keep w w' L h (fun k _ hk => hb.block k (Nat.lt_of_lt_of_le hk (N.size w L h))) hb.size
/-- Only the block b was written. -/
structure OnlyB (b : Nat) (w w' : World) : Prop where
  os : w'.os = w.os
  tape : w'.tape = w.tape
  output : w'.output = w.output
  size : w'.heap.size = w.heap.size
  block : ∀ k, k ≠ b → w'.heap[k]? = w.heap[k]?
theorem OnlyB.refl (b : Nat) (w : World) : OnlyB b w w := ⟨rfl, rfl, rfl, rfl, fun _ _ => rfl⟩
theorem OnlyB.set {b : Nat} {w w' : World} (h : OnlyB b w w') (i : Nat) (v : Value) : OnlyB b w (w'.setCell ⟨b, i, none⟩ v) := by
  have e : (w'.setCell ⟨b, i, none⟩ v).heap.size = w'.heap.size := by simp [World.setCell]
  exact ⟨h.os, h.tape, h.output, e.trans h.size, fun k hk => (Below.heap_setCell _ _ _ _ hk).trans (h.block k hk)⟩
theorem OnlyB.drew {b : Nat} {w w' : World} (h : OnlyB b w w') : OnlyB b w w'.drew := ⟨h.os, h.tape, h.output, h.size, h.block⟩
theorem FrI.only {lo hi b : Nat} {w w1 w2 : World} (h : FrI lo hi w w1) (k : OnlyB b w1 w2) (h1 : w.heap.size ≤ b) (h2 : lo ≤ b) : FrI lo hi w w2 :=
  ⟨⟨k.os.trans h.1.os, k.tape.trans h.1.tape, k.output.trans h.1.output, by rw [k.size]; exact h.1.size, fun i hi => (k.block i (by omega)).trans (h.1.block i hi)⟩, fun i h3 h4 => (k.block i (by omega)).trans (h.2 i h3 h4)⟩
theorem NoteT.only {fn : Nat} {caps : Array Value} {lo hi m : Nat} {I : World → List (List Nat × List Nat) → Prop} (N : NoteT fn caps lo hi m I) {w w' : World} {L : List (List Nat × List Nat)} {b : Nat} (h : I w L) (hb : OnlyB b w w') (h2 : hi ≤ b) : I w' L :=
  N.keep w w' L h (fun k _ hk => hb.block k (by omega)) (by rw [hb.size]; exact Nat.le_refl _)
theorem LstAt.only {hi b : Nat} {w w' : World} {v : Value} {l : List Nat} {cs : Array Value} {t : TypeId} {fr : Nat × Nat} (h : LstAt hi w v l) (hb : OnlyB b w w') (hbb : w.heap[b]? = some (.cells cs t fr)) (ht : t ≠ 3) : LstAt hi w' v l :=
  h.to (fun g cs' fr' _ hw => hb.block g (fun e => by
    subst e
    rw [hbb] at hw
    injection hw with hw
    injection hw with _ hw _
    exact ht hw))
theorem LstAt.any {hi : Nat} {w : World} {v : Value} {l : List Nat} (h : LstAt hi w v l) : ∃ a n c, v = .slice a n c := by
  obtain ⟨a, cap, e, _⟩ := h; exact ⟨a, _, cap, e⟩
/-- A part as it is told. -/
def prtV (n : Bool) (fv lv : Value) (u : Nat) : Value := .agg #[.bool n, fv, lv, .int .i64 (u : Int)]
def RdA (lo hi : Nat) (I : World → List (List Nat × List Nat) → Prop) (p : Prt) (L : List (List Nat × List Nat)) (w : World) (e : Ending) (w' : World) : Prop :=
  ∃ fv lv, e = .returned (prtV p.null fv lv p.upTo) ∧ LstAt hi w' fv p.first ∧ LstAt hi w' lv p.last ∧ I w' (L ++ p.notes) ∧ FrI lo hi w w'
theorem catL_snoc : ∀ (l : List Nd) (x : Nd) (W : Prt), catL (l ++ [x]) W = catS (catL l W) (prtN x (catL l W).upTo)
  | [], x, W => rfl
  | y :: l, x, W => by rw [List.cons_append, catL_cons, catL_cons, catL_snoc l x]
theorem altL_snoc : ∀ (l : List Nd) (x : Nd) (W : Prt), altL (l ++ [x]) W = altS (altL l W) (prtN x (altL l W).upTo)
  | [], x, W => rfl
  | y :: l, x, W => by rw [List.cons_append, altL_cons, altL_cons, altL_snoc l x]
theorem take_snoc {l : List Nd} {j : Nat} (h : j < l.length) : l.take (j + 1) = l.take j ++ [l[j]] := by
  rw [List.take_add_one, List.getElem?_eq_getElem h]; rfl
theorem InR.len {c u : Nat} {l : List Nat} (h : InR c u l) (hc : c ≤ u) : l.length + c ≤ u := by
  have := ris_len l (c + 1) u h.1 (fun x hx => by have := h.2 x hx; omega) (by omega)
  omega

end Go.Proofs.YtehkaiohmcenbabDoor
