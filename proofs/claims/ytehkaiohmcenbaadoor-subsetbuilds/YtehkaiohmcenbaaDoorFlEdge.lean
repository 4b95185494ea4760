/-
  The document's reading of an expression, part by part: what lies in memory meanwhile.
-/
import Derived.Test.YtehkaiohmcenbaaDoorFlAfter
import Derived.Test.YtehkaiohmcenbaaDoorGJ
namespace Go.Proofs.YtehkaiohmcenbaaDoor
open Go.RowKit Go.Shelf
set_option linter.unusedVariables false

/-- What is told of a part, in a variable of its own. -/
def EBox (w : World) (b : Nat) (n : Bool) (fv lv : Value) : Prop := w.heap[b]? = some (.cells #[.bool n, fv, lv] 78 (0, 0))
theorem edge_not : ¬ WrT 78 := by unfold WrT; decide
theorem node_not : ¬ WrT 24 := by unfold WrT; decide
section
variable {w w' : World} {b b' : Nat} {n : Bool} {fv lv : Value}
theorem EBox.c0 (h : EBox w b n fv lv) : w.cell? ⟨b, 0, none⟩ = some (.bool n) := cell_in h 0
theorem EBox.c1 (h : EBox w b n fv lv) : w.cell? ⟨b, 1, none⟩ = some fv := cell_in h 1
theorem EBox.c2 (h : EBox w b n fv lv) : w.cell? ⟨b, 2, none⟩ = some lv := cell_in h 2
theorem EBox.nf (h : EBox w b n fv lv) (i : Nat) : w.frozen? ⟨b, i, none⟩ = false := by
  unfold EBox at h
  simp [World.frozen?, h]
theorem EBox.lt (h : EBox w b n fv lv) : b < w.heap.size := lt_of_heap h
theorem EBox.s0 (h : EBox w b n fv lv) (n' : Bool) : EBox (w.setCell ⟨b, 0, none⟩ (.bool n')) b n' fv lv := by
  have := heap_setN (i := 0) h (.bool n'); simpa [EBox] using this
theorem EBox.s1 (h : EBox w b n fv lv) (v : Value) : EBox (w.setCell ⟨b, 1, none⟩ v) b n v lv := by
  have := heap_setN (i := 1) h v; simpa [EBox] using this
theorem EBox.s2 (h : EBox w b n fv lv) (v : Value) : EBox (w.setCell ⟨b, 2, none⟩ v) b n fv v := by
  have := heap_setN (i := 2) h v; simpa [EBox] using this
theorem EBox.below (h : EBox w b n fv lv) (hf : Below w.heap.size w w') : EBox w' b n fv lv := (hf.block _ h.lt).trans h
theorem EBox.only (h : EBox w b n fv lv) (hf : OnlyB b' w w') (hb : b ≠ b') : EBox w' b n fv lv := (hf.block _ hb).trans h
theorem EBox.fr {base : Nat} {sv sv' : Value} (h : EBox w b n fv lv) (hf : FrM base w sv w' sv') : EBox w' b n fv lv := (hf.typ _ _ _ _ h edge_not).trans h
end
theorem ebox_new (w : World) (n : Bool) (fv lv : Value) : EBox (w.alloc (.cells #[.bool n, fv, lv] 78)) w.heap.size n fv lv := heap_new' _ _
theorem LstO.only {base b : Nat} {w w' : World} {sv v : Value} {l : List Nat} {n : Bool} {fv lv : Value} (h : LstO base w sv v l) (k : OnlyB b w w') (hb : EBox w b n fv lv) : LstO base w' sv v l := ⟨h.1.only k hb (by decide), h.2⟩

/-- How one stands in mid-reading: the maker, the frame, the result's box, the box of what has been put together, and its lists. -/
structure CSt (M base r o : Nat) (w : World) (sv0 : Value) (W : World) (sv fv : Value) (S : List Int) (L : List (List Nat × List Nat)) (n : Bool) (va vb : Value) (la lb : List Nat) : Prop where
  mki : MkI M base W sv fv S (fol L)
  fr : FrM base w sv0 W sv
  rb : EBox W r false (.slice none 0 0) (.slice none 0 0)
  ob : EBox W o n va vb
  ha : LstO base W sv va la
  hb : LstO base W sv vb lb
  rlo : w.heap.size ≤ r
  olo : w.heap.size ≤ o
  ne : r ≠ o
  blo : base ≤ w.heap.size
section
variable {M base r o : Nat} {w W W' : World} {sv0 sv fv sv' fv' : Value} {S S' : List Int} {L L' : List (List Nat × List Nat)} {n : Bool} {va vb : Value} {la lb : List Nat}
theorem CSt.below (h : CSt M base r o w sv0 W sv fv S L n va vb la lb) (k : Below W.heap.size W W') : CSt M base r o w sv0 W' sv fv S L n va vb la lb :=
  ⟨h.mki.below k, h.fr.trans (FrM.of sv k (by have := h.fr.size; have := h.blo; omega)), h.rb.below k, h.ob.below k, h.ha.below k, h.hb.below k, h.rlo, h.olo, h.ne, h.blo⟩
theorem CSt.call (h : CSt M base r o w sv0 W sv fv S L n va vb la lb) (k : MkI M base W' sv' fv' S' (fol L')) (f : FrM base W sv W' sv') : CSt M base r o w sv0 W' sv' fv' S' L' n va vb la lb :=
  ⟨k, h.fr.trans f, h.rb.fr f, h.ob.fr f, f.lst _ _ h.ha, f.lst _ _ h.hb, h.rlo, h.olo, h.ne, h.blo⟩
theorem CSt.onlyO {n' : Bool} {va' vb' : Value} {la' lb' : List Nat} (h : CSt M base r o w sv0 W sv fv S L n va vb la lb) (k : OnlyB o W W') (e : EBox W' o n' va' vb') (h1 : LstO base W sv va' la') (h2 : LstO base W sv vb' lb') : CSt M base r o w sv0 W' sv fv S L n' va' vb' la' lb' :=
  ⟨h.mki.only k h.ob edge_not, h.fr.only k h.olo h.blo h.ob (by decide), h.rb.only k h.ne, e, h1.only k h.ob, h2.only k h.ob, h.rlo, h.olo, h.ne, h.blo⟩
theorem CSt.s0 (h : CSt M base r o w sv0 W sv fv S L n va vb la lb) (n' : Bool) : CSt M base r o w sv0 (W.setCell ⟨o, 0, none⟩ (.bool n')) sv fv S L n' va vb la lb := h.onlyO ((OnlyB.refl _ _).set _ _) (h.ob.s0 _) h.ha h.hb
theorem CSt.s1 {v : Value} {l : List Nat} (h : CSt M base r o w sv0 W sv fv S L n va vb la lb) (k : LstO base W sv v l) : CSt M base r o w sv0 (W.setCell ⟨o, 1, none⟩ v) sv fv S L n v vb l lb := h.onlyO ((OnlyB.refl _ _).set _ _) (h.ob.s1 _) k h.hb
theorem CSt.s2 {v : Value} {l : List Nat} (h : CSt M base r o w sv0 W sv fv S L n va vb la lb) (k : LstO base W sv v l) : CSt M base r o w sv0 (W.setCell ⟨o, 2, none⟩ v) sv fv S L n va v la l := h.onlyO ((OnlyB.refl _ _).set _ _) (h.ob.s2 _) h.ha k
theorem CSt.drew (h : CSt M base r o w sv0 W sv fv S L n va vb la lb) : CSt M base r o w sv0 W.drew sv fv S L n va vb la lb := h.below (Below.refl _ _).drew
theorem CSt.lt (h : CSt M base r o w sv0 W sv fv S L n va vb la lb) : o < W.heap.size := h.ob.lt
theorem CSt.wsz (h : CSt M base r o w sv0 W sv fv S L n va vb la lb) : w.heap.size ≤ W.heap.size := h.fr.size
end
/-- A part that was just told. -/
structure XBx (base b : Nat) (W : World) (sv : Value) (n : Bool) (va vb : Value) (la lb : List Nat) : Prop where
  bx : EBox W b n va vb
  ha : LstO base W sv va la
  hb : LstO base W sv vb lb
section
variable {base b : Nat} {W W' : World} {sv sv' : Value} {n : Bool} {va vb : Value} {la lb : List Nat}
theorem XBx.below (h : XBx base b W sv n va vb la lb) (k : Below W.heap.size W W') : XBx base b W' sv n va vb la lb := ⟨h.bx.below k, h.ha.below k, h.hb.below k⟩
theorem XBx.fr (h : XBx base b W sv n va vb la lb) (k : FrM base W sv W' sv') : XBx base b W' sv' n va vb la lb := ⟨h.bx.fr k, k.lst _ _ h.ha, k.lst _ _ h.hb⟩
theorem XBx.only {o : Nat} {n' : Bool} {va' vb' : Value} (h : XBx base b W sv n va vb la lb) (k : OnlyB o W W') (ho : EBox W o n' va' vb') (hb : b ≠ o) : XBx base b W' sv n va vb la lb := ⟨h.bx.only k hb, h.ha.only k ho, h.hb.only k ho⟩
theorem XBx.drew (h : XBx base b W sv n va vb la lb) : XBx base b W.drew sv n va vb la lb := h.below (Below.refl _ _).drew
end
/-- What the reading of a part tells. -/
def EdgA (M base : Nat) (w : World) (sv : Value) (S : List Int) (L : List (List Nat × List Nat)) (T : List Int) (p : Prt) (e : Ending) (w' : World) : Prop :=
  ∃ sv' fv' va vb, e = .returned (.agg #[.bool p.null, va, vb]) ∧ MkI M base w' sv' fv' (S ++ T) (fol (L ++ p.notes)) ∧ FrM base w sv w' sv' ∧ LstO base w' sv' va p.first ∧ LstO base w' sv' vb p.last
/-- All notes are of places up to c. -/
def NtO (c : Nat) (L : List (List Nat × List Nat)) : Prop := ∀ x ∈ L, InR 0 c x.1 ∧ InR 0 c x.2
theorem NtO.wide {c c' : Nat} {L : List (List Nat × List Nat)} (h : NtO c L) (hc : c ≤ c') : NtO c' L := fun x hx => ⟨(h x hx).1.wide (Nat.le_refl _) hc, (h x hx).2.wide (Nat.le_refl _) hc⟩
theorem NtO.app {c : Nat} {L K : List (List Nat × List Nat)} (h : NtO c L) (k : NtO c K) : NtO c (L ++ K) := fun x hx => by
  rcases List.mem_append.1 hx with q | q
  · exact h x q
  · exact k x q
theorem NtO.prt {c : Nat} {p : Prt} (h : Okp c p) : NtO p.upTo p.notes := fun x hx => ⟨(h.notes x hx).1.wide (Nat.zero_le _) (Nat.le_refl _), (h.notes x hx).2.wide (Nat.zero_le _) (Nat.le_refl _)⟩
/-- What a caller of a kid knows. -/
def NodC (M base m : Nat) (x : Nd) (xa : Option Addr) (ka : Nat) : Prop :=
  ∀ W sv fv S L, MkI M base W sv fv S (fol L) → base ≤ W.heap.size → NtO S.length L → S.length + (setsN x).length ≤ m → KdX (fun k => k < base) W (.slice xa x.kids.length ka) x.kids →
    Calls Tryd.prog 46 #[.pointer (some ⟨M, 0, none⟩), .agg #[.int .i64 x.k, .int .i64 x.s, .slice xa x.kids.length ka]] W (EdgA M base W sv S L (setsN x) (prtN x S.length))
/-- Two lists put together are one behind the other. -/
theorem both_app {c u v : Nat} {a b l : List Nat} (h : BothR a b l) (ha : InR c u a) (hb : InR u v b) (h1 : c ≤ u) (h2 : u ≤ v) : l = a ++ b :=
  ris_same _ _ h.1 (ha.app hb h1 h2).1 (fun x => by rw [h.2 x, List.mem_append])
theorem setsL_app (a b : List Nd) : setsL (a ++ b) = setsL a ++ setsL b := by
  induction a with
  | nil => rfl
  | cons x a ih => rw [List.cons_append, setsL, setsL, ih, List.append_assoc]
end Go.Proofs.YtehkaiohmcenbaaDoor
