/-
  An automaton of places, in memory.
-/
import Derived.Test.YtklhjjgnhigbiaaGreatDoorGC
import Derived.Test.YtklhjjgnhigbiaaGreatDoorGJ
import Derived.Laws.ResultCell
namespace Go.Proofs.YtklhjjgnhigbiaaGreatDoor
open Go.RowKit Go.Shelf
set_option linter.unusedVariables false

def IntsAt (w : World) (v : Value) (l : List Int) : Prop :=
  ∃ a cap, v = .slice a l.length cap ∧ l.length ≤ cap ∧ (a = none → cap = 0) ∧ ∀ i, (h : i < l.length) → ∃ g off, a = some ⟨g, off, none⟩ ∧ g < w.heap.size ∧ w.cell? ⟨g, off + i, none⟩ = some (.int .i64 l[i])
theorem IntsAt.below {w w' : World} {v : Value} {l : List Int} (h : IntsAt w v l) (hb : Below w.heap.size w w') : IntsAt w' v l := by
  obtain ⟨a, cap, rfl, hc, hn, hx⟩ := h
  refine ⟨a, cap, rfl, hc, hn, fun i hi => ?_⟩
  obtain ⟨g, off, rfl, hg, h0⟩ := hx i hi
  exact ⟨g, off, rfl, Nat.lt_of_lt_of_le hg hb.size, (hb.cell (p := ⟨g, _, none⟩) hg).trans h0⟩
theorem IntsAt.nil (w : World) : IntsAt w (.slice none 0 0) [] := ⟨none, 0, rfl, Nat.le_refl _, fun _ => rfl, fun i h => (by cases h)⟩
theorem ints_of_row {w : World} {base : Nat} {v : Value} {l : List Int} (h : w.ownsRow base 3 1 v l.length (cellI l)) : IntsAt w v l := by
  rcases h.2 with ⟨rfl, h0⟩ | ⟨g, cap, cur, rfl, hb, hg, hc, hm, hs, ht⟩
  · obtain rfl : l = [] := List.length_eq_zero_iff.1 h0
    exact IntsAt.nil _
  · refine ⟨_, cap, rfl, hc, fun e => (by cases e), fun i hi => ⟨g, 0, rfl, lt_of_heap hg, ?_⟩⟩
    have := h.cells (g := g) rfl i (.int .i64 l[i]) (by simp [cellI, hi])
    rw [add_lit'] at this
    exact this
theorem IntsAt.slice {w : World} {v : Value} {l : List Int} (h : IntsAt w v l) : ∃ a cap, v = .slice a l.length cap ∧ l.length ≤ cap := by
  obtain ⟨a, cap, e, hc, _⟩ := h; exact ⟨a, cap, e, hc⟩
theorem IntsAt.at {w : World} {a : Option Addr} {len cap : Nat} {l : List Int} (h : IntsAt w (.slice a len cap) l) {j : Nat} (hj : j < l.length) : ∃ ga oa, a = some ⟨ga, oa, none⟩ ∧ ga < w.heap.size ∧ w.cell? ⟨ga, oa + j, none⟩ = some (.int .i64 l[j]) := by
  obtain ⟨a', c', e1, _, _, hx⟩ := h
  obtain ⟨g, off, e2, h1, h2⟩ := hx j hj
  exact ⟨g, off, by simp at e1; rw [e1.1]; exact e2, h1, h2⟩
def FolAt (w : World) (v : Value) (F : List (List Nat)) : Prop :=
  ∃ a cap, v = .slice a F.length cap ∧ F.length ≤ cap ∧ (a = none → cap = 0) ∧ ∀ i, (h : i < F.length) → ∃ g off x, a = some ⟨g, off, none⟩ ∧ g < w.heap.size ∧ w.cell? ⟨g, off + i, none⟩ = some x ∧ PlcAt 0 0 w x F[i]
theorem FolAt.below {w w' : World} {v : Value} {F : List (List Nat)} (h : FolAt w v F) (hb : Below w.heap.size w w') : FolAt w' v F := by
  obtain ⟨a, cap, rfl, hc, hn, hx⟩ := h
  refine ⟨a, cap, rfl, hc, hn, fun i hi => ?_⟩
  obtain ⟨g, off, x, rfl, hg, h0, h1⟩ := hx i hi
  exact ⟨g, off, x, rfl, Nat.lt_of_lt_of_le hg hb.size, (hb.cell (p := ⟨g, _, none⟩) hg).trans h0, h1.below hb⟩
theorem FolAt.nil (w : World) : FolAt w (.slice none 0 0) [] := ⟨none, 0, rfl, Nat.le_refl _, fun _ => rfl, fun i h => (by cases h)⟩
theorem FolAt.slice {w : World} {v : Value} {F : List (List Nat)} (h : FolAt w v F) : ∃ a cap, v = .slice a F.length cap ∧ F.length ≤ cap := by
  obtain ⟨a, cap, e, hc, _⟩ := h; exact ⟨a, cap, e, hc⟩
theorem FolAt.at {w : World} {a : Option Addr} {len cap : Nat} {F : List (List Nat)} (h : FolAt w (.slice a len cap) F) {j : Nat} (hj : j < F.length) : ∃ ga oa x, a = some ⟨ga, oa, none⟩ ∧ ga < w.heap.size ∧ w.cell? ⟨ga, oa + j, none⟩ = some x ∧ PlcAt 0 0 w x F[j] := by
  obtain ⟨a', c', e1, _, _, hx⟩ := h
  obtain ⟨g, off, x, e2, h1, h2, h3⟩ := hx j hj
  exact ⟨g, off, x, by simp at e1; rw [e1.1]; exact e2, h1, h2, h3⟩
/-- What an automaton holds. -/
structure AutD where
  null : Bool
  sets : List Int
  first : List Nat
  last : List Nat
  fol : List (List Nat)
def AutAt (w : World) (av : Value) (d : AutD) : Prop := ∃ sv fv lv wv, av = .agg #[.bool d.null, sv, fv, lv, wv] ∧ IntsAt w sv d.sets ∧ PlcAt 0 0 w fv d.first ∧ PlcAt 0 0 w lv d.last ∧ FolAt w wv d.fol
theorem AutAt.below {w w' : World} {av : Value} {d : AutD} (h : AutAt w av d) (hb : Below w.heap.size w w') : AutAt w' av d := by
  obtain ⟨sv, fv, lv, wv, e, h1, h2, h3, h4⟩ := h
  exact ⟨sv, fv, lv, wv, e, h1.below hb, h2.below hb, h3.below hb, h4.below hb⟩
def autZ : AutD := ⟨false, [], [], [], []⟩
theorem autZ_at (w : World) : AutAt w (.agg #[.bool false, .slice none 0 0, .slice none 0 0, .slice none 0 0, .slice none 0 0]) autZ := ⟨_, _, _, _, rfl, IntsAt.nil _, PlcAt.nil _ _ _, PlcAt.nil _ _ _, FolAt.nil _⟩
/-- The places that follow each one. -/
def folN (n : Nd) : List (List Nat) := (List.range (setsN n).length).map fun i => rgF (fol (prtN n 0).notes (i + 1)) ((setsN n).length + 1)
def autN (n : Nd) : AutD := ⟨(prtN n 0).null, setsN n, (prtN n 0).first, (prtN n 0).last, folN n⟩
def errF (n : Nd) : Int := if rightN n = false then 1 else if 300 < (setsN n).length then 3 else 0
def autF (n : Nd) : AutD := if errF n = 0 then autN n else autZ
theorem errF_bad {n : Nd} (h : rightN n = false) : errF n = 1 := by unfold errF; rw [if_pos h]
theorem errF_full {n : Nd} (h : rightN n = true) (k : 300 < (setsN n).length) : errF n = 3 := by unfold errF; rw [if_neg (by rw [h]; simp), if_pos k]
theorem errF_ok {n : Nd} (h : rightN n = true) (k : ¬ 300 < (setsN n).length) : errF n = 0 := by unfold errF; rw [if_neg (by rw [h]; simp), if_neg k]
/-- What Build answers. -/
def BldA (n : Nd) (w : World) (e : Ending) (w' : World) : Prop := ∃ av, e = .returned (.tuple #[av, .int .i64 (errF n)]) ∧ AutAt w' av (autF n) ∧ Below w.heap.size w w'
theorem results_cell_tmp_row {P : Program} {fn : Func} {p u : Tmp} {ty : TypeId} (h : fn.results = #[.cell p ty, .tmp u]) (tmps : Array Value) (w : World) (g : Nat) (t : TypeId) (cs : Array Value) (fr : Nat × Nat) (d : TypeDesc)
    (hp : tmps.getD p undef = .pointer (some ⟨g, 0, none⟩)) (hg : w.heap[g]? = some (.cells cs t fr))
    (hu : P.underlying ty = some d) (hd : (match d with | .struct _ | .array _ _ => true | _ => false) = true) (hi : (P.info? ty).map (·.size) = some cs.size) :
    (results fn tmps).run P w = .ok (.tuple #[.agg cs, tmps.getD u undef]) w := by
  rw [results_cell_tmp h, hp]
  simp [asAddr, run_loadVar_row w g t ty cs fr d hg hu hd hi]
/-- An automaton in a variable of its own. -/
def ABox (w : World) (b : Nat) (n : Bool) (sv fv lv wv : Value) : Prop := w.heap[b]? = some (.cells #[.bool n, sv, fv, lv, wv] 29 (0, 0))
section
variable {w : World} {b : Nat} {n : Bool} {sv fv lv wv : Value}
theorem ABox.c0 (h : ABox w b n sv fv lv wv) : w.cell? ⟨b, 0, none⟩ = some (.bool n) := cell_in h 0
theorem ABox.c1 (h : ABox w b n sv fv lv wv) : w.cell? ⟨b, 1, none⟩ = some sv := cell_in h 1
theorem ABox.c2 (h : ABox w b n sv fv lv wv) : w.cell? ⟨b, 2, none⟩ = some fv := cell_in h 2
theorem ABox.c3 (h : ABox w b n sv fv lv wv) : w.cell? ⟨b, 3, none⟩ = some lv := cell_in h 3
theorem ABox.c4 (h : ABox w b n sv fv lv wv) : w.cell? ⟨b, 4, none⟩ = some wv := cell_in h 4
theorem ABox.nf (h : ABox w b n sv fv lv wv) (i : Nat) : w.frozen? ⟨b, i, none⟩ = false := by
  unfold ABox at h
  simp [World.frozen?, h]
theorem ABox.lt (h : ABox w b n sv fv lv wv) : b < w.heap.size := lt_of_heap h
theorem ABox.s0 (h : ABox w b n sv fv lv wv) (x : Bool) : ABox (w.setCell ⟨b, 0, none⟩ (.bool x)) b x sv fv lv wv := by
  have := heap_setN (i := 0) h (.bool x); simpa [ABox] using this
theorem ABox.s1 (h : ABox w b n sv fv lv wv) (v : Value) : ABox (w.setCell ⟨b, 1, none⟩ v) b n v fv lv wv := by
  have := heap_setN (i := 1) h v; simpa [ABox] using this
theorem ABox.s2 (h : ABox w b n sv fv lv wv) (v : Value) : ABox (w.setCell ⟨b, 2, none⟩ v) b n sv v lv wv := by
  have := heap_setN (i := 2) h v; simpa [ABox] using this
theorem ABox.s3 (h : ABox w b n sv fv lv wv) (v : Value) : ABox (w.setCell ⟨b, 3, none⟩ v) b n sv fv v wv := by
  have := heap_setN (i := 3) h v; simpa [ABox] using this
theorem ABox.s4 (h : ABox w b n sv fv lv wv) (v : Value) : ABox (w.setCell ⟨b, 4, none⟩ v) b n sv fv lv v := by
  have := heap_setN (i := 4) h v; simpa [ABox] using this
theorem ABox.below {w' : World} (h : ABox w b n sv fv lv wv) (hf : Below w.heap.size w w') : ABox w' b n sv fv lv wv := (hf.block _ h.lt).trans h
end
theorem own_blk {w w' : World} {base e size n : Nat} {v : Value} {xs : List Value} (h : w.ownsRow base e size v n xs) (hb : ∀ k, v.ownBlock = some k → w'.heap[k]? = w.heap[k]?) : w'.ownsRow base e size v n xs := by
  refine ⟨h.1, ?_⟩
  rcases h.2 with ⟨h1, h2⟩ | ⟨g, cap, cur, rfl, h2, h3, h4⟩
  · exact .inl ⟨h1, h2⟩
  · exact .inr ⟨g, cap, cur, rfl, h2, (hb g rfl).trans h3, h4⟩
theorem own_ne {w : World} {base e size n A : Nat} {v : Value} {xs : List Value} {cs : Array Value} {t : TypeId} {fr : Nat × Nat} (h : w.ownsRow base e size v n xs) (hA : w.heap[A]? = some (.cells cs t fr)) (ht : t ≠ e) : v.ownBlock ≠ some A := by
  rcases h.2 with ⟨rfl, _⟩ | ⟨g, cap, cur, rfl, h2, h3, h4⟩
  · intro h; cases h
  · intro h5
    have h6 : g = A := by injection h5
    subst h6
    rw [h3] at hA
    injection hA with hA
    injection hA with _ hA _
    exact ht hA.symm
theorem own_typed {w : World} {base e size n k : Nat} {v : Value} {xs : List Value} (h : w.ownsRow base e size v n xs) (hk : v.ownBlock = some k) : ∃ cs, w.heap[k]? = some (.cells cs e (0, 0)) := by
  rcases h.2 with ⟨rfl, _⟩ | ⟨g, cap, cur, rfl, h2, h3, h4⟩
  · cases hk
  · have h6 : g = k := by injection hk
    subst h6
    exact ⟨cur, h3⟩
theorem LstAt.grown {hi : Nat} {w w' : World} {v : Value} {l : List Nat} {row : Option Nat} {e : TypeId} (h : LstAt hi w v l) (hg : w.grownBy w' row) (hr : ∀ k, row = some k → ∃ cs, w.heap[k]? = some (.cells cs e (0, 0))) (he : e ≠ 3) : LstAt hi w' v l :=
  h.to (fun g cs fr _ hw => hg.block g (lt_of_heap hw) (fun q => by
    obtain ⟨cs', h2⟩ := hr g q.symm
    rw [hw] at h2
    injection h2 with h2
    injection h2 with _ h2 _
    exact he h2.symm))
theorem fol_of_row {w : World} {base hi : Nat} {v : Value} {xs : List Value} {F : List (List Nat)} (h : w.ownsRow base 26 1 v xs.length xs) (hl : xs.length = F.length) (hx : ∀ k, (h1 : k < xs.length) → (h2 : k < F.length) → LstAt hi w xs[k] F[k]) : FolAt w v F := by
  rcases h.2 with ⟨rfl, h0⟩ | ⟨g, cap, cur, rfl, hb, hg, hc, hm, hs, ht⟩
  · obtain rfl : F = [] := List.length_eq_zero_iff.1 (by omega)
    exact FolAt.nil _
  · refine ⟨_, cap, by rw [hl], by omega, fun e => (by cases e), fun i hi => ⟨g, 0, xs[i]'(by omega), rfl, lt_of_heap hg, ?_, (hx i (by omega) hi).plc.less (Nat.zero_le _)⟩⟩
    have := h.cells (g := g) rfl i (xs[i]'(by omega)) (by rw [List.getElem?_eq_getElem])
    rw [add_lit'] at this
    exact this
theorem folN_at {n : Nd} (hr : rightN n = true) {i : Nat} (hi : i < (setsN n).length) {nw : Nat} (hnw : (setsN n).length < 64 * nw) {ms : List Nat} (hm : ∀ y, mb ms y = fol (prtN n 0).notes (i + 1) y) : ∃ h : i < (folN n).length, rgF (mb ms) (64 * nw) = (folN n)[i] := by
  have e : mb ms = fol (prtN n 0).notes (i + 1) := funext hm
  have hg := gd_all n hr 0
  refine ⟨by simp [folN, hi], ?_⟩
  have e2 : rgF (fol (prtN n 0).notes (i + 1)) (64 * nw) = rgF (fol (prtN n 0).notes (i + 1)) ((setsN n).length + 1) := rgF_gap (by omega) (fun y h1 h2 => by
    cases q : fol (prtN n 0).notes (i + 1) y with
    | false => rfl
    | true =>
      have := (hg.1.fol q).2.2
      have := hg.2
      omega)
  rw [e, e2]
  simp [folN]
theorem below_drw {w w' : World} (h : Below w.drew.heap.size w.drew w') : Below w.heap.size w w' := ((Below.refl _ _).drew).trans h
theorem below_alw {w w' : World} {o : Obj} (h : Below (w.alloc o).drew.heap.size (w.alloc o).drew w') : Below w.heap.size w w' := ((below_alloc w o).drew).trans (h.mono (by show w.heap.size ≤ (w.alloc o).heap.size; simp))
theorem below_al2 {w w' : World} {o : Obj} (h : Below (w.alloc o).heap.size (w.alloc o) w') : Below w.heap.size w w' := (below_alloc w o).trans (h.mono (by simp))
theorem abox_al {w w' : World} (h : Below (w.alloc (.cells #[.bool false, .slice none 0 0, .slice none 0 0, .slice none 0 0, .slice none 0 0] 29)).heap.size (w.alloc (.cells #[.bool false, .slice none 0 0, .slice none 0 0, .slice none 0 0, .slice none 0 0] 29)) w') : ABox w' w.heap.size false (.slice none 0 0) (.slice none 0 0) (.slice none 0 0) (.slice none 0 0) :=
  ABox.below (w := w.alloc (.cells #[.bool false, .slice none 0 0, .slice none 0 0, .slice none 0 0, .slice none 0 0] 29)) (heap_new' _ _) h
theorem abox_dr {w w' : World} (h : Below (w.alloc (.cells #[.bool false, .slice none 0 0, .slice none 0 0, .slice none 0 0, .slice none 0 0] 29)).drew.heap.size (w.alloc (.cells #[.bool false, .slice none 0 0, .slice none 0 0, .slice none 0 0, .slice none 0 0] 29)).drew w') : ABox w' w.heap.size false (.slice none 0 0) (.slice none 0 0) (.slice none 0 0) (.slice none 0 0) :=
  ABox.below (w := (w.alloc (.cells #[.bool false, .slice none 0 0, .slice none 0 0, .slice none 0 0, .slice none 0 0] 29)).drew) (heap_new' _ _) h
/-- The two copies, and the automaton's variable, wherever it was made. -/
def CutA (W : World) (pn : Bool) (sv : Value) (f l : List Nat) (A : Nat) (wx : World) : Prop := ∃ xa xn xc ya yn yc, W.heap.size ≤ A ∧ ABox wx A pn sv (.slice xa xn xc) (.slice ya yn yc) (.slice none 0 0) ∧ LstAt W.heap.size wx (.slice xa xn xc) f ∧ LstAt W.heap.size wx (.slice ya yn yc) l ∧ Below W.heap.size W wx
theorem five_only (A : Nat) (w : World) (v0 v1 v2 v3 v4 : Value) : OnlyB A w (((((w.setCell ⟨A, 0, none⟩ v0).setCell ⟨A, 1, none⟩ v1).setCell ⟨A, 2, none⟩ v2).setCell ⟨A, 3, none⟩ v3).setCell ⟨A, 4, none⟩ v4) := ((((((OnlyB.refl _ _).set _ _).set _ _).set _ _).set _ _).set _ _)
theorem five_below {W w : World} {A : Nat} (hb : Below W.heap.size W w) (hA : W.heap.size ≤ A) (v0 v1 v2 v3 v4 : Value) : Below W.heap.size W (((((w.setCell ⟨A, 0, none⟩ v0).setCell ⟨A, 1, none⟩ v1).setCell ⟨A, 2, none⟩ v2).setCell ⟨A, 3, none⟩ v3).setCell ⟨A, 4, none⟩ v4) := (((((hb.setCell hA _).setCell hA _).setCell hA _).setCell hA _).setCell hA _)
theorem cutA_new {W w6 w7 : World} {pn : Bool} {sv : Value} {f l : List Nat} {xa ya : Option Addr} {xn xc yn yc b6 b7 : Nat} (h6 : w6.ownsRow b6 3 1 (.slice xa xn xc) f.length (cellP f)) (h7 : w7.ownsRow b7 3 1 (.slice ya yn yc) l.length (cellP l)) (hb6 : W.heap.size ≤ b6) (hb7 : W.heap.size ≤ b7) (hB67 : Below w6.heap.size w6 w7) (hB7 : Below W.heap.size W w7) : CutA W pn sv f l w7.heap.size (w7.alloc (.cells #[.bool pn, sv, .slice xa xn xc, .slice ya yn yc, .slice none 0 0] 29)) :=
  ⟨xa, xn, xc, ya, yn, yc, hB7.size, heap_new' _ _, ((lst_of_row h6 hb6).below hB67).below (below_alloc _ _), (lst_of_row h7 hb7).below (below_alloc _ _), hB7.alloc hB7.size _⟩
theorem cutA_set {W w6 w7 : World} {pn : Bool} {sv : Value} {f l : List Nat} {xa ya : Option Addr} {xn xc yn yc b6 b7 A : Nat} (h6 : w6.ownsRow b6 3 1 (.slice xa xn xc) f.length (cellP f)) (h7 : w7.ownsRow b7 3 1 (.slice ya yn yc) l.length (cellP l)) (hb6 : W.heap.size ≤ b6) (hb7 : W.heap.size ≤ b7) (hB67 : Below w6.heap.size w6 w7) (hB7 : Below W.heap.size W w7) (hA : W.heap.size ≤ A) (hz : ABox w7 A false (.slice none 0 0) (.slice none 0 0) (.slice none 0 0) (.slice none 0 0)) : CutA W pn sv f l A (((((w7.setCell ⟨A, 0, none⟩ (.bool pn)).setCell ⟨A, 1, none⟩ sv).setCell ⟨A, 2, none⟩ (.slice xa xn xc)).setCell ⟨A, 3, none⟩ (.slice ya yn yc)).setCell ⟨A, 4, none⟩ (.slice none 0 0)) :=
  ⟨xa, xn, xc, ya, yn, yc, hA, ((((hz.s0 _).s1 _).s2 _).s3 _).s4 _, ((lst_of_row h6 hb6).below hB67).only (five_only _ _ _ _ _ _ _) hz (by decide), (lst_of_row h7 hb7).only (five_only _ _ _ _ _ _ _) hz (by decide), five_below hB7 hA _ _ _ _ _⟩
theorem made2 (a b : Value) (m i : Nat) (h : i < m) : (madeCells #[a, b] (m * 2))[i * 2]? = some a ∧ (madeCells #[a, b] (m * 2))[i * 2 + 1]? = some b := by
  have h1 : i * 2 < m * 2 := by omega
  have h2 : i * 2 + 1 < m * 2 := by omega
  have e1 : i * 2 % 2 = 0 := by omega
  have e2 : (i * 2 + 1) % 2 = 1 := by omega
  constructor
  · simp [madeCells, h1, e1]
  · simp [madeCells, h2, e2]
end Go.Proofs.YtklhjjgnhigbiaaGreatDoor
