/-
  Whether an expression may be. What few and awake of the statements answer. Places of an expression that follow one another. Plain mathematics. Marks of places: a bit for each.
-/
import Derived.Test.YtklhjjgnhigbiaaGreatDoorMtRight
import Derived.Test.YtklhjjgnhigbiaaGreatDoorGA
import Derived.Shelf.Abstract
import Derived.Test.YtklhjjgnhigbiaaGreatDoorMtFew
import Derived.Test.YtklhjjgnhigbiaaGreatDoorMtJoin
import Derived.Test.YtklhjjgnhigbiaaGreatDoorMtLaw
import Derived.Test.YtklhjjgnhigbiaaGreatDoorMtOver
import Derived.Test.YtklhjjgnhigbiaaGreatDoorMtPut
import Derived.Test.YtklhjjgnhigbiaaGreatDoorMtThru
import Derived.Deep.RegionLaw
import Derived.Laws.EntriesVeiled
import Derived.Shelf.Spec.TrailingZeros
import Derived.Laws.MakeOwn
namespace Go.Proofs.YtklhjjgnhigbiaaGreatDoor
open Go.RowKit Go.Shelf
set_option linter.unusedVariables false




end Go.Proofs.YtklhjjgnhigbiaaGreatDoor

namespace Go.Proofs.YtklhjjgnhigbiaaGreatDoor
open Go.RowKit Go.Shelf
set_option linter.unusedVariables false

theorem heap_setN {w : World} {b i : Nat} {cs : Array Value} {t : TypeId} {fr : Nat × Nat} (h : w.heap[b]? = some (.cells cs t fr)) (v : Value) : (w.setCell ⟨b, i, none⟩ v).heap[b]? = some (.cells (cs.setIfInBounds i v) t fr) := by
  simp [World.setCell]
  rw [Array.getElem?_modify, if_pos rfl, h]
  rfl
theorem cells_set2 {w : World} {b : Nat} {a0 a1 : Value} {t : TypeId} {fr : Nat × Nat} (h : w.heap[b]? = some (.cells #[a0, a1] t fr)) (v0 v1 : Value) : ((w.setCell ⟨b, 0, none⟩ v0).setCell ⟨b, 1, none⟩ v1).heap[b]? = some (.cells #[v0, v1] t fr) := by
  have := heap_setN (i := 1) (heap_setN (i := 0) h v0) v1
  simpa using this
end Go.Proofs.YtklhjjgnhigbiaaGreatDoor

namespace Go.Proofs.YtklhjjgnhigbiaaGreatDoor
open Go.RowKit
set_option linter.unusedVariables false

/-- The sets of an expression's places. -/
def setsN : Nd → List Int
  | ⟨k, s, l⟩ => if k = 1 then [s] else (l.map setsN).flatten
def setsL : List Nd → List Int
  | [] => []
  | x :: l => setsN x ++ setsL l
theorem setsL_map : ∀ l, (l.map setsN).flatten = setsL l
  | [] => rfl
  | x :: l => by rw [List.map_cons, List.flatten_cons, setsL_map l, setsL]
theorem setsN_mk (k s : Int) (l : List Nd) : setsN ⟨k, s, l⟩ = if k = 1 then [s] else setsL l := by rw [setsN, setsL_map]
theorem setsN_eq (n : Nd) : setsN n = if n.k = 1 then [n.s] else setsL n.kids := by cases n; rw [setsN_mk]

/-- What is told of a part. -/
structure Prt where
  null : Bool
  first : List Nat
  last : List Nat
  upTo : Nat
  notes : List (List Nat × List Nat)
def catS (W p : Prt) : Prt := ⟨W.null && p.null, if W.null then W.first ++ p.first else W.first, if p.null then W.last ++ p.last else p.last, p.upTo, W.notes ++ (p.notes ++ [(W.last, p.first)])⟩
def altS (W p : Prt) : Prt := ⟨W.null || p.null, W.first ++ p.first, W.last ++ p.last, p.upTo, W.notes ++ p.notes⟩
def catF : List (Nat → Prt) → Prt → Prt
  | [], W => W
  | f :: l, W => catF l (catS W (f W.upTo))
def altF : List (Nat → Prt) → Prt → Prt
  | [], W => W
  | f :: l, W => altF l (altS W (f W.upTo))
def hdF : List (Nat → Prt) → Nat → Prt
  | [] => fun c => ⟨false, [], [], c, []⟩
  | f :: _ => f
def sgnS (k : Int) (p : Prt) : Prt := ⟨p.null || decide (k ≠ 4), p.first, p.last, p.upTo, if k = 5 then p.notes else p.notes ++ [(p.last, p.first)]⟩
def setP (c : Nat) : Prt := ⟨false, [c + 1], [c + 1], c + 1, []⟩
def cat0 (c : Nat) : Prt := ⟨true, [], [], c, []⟩
def alt0 (c : Nat) : Prt := ⟨false, [], [], c, []⟩
def prtK (k : Int) (fs : List (Nat → Prt)) (c : Nat) : Prt :=
  if k = 1 then setP c else if k = 0 then catF fs (cat0 c) else if k = 2 then altF fs (alt0 c) else sgnS k (hdF fs c)
/-- What is told of an expression, ahead of which there are c places. -/
def prtN : Nd → Nat → Prt
  | ⟨k, s, l⟩ => prtK k (l.map prtN)
def catL (l : List Nd) (W : Prt) : Prt := catF (l.map prtN) W
def altL (l : List Nd) (W : Prt) : Prt := altF (l.map prtN) W
def hdL (l : List Nd) (c : Nat) : Prt := hdF (l.map prtN) c
theorem catL_cons (x : Nd) (l : List Nd) (W : Prt) : catL (x :: l) W = catL l (catS W (prtN x W.upTo)) := rfl
theorem altL_cons (x : Nd) (l : List Nd) (W : Prt) : altL (x :: l) W = altL l (altS W (prtN x W.upTo)) := rfl
theorem hdL_cons (x : Nd) (l : List Nd) (c : Nat) : hdL (x :: l) c = prtN x c := rfl
theorem prtN_mk (k s : Int) (l : List Nd) (c : Nat) : prtN ⟨k, s, l⟩ c = if k = 1 then setP c else if k = 0 then catL l (cat0 c) else if k = 2 then altL l (alt0 c) else sgnS k (hdL l c) := by
  rw [prtN]; rfl
theorem prtN_eq (n : Nd) (c : Nat) : prtN n c = if n.k = 1 then setP c else if n.k = 0 then catL n.kids (cat0 c) else if n.k = 2 then altL n.kids (alt0 c) else sgnS n.k (hdL n.kids c) := by
  cases n; rw [prtN_mk]

/-- Rising, all behind c, none behind u. -/
def InR (c u : Nat) (l : List Nat) : Prop := l.Pairwise (· < ·) ∧ ∀ x ∈ l, c < x ∧ x ≤ u
theorem InR.nil (c u : Nat) : InR c u [] := ⟨List.Pairwise.nil, fun x h => by cases h⟩
theorem InR.wide {c u c' u' : Nat} {l : List Nat} (h : InR c u l) (h1 : c' ≤ c) (h2 : u ≤ u') : InR c' u' l := ⟨h.1, fun x hx => by have := h.2 x hx; omega⟩
theorem InR.app {c u v : Nat} {a b : List Nat} (h : InR c u a) (k : InR u v b) (h1 : c ≤ u) (h2 : u ≤ v) : InR c v (a ++ b) := by
  refine ⟨List.pairwise_append.2 ⟨h.1, k.1, fun x hx y hy => ?_⟩, fun x hx => ?_⟩
  · have := h.2 x hx; have := k.2 y hy; omega
  · rcases List.mem_append.1 hx with q | q
    · have := h.2 x q; omega
    · have := k.2 x q; omega
structure Okp (c : Nat) (p : Prt) : Prop where
  up : c ≤ p.upTo
  first : InR c p.upTo p.first
  last : InR c p.upTo p.last
  notes : ∀ x ∈ p.notes, InR c p.upTo x.1 ∧ InR c p.upTo x.2
theorem okp_set (c : Nat) : Okp c (setP c) := by
  have h : InR c (c + 1) [c + 1] := ⟨by simp, fun x hx => by simp at hx; omega⟩
  exact ⟨by simp [setP], h, h, fun x hx => by cases hx⟩
theorem okp_cat0 (c : Nat) : Okp c (cat0 c) := ⟨Nat.le_refl _, InR.nil _ _, InR.nil _ _, fun x hx => by cases hx⟩
theorem okp_alt0 (c : Nat) : Okp c (alt0 c) := ⟨Nat.le_refl _, InR.nil _ _, InR.nil _ _, fun x hx => by cases hx⟩
theorem okp_cat {c : Nat} {W p : Prt} (h : Okp c W) (k : Okp W.upTo p) : Okp c (catS W p) := by
  have hu : (catS W p).upTo = p.upTo := rfl
  have h1 := h.up
  have h2 := k.up
  refine ⟨by rw [hu]; omega, ?_, ?_, fun x hx => ?_⟩
  · show InR c p.upTo (if W.null then W.first ++ p.first else W.first)
    split
    · exact h.first.app k.first h1 h2
    · exact h.first.wide (Nat.le_refl _) h2
  · show InR c p.upTo (if p.null then W.last ++ p.last else p.last)
    split
    · exact h.last.app k.last h1 h2
    · exact k.last.wide h1 (Nat.le_refl _)
  · have hx' : x ∈ W.notes ++ (p.notes ++ [(W.last, p.first)]) := hx
    rw [hu]
    rcases List.mem_append.1 hx' with q | q
    · exact ⟨(h.notes x q).1.wide (Nat.le_refl _) h2, (h.notes x q).2.wide (Nat.le_refl _) h2⟩
    · rcases List.mem_append.1 q with q | q
      · exact ⟨(k.notes x q).1.wide h1 (Nat.le_refl _), (k.notes x q).2.wide h1 (Nat.le_refl _)⟩
      · obtain rfl : x = (W.last, p.first) := by simpa using q
        exact ⟨h.last.wide (Nat.le_refl _) h2, k.first.wide h1 (Nat.le_refl _)⟩
theorem okp_alt {c : Nat} {W p : Prt} (h : Okp c W) (k : Okp W.upTo p) : Okp c (altS W p) := by
  have hu : (altS W p).upTo = p.upTo := rfl
  have h1 := h.up
  have h2 := k.up
  refine ⟨by rw [hu]; omega, h.first.app k.first h1 h2, h.last.app k.last h1 h2, fun x hx => ?_⟩
  rw [hu]
  rcases List.mem_append.1 (show x ∈ W.notes ++ p.notes from hx) with q | q
  · exact ⟨(h.notes x q).1.wide (Nat.le_refl _) h2, (h.notes x q).2.wide (Nat.le_refl _) h2⟩
  · exact ⟨(k.notes x q).1.wide h1 (Nat.le_refl _), (k.notes x q).2.wide h1 (Nat.le_refl _)⟩
theorem okp_sgn {c : Nat} {p : Prt} (k : Int) (h : Okp c p) : Okp c (sgnS k p) := by
  refine ⟨h.up, h.first, h.last, fun x hx => ?_⟩
  have hx' : x ∈ if k = 5 then p.notes else p.notes ++ [(p.last, p.first)] := hx
  split at hx'
  · exact h.notes x hx'
  · rcases List.mem_append.1 hx' with q | q
    · exact h.notes x q
    · obtain rfl : x = (p.last, p.first) := by simpa using q
      exact ⟨h.last, h.first⟩
/-- A part's facts: it may stand there, and has so many places. -/
def Gd (n : Nd) : Prop := ∀ c, Okp c (prtN n c) ∧ (prtN n c).upTo = c + (setsN n).length
theorem gd_cat : ∀ (l : List Nd), (∀ x ∈ l, Gd x) → ∀ c W, Okp c W → Okp c (catL l W) ∧ (catL l W).upTo = W.upTo + (setsL l).length
  | [], _, c, W, h => ⟨h, by simp [catL, catF, setsL]⟩
  | x :: l, ih, c, W, h => by
    have hx := ih x (by simp) W.upTo
    have := gd_cat l (fun y hy => ih y (by simp [hy])) c _ (okp_cat h hx.1)
    rw [catL_cons]
    refine ⟨this.1, ?_⟩
    rw [this.2, setsL, List.length_append, ← Nat.add_assoc, ← hx.2]
    rfl
theorem gd_alt : ∀ (l : List Nd), (∀ x ∈ l, Gd x) → ∀ c W, Okp c W → Okp c (altL l W) ∧ (altL l W).upTo = W.upTo + (setsL l).length
  | [], _, c, W, h => ⟨h, by simp [altL, altF, setsL]⟩
  | x :: l, ih, c, W, h => by
    have hx := ih x (by simp) W.upTo
    have := gd_alt l (fun y hy => ih y (by simp [hy])) c _ (okp_alt h hx.1)
    rw [altL_cons]
    refine ⟨this.1, ?_⟩
    rw [this.2, setsL, List.length_append, ← Nat.add_assoc, ← hx.2]
    rfl
theorem right_kids {k s : Int} {l : List Nd} (h : rightN ⟨k, s, l⟩ = true) : mayK k s l.length = true ∧ ∀ x ∈ l, rightN x = true := by
  rw [rightN_mk, Bool.and_eq_true, rightL_iff] at h
  exact h
theorem sgn_kid {k s : Int} {l : List Nd} (h : mayK k s l.length = true) (h0 : k ≠ 0) (h1 : k ≠ 1) (h2 : k ≠ 2) : (k = 3 ∨ k = 4 ∨ k = 5) ∧ ∃ x, l = [x] := by
  unfold mayK at h
  rw [if_neg h0, if_neg h1, if_neg h2] at h
  split at h
  · rename_i hk
    refine ⟨hk, List.length_eq_one_iff.1 ?_⟩
    simpa using h
  · cases h
theorem gd_all : ∀ n, rightN n = true → Gd n :=
  Nd.ind fun k s l ih h c => by
    obtain ⟨hm, hl⟩ := right_kids h
    have ihl : ∀ x ∈ l, Gd x := fun x hx => ih x hx (hl x hx)
    rw [prtN_mk, setsN_mk]
    by_cases h1 : k = 1
    · rw [if_pos h1, if_pos h1]; exact ⟨okp_set c, rfl⟩
    rw [if_neg h1, if_neg h1]
    by_cases h0 : k = 0
    · rw [if_pos h0]; exact gd_cat l ihl c _ (okp_cat0 c)
    rw [if_neg h0]
    by_cases h2 : k = 2
    · rw [if_pos h2]; exact gd_alt l ihl c _ (okp_alt0 c)
    rw [if_neg h2]
    obtain ⟨_, x, rfl⟩ := sgn_kid hm h0 h1 h2
    have hx := ihl x (by simp) c
    rw [hdL_cons]
    refine ⟨okp_sgn k hx.1, ?_⟩
    have : setsL [x] = setsN x := by rw [setsL, setsL, List.append_nil]
    rw [this]
    exact hx.2

/-- The place j stands behind the place i. -/
def fol (L : List (List Nat × List Nat)) (i j : Nat) : Bool := L.any fun x => x.1.contains i && x.2.contains j
theorem fol_iff {L : List (List Nat × List Nat)} {i j : Nat} : fol L i j = true ↔ ∃ x ∈ L, i ∈ x.1 ∧ j ∈ x.2 := by
  unfold fol; simp
theorem fol_app (A B : List (List Nat × List Nat)) (i j : Nat) : fol (A ++ B) i j = (fol A i j || fol B i j) := by unfold fol; simp
theorem fol_one (a b : List Nat) (i j : Nat) : fol [(a, b)] i j = (a.contains i && b.contains j) := by unfold fol; simp
theorem fol_nil (i j : Nat) : fol [] i j = false := rfl
theorem Okp.fol {c : Nat} {p : Prt} (h : Okp c p) {i j : Nat} (k : Go.Proofs.YtklhjjgnhigbiaaGreatDoor.fol p.notes i j = true) : (c < i ∧ i ≤ p.upTo) ∧ c < j ∧ j ≤ p.upTo := by
  obtain ⟨x, hx, h1, h2⟩ := fol_iff.1 k
  exact ⟨(h.notes x hx).1.2 i h1, (h.notes x hx).2.2 j h2⟩

/-- One stands at the place y behind m + 1 signs from q on. -/
def rn (p : Prt) (T : Nat → Nat → Prop) (q : Nat) : Nat → Nat → Prop
  | 0, y => y ∈ p.first ∧ T y q
  | m + 1, y => ∃ x, rn p T q m x ∧ fol p.notes x y = true ∧ T y (q + m + 1)
/-- The signs from q up to r are a word by the places. -/
def Acc (p : Prt) (T : Nat → Nat → Prop) (q r : Nat) : Prop := (r = q ∧ p.null = true) ∨ ∃ m y, r = q + m + 1 ∧ rn p T q m y ∧ y ∈ p.last
theorem rn_in {c : Nat} {p : Prt} {T : Nat → Nat → Prop} (h : Okp c p) {q : Nat} : ∀ {m y : Nat}, rn p T q m y → c < y ∧ y ≤ p.upTo
  | 0, y, k => h.first.2 y k.1
  | m + 1, y, ⟨x, _, k, _⟩ => (h.fol k).2
theorem rn_T {p : Prt} {T : Nat → Nat → Prop} {q : Nat} : ∀ {m y : Nat}, rn p T q m y → T y (q + m)
  | 0, y, k => k.2
  | m + 1, y, ⟨x, _, _, k⟩ => k
theorem rn_mono {p p' : Prt} {T : Nat → Nat → Prop} (hf : ∀ y ∈ p.first, y ∈ p'.first) (hn : ∀ x y, fol p.notes x y = true → fol p'.notes x y = true) {q : Nat} : ∀ {m y : Nat}, rn p T q m y → rn p' T q m y
  | 0, y, k => ⟨hf y k.1, k.2⟩
  | m + 1, y, ⟨x, k1, k2, k3⟩ => ⟨x, rn_mono hf hn k1, hn x y k2, k3⟩

theorem cat_fol {W p : Prt} {i j : Nat} : fol (catS W p).notes i j = true ↔ (fol W.notes i j = true ∨ fol p.notes i j = true ∨ (i ∈ W.last ∧ j ∈ p.first)) := by
  show fol (W.notes ++ (p.notes ++ [(W.last, p.first)])) i j = true ↔ _
  rw [fol_app, fol_app, fol_one]; simp
theorem cat_first {W p : Prt} {y : Nat} : y ∈ (catS W p).first ↔ (y ∈ W.first ∨ (W.null = true ∧ y ∈ p.first)) := by
  show y ∈ (if W.null then W.first ++ p.first else W.first) ↔ _
  cases W.null <;> simp
theorem cat_last {W p : Prt} {y : Nat} : y ∈ (catS W p).last ↔ ((p.null = true ∧ y ∈ W.last) ∨ y ∈ p.last) := by
  show y ∈ (if p.null then W.last ++ p.last else p.last) ↔ _
  cases p.null <;> simp
theorem acc_cat {c : Nat} {W p : Prt} {T : Nat → Nat → Prop} (h : Okp c W) (k : Okp W.upTo p) (q r : Nat) : Acc (catS W p) T q r ↔ ∃ m, Acc W T q m ∧ Acc p T m r := by
  have split : ∀ m y, rn (catS W p) T q m y → (rn W T q m y) ∨ (∃ j i, m = j + i ∧ Acc W T q (q + j) ∧ rn p T (q + j) i y) := by
    intro m
    induction m with
    | zero =>
      rintro y ⟨h1, h2⟩
      rcases cat_first.1 h1 with a | ⟨a, b⟩
      · exact .inl ⟨a, h2⟩
      · exact .inr ⟨0, 0, rfl, .inl ⟨rfl, a⟩, b, h2⟩
    | succ m ih =>
      rintro y ⟨x, h1, h2, h3⟩
      rcases ih x h1 with a | ⟨j, i, rfl, a, b⟩
      · have hx := rn_in h a
        rcases cat_fol.1 h2 with g | g | ⟨g1, g2⟩
        · exact .inl ⟨x, a, g, h3⟩
        · have := (k.fol g).1; omega
        · exact .inr ⟨m + 1, 0, rfl, .inr ⟨m, x, rfl, a, g1⟩, g2, h3⟩
      · have hx := rn_in k b
        rcases cat_fol.1 h2 with g | g | ⟨g1, g2⟩
        · have := (h.fol g).1; omega
        · exact .inr ⟨j, i + 1, by omega, a, x, b, g, by rw [show q + j + i + 1 = q + (j + i) + 1 by omega]; exact h3⟩
        · have := h.last.2 x g1; omega
  have up1 : ∀ {m y}, rn W T q m y → rn (catS W p) T q m y := rn_mono (fun y hy => cat_first.2 (.inl hy)) (fun x y g => cat_fol.2 (.inl g))
  have up2 : ∀ {a i y}, Acc W T q a → rn p T a i y → ∃ m, a + i = q + m ∧ rn (catS W p) T q m y := by
    intro a i
    induction i with
    | zero =>
      rintro y (⟨rfl, hn⟩ | ⟨m, x, rfl, hr, hl⟩) ⟨h1, h2⟩
      · exact ⟨0, rfl, cat_first.2 (.inr ⟨hn, h1⟩), h2⟩
      · exact ⟨m + 1, by omega, x, up1 hr, cat_fol.2 (.inr (.inr ⟨hl, h1⟩)), h2⟩
    | succ i ih =>
      rintro y hA ⟨x, h1, h2, h3⟩
      obtain ⟨m, e, hm⟩ := ih hA h1
      exact ⟨m + 1, by omega, x, hm, cat_fol.2 (.inr (.inl h2)), by rw [← e]; exact h3⟩
  constructor
  · rintro (⟨rfl, hn⟩ | ⟨m, y, rfl, hr, hl⟩)
    · have hn' : (W.null && p.null) = true := hn
      rw [Bool.and_eq_true] at hn'
      exact ⟨r, .inl ⟨rfl, hn'.1⟩, .inl ⟨rfl, hn'.2⟩⟩
    · rcases split m y hr with a | ⟨j, i, rfl, a, b⟩
      · have hy := rn_in h a
        rcases cat_last.1 hl with ⟨g1, g2⟩ | g
        · exact ⟨_, .inr ⟨m, y, rfl, a, g2⟩, .inl ⟨rfl, g1⟩⟩
        · have := k.last.2 y g; omega
      · have hy := rn_in k b
        rcases cat_last.1 hl with ⟨g1, g2⟩ | g
        · have := h.last.2 y g2; omega
        · exact ⟨q + j, a, .inr ⟨i, y, by omega, b, g⟩⟩
  · rintro ⟨a, hA, (⟨rfl, hn⟩ | ⟨i, y, rfl, hr, hl⟩)⟩
    · rcases hA with ⟨rfl, hw⟩ | ⟨m, x, rfl, hr, hl⟩
      · exact .inl ⟨rfl, by show (W.null && p.null) = true; rw [hw, hn]; rfl⟩
      · exact .inr ⟨m, x, rfl, up1 hr, cat_last.2 (.inl ⟨hn, hl⟩)⟩
    · obtain ⟨m, e, hm⟩ := up2 hA hr
      exact .inr ⟨m, y, by omega, hm, cat_last.2 (.inr hl)⟩
theorem alt_fol {W p : Prt} {i j : Nat} : fol (altS W p).notes i j = true ↔ (fol W.notes i j = true ∨ fol p.notes i j = true) := by
  show fol (W.notes ++ p.notes) i j = true ↔ _
  rw [fol_app]; simp
theorem acc_alt {c : Nat} {W p : Prt} {T : Nat → Nat → Prop} (h : Okp c W) (k : Okp W.upTo p) (q r : Nat) : Acc (altS W p) T q r ↔ (Acc W T q r ∨ Acc p T q r) := by
  have hf : ∀ y, y ∈ (altS W p).first ↔ (y ∈ W.first ∨ y ∈ p.first) := fun y => by show y ∈ W.first ++ p.first ↔ _; simp
  have hl : ∀ y, y ∈ (altS W p).last ↔ (y ∈ W.last ∨ y ∈ p.last) := fun y => by show y ∈ W.last ++ p.last ↔ _; simp
  have split : ∀ m y, rn (altS W p) T q m y → rn W T q m y ∨ rn p T q m y := by
    intro m
    induction m with
    | zero =>
      rintro y ⟨h1, h2⟩
      exact ((hf y).1 h1).imp (fun a => ⟨a, h2⟩) (fun a => ⟨a, h2⟩)
    | succ m ih =>
      rintro y ⟨x, h1, h2, h3⟩
      rcases ih x h1 with a | a
      · have hx := rn_in h a
        rcases alt_fol.1 h2 with g | g
        · exact .inl ⟨x, a, g, h3⟩
        · have := (k.fol g).1; omega
      · have hx := rn_in k a
        rcases alt_fol.1 h2 with g | g
        · have := (h.fol g).1; omega
        · exact .inr ⟨x, a, g, h3⟩
  constructor
  · rintro (⟨rfl, hn⟩ | ⟨m, y, rfl, hr, hy⟩)
    · have hn' : (W.null || p.null) = true := hn
      rw [Bool.or_eq_true] at hn'
      exact hn'.imp (fun a => .inl ⟨rfl, a⟩) (fun a => .inl ⟨rfl, a⟩)
    · rcases split m y hr with a | a
      · have hx := rn_in h a
        rcases (hl y).1 hy with g | g
        · exact .inl (.inr ⟨m, y, rfl, a, g⟩)
        · have := k.last.2 y g; omega
      · have hx := rn_in k a
        rcases (hl y).1 hy with g | g
        · have := h.last.2 y g; omega
        · exact .inr (.inr ⟨m, y, rfl, a, g⟩)
  · rintro ((⟨rfl, hn⟩ | ⟨m, y, rfl, hr, hy⟩) | (⟨rfl, hn⟩ | ⟨m, y, rfl, hr, hy⟩))
    · exact .inl ⟨rfl, by show (W.null || p.null) = true; rw [hn]; rfl⟩
    · exact .inr ⟨m, y, rfl, rn_mono (fun y g => (hf y).2 (.inl g)) (fun x y g => alt_fol.2 (.inl g)) hr, (hl y).2 (.inl hy)⟩
    · exact .inl ⟨rfl, by show (W.null || p.null) = true; rw [hn]; simp⟩
    · exact .inr ⟨m, y, rfl, rn_mono (fun y g => (hf y).2 (.inr g)) (fun x y g => alt_fol.2 (.inr g)) hr, (hl y).2 (.inr hy)⟩
theorem sgn_fol {k : Int} (hk : k ≠ 5) {p : Prt} {i j : Nat} : fol (sgnS k p).notes i j = true ↔ (fol p.notes i j = true ∨ (i ∈ p.last ∧ j ∈ p.first)) := by
  show fol (if k = 5 then p.notes else p.notes ++ [(p.last, p.first)]) i j = true ↔ _
  rw [if_neg hk, fol_app, fol_one]; simp
theorem acc_plus {c : Nat} {p : Prt} {T : Nat → Nat → Prop} (h : Okp c p) (q r : Nat) : Acc (sgnS 4 p) T q r ↔ Pl (Acc p T) q r := by
  have hn4 : (sgnS 4 p).null = p.null := by show (p.null || decide ((4 : Int) ≠ 4)) = p.null; simp
  have up1 : ∀ {a m y}, rn p T a m y → rn (sgnS 4 p) T a m y := fun {a m y} => rn_mono (p := p) (p' := sgnS 4 p) (fun y hy => hy) (fun x y g => (sgn_fol (k := 4) (by decide)).2 (.inl g))
  have split : ∀ m y, rn (sgnS 4 p) T q m y → ∃ j i, m = j + i ∧ (j = 0 ∨ Pl (Acc p T) q (q + j)) ∧ rn p T (q + j) i y := by
    intro m
    induction m with
    | zero => rintro y ⟨h1, h2⟩; exact ⟨0, 0, rfl, .inl rfl, h1, h2⟩
    | succ m ih =>
      rintro y ⟨x, h1, h2, h3⟩
      obtain ⟨j, i, rfl, a, b⟩ := ih x h1
      rcases (sgn_fol (by decide)).1 h2 with g | ⟨g1, g2⟩
      · exact ⟨j, i + 1, by omega, a, x, b, g, by rw [show q + j + i + 1 = q + (j + i) + 1 by omega]; exact h3⟩
      · have e : Acc p T (q + j) (q + (j + i + 1)) := .inr ⟨i, x, by omega, b, g1⟩
        refine ⟨j + i + 1, 0, by omega, .inr ?_, g2, h3⟩
        rcases a with rfl | a
        · exact .one e
        · exact .more a e
  constructor
  · rintro (⟨rfl, hn⟩ | ⟨m, y, rfl, hr, hy⟩)
    · exact .one (.inl ⟨rfl, by rw [hn4] at hn; exact hn⟩)
    · obtain ⟨j, i, rfl, a, b⟩ := split m y hr
      have e : Acc p T (q + j) (q + (j + i) + 1) := .inr ⟨i, y, by omega, b, hy⟩
      rcases a with rfl | a
      · exact .one e
      · exact .more a e
  · intro hp
    have down : ∀ {a b}, Acc p T a b → Acc (sgnS 4 p) T a b := by
      rintro a b (⟨rfl, hn⟩ | ⟨m, y, rfl, hr, hy⟩)
      · exact .inl ⟨rfl, by rw [hn4]; exact hn⟩
      · exact .inr ⟨m, y, rfl, up1 hr, hy⟩
    induction hp using Pl.ind with
    | one a => exact down a
    | @more m r _ a ih =>
      rcases a with ⟨rfl, hn⟩ | ⟨i, y, rfl, hr, hy⟩
      · exact ih
      · rcases ih with ⟨rfl, hn⟩ | ⟨j, x, rfl, hx, hl⟩
        · exact .inr ⟨i, y, rfl, up1 hr, hy⟩
        · have key : ∀ i y, rn p T (q + j + 1) i y → rn (sgnS 4 p) T q (j + 1 + i) y := by
            intro i
            induction i with
            | zero => rintro y ⟨h1, h2⟩; exact ⟨x, hx, (sgn_fol (by decide)).2 (.inr ⟨hl, h1⟩), h2⟩
            | succ i ih =>
              rintro y ⟨z, h1, h2, h3⟩
              exact ⟨z, ih z h1, (sgn_fol (by decide)).2 (.inl h2), by rw [show q + (j + 1).add i + 1 = q + j + 1 + i + 1 by show q + (j + 1 + i) + 1 = _; omega]; exact h3⟩
          exact .inr ⟨j + 1 + i, y, by omega, key i y hr, hy⟩
theorem acc_null {p p' : Prt} {T : Nat → Nat → Prop} (hf : p'.first = p.first) (hl : p'.last = p.last) (hn : p'.notes = p.notes) (h1 : p'.null = true) (q r : Nat) : Acc p' T q r ↔ (r = q ∨ Acc p T q r) := by
  have e : ∀ m y, rn p' T q m y ↔ rn p T q m y := fun m y => ⟨rn_mono (by rw [hf]; exact fun y h => h) (by rw [hn]; exact fun _ _ h => h), rn_mono (by rw [hf]; exact fun y h => h) (by rw [hn]; exact fun _ _ h => h)⟩
  unfold Acc
  rw [h1, hl]
  constructor
  · rintro (⟨h, _⟩ | ⟨m, y, h, g, k⟩)
    · exact .inl h
    · exact .inr (.inr ⟨m, y, h, (e m y).1 g, k⟩)
  · rintro (h | ⟨h, _⟩ | ⟨m, y, h, g, k⟩)
    · exact .inl ⟨h, rfl⟩
    · exact .inl ⟨h, rfl⟩
    · exact .inr ⟨m, y, h, (e m y).2 g, k⟩
theorem acc_set {T : Nat → Nat → Prop} (c q r : Nat) : Acc (setP c) T q r ↔ (r = q + 1 ∧ T (c + 1) q) := by
  constructor
  · rintro (⟨_, h⟩ | ⟨m, y, rfl, hr, hy⟩)
    · cases h
    · obtain rfl : y = c + 1 := by simpa [setP] using hy
      cases m with
      | zero => exact ⟨rfl, hr.2⟩
      | succ m => obtain ⟨x, _, g, _⟩ := hr; cases g
  · rintro ⟨rfl, h⟩
    exact .inr ⟨0, c + 1, rfl, ⟨by simp [setP], h⟩, by simp [setP]⟩

/-- The places from c on take the signs of these sets. -/
def Tk (ws : List Nat) (T : Nat → Nat → Prop) (c : Nat) (S : List Int) : Prop := ∀ j, (h : j < S.length) → ∀ i, T (c + 1 + j) i ↔ bitW ws S[j] i = true
theorem Tk.left {ws : List Nat} {T : Nat → Nat → Prop} {c : Nat} {A B : List Int} (h : Tk ws T c (A ++ B)) : Tk ws T c A := fun j hj i => by
  have := h j (by simp; omega) i
  rwa [List.getElem_append_left hj] at this
theorem Tk.right {ws : List Nat} {T : Nat → Nat → Prop} {c : Nat} {A B : List Int} (h : Tk ws T c (A ++ B)) : Tk ws T (c + A.length) B := fun j hj i => by
  have := h (A.length + j) (by simp; omega) i
  rw [List.getElem_append_right (by omega)] at this
  simp only [Nat.add_sub_cancel_left] at this
  rwa [show c + A.length + 1 + j = c + 1 + (A.length + j) by omega]
def AccN (ws : List Nat) (T : Nat → Nat → Prop) (n : Nd) : Prop := ∀ c, Tk ws T c (setsN n) → ∀ q r, Acc (prtN n c) T q r ↔ relN ws n q r
theorem accL_cat (ws : List Nat) (T : Nat → Nat → Prop) : ∀ (l : List Nd), (∀ x ∈ l, Gd x) → (∀ x ∈ l, AccN ws T x) → ∀ c W, Okp c W → Tk ws T W.upTo (setsL l) → ∀ q r, Acc (catL l W) T q r ↔ ∃ m, Acc W T q m ∧ relC ws l m r
  | [], _, _, c, W, h, _, q, r => by
    show Acc W T q r ↔ ∃ m, Acc W T q m ∧ r = m
    exact ⟨fun h => ⟨r, h, rfl⟩, fun ⟨m, h, e⟩ => e ▸ h⟩
  | x :: l, hg, ih, c, W, h, ht, q, r => by
    have hx := hg x (by simp) W.upTo
    rw [setsL] at ht
    rw [catL_cons, accL_cat ws T l (fun y hy => hg y (by simp [hy])) (fun y hy => ih y (by simp [hy])) c _ (okp_cat h hx.1) (by
      have := ht.right
      rw [← hx.2] at this
      exact this)]
    have ix := ih x (by simp) W.upTo ht.left
    constructor
    · rintro ⟨m, h1, h2⟩
      obtain ⟨a, h3, h4⟩ := (acc_cat h hx.1 q m).1 h1
      exact ⟨a, h3, m, (ix a m).1 h4, h2⟩
    · rintro ⟨a, h3, m, h4, h2⟩
      exact ⟨m, (acc_cat h hx.1 q m).2 ⟨a, h3, (ix a m).2 h4⟩, h2⟩
theorem accL_alt (ws : List Nat) (T : Nat → Nat → Prop) : ∀ (l : List Nd), (∀ x ∈ l, Gd x) → (∀ x ∈ l, AccN ws T x) → ∀ c W, Okp c W → Tk ws T W.upTo (setsL l) → ∀ q r, Acc (altL l W) T q r ↔ (Acc W T q r ∨ relA ws l q r)
  | [], _, _, c, W, h, _, q, r => by
    show Acc W T q r ↔ (Acc W T q r ∨ False)
    simp
  | x :: l, hg, ih, c, W, h, ht, q, r => by
    have hx := hg x (by simp) W.upTo
    rw [setsL] at ht
    rw [altL_cons, accL_alt ws T l (fun y hy => hg y (by simp [hy])) (fun y hy => ih y (by simp [hy])) c _ (okp_alt h hx.1) (by
      have := ht.right
      rw [← hx.2] at this
      exact this), acc_alt h hx.1, ih x (by simp) W.upTo ht.left q r, relA]
    exact or_assoc
theorem acc_all (ws : List Nat) (T : Nat → Nat → Prop) : ∀ n, rightN n = true → AccN ws T n :=
  Nd.ind fun k s l ih h c ht q r => by
    obtain ⟨hm, hl⟩ := right_kids h
    have ihl : ∀ x ∈ l, AccN ws T x := fun x hx => ih x hx (hl x hx)
    have ihg : ∀ x ∈ l, Gd x := fun x hx => gd_all x (hl x hx)
    rw [setsN_mk] at ht
    rw [prtN_mk, relN_mk]
    unfold relK
    by_cases h1 : k = 1
    · rw [if_pos h1] at ht
      subst h1
      rw [if_pos rfl, if_neg (by decide), if_pos rfl, acc_set]
      have := ht 0 (by simp) q
      unfold relS
      rw [show c + 1 + 0 = c + 1 by omega] at this
      rw [this]; rfl
    rw [if_neg h1] at ht ⊢
    by_cases h0 : k = 0
    · rw [if_pos h0, if_pos h0, accL_cat ws T l ihg ihl c _ (okp_cat0 c) ht]
      constructor
      · rintro ⟨m, (⟨rfl, _⟩ | ⟨_, y, _, _, g⟩), h2⟩
        · exact h2
        · cases g
      · intro h2; exact ⟨q, .inl ⟨rfl, rfl⟩, h2⟩
    rw [if_neg h0, if_neg h0, if_neg h1]
    by_cases h2 : k = 2
    · rw [if_pos h2, if_pos h2, accL_alt ws T l ihg ihl c _ (okp_alt0 c) ht]
      constructor
      · rintro ((⟨_, g⟩ | ⟨_, y, _, _, g⟩) | h2)
        · cases g
        · cases g
        · exact h2
      · exact fun h => .inr h
    rw [if_neg h2, if_neg h2]
    obtain ⟨hk, x, rfl⟩ := sgn_kid hm h0 h1 h2
    have hx := ihg x (by simp) c
    have es : setsL [x] = setsN x := by rw [setsL, setsL, List.append_nil]
    rw [es] at ht
    have ix : Acc (prtN x c) T = relN ws x := by funext a b; exact propext (ihl x (by simp) c ht a b)
    rw [hdL_cons]
    show _ ↔ (if k = 3 then r = q ∨ Pl (relN ws x) q r else if k = 4 then Pl (relN ws x) q r else if k = 5 then r = q ∨ relN ws x q r else False)
    rcases hk with rfl | rfl | rfl
    · rw [if_pos rfl, acc_null (p := sgnS 4 (prtN x c)) (p' := sgnS 3 (prtN x c)) rfl rfl rfl (by show ((prtN x c).null || decide ((3 : Int) ≠ 4)) = true; simp), acc_plus hx.1, ix]
    · rw [if_neg (by decide), if_pos rfl, acc_plus hx.1, ix]
    · rw [if_neg (by decide), if_neg (by decide), if_pos rfl, acc_null (p := prtN x c) (p' := sgnS 5 (prtN x c)) rfl rfl rfl (by show ((prtN x c).null || decide ((5 : Int) ≠ 4)) = true; simp), ix]
end Go.Proofs.YtklhjjgnhigbiaaGreatDoor

namespace Go.Proofs.YtklhjjgnhigbiaaGreatDoor
open Go.RowKit Go.Shelf
set_option linter.unusedVariables false

/-- Words of 64 bits as cells. -/
def cellU (ms : List Nat) : List Value := ms.map fun (x : Nat) => Value.int .u64 (x : Int)
/-- Is the place x marked? -/
def mb (ms : List Nat) (x : Nat) : Bool := (ms.getD (x / 64) 0).testBit (x % 64)
def Fit (ms : List Nat) : Prop := ∀ y ∈ ms, y < 2 ^ 64
/-- The marks' row. -/
def MrkAt (w : World) (g : Nat) (ms : List Nat) : Prop := w.heap[g]? = some (.cells (cellU ms).toArray 38 (0, 0))
theorem MrkAt.lt {w : World} {g : Nat} {ms : List Nat} (h : MrkAt w g ms) : g < w.heap.size := lt_of_heap h
theorem MrkAt.cell {w : World} {g : Nat} {ms : List Nat} (h : MrkAt w g ms) {i : Nat} (hi : i < ms.length) : w.cell? ⟨g, i, none⟩ = some (.int .u64 (ms[i] : Int)) := by
  rw [cell_in h]; simp [cellU, hi]
theorem MrkAt.set {w : World} {g : Nat} {ms : List Nat} (h : MrkAt w g ms) (i x : Nat) : MrkAt (w.setCell ⟨g, i, none⟩ (.int .u64 (x : Int))) g (ms.set i x) := by
  unfold MrkAt at h ⊢
  simp [World.setCell, Array.getElem?_modify, h, cellU, List.map_set]
theorem mb_zero (n x : Nat) : mb (List.replicate n 0) x = false := by
  unfold mb
  rw [List.getD_eq_getElem?_getD, List.getElem?_replicate]
  split <;> simp
theorem fit_zero (n : Nat) : Fit (List.replicate n 0) := fun y hy => by
  rw [List.mem_replicate] at hy; omega
theorem mb_set {ms : List Nat} {x : Nat} (hx : x / 64 < ms.length) (y : Nat) : mb (ms.set (x / 64) (ms[x / 64] ||| 2 ^ (x % 64))) y = (mb ms y || decide (y = x)) := by
  unfold mb
  rw [List.getD_eq_getElem?_getD, List.getD_eq_getElem?_getD, List.getElem?_set]
  by_cases h : x / 64 = y / 64
  · rw [if_pos h, if_pos hx, ← h, List.getElem?_eq_getElem hx]
    simp only [Option.getD_some, Nat.testBit_or, Nat.testBit_two_pow]
    congr 1
    rw [Bool.eq_iff_iff]; simp; omega
  · rw [if_neg h]
    have : y ≠ x := fun e => h (by rw [e])
    simp [this]
theorem fit_set {ms : List Nat} (h : Fit ms) (i : Nat) {x : Nat} (hx : x < 2 ^ 64) : Fit (ms.set i x) := fun y hy => by
  rcases List.mem_or_eq_of_mem_set hy with q | q
  · exact h y q
  · rw [q]; exact hx
theorem Tryz.infoU64 : (Tryz.prog.info? 38).map (fun i => (i.zero, i.size, i.bytes)) = some (some (.int .u64 0), 1, 8) := by kernel_rfl

theorem FrI.set {lo hi : Nat} {w wr : World} (h : FrI lo hi w wr) {g i : Nat} (h1 : lo ≤ g) (h2 : g < hi) (v : Value) : FrI lo hi w (wr.setCell ⟨g, i, none⟩ v) :=
  ⟨h.1.setCell h1 v, fun k hk hs => (Below.heap_setCell _ _ _ _ (by show k ≠ g; omega)).trans (h.2 k hk hs)⟩
theorem FrI.drew {lo hi : Nat} {w wr : World} (h : FrI lo hi w wr) : FrI lo hi w wr.drew := ⟨h.1.drew, h.2⟩
theorem FrI.below {lo hi : Nat} {w wr w' : World} (h : FrI lo hi w wr) (hb : Below wr.heap.size wr w') (hl : lo ≤ wr.heap.size) : FrI lo hi w w' := h.trans (FrI.of hb hl)
/-- The marks' value. -/
def mrkV (last g nw : Nat) : Value := .agg #[.int .i64 (last : Int), .slice (some ⟨g, 0, none⟩) nw nw]

set_option maxRecDepth 100000 in
set_option maxHeartbeats 4000000 in
theorem newMarks_any (last : Nat) (hl : last ≤ 1000) (w : World) : Calls Tryz.prog 14 #[.int .i64 (last : Int)] w fun e w' => ∃ g, e = .returned (mrkV last g (last / 64 + 1)) ∧ w.heap.size ≤ g ∧ MrkAt w' g (List.replicate (last / 64 + 1) 0) ∧ Below w.heap.size w w' := by
  obtain ⟨i0, hi0, hz0, hz1, hz2⟩ := info_parts Tryz.infoU64
  obtain ⟨nw, hnw⟩ : ∃ nw, nw = last / 64 + 1 := ⟨_, rfl⟩
  have hni : (last : Int) / 64 + 1 = (nw : Int) := by omega
  have hnl : nw ≤ 100 := by omega
  have hmk : ∀ W, Sem.run Tryz.prog (Instr.makeSlice 25 (.int .i64 (nw : Int)) (.int .i64 (nw : Int))) W = .ok (.slice (some ⟨W.heap.size, 0, none⟩) nw nw) (W.alloc (.cells (cellU (List.replicate nw 0)).toArray 38)) := fun W => by
    have := run_make (P := Tryz.prog) W 25 38 i0 (.int .u64 0) Tryz.underlying25 hi0 hz0 .i64 .i64 (nw : Int) (nw : Int) (by omega) (by omega) (by rw [hz2]; omega) (by omega)
    rw [this, hz1]
    have e : madeCells (Value.int .u64 0).cells ((nw : Int).toNat * 1) = (cellU (List.replicate nw 0)).toArray := by
      rw [← Array.toList_inj]
      have := toList_madeCells_one (Value.int .u64 0) nw
      simp only [Int.toNat_natCast, Nat.mul_one]
      refine Eq.trans this ?_
      simp [cellU]
    rw [e]
    simp
  rw [← hnw]
  have HB : Hid (∀ x o, Below w.heap.size w ((w.alloc x).alloc o)) := fun x o => ((Below.refl _ _).alloc (Nat.le_refl _) _).alloc (by simp) _
  clear hnw
  go_enter Tryz.func14, Tryz.ntmps14
  go_wp2
  refine bodyPost_ret (results_cell_row rfl _ _ w.heap.size 53 #[.int .i64 (last : Int), .slice (some ⟨w.heap.size + 1, 0, none⟩) nw nw] (0, 0) _ rfl ?_ Tryz.underlying53 rfl (by kernel_rfl)) rfl ?_
  · rw [Below.heap_alloc _ _ _ (by simp)]; exact heap_new' _ _
  · refine ⟨w.heap.size + 1, rfl, by omega, ?_, HB.out _ _⟩
    have := heap_new' (w.alloc (.cells #[.int .i64 (last : Int), .slice (some ⟨w.heap.size + 1, 0, none⟩) nw nw] 53)) (.cells (cellU (List.replicate nw 0)).toArray 38)
    rw [World.size_alloc] at this
    exact this

theorem PlcAt.at {b0 B : Nat} {w : World} {a : Option Addr} {len cap : Nat} {l : List Nat} (h : PlcAt b0 B w (.slice a len cap) l) (hl : len = l.length) {j : Nat} (hj : j < l.length) : ∃ ga oa, a = some ⟨ga, oa, none⟩ ∧ (ga < b0 ∨ B ≤ ga) ∧ ga < w.heap.size ∧ w.cell? ⟨ga, oa + j, none⟩ = some (.int .i64 (l[j] : Int)) := by
  obtain ⟨a', c', e1, _, _, hx⟩ := h
  obtain ⟨g, off, e2, h1, h2, h3⟩ := hx j hj
  exact ⟨g, off, by simp at e1; rw [e1.1]; exact e2, h1, h2, h3⟩

set_option maxRecDepth 100000 in
set_option maxHeartbeats 4000000 in
theorem mput_any (last g nw : Nat) (ms l : List Nat) (v : Value) (w : World) (b0 B : Nat) (hm : MrkAt w g ms) (hf : Fit ms) (hn : ms.length = nw) (hnw : nw = last / 64 + 1) (hv : PlcAt b0 B w v l) (hx : ∀ x ∈ l, x ≤ last) (hll : l.length ≤ 100000) (hg : b0 ≤ g ∧ g < B) (hl : last ≤ 1000) :
    Calls Tryz.prog 41 #[mrkV last g nw, v] w fun e w' => e = .returned (.tuple #[]) ∧ ∃ ms', ms'.length = nw ∧ Fit ms' ∧ (∀ y, mb ms' y = (mb ms y || decide (y ∈ l))) ∧ MrkAt w' g ms' ∧ FrI g (g + 1) w w' := by
  have HV : Hid (PlcAt b0 B w v l) := hv
  obtain ⟨a, cap, rfl, hcap, _, _⟩ := hv
  have hglt : g < w.heap.size := hm.lt
  obtain ⟨len, hle⟩ : ∃ len, len = l.length := ⟨_, rfl⟩
  rw [← hle] at hcap HV hll ⊢
  have HLE : Hid (len = l.length) := hle
  have HM : Hid (MrkAt w g ms) := hm
  have HF : Hid (Fit ms) := hf
  have HN : Hid (ms.length = nw) := hn
  have HNW : Hid (nw = last / 64 + 1) := hnw
  have HX : Hid (∀ x ∈ l, x ≤ last) := hx
  have HB0 : Hid (FrI g (g + 1) w (w.alloc (.cells #[.int .i64 (last : Int), .slice (some ⟨g, 0, none⟩) nw nw] 53))) := FrI.of (below_alloc _ _) (by omega)
  have HE0 : Hid ((w.alloc (.cells #[.int .i64 (last : Int), .slice (some ⟨g, 0, none⟩) nw nw] 53)).heap[w.heap.size]? = some (.cells #[.int .i64 (last : Int), .slice (some ⟨g, 0, none⟩) nw nw] 53 (0, 0))) := heap_new' _ _
  have HM0 : Hid (MrkAt (w.alloc (.cells #[.int .i64 (last : Int), .slice (some ⟨g, 0, none⟩) nw nw] 53)) g ms) := (Below.heap_alloc _ _ _ hglt).trans hm
  unfold mrkV
  clear hle hm hf hn hnw hx
  go_enter Tryz.func41, Tryz.ntmps41
  go_wp2
  go_loopw [8] (fun x8 wr => ∃ (j : Nat) (ns : List Nat), j ≤ len ∧ x8 = .int .i64 (j : Int) ∧ Hid (ns.length = nw) ∧ Hid (Fit ns) ∧ Hid (∀ y, mb ns y = (mb ms y || decide (y ∈ l.take j))) ∧ Hid (MrkAt wr g ns) ∧ Hid (FrI g (g + 1) w wr) ∧ Hid (wr.heap[w.heap.size]? = some (.cells #[.int .i64 (last : Int), .slice (some ⟨g, 0, none⟩) nw nw] 53 (0, 0)))) (fun x8 _ => len - (intOf x8).toNat)
  case atStart => exact ⟨0, ms, Nat.zero_le _, rfl, HN, HF, (fun y => by simp), HM0, HB0, HE0⟩
  case round =>
    obtain ⟨j, ns, hj, rfl, HNL, HNF, HNB, HNM, HFR, HE⟩ := hrel
    have b0' : wr.cell? ⟨w.heap.size, 0, none⟩ = some (.int .i64 (last : Int)) := cell_in HE.out 0
    have b1' : wr.cell? ⟨w.heap.size, 1, none⟩ = some (.slice (some ⟨g, 0, none⟩) nw nw) := cell_in HE.out 1
    have hws : w.heap.size < wr.heap.size := lt_of_heap HE.out
    by_cases hjl : j < len
    · have hjn : j < l.length := by rw [← HLE.out]; exact hjl
      obtain ⟨ga, oa, rfl, hBg, hga, c0⟩ := HV.out.at HLE.out hjn
      obtain ⟨x, hx⟩ : ∃ x, x = l[j] := ⟨_, rfl⟩
      rw [← hx] at c0
      have HXX : Hid (x = l[j]) := hx
      have hxl : x ≤ last := by rw [hx]; exact HX.out _ (List.getElem_mem hjn)
      have c1 : wr.cell? ⟨ga, oa + j, none⟩ = some (.int .i64 (x : Int)) := (World.cell?_of_block (a := ⟨ga, _, none⟩) (HFR.out.block (k := ga) (by omega))).trans c0
      have hxn : x / 64 < ns.length := by rw [HNL.out, HNW.out]; omega
      have hxn' : x / 64 < nw := by rw [HNW.out]; omega
      obtain ⟨M, hM⟩ : ∃ M, M = ns[x / 64] := ⟨_, rfl⟩
      have m0 : wr.cell? ⟨g, x / 64, none⟩ = some (.int .u64 (M : Int)) := by rw [hM]; exact HNM.out.cell hxn
      have HMM : Hid (M = ns[x / 64]) := hM
      have HM64 : Hid (M < 2 ^ 64) := by show _ < _; rw [hM]; exact HNF.out _ (List.getElem_mem hxn)
      have HOR : Hid (bits .or .u64 (M : Int) (IntKind.u64.wrap ((2 : Int) ^ (x % 64))) = ((M ||| 2 ^ (x % 64) : Nat) : Int)) := or_bit HM64.out (by omega)
      have hnf : wr.frozen? ⟨g, x / 64, none⟩ = false := by have := HNM.out; unfold MrkAt at this; simp [World.frozen?, this]
      have hj0 : (0 : Int) ≤ (j : Int) := by omega
      have hj1 : (j : Int) < (len : Int) := by omega
      have hx1 : (x : Int) ≤ (last : Int) := by omega
      have hi0 : (0 : Int) ≤ (x : Int) / 64 := by omega
      have hi1 : (x : Int) / 64 < (nw : Int) := by omega
      have HTK : Hid (l.take (j + 1) = l.take j ++ [x]) := by
        show _ = _
        rw [List.take_add_one, List.getElem?_eq_getElem hjn, hx]; rfl
      clear hM hx c0
      have HNS : Hid ((ns.set (x / 64) (M ||| 2 ^ (x % 64))).length = nw) := by show _ = _; rw [List.length_set]; exact HNL.out
      have HFS : Hid (Fit (ns.set (x / 64) (M ||| 2 ^ (x % 64)))) := fit_set HNF.out _ (Nat.or_lt_two_pow HM64.out (pow64 (by omega)))
      have HBS : Hid (∀ y, mb (ns.set (x / 64) (M ||| 2 ^ (x % 64))) y = (mb ms y || decide (y ∈ l.take (j + 1)))) := fun y => by
        rw [HMM.out, mb_set hxn, HNB.out, HTK.out, Bool.or_assoc]
        congr 1
        simp
      have HMS : Hid (MrkAt (wr.setCell ⟨g, x / 64, none⟩ (.int .u64 (bits .or .u64 (M : Int) (IntKind.u64.wrap ((2 : Int) ^ (x % 64)))))).drew g (ns.set (x / 64) (M ||| 2 ^ (x % 64)))) := by
        rw [HOR.out]; exact HNM.out.set _ _
      have HFS2 : Hid (FrI g (g + 1) w (wr.setCell ⟨g, x / 64, none⟩ (.int .u64 (bits .or .u64 (M : Int) (IntKind.u64.wrap ((2 : Int) ^ (x % 64)))))).drew) := (HFR.out.set (Nat.le_refl _) (by omega) _).drew
      have HES : Hid ((wr.setCell ⟨g, x / 64, none⟩ (.int .u64 (bits .or .u64 (M : Int) (IntKind.u64.wrap ((2 : Int) ^ (x % 64)))))).drew.heap[w.heap.size]? = some (.cells #[.int .i64 (last : Int), .slice (some ⟨g, 0, none⟩) nw nw] 53 (0, 0))) := (Below.heap_setCell _ _ _ _ (by show w.heap.size ≠ g; omega)).trans HE.out
      go_wp2
      go_region
      go_wp2
      go_roundw
      case rel => exact ⟨j + 1, _, by omega, by go_num, HNS, HFS, HBS, HMS, HFS2, HES⟩
      case measure => simp [intOf]; omega
    · obtain rfl : j = len := by omega
      have HEQ : Hid (l.take j = l) := List.take_of_length_le (by rw [← HLE.out]; exact Nat.le_refl _)
      go_wp2
      go_end0
      refine ⟨rfl, ns, HNL.out, HNF.out, ?_, HNM.out, HFR.out⟩
      have := HNB.out
      rw [HEQ.out] at this
      exact this

set_option maxRecDepth 100000 in
set_option maxHeartbeats 4000000 in
theorem marked_any (last : Nat) (l : List Nat) (v : Value) (w : World) (b0 B : Nat) (hv : PlcAt b0 B w v l) (hx : ∀ x ∈ l, x ≤ last) (hll : l.length ≤ 100000) (hl : last ≤ 1000) :
    Calls Tryz.prog 17 #[v, .int .i64 (last : Int)] w fun e w' => ∃ g ms, e = .returned (mrkV last g (last / 64 + 1)) ∧ w.heap.size ≤ g ∧ ms.length = last / 64 + 1 ∧ Fit ms ∧ (∀ y, mb ms y = decide (y ∈ l)) ∧ MrkAt w' g ms ∧ Below w.heap.size w w' := by
  have h1 := newMarks_any last hl (w.alloc (.cells #[.int .i64 0, .slice none 0 0] 53))
  have HB0 : Hid (Below w.heap.size w (w.alloc (.cells #[.int .i64 0, .slice none 0 0] 53))) := below_alloc _ _
  have HE0 : Hid ((w.alloc (.cells #[.int .i64 0, .slice none 0 0] 53)).heap[w.heap.size]? = some (.cells #[.int .i64 0, .slice none 0 0] 53 (0, 0))) := heap_new' _ _
  have HV : Hid (PlcAt b0 B w v l) := hv
  have HX : Hid (∀ x ∈ l, x ≤ last) := hx
  obtain ⟨va, vc, hve, _⟩ := hv.slice
  subst hve
  obtain ⟨len, hle⟩ : ∃ len, len = l.length := ⟨_, rfl⟩
  rw [← hle] at HV hll ⊢
  have HLE : Hid (len = l.length) := hle
  obtain ⟨nw, hnw⟩ : ∃ nw, nw = last / 64 + 1 := ⟨_, rfl⟩
  rw [← hnw] at h1 ⊢
  have HNW : Hid (nw = last / 64 + 1) := hnw
  clear hv hx hle hnw
  go_enter Tryz.func17, Tryz.ntmps17
  go_wp2_with fail
  refine h1.mono ?_
  rintro e w1 ⟨g, rfl, hg, hm, hB⟩
  unfold mrkV
  have hs1 : w.heap.size + 1 ≤ w1.heap.size := by have := hB.size; simp at this; omega
  have hg1 : w.heap.size + 1 ≤ g := by simpa using hg
  have hgl : g < w1.heap.size := hm.lt
  obtain ⟨W2, hW2⟩ : ∃ W, W = w1.alloc (.cells #[.int .i64 (last : Int), .slice (some ⟨g, 0, none⟩) nw nw] 53) := ⟨_, rfl⟩
  have hBW : Below w.heap.size w W2 := by rw [hW2]; exact (HB0.out.trans (hB.mono (by simp))).alloc (by omega) _
  have hm2 : MrkAt W2 g (List.replicate nw 0) := by rw [hW2]; exact (Below.heap_alloc _ _ _ hgl).trans hm
  have hbx : W2.heap[w1.heap.size]? = some (.cells #[.int .i64 (last : Int), .slice (some ⟨g, 0, none⟩) nw nw] 53 (0, 0)) := by rw [hW2]; exact heap_new' _ _
  have hE2 : W2.heap[w.heap.size]? = some (.cells #[.int .i64 0, .slice none 0 0] 53 (0, 0)) := by
    rw [hW2, Below.heap_alloc _ _ _ (by omega)]
    exact (hB.block _ (by simp)).trans HE0.out
  have hv2 : PlcAt w.heap.size (W2.heap.size + 1) W2 (.slice va len vc) l := by
    have := HV.out
    obtain ⟨a, cap, e, hc, hn, hi⟩ := this
    refine ⟨a, cap, e, hc, hn, fun i hi' => ?_⟩
    obtain ⟨g', off, e1, _, h3, h4⟩ := hi i hi'
    exact ⟨g', off, e1, .inl h3, Nat.lt_of_lt_of_le h3 hBW.size, (hBW.cell (p := ⟨g', _, none⟩) h3).trans h4⟩
  have h2 := mput_any last g nw (List.replicate nw 0) l (.slice va len vc) W2 w.heap.size (W2.heap.size + 1) hm2 (fit_zero _) (by simp) HNW.out hv2 HX.out (by rw [← HLE.out]; exact hll) ⟨by omega, by have := hm2.lt; omega⟩ hl
  have hsz2 : W2.heap.size = w1.heap.size + 1 := by rw [hW2]; simp
  have HW2 : Hid (Below w.heap.size w W2) := hBW
  have HBX : Hid (W2.heap[w1.heap.size]? = some (.cells #[.int .i64 (last : Int), .slice (some ⟨g, 0, none⟩) nw nw] 53 (0, 0))) := hbx
  have HE2 : Hid (W2.heap[w.heap.size]? = some (.cells #[.int .i64 0, .slice none 0 0] 53 (0, 0))) := hE2
  have HS2 : Hid (W2.heap.size = w1.heap.size + 1) := hsz2
  unfold mrkV at h2
  rw [hW2] at h2
  clear h1 hm hB hbx hE2 hm2 hv2 hBW
  go_wp2_with fail
  refine h2.mono ?_
  rintro e w3 ⟨rfl, ms', hl3, hf3, hb3, hm3, hfr3⟩
  rw [← hW2] at hfr3
  have hsz3 : w1.heap.size + 1 ≤ w3.heap.size := by have := hfr3.size; have := HS2.out; omega
  have e3 : w3.heap[w1.heap.size]? = some (.cells #[.int .i64 (last : Int), .slice (some ⟨g, 0, none⟩) nw nw] 53 (0, 0)) := (hfr3.block (k := w1.heap.size) (by have := HS2.out; omega)).trans HBX.out
  have d0 : w3.cell? ⟨w1.heap.size, 0, none⟩ = some (.int .i64 (last : Int)) := cell_in e3 0
  have d1 : w3.cell? ⟨w1.heap.size, 1, none⟩ = some (.slice (some ⟨g, 0, none⟩) nw nw) := cell_in e3 1
  have HE3 : Hid (w3.heap[w.heap.size]? = some (.cells #[.int .i64 0, .slice none 0 0] 53 (0, 0))) := (hfr3.block (k := w.heap.size) (by omega)).trans HE2.out
  have hnf0 : w3.frozen? ⟨w.heap.size, 0, none⟩ = false := by simp [World.frozen?, HE3.out]
  have hnf1 : w3.frozen? ⟨w.heap.size, 1, none⟩ = false := by simp [World.frozen?, HE3.out]
  have r0 : w3.cell? ⟨w.heap.size, 0, none⟩ = some (.int .i64 0) := cell_in HE3.out 0
  have r1 : w3.cell? ⟨w.heap.size, 1, none⟩ = some (.slice none 0 0) := cell_in HE3.out 1
  have HL3 : Hid (ms'.length = nw) := hl3
  have HM3 : Hid (MrkAt w3 g ms') := hm3
  have HB3 : Hid (Below w.heap.size w w3) := HW2.out.trans (hfr3.1.mono (by omega))
  have HF3 : Hid (Fit ms' ∧ ∀ y, mb ms' y = decide (y ∈ l)) := ⟨hf3, fun y => by rw [hb3, mb_zero]; rfl⟩
  clear h2 hl3 hf3 hb3 hm3 hfr3 e3 hW2
  go_wp2
  refine bodyPost_ret (results_cell_row rfl _ _ w.heap.size 53 #[.int .i64 (last : Int), .slice (some ⟨g, 0, none⟩) nw nw] (0, 0) _ rfl ?_ Tryz.underlying53 rfl (by kernel_rfl)) rfl ?_
  · exact cells_set2 HE3.out _ _
  · refine ⟨g, ms', rfl, by omega, HL3.out, HF3.out.1, HF3.out.2, ?_, (HB3.out.setCell (Nat.le_refl _) _).setCell (Nat.le_refl _) _⟩
    exact (Below.heap_setCell _ _ _ _ (by show g ≠ w.heap.size; omega)).trans ((Below.heap_setCell _ _ _ _ (by show g ≠ w.heap.size; omega)).trans HM3.out)

theorem mb_getD {ms ns os : List Nat} (h : ∀ i, ns.getD i 0 = ms.getD i 0 ||| os.getD i 0) (y : Nat) : mb ns y = (mb ms y || mb os y) := by
  unfold mb
  rw [h, Nat.testBit_or]
theorem getD_at {ms : List Nat} {i : Nat} (h : i < ms.length) : ms.getD i 0 = ms[i] := by
  rw [List.getD_eq_getElem?_getD, List.getElem?_eq_getElem h]; rfl
theorem getD_set {ms : List Nat} {j x i : Nat} (h : j < ms.length) : (ms.set j x).getD i 0 = if i = j then x else ms.getD i 0 := by
  rw [List.getD_eq_getElem?_getD, List.getD_eq_getElem?_getD, List.getElem?_set]
  by_cases e : j = i
  · rw [if_pos e, if_pos h, if_pos e.symm]; rfl
  · rw [if_neg e, if_neg (fun q => e q.symm)]
theorem getD_out {ms : List Nat} {i : Nat} (h : ms.length ≤ i) : ms.getD i 0 = 0 := by
  rw [List.getD_eq_getElem?_getD, List.getElem?_eq_none h]; rfl

set_option maxRecDepth 100000 in
set_option maxHeartbeats 4000000 in
theorem mjoin_any (last last' g g' nw : Nat) (ms os : List Nat) (w : World) (hm : MrkAt w g ms) (hf : Fit ms) (hn : ms.length = nw) (ho : MrkAt w g' os) (hof : Fit os) (hon : os.length = nw) (hne : g ≠ g') (hnw : nw ≤ 1000) :
    Calls Tryz.prog 18 #[mrkV last g nw, mrkV last' g' nw] w fun e w' => e = .returned (.tuple #[]) ∧ ∃ ms', ms'.length = nw ∧ Fit ms' ∧ (∀ y, mb ms' y = (mb ms y || mb os y)) ∧ MrkAt w' g ms' ∧ FrI g (g + 1) w w' := by
  obtain ⟨W0, hW0⟩ : ∃ W, W = (w.alloc (.cells #[.int .i64 (last : Int), .slice (some ⟨g, 0, none⟩) nw nw] 53)).alloc (.cells #[.int .i64 (last' : Int), .slice (some ⟨g', 0, none⟩) nw nw] 53) := ⟨_, rfl⟩
  obtain ⟨hE0, hE1, hB0, hs0⟩ := alloc2 hW0
  have hgl := hm.lt
  have hgl' := ho.lt
  have HM0 : Hid (MrkAt W0 g ms) := (hB0.block _ hgl).trans hm
  have HO0 : Hid (MrkAt W0 g' os) := (hB0.block _ hgl').trans ho
  have HF : Hid (Fit ms) := hf
  have HOF : Hid (Fit os) := hof
  have HN : Hid (ms.length = nw) := hn
  have HON : Hid (os.length = nw) := hon
  have HR0 : Hid (FrI g (g + 1) w W0) := FrI.of hB0 (by omega)
  have HE0 : Hid (W0.heap[w.heap.size]? = some (.cells #[.int .i64 (last : Int), .slice (some ⟨g, 0, none⟩) nw nw] 53 (0, 0)) ∧ W0.heap[w.heap.size + 1]? = some (.cells #[.int .i64 (last' : Int), .slice (some ⟨g', 0, none⟩) nw nw] 53 (0, 0))) := ⟨hE0, hE1⟩
  have HW0 : Hid (W0 = (w.alloc (.cells #[.int .i64 (last : Int), .slice (some ⟨g, 0, none⟩) nw nw] 53)).alloc (.cells #[.int .i64 (last' : Int), .slice (some ⟨g', 0, none⟩) nw nw] 53)) := hW0
  unfold mrkV
  clear hm ho hf hof hn hon hE0 hE1 hB0 hs0 hW0
  go_enter Tryz.func18, Tryz.ntmps18
  go_wp2
  rw [← HW0.out]
  go_loopw [8] (fun x8 wr => ∃ (j : Nat) (ns : List Nat), j ≤ nw ∧ x8 = .int .i64 (j : Int) ∧ Hid (ns.length = nw) ∧ Hid (Fit ns) ∧ Hid (∀ i, ns.getD i 0 = if i < j then ms.getD i 0 ||| os.getD i 0 else ms.getD i 0) ∧ Hid (MrkAt wr g ns) ∧ Hid (MrkAt wr g' os) ∧ Hid (FrI g (g + 1) w wr) ∧ Hid (wr.heap[w.heap.size]? = some (.cells #[.int .i64 (last : Int), .slice (some ⟨g, 0, none⟩) nw nw] 53 (0, 0)) ∧ wr.heap[w.heap.size + 1]? = some (.cells #[.int .i64 (last' : Int), .slice (some ⟨g', 0, none⟩) nw nw] 53 (0, 0)))) (fun x8 _ => nw - (intOf x8).toNat)
  case atStart => exact ⟨0, ms, Nat.zero_le _, rfl, HN, HF, (fun i => by simp), HM0, HO0, HR0, HE0⟩
  case round =>
    obtain ⟨j, ns, hj, rfl, HNL, HNF, HNB, HNM, HNO, HFR, HE⟩ := hrel
    have b1 : wr.cell? ⟨w.heap.size, 1, none⟩ = some (.slice (some ⟨g, 0, none⟩) nw nw) := cell_in HE.out.1 1
    have b2 : wr.cell? ⟨w.heap.size + 1, 1, none⟩ = some (.slice (some ⟨g', 0, none⟩) nw nw) := cell_in HE.out.2 1
    by_cases hjl : j < nw
    · have hjn : j < ns.length := by rw [HNL.out]; exact hjl
      have hjo : j < os.length := by rw [HON.out]; exact hjl
      have hjm : j < ms.length := by rw [HN.out]; exact hjl
      obtain ⟨M, hM⟩ : ∃ M, M = ns[j] := ⟨_, rfl⟩
      obtain ⟨O, hO⟩ : ∃ O, O = os[j] := ⟨_, rfl⟩
      have m0 : wr.cell? ⟨g, j, none⟩ = some (.int .u64 (M : Int)) := by rw [hM]; exact HNM.out.cell hjn
      have o0 : wr.cell? ⟨g', j, none⟩ = some (.int .u64 (O : Int)) := by rw [hO]; exact HNO.out.cell hjo
      have HM64 : Hid (M < 2 ^ 64) := by show _ < _; rw [hM]; exact HNF.out _ (List.getElem_mem hjn)
      have HO64 : Hid (O < 2 ^ 64) := by show _ < _; rw [hO]; exact HOF.out _ (List.getElem_mem hjo)
      have HMM : Hid (M = ms.getD j 0 ∧ O = os.getD j 0) := by
        have := HNB.out j
        rw [if_neg (by omega), getD_at hjn] at this
        exact ⟨by rw [hM, this], by rw [hO, getD_at hjo]⟩
      have HOR : Hid (bits .or .u64 (M : Int) (O : Int) = ((M ||| O : Nat) : Int)) := bits_or_u64_nat M O (by simpa using HM64.out) (by simpa using HO64.out)
      have hnf : wr.frozen? ⟨g, j, none⟩ = false := by have := HNM.out; unfold MrkAt at this; simp [World.frozen?, this]
      have hj0 : (0 : Int) ≤ (j : Int) := by omega
      have hj1 : (j : Int) < (nw : Int) := by omega
      have HNS : Hid ((ns.set j (M ||| O)).length = nw) := by show _ = _; rw [List.length_set]; exact HNL.out
      have HFS : Hid (Fit (ns.set j (M ||| O))) := fit_set HNF.out _ (Nat.or_lt_two_pow HM64.out HO64.out)
      have HBS : Hid (∀ i, (ns.set j (M ||| O)).getD i 0 = if i < j + 1 then ms.getD i 0 ||| os.getD i 0 else ms.getD i 0) := fun i => by
        rw [getD_set hjn, HNB.out i]
        by_cases e : i = j
        · subst e
          rw [if_pos rfl, if_pos (by omega), HMM.out.1, HMM.out.2]
        · rw [if_neg e]
          by_cases q : i < j
          · rw [if_pos q, if_pos (by omega)]
          · rw [if_neg q, if_neg (by omega)]
      have HMS : Hid (MrkAt (wr.setCell ⟨g, j, none⟩ (.int .u64 (bits .or .u64 (M : Int) (O : Int)))).drew g (ns.set j (M ||| O))) := by
        rw [HOR.out]; exact HNM.out.set _ _
      have HOS : Hid (MrkAt (wr.setCell ⟨g, j, none⟩ (.int .u64 (bits .or .u64 (M : Int) (O : Int)))).drew g' os) := (Below.heap_setCell _ _ _ _ (by show g' ≠ g; omega)).trans HNO.out
      have HFS2 : Hid (FrI g (g + 1) w (wr.setCell ⟨g, j, none⟩ (.int .u64 (bits .or .u64 (M : Int) (O : Int)))).drew) := (HFR.out.set (Nat.le_refl _) (by omega) _).drew
      have HES : Hid ((wr.setCell ⟨g, j, none⟩ (.int .u64 (bits .or .u64 (M : Int) (O : Int)))).drew.heap[w.heap.size]? = some (.cells #[.int .i64 (last : Int), .slice (some ⟨g, 0, none⟩) nw nw] 53 (0, 0)) ∧ (wr.setCell ⟨g, j, none⟩ (.int .u64 (bits .or .u64 (M : Int) (O : Int)))).drew.heap[w.heap.size + 1]? = some (.cells #[.int .i64 (last' : Int), .slice (some ⟨g', 0, none⟩) nw nw] 53 (0, 0))) := ⟨(Below.heap_setCell _ _ _ _ (by show w.heap.size ≠ g; omega)).trans HE.out.1, (Below.heap_setCell _ _ _ _ (by show w.heap.size + 1 ≠ g; omega)).trans HE.out.2⟩
      clear hM hO
      go_wp2
      go_region
      go_wp2
      go_roundw
      case rel => exact ⟨j + 1, _, by omega, by go_num, HNS, HFS, HBS, HMS, HOS, HFS2, HES⟩
      case measure => simp [intOf]; omega
    · obtain rfl : j = nw := by omega
      go_wp2
      go_end0
      refine ⟨rfl, ns, HNL.out, HNF.out, mb_getD (fun i => ?_), HNM.out, HFR.out⟩
      rw [HNB.out i]
      by_cases q : i < j
      · rw [if_pos q]
      · rw [if_neg q, getD_out (ms := os) (by rw [HON.out]; omega), Nat.or_zero]

/-- The table of math/bits. -/
def TabW (w : World) : Prop := 0 < w.heap.size ∧ TabAt 0 Lib.deBruijn64tab w
theorem TabW.below {w w' : World} (h : TabW w) (hb : Below w.heap.size w w') : TabW w' := ⟨Nat.lt_of_lt_of_le h.1 hb.size, fun j hj => (hb.cell (p := ⟨_, _, none⟩) h.1).trans (h.2 j hj)⟩
set_option maxRecDepth 100000 in
set_option maxHeartbeats 4000000 in
theorem tz_any (x : Nat) (hx : x < 18446744073709551616) (h0 : x ≠ 0) (w : World) (hT : TabW w) : Calls Tryz.prog 42 #[.int .u64 (x : Int)] w fun e w' => e = .returned (.int .i64 (Lib.ctz 64 x : Int)) ∧ w' = w := by
  obtain ⟨hlow, hk⟩ := Lib.lowest_bit 64 x h0 hx
  obtain ⟨hi, htab⟩ := Lib.deBruijn64_at _ hk
  have hcell := hT.2 _ hi
  rw [htab] at hcell
  have key := tz64_key x _ hx h0 hlow
  have hx0 : ((x : Int) == 0) = false := by simp; omega
  obtain ⟨k, hkk⟩ : ∃ k, k = Lib.ctz 64 x := ⟨_, rfl⟩
  obtain ⟨idx, hix⟩ : ∃ i, i = 2 ^ Lib.ctz 64 x * 285870213051353865 % 18446744073709551616 / 288230376151711744 := ⟨_, rfl⟩
  rw [← hix] at key hcell hi
  rw [← hkk] at hcell hk ⊢
  have hg := hT.1
  clear hlow htab hT hix hkk
  go_enter Tryz.func42, Tryz.ntmps42
  go_wp2_with (simp only [key])
  go_ret
  exact ⟨rfl, rfl⟩
end Go.Proofs.YtklhjjgnhigbiaaGreatDoor
