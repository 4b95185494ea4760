/-
  Places of an expression that follow one another. Plain mathematics.
-/
import Derived.Test.YtehkaiohmcenbaaDoorMtMath
namespace Go.Proofs.YtehkaiohmcenbaaDoor
open Go.RowKit
set_option linter.unusedVariables false

/-- The sets of an expression's places. -/
def setsN : Nd → List Int
  | ⟨k, s, l⟩ => if k = 1 then [s] else (l.map setsN).flatten
def setsL : List Nd → List Int
  | [] => []
  | x :: l => setsN x ++ setsL l
theorem setsL_map : ∀ l, (l.map setsN).flatten = setsL l
  | [] => rfl
  | x :: l => by rw [List.map_cons, List.flatten_cons, setsL_map l, setsL]
theorem setsN_mk (k s : Int) (l : List Nd) : setsN ⟨k, s, l⟩ = if k = 1 then [s] else setsL l := by rw [setsN, setsL_map]
theorem setsN_eq (n : Nd) : setsN n = if n.k = 1 then [n.s] else setsL n.kids := by cases n; rw [setsN_mk]

/-- What is told of a part. -/
structure Prt where
  null : Bool
  first : List Nat
  last : List Nat
  upTo : Nat
  notes : List (List Nat × List Nat)
def catS (W p : Prt) : Prt := ⟨W.null && p.null, if W.null then W.first ++ p.first else W.first, if p.null then W.last ++ p.last else p.last, p.upTo, W.notes ++ (p.notes ++ [(W.last, p.first)])⟩
def altS (W p : Prt) : Prt := ⟨W.null || p.null, W.first ++ p.first, W.last ++ p.last, p.upTo, W.notes ++ p.notes⟩
def catF : List (Nat → Prt) → Prt → Prt
  | [], W => W
  | f :: l, W => catF l (catS W (f W.upTo))
def altF : List (Nat → Prt) → Prt → Prt
  | [], W => W
  | f :: l, W => altF l (altS W (f W.upTo))
def hdF : List (Nat → Prt) → Nat → Prt
  | [] => fun c => ⟨false, [], [], c, []⟩
  | f :: _ => f
def sgnS (k : Int) (p : Prt) : Prt := ⟨p.null || decide (k ≠ 4), p.first, p.last, p.upTo, if k = 5 then p.notes else p.notes ++ [(p.last, p.first)]⟩
def setP (c : Nat) : Prt := ⟨false, [c + 1], [c + 1], c + 1, []⟩
def cat0 (c : Nat) : Prt := ⟨true, [], [], c, []⟩
def alt0 (c : Nat) : Prt := ⟨false, [], [], c, []⟩
def prtK (k : Int) (fs : List (Nat → Prt)) (c : Nat) : Prt :=
  if k = 1 then setP c else if k = 0 then catF fs (cat0 c) else if k = 2 then altF fs (alt0 c) else sgnS k (hdF fs c)
/-- What is told of an expression, ahead of which there are c places. -/
def prtN : Nd → Nat → Prt
  | ⟨k, s, l⟩ => prtK k (l.map prtN)
def catL (l : List Nd) (W : Prt) : Prt := catF (l.map prtN) W
def altL (l : List Nd) (W : Prt) : Prt := altF (l.map prtN) W
def hdL (l : List Nd) (c : Nat) : Prt := hdF (l.map prtN) c
theorem catL_cons (x : Nd) (l : List Nd) (W : Prt) : catL (x :: l) W = catL l (catS W (prtN x W.upTo)) := rfl
theorem altL_cons (x : Nd) (l : List Nd) (W : Prt) : altL (x :: l) W = altL l (altS W (prtN x W.upTo)) := rfl
theorem hdL_cons (x : Nd) (l : List Nd) (c : Nat) : hdL (x :: l) c = prtN x c := rfl
theorem prtN_mk (k s : Int) (l : List Nd) (c : Nat) : prtN ⟨k, s, l⟩ c = if k = 1 then setP c else if k = 0 then catL l (cat0 c) else if k = 2 then altL l (alt0 c) else sgnS k (hdL l c) := by
  rw [prtN]; rfl
theorem prtN_eq (n : Nd) (c : Nat) : prtN n c = if n.k = 1 then setP c else if n.k = 0 then catL n.kids (cat0 c) else if n.k = 2 then altL n.kids (alt0 c) else sgnS n.k (hdL n.kids c) := by
  cases n; rw [prtN_mk]

/-- Rising, all behind c, none behind u. -/
def InR (c u : Nat) (l : List Nat) : Prop := l.Pairwise (· < ·) ∧ ∀ x ∈ l, c < x ∧ x ≤ u
theorem InR.nil (c u : Nat) : InR c u [] := ⟨List.Pairwise.nil, fun x h => by cases h⟩
theorem InR.wide {c u c' u' : Nat} {l : List Nat} (h : InR c u l) (h1 : c' ≤ c) (h2 : u ≤ u') : InR c' u' l := ⟨h.1, fun x hx => by have := h.2 x hx; omega⟩
theorem InR.app {c u v : Nat} {a b : List Nat} (h : InR c u a) (k : InR u v b) (h1 : c ≤ u) (h2 : u ≤ v) : InR c v (a ++ b) := by
  refine ⟨List.pairwise_append.2 ⟨h.1, k.1, fun x hx y hy => ?_⟩, fun x hx => ?_⟩
  · have := h.2 x hx; have := k.2 y hy; omega
  · rcases List.mem_append.1 hx with q | q
    · have := h.2 x q; omega
    · have := k.2 x q; omega
structure Okp (c : Nat) (p : Prt) : Prop where
  up : c ≤ p.upTo
  first : InR c p.upTo p.first
  last : InR c p.upTo p.last
  notes : ∀ x ∈ p.notes, InR c p.upTo x.1 ∧ InR c p.upTo x.2
theorem okp_set (c : Nat) : Okp c (setP c) := by
  have h : InR c (c + 1) [c + 1] := ⟨by simp, fun x hx => by simp at hx; omega⟩
  exact ⟨by simp [setP], h, h, fun x hx => by cases hx⟩
theorem okp_cat0 (c : Nat) : Okp c (cat0 c) := ⟨Nat.le_refl _, InR.nil _ _, InR.nil _ _, fun x hx => by cases hx⟩
theorem okp_alt0 (c : Nat) : Okp c (alt0 c) := ⟨Nat.le_refl _, InR.nil _ _, InR.nil _ _, fun x hx => by cases hx⟩
theorem okp_cat {c : Nat} {W p : Prt} (h : Okp c W) (k : Okp W.upTo p) : Okp c (catS W p) := by
  have hu : (catS W p).upTo = p.upTo := rfl
  have h1 := h.up
  have h2 := k.up
  refine ⟨by rw [hu]; omega, ?_, ?_, fun x hx => ?_⟩
  · show InR c p.upTo (if W.null then W.first ++ p.first else W.first)
    split
    · exact h.first.app k.first h1 h2
    · exact h.first.wide (Nat.le_refl _) h2
  · show InR c p.upTo (if p.null then W.last ++ p.last else p.last)
    split
    · exact h.last.app k.last h1 h2
    · exact k.last.wide h1 (Nat.le_refl _)
  · have hx' : x ∈ W.notes ++ (p.notes ++ [(W.last, p.first)]) := hx
    rw [hu]
    rcases List.mem_append.1 hx' with q | q
    · exact ⟨(h.notes x q).1.wide (Nat.le_refl _) h2, (h.notes x q).2.wide (Nat.le_refl _) h2⟩
    · rcases List.mem_append.1 q with q | q
      · exact ⟨(k.notes x q).1.wide h1 (Nat.le_refl _), (k.notes x q).2.wide h1 (Nat.le_refl _)⟩
      · obtain rfl : x = (W.last, p.first) := by simpa using q
        exact ⟨h.last.wide (Nat.le_refl _) h2, k.first.wide h1 (Nat.le_refl _)⟩
theorem okp_alt {c : Nat} {W p : Prt} (h : Okp c W) (k : Okp W.upTo p) : Okp c (altS W p) := by
  have hu : (altS W p).upTo = p.upTo := rfl
  have h1 := h.up
  have h2 := k.up
  refine ⟨by rw [hu]; omega, h.first.app k.first h1 h2, h.last.app k.last h1 h2, fun x hx => ?_⟩
  rw [hu]
  rcases List.mem_append.1 (show x ∈ W.notes ++ p.notes from hx) with q | q
  · exact ⟨(h.notes x q).1.wide (Nat.le_refl _) h2, (h.notes x q).2.wide (Nat.le_refl _) h2⟩
  · exact ⟨(k.notes x q).1.wide h1 (Nat.le_refl _), (k.notes x q).2.wide h1 (Nat.le_refl _)⟩
theorem okp_sgn {c : Nat} {p : Prt} (k : Int) (h : Okp c p) : Okp c (sgnS k p) := by
  refine ⟨h.up, h.first, h.last, fun x hx => ?_⟩
  have hx' : x ∈ if k = 5 then p.notes else p.notes ++ [(p.last, p.first)] := hx
  split at hx'
  · exact h.notes x hx'
  · rcases List.mem_append.1 hx' with q | q
    · exact h.notes x q
    · obtain rfl : x = (p.last, p.first) := by simpa using q
      exact ⟨h.last, h.first⟩
/-- A part's facts: it may stand there, and has so many places. -/
def Gd (n : Nd) : Prop := ∀ c, Okp c (prtN n c) ∧ (prtN n c).upTo = c + (setsN n).length
theorem gd_cat : ∀ (l : List Nd), (∀ x ∈ l, Gd x) → ∀ c W, Okp c W → Okp c (catL l W) ∧ (catL l W).upTo = W.upTo + (setsL l).length
  | [], _, c, W, h => ⟨h, by simp [catL, catF, setsL]⟩
  | x :: l, ih, c, W, h => by
    have hx := ih x (by simp) W.upTo
    have := gd_cat l (fun y hy => ih y (by simp [hy])) c _ (okp_cat h hx.1)
    rw [catL_cons]
    refine ⟨this.1, ?_⟩
    rw [this.2, setsL, List.length_append, ← Nat.add_assoc, ← hx.2]
    rfl
theorem gd_alt : ∀ (l : List Nd), (∀ x ∈ l, Gd x) → ∀ c W, Okp c W → Okp c (altL l W) ∧ (altL l W).upTo = W.upTo + (setsL l).length
  | [], _, c, W, h => ⟨h, by simp [altL, altF, setsL]⟩
  | x :: l, ih, c, W, h => by
    have hx := ih x (by simp) W.upTo
    have := gd_alt l (fun y hy => ih y (by simp [hy])) c _ (okp_alt h hx.1)
    rw [altL_cons]
    refine ⟨this.1, ?_⟩
    rw [this.2, setsL, List.length_append, ← Nat.add_assoc, ← hx.2]
    rfl
theorem right_kids {k s : Int} {l : List Nd} (h : rightN ⟨k, s, l⟩ = true) : mayK k s l.length = true ∧ ∀ x ∈ l, rightN x = true := by
  rw [rightN_mk, Bool.and_eq_true, rightL_iff] at h
  exact h
theorem sgn_kid {k s : Int} {l : List Nd} (h : mayK k s l.length = true) (h0 : k ≠ 0) (h1 : k ≠ 1) (h2 : k ≠ 2) : (k = 3 ∨ k = 4 ∨ k = 5) ∧ ∃ x, l = [x] := by
  unfold mayK at h
  rw [if_neg h0, if_neg h1, if_neg h2] at h
  split at h
  · rename_i hk
    refine ⟨hk, List.length_eq_one_iff.1 ?_⟩
    simpa using h
  · cases h
theorem gd_all : ∀ n, rightN n = true → Gd n :=
  Nd.ind fun k s l ih h c => by
    obtain ⟨hm, hl⟩ := right_kids h
    have ihl : ∀ x ∈ l, Gd x := fun x hx => ih x hx (hl x hx)
    rw [prtN_mk, setsN_mk]
    by_cases h1 : k = 1
    · rw [if_pos h1, if_pos h1]; exact ⟨okp_set c, rfl⟩
    rw [if_neg h1, if_neg h1]
    by_cases h0 : k = 0
    · rw [if_pos h0]; exact gd_cat l ihl c _ (okp_cat0 c)
    rw [if_neg h0]
    by_cases h2 : k = 2
    · rw [if_pos h2]; exact gd_alt l ihl c _ (okp_alt0 c)
    rw [if_neg h2]
    obtain ⟨_, x, rfl⟩ := sgn_kid hm h0 h1 h2
    have hx := ihl x (by simp) c
    rw [hdL_cons]
    refine ⟨okp_sgn k hx.1, ?_⟩
    have : setsL [x] = setsN x := by rw [setsL, setsL, List.append_nil]
    rw [this]
    exact hx.2

/-- The place j stands behind the place i. -/
def fol (L : List (List Nat × List Nat)) (i j : Nat) : Bool := L.any fun x => x.1.contains i && x.2.contains j
theorem fol_iff {L : List (List Nat × List Nat)} {i j : Nat} : fol L i j = true ↔ ∃ x ∈ L, i ∈ x.1 ∧ j ∈ x.2 := by
  unfold fol; simp
theorem fol_app (A B : List (List Nat × List Nat)) (i j : Nat) : fol (A ++ B) i j = (fol A i j || fol B i j) := by unfold fol; simp
theorem fol_one (a b : List Nat) (i j : Nat) : fol [(a, b)] i j = (a.contains i && b.contains j) := by unfold fol; simp
theorem fol_nil (i j : Nat) : fol [] i j = false := rfl
theorem Okp.fol {c : Nat} {p : Prt} (h : Okp c p) {i j : Nat} (k : Go.Proofs.YtehkaiohmcenbaaDoor.fol p.notes i j = true) : (c < i ∧ i ≤ p.upTo) ∧ c < j ∧ j ≤ p.upTo := by
  obtain ⟨x, hx, h1, h2⟩ := fol_iff.1 k
  exact ⟨(h.notes x hx).1.2 i h1, (h.notes x hx).2.2 j h2⟩

/-- One stands at the place y behind m + 1 signs from q on. -/
def rn (p : Prt) (T : Nat → Nat → Prop) (q : Nat) : Nat → Nat → Prop
  | 0, y => y ∈ p.first ∧ T y q
  | m + 1, y => ∃ x, rn p T q m x ∧ fol p.notes x y = true ∧ T y (q + m + 1)
/-- The signs from q up to r are a word by the places. -/
def Acc (p : Prt) (T : Nat → Nat → Prop) (q r : Nat) : Prop := (r = q ∧ p.null = true) ∨ ∃ m y, r = q + m + 1 ∧ rn p T q m y ∧ y ∈ p.last
theorem rn_in {c : Nat} {p : Prt} {T : Nat → Nat → Prop} (h : Okp c p) {q : Nat} : ∀ {m y : Nat}, rn p T q m y → c < y ∧ y ≤ p.upTo
  | 0, y, k => h.first.2 y k.1
  | m + 1, y, ⟨x, _, k, _⟩ => (h.fol k).2
theorem rn_T {p : Prt} {T : Nat → Nat → Prop} {q : Nat} : ∀ {m y : Nat}, rn p T q m y → T y (q + m)
  | 0, y, k => k.2
  | m + 1, y, ⟨x, _, _, k⟩ => k
theorem rn_mono {p p' : Prt} {T : Nat → Nat → Prop} (hf : ∀ y ∈ p.first, y ∈ p'.first) (hn : ∀ x y, fol p.notes x y = true → fol p'.notes x y = true) {q : Nat} : ∀ {m y : Nat}, rn p T q m y → rn p' T q m y
  | 0, y, k => ⟨hf y k.1, k.2⟩
  | m + 1, y, ⟨x, k1, k2, k3⟩ => ⟨x, rn_mono hf hn k1, hn x y k2, k3⟩

theorem cat_fol {W p : Prt} {i j : Nat} : fol (catS W p).notes i j = true ↔ (fol W.notes i j = true ∨ fol p.notes i j = true ∨ (i ∈ W.last ∧ j ∈ p.first)) := by
  show fol (W.notes ++ (p.notes ++ [(W.last, p.first)])) i j = true ↔ _
  rw [fol_app, fol_app, fol_one]; simp
theorem cat_first {W p : Prt} {y : Nat} : y ∈ (catS W p).first ↔ (y ∈ W.first ∨ (W.null = true ∧ y ∈ p.first)) := by
  show y ∈ (if W.null then W.first ++ p.first else W.first) ↔ _
  cases W.null <;> simp
theorem cat_last {W p : Prt} {y : Nat} : y ∈ (catS W p).last ↔ ((p.null = true ∧ y ∈ W.last) ∨ y ∈ p.last) := by
  show y ∈ (if p.null then W.last ++ p.last else p.last) ↔ _
  cases p.null <;> simp
theorem acc_cat {c : Nat} {W p : Prt} {T : Nat → Nat → Prop} (h : Okp c W) (k : Okp W.upTo p) (q r : Nat) : Acc (catS W p) T q r ↔ ∃ m, Acc W T q m ∧ Acc p T m r := by
  have split : ∀ m y, rn (catS W p) T q m y → (rn W T q m y) ∨ (∃ j i, m = j + i ∧ Acc W T q (q + j) ∧ rn p T (q + j) i y) := by
    intro m
    induction m with
    | zero =>
      rintro y ⟨h1, h2⟩
      rcases cat_first.1 h1 with a | ⟨a, b⟩
      · exact .inl ⟨a, h2⟩
      · exact .inr ⟨0, 0, rfl, .inl ⟨rfl, a⟩, b, h2⟩
    | succ m ih =>
      rintro y ⟨x, h1, h2, h3⟩
      rcases ih x h1 with a | ⟨j, i, rfl, a, b⟩
      · have hx := rn_in h a
        rcases cat_fol.1 h2 with g | g | ⟨g1, g2⟩
        · exact .inl ⟨x, a, g, h3⟩
        · have := (k.fol g).1; omega
        · exact .inr ⟨m + 1, 0, rfl, .inr ⟨m, x, rfl, a, g1⟩, g2, h3⟩
      · have hx := rn_in k b
        rcases cat_fol.1 h2 with g | g | ⟨g1, g2⟩
        · have := (h.fol g).1; omega
        · exact .inr ⟨j, i + 1, by omega, a, x, b, g, by rw [show q + j + i + 1 = q + (j + i) + 1 by omega]; exact h3⟩
        · have := h.last.2 x g1; omega
  have up1 : ∀ {m y}, rn W T q m y → rn (catS W p) T q m y := rn_mono (fun y hy => cat_first.2 (.inl hy)) (fun x y g => cat_fol.2 (.inl g))
  have up2 : ∀ {a i y}, Acc W T q a → rn p T a i y → ∃ m, a + i = q + m ∧ rn (catS W p) T q m y := by
    intro a i
    induction i with
    | zero =>
      rintro y (⟨rfl, hn⟩ | ⟨m, x, rfl, hr, hl⟩) ⟨h1, h2⟩
      · exact ⟨0, rfl, cat_first.2 (.inr ⟨hn, h1⟩), h2⟩
      · exact ⟨m + 1, by omega, x, up1 hr, cat_fol.2 (.inr (.inr ⟨hl, h1⟩)), h2⟩
    | succ i ih =>
      rintro y hA ⟨x, h1, h2, h3⟩
      obtain ⟨m, e, hm⟩ := ih hA h1
      exact ⟨m + 1, by omega, x, hm, cat_fol.2 (.inr (.inl h2)), by rw [← e]; exact h3⟩
  constructor
  · rintro (⟨rfl, hn⟩ | ⟨m, y, rfl, hr, hl⟩)
    · have hn' : (W.null && p.null) = true := hn
      rw [Bool.and_eq_true] at hn'
      exact ⟨r, .inl ⟨rfl, hn'.1⟩, .inl ⟨rfl, hn'.2⟩⟩
    · rcases split m y hr with a | ⟨j, i, rfl, a, b⟩
      · have hy := rn_in h a
        rcases cat_last.1 hl with ⟨g1, g2⟩ | g
        · exact ⟨_, .inr ⟨m, y, rfl, a, g2⟩, .inl ⟨rfl, g1⟩⟩
        · have := k.last.2 y g; omega
      · have hy := rn_in k b
        rcases cat_last.1 hl with ⟨g1, g2⟩ | g
        · have := h.last.2 y g2; omega
        · exact ⟨q + j, a, .inr ⟨i, y, by omega, b, g⟩⟩
  · rintro ⟨a, hA, (⟨rfl, hn⟩ | ⟨i, y, rfl, hr, hl⟩)⟩
    · rcases hA with ⟨rfl, hw⟩ | ⟨m, x, rfl, hr, hl⟩
      · exact .inl ⟨rfl, by show (W.null && p.null) = true; rw [hw, hn]; rfl⟩
      · exact .inr ⟨m, x, rfl, up1 hr, cat_last.2 (.inl ⟨hn, hl⟩)⟩
    · obtain ⟨m, e, hm⟩ := up2 hA hr
      exact .inr ⟨m, y, by omega, hm, cat_last.2 (.inr hl)⟩
theorem alt_fol {W p : Prt} {i j : Nat} : fol (altS W p).notes i j = true ↔ (fol W.notes i j = true ∨ fol p.notes i j = true) := by
  show fol (W.notes ++ p.notes) i j = true ↔ _
  rw [fol_app]; simp
theorem acc_alt {c : Nat} {W p : Prt} {T : Nat → Nat → Prop} (h : Okp c W) (k : Okp W.upTo p) (q r : Nat) : Acc (altS W p) T q r ↔ (Acc W T q r ∨ Acc p T q r) := by
  have hf : ∀ y, y ∈ (altS W p).first ↔ (y ∈ W.first ∨ y ∈ p.first) := fun y => by show y ∈ W.first ++ p.first ↔ _; simp
  have hl : ∀ y, y ∈ (altS W p).last ↔ (y ∈ W.last ∨ y ∈ p.last) := fun y => by show y ∈ W.last ++ p.last ↔ _; simp
  have split : ∀ m y, rn (altS W p) T q m y → rn W T q m y ∨ rn p T q m y := by
    intro m
    induction m with
    | zero =>
      rintro y ⟨h1, h2⟩
      exact ((hf y).1 h1).imp (fun a => ⟨a, h2⟩) (fun a => ⟨a, h2⟩)
    | succ m ih =>
      rintro y ⟨x, h1, h2, h3⟩
      rcases ih x h1 with a | a
      · have hx := rn_in h a
        rcases alt_fol.1 h2 with g | g
        · exact .inl ⟨x, a, g, h3⟩
        · have := (k.fol g).1; omega
      · have hx := rn_in k a
        rcases alt_fol.1 h2 with g | g
        · have := (h.fol g).1; omega
        · exact .inr ⟨x, a, g, h3⟩
  constructor
  · rintro (⟨rfl, hn⟩ | ⟨m, y, rfl, hr, hy⟩)
    · have hn' : (W.null || p.null) = true := hn
      rw [Bool.or_eq_true] at hn'
      exact hn'.imp (fun a => .inl ⟨rfl, a⟩) (fun a => .inl ⟨rfl, a⟩)
    · rcases split m y hr with a | a
      · have hx := rn_in h a
        rcases (hl y).1 hy with g | g
        · exact .inl (.inr ⟨m, y, rfl, a, g⟩)
        · have := k.last.2 y g; omega
      · have hx := rn_in k a
        rcases (hl y).1 hy with g | g
        · have := h.last.2 y g; omega
        · exact .inr (.inr ⟨m, y, rfl, a, g⟩)
  · rintro ((⟨rfl, hn⟩ | ⟨m, y, rfl, hr, hy⟩) | (⟨rfl, hn⟩ | ⟨m, y, rfl, hr, hy⟩))
    · exact .inl ⟨rfl, by show (W.null || p.null) = true; rw [hn]; rfl⟩
    · exact .inr ⟨m, y, rfl, rn_mono (fun y g => (hf y).2 (.inl g)) (fun x y g => alt_fol.2 (.inl g)) hr, (hl y).2 (.inl hy)⟩
    · exact .inl ⟨rfl, by show (W.null || p.null) = true; rw [hn]; simp⟩
    · exact .inr ⟨m, y, rfl, rn_mono (fun y g => (hf y).2 (.inr g)) (fun x y g => alt_fol.2 (.inr g)) hr, (hl y).2 (.inr hy)⟩
theorem sgn_fol {k : Int} (hk : k ≠ 5) {p : Prt} {i j : Nat} : fol (sgnS k p).notes i j = true ↔ (fol p.notes i j = true ∨ (i ∈ p.last ∧ j ∈ p.first)) := by
  show fol (if k = 5 then p.notes else p.notes ++ [(p.last, p.first)]) i j = true ↔ _
  rw [if_neg hk, fol_app, fol_one]; simp
theorem acc_plus {c : Nat} {p : Prt} {T : Nat → Nat → Prop} (h : Okp c p) (q r : Nat) : Acc (sgnS 4 p) T q r ↔ Pl (Acc p T) q r := by
  have hn4 : (sgnS 4 p).null = p.null := by show (p.null || decide ((4 : Int) ≠ 4)) = p.null; simp
  have up1 : ∀ {a m y}, rn p T a m y → rn (sgnS 4 p) T a m y := fun {a m y} => rn_mono (p := p) (p' := sgnS 4 p) (fun y hy => hy) (fun x y g => (sgn_fol (k := 4) (by decide)).2 (.inl g))
  have split : ∀ m y, rn (sgnS 4 p) T q m y → ∃ j i, m = j + i ∧ (j = 0 ∨ Pl (Acc p T) q (q + j)) ∧ rn p T (q + j) i y := by
    intro m
    induction m with
    | zero => rintro y ⟨h1, h2⟩; exact ⟨0, 0, rfl, .inl rfl, h1, h2⟩
    | succ m ih =>
      rintro y ⟨x, h1, h2, h3⟩
      obtain ⟨j, i, rfl, a, b⟩ := ih x h1
      rcases (sgn_fol (by decide)).1 h2 with g | ⟨g1, g2⟩
      · exact ⟨j, i + 1, by omega, a, x, b, g, by rw [show q + j + i + 1 = q + (j + i) + 1 by omega]; exact h3⟩
      · have e : Acc p T (q + j) (q + (j + i + 1)) := .inr ⟨i, x, by omega, b, g1⟩
        refine ⟨j + i + 1, 0, by omega, .inr ?_, g2, h3⟩
        rcases a with rfl | a
        · exact .one e
        · exact .more a e
  constructor
  · rintro (⟨rfl, hn⟩ | ⟨m, y, rfl, hr, hy⟩)
    · exact .one (.inl ⟨rfl, by rw [hn4] at hn; exact hn⟩)
    · obtain ⟨j, i, rfl, a, b⟩ := split m y hr
      have e : Acc p T (q + j) (q + (j + i) + 1) := .inr ⟨i, y, by omega, b, hy⟩
      rcases a with rfl | a
      · exact .one e
      · exact .more a e
  · intro hp
    have down : ∀ {a b}, Acc p T a b → Acc (sgnS 4 p) T a b := by
      rintro a b (⟨rfl, hn⟩ | ⟨m, y, rfl, hr, hy⟩)
      · exact .inl ⟨rfl, by rw [hn4]; exact hn⟩
      · exact .inr ⟨m, y, rfl, up1 hr, hy⟩
    induction hp using Pl.ind with
    | one a => exact down a
    | @more m r _ a ih =>
      rcases a with ⟨rfl, hn⟩ | ⟨i, y, rfl, hr, hy⟩
      · exact ih
      · rcases ih with ⟨rfl, hn⟩ | ⟨j, x, rfl, hx, hl⟩
        · exact .inr ⟨i, y, rfl, up1 hr, hy⟩
        · have key : ∀ i y, rn p T (q + j + 1) i y → rn (sgnS 4 p) T q (j + 1 + i) y := by
            intro i
            induction i with
            | zero => rintro y ⟨h1, h2⟩; exact ⟨x, hx, (sgn_fol (by decide)).2 (.inr ⟨hl, h1⟩), h2⟩
            | succ i ih =>
              rintro y ⟨z, h1, h2, h3⟩
              exact ⟨z, ih z h1, (sgn_fol (by decide)).2 (.inl h2), by rw [show q + (j + 1).add i + 1 = q + j + 1 + i + 1 by show q + (j + 1 + i) + 1 = _; omega]; exact h3⟩
          exact .inr ⟨j + 1 + i, y, by omega, key i y hr, hy⟩
theorem acc_null {p p' : Prt} {T : Nat → Nat → Prop} (hf : p'.first = p.first) (hl : p'.last = p.last) (hn : p'.notes = p.notes) (h1 : p'.null = true) (q r : Nat) : Acc p' T q r ↔ (r = q ∨ Acc p T q r) := by
  have e : ∀ m y, rn p' T q m y ↔ rn p T q m y := fun m y => ⟨rn_mono (by rw [hf]; exact fun y h => h) (by rw [hn]; exact fun _ _ h => h), rn_mono (by rw [hf]; exact fun y h => h) (by rw [hn]; exact fun _ _ h => h)⟩
  unfold Acc
  rw [h1, hl]
  constructor
  · rintro (⟨h, _⟩ | ⟨m, y, h, g, k⟩)
    · exact .inl h
    · exact .inr (.inr ⟨m, y, h, (e m y).1 g, k⟩)
  · rintro (h | ⟨h, _⟩ | ⟨m, y, h, g, k⟩)
    · exact .inl ⟨h, rfl⟩
    · exact .inl ⟨h, rfl⟩
    · exact .inr ⟨m, y, h, (e m y).2 g, k⟩
theorem acc_set {T : Nat → Nat → Prop} (c q r : Nat) : Acc (setP c) T q r ↔ (r = q + 1 ∧ T (c + 1) q) := by
  constructor
  · rintro (⟨_, h⟩ | ⟨m, y, rfl, hr, hy⟩)
    · cases h
    · obtain rfl : y = c + 1 := by simpa [setP] using hy
      cases m with
      | zero => exact ⟨rfl, hr.2⟩
      | succ m => obtain ⟨x, _, g, _⟩ := hr; cases g
  · rintro ⟨rfl, h⟩
    exact .inr ⟨0, c + 1, rfl, ⟨by simp [setP], h⟩, by simp [setP]⟩

/-- The places from c on take the signs of these sets. -/
def Tk (ws : List Nat) (T : Nat → Nat → Prop) (c : Nat) (S : List Int) : Prop := ∀ j, (h : j < S.length) → ∀ i, T (c + 1 + j) i ↔ bitW ws S[j] i = true
theorem Tk.left {ws : List Nat} {T : Nat → Nat → Prop} {c : Nat} {A B : List Int} (h : Tk ws T c (A ++ B)) : Tk ws T c A := fun j hj i => by
  have := h j (by simp; omega) i
  rwa [List.getElem_append_left hj] at this
theorem Tk.right {ws : List Nat} {T : Nat → Nat → Prop} {c : Nat} {A B : List Int} (h : Tk ws T c (A ++ B)) : Tk ws T (c + A.length) B := fun j hj i => by
  have := h (A.length + j) (by simp; omega) i
  rw [List.getElem_append_right (by omega)] at this
  simp only [Nat.add_sub_cancel_left] at this
  rwa [show c + A.length + 1 + j = c + 1 + (A.length + j) by omega]
def AccN (ws : List Nat) (T : Nat → Nat → Prop) (n : Nd) : Prop := ∀ c, Tk ws T c (setsN n) → ∀ q r, Acc (prtN n c) T q r ↔ relN ws n q r
theorem accL_cat (ws : List Nat) (T : Nat → Nat → Prop) : ∀ (l : List Nd), (∀ x ∈ l, Gd x) → (∀ x ∈ l, AccN ws T x) → ∀ c W, Okp c W → Tk ws T W.upTo (setsL l) → ∀ q r, Acc (catL l W) T q r ↔ ∃ m, Acc W T q m ∧ relC ws l m r
  | [], _, _, c, W, h, _, q, r => by
    show Acc W T q r ↔ ∃ m, Acc W T q m ∧ r = m
    exact ⟨fun h => ⟨r, h, rfl⟩, fun ⟨m, h, e⟩ => e ▸ h⟩
  | x :: l, hg, ih, c, W, h, ht, q, r => by
    have hx := hg x (by simp) W.upTo
    rw [setsL] at ht
    rw [catL_cons, accL_cat ws T l (fun y hy => hg y (by simp [hy])) (fun y hy => ih y (by simp [hy])) c _ (okp_cat h hx.1) (by
      have := ht.right
      rw [← hx.2] at this
      exact this)]
    have ix := ih x (by simp) W.upTo ht.left
    constructor
    · rintro ⟨m, h1, h2⟩
      obtain ⟨a, h3, h4⟩ := (acc_cat h hx.1 q m).1 h1
      exact ⟨a, h3, m, (ix a m).1 h4, h2⟩
    · rintro ⟨a, h3, m, h4, h2⟩
      exact ⟨m, (acc_cat h hx.1 q m).2 ⟨a, h3, (ix a m).2 h4⟩, h2⟩
theorem accL_alt (ws : List Nat) (T : Nat → Nat → Prop) : ∀ (l : List Nd), (∀ x ∈ l, Gd x) → (∀ x ∈ l, AccN ws T x) → ∀ c W, Okp c W → Tk ws T W.upTo (setsL l) → ∀ q r, Acc (altL l W) T q r ↔ (Acc W T q r ∨ relA ws l q r)
  | [], _, _, c, W, h, _, q, r => by
    show Acc W T q r ↔ (Acc W T q r ∨ False)
    simp
  | x :: l, hg, ih, c, W, h, ht, q, r => by
    have hx := hg x (by simp) W.upTo
    rw [setsL] at ht
    rw [altL_cons, accL_alt ws T l (fun y hy => hg y (by simp [hy])) (fun y hy => ih y (by simp [hy])) c _ (okp_alt h hx.1) (by
      have := ht.right
      rw [← hx.2] at this
      exact this), acc_alt h hx.1, ih x (by simp) W.upTo ht.left q r, relA]
    exact or_assoc
theorem acc_all (ws : List Nat) (T : Nat → Nat → Prop) : ∀ n, rightN n = true → AccN ws T n :=
  Nd.ind fun k s l ih h c ht q r => by
    obtain ⟨hm, hl⟩ := right_kids h
    have ihl : ∀ x ∈ l, AccN ws T x := fun x hx => ih x hx (hl x hx)
    have ihg : ∀ x ∈ l, Gd x := fun x hx => gd_all x (hl x hx)
    rw [setsN_mk] at ht
    rw [prtN_mk, relN_mk]
    unfold relK
    by_cases h1 : k = 1
    · rw [if_pos h1] at ht
      subst h1
      rw [if_pos rfl, if_neg (by decide), if_pos rfl, acc_set]
      have := ht 0 (by simp) q
      unfold relS
      rw [show c + 1 + 0 = c + 1 by omega] at this
      rw [this]; rfl
    rw [if_neg h1] at ht ⊢
    by_cases h0 : k = 0
    · rw [if_pos h0, if_pos h0, accL_cat ws T l ihg ihl c _ (okp_cat0 c) ht]
      constructor
      · rintro ⟨m, (⟨rfl, _⟩ | ⟨_, y, _, _, g⟩), h2⟩
        · exact h2
        · cases g
      · intro h2; exact ⟨q, .inl ⟨rfl, rfl⟩, h2⟩
    rw [if_neg h0, if_neg h0, if_neg h1]
    by_cases h2 : k = 2
    · rw [if_pos h2, if_pos h2, accL_alt ws T l ihg ihl c _ (okp_alt0 c) ht]
      constructor
      · rintro ((⟨_, g⟩ | ⟨_, y, _, _, g⟩) | h2)
        · cases g
        · cases g
        · exact h2
      · exact fun h => .inr h
    rw [if_neg h2, if_neg h2]
    obtain ⟨hk, x, rfl⟩ := sgn_kid hm h0 h1 h2
    have hx := ihg x (by simp) c
    have es : setsL [x] = setsN x := by rw [setsL, setsL, List.append_nil]
    rw [es] at ht
    have ix : Acc (prtN x c) T = relN ws x := by funext a b; exact propext (ihl x (by simp) c ht a b)
    rw [hdL_cons]
    show _ ↔ (if k = 3 then r = q ∨ Pl (relN ws x) q r else if k = 4 then Pl (relN ws x) q r else if k = 5 then r = q ∨ relN ws x q r else False)
    rcases hk with rfl | rfl | rfl
    · rw [if_pos rfl, acc_null (p := sgnS 4 (prtN x c)) (p' := sgnS 3 (prtN x c)) rfl rfl rfl (by show ((prtN x c).null || decide ((3 : Int) ≠ 4)) = true; simp), acc_plus hx.1, ix]
    · rw [if_neg (by decide), if_pos rfl, acc_plus hx.1, ix]
    · rw [if_neg (by decide), if_neg (by decide), if_pos rfl, acc_null (p := prtN x c) (p' := sgnS 5 (prtN x c)) rfl rfl rfl (by show ((prtN x c).null || decide ((5 : Int) ≠ 4)) = true; simp), ix]
end Go.Proofs.YtehkaiohmcenbaaDoor
