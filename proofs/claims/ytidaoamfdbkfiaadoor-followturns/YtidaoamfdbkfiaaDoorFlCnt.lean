/-
  How many places begin, end, and follow: of an expression and of the turned one. Plain mathematics.
-/
import Derived.Test.YtidaoamfdbkfiaaDoorFlAut
import Derived.Test.YtidaoamfdbkfiaaDoorFlBackM
namespace Go.Proofs.YtidaoamfdbkfiaaDoor
open Go.RowKit
set_option linter.unusedVariables false
set_option linter.unusedSimpArgs false

/-- A sum. -/
def sm (f : Nat → Nat) : Nat → Nat
  | 0 => 0
  | k + 1 => sm f k + f k
theorem sm_congr {f g : Nat → Nat} : ∀ {k : Nat}, (∀ i, i < k → f i = g i) → sm f k = sm g k
  | 0, _ => rfl
  | k + 1, h => by rw [sm, sm, sm_congr (fun i hi => h i (by omega)), h k (by omega)]
theorem sm_add (f g : Nat → Nat) : ∀ k, sm (fun i => f i + g i) k = sm f k + sm g k
  | 0 => rfl
  | k + 1 => by rw [sm, sm, sm, sm_add f g k]; omega
theorem sm_mul (f : Nat → Nat) (c : Nat) : ∀ k, sm (fun i => f i * c) k = sm f k * c
  | 0 => by simp [sm]
  | k + 1 => by rw [sm, sm, sm_mul f c k, Nat.add_mul]
theorem sm_zero : ∀ k, sm (fun _ => 0) k = 0
  | 0 => rfl
  | k + 1 => by rw [sm, sm_zero k]
theorem sm_shift (f : Nat → Nat) : ∀ k, sm f (k + 1) = f 0 + sm (fun i => f (i + 1)) k
  | 0 => by simp [sm]
  | k + 1 => by rw [sm, sm_shift f k, sm]; omega
def c1 (M : Nat) (a : Nat → Bool) : Nat := sm (fun i => (a i).toNat) M
def c2 (M : Nat) (P : Nat → Nat → Bool) : Nat := sm (fun i => c1 M (P i)) M
theorem c1_len (f : Nat → Bool) : ∀ M, c1 M f = (rgF f M).length
  | 0 => rfl
  | M + 1 => by
    have := c1_len f M
    unfold c1 rgF at *
    rw [sm, this, List.range_succ, List.filter_append]
    cases h : f M <;> simp [h]
theorem c2_congr {M : Nat} {P Q : Nat → Nat → Bool} (h : ∀ i j, P i j = Q i j) : c2 M P = c2 M Q := by
  have : P = Q := by funext i j; exact h i j
  rw [this]
theorem c2_incl (M : Nat) (P Q : Nat → Nat → Bool) : c2 M (fun i j => P i j || Q i j) + c2 M (fun i j => P i j && Q i j) = c2 M P + c2 M Q := by
  unfold c2
  rw [← sm_add, ← sm_add]
  refine sm_congr fun i _ => ?_
  unfold c1
  rw [← sm_add, ← sm_add]
  refine sm_congr fun j _ => ?_
  show (P i j || Q i j).toNat + (P i j && Q i j).toNat = (P i j).toNat + (Q i j).toNat
  cases P i j <;> cases Q i j <;> rfl
theorem c2_false (M : Nat) : c2 M (fun _ _ => false) = 0 := by
  have h : c1 M (fun _ => false) = 0 := sm_zero M
  exact (sm_congr (f := fun _ => c1 M (fun _ => false)) (g := fun _ => 0) (fun i _ => h)).trans (sm_zero M)
theorem c2_or {M : Nat} {P Q : Nat → Nat → Bool} (h : ∀ i j, P i j = true → Q i j = true → False) : c2 M (fun i j => P i j || Q i j) = c2 M P + c2 M Q := by
  have e := c2_incl M P Q
  have e2 : c2 M (fun i j => P i j && Q i j) = 0 := by
    rw [c2_congr (Q := fun _ _ => false) (fun i j => ?_)]
    · exact c2_false M
    · cases h1 : P i j <;> cases h2 : Q i j <;> first | rfl | exact absurd (h i j h1 h2) id
  omega
theorem c2_prod (M : Nat) (a b : Nat → Bool) : c2 M (fun i j => a i && b j) = c1 M a * c1 M b := by
  unfold c2
  rw [show c1 M a * c1 M b = sm (fun i => (a i).toNat * c1 M b) M from (sm_mul _ _ _).symm]
  refine sm_congr fun i _ => ?_
  show sm (fun j => (a i && b j).toNat) M = (a i).toNat * sm (fun j => (b j).toNat) M
  cases h : a i
  · rw [sm_congr (g := fun _ => 0) (fun j _ => by simp), sm_zero]; simp
  · simp
theorem c2_if (M : Nat) (b : Bool) (P : Nat → Nat → Bool) : c2 M (fun i j => b && P i j) = if b then c2 M P else 0 := by
  cases b
  · simp; exact c2_false M
  · simp
theorem c1_list {M : Nat} {l : List Nat} (h : InR 0 M l) (hM : ∀ x ∈ l, x < M) : c1 M (fun i => l.contains i) = l.length := by
  rw [c1_len]
  have : rgF (fun i => l.contains i) M = l := by
    apply List.Perm.eq_of_pairwise (le := (· < ·))
    · intro a b _ _ h1 h2; omega
    · exact rgF_ris _ _
    · exact h.1
    · rw [List.perm_ext_iff_of_nodup]
      · intro a
        rw [rgF_mem]
        simp
        exact fun ha => hM a ha
      · exact (rgF_ris _ _).imp (fun h => by omega)
      · exact h.1.imp (fun h => by omega)
  rw [this]

/-- What is counted. -/
structure Nu where
  null : Bool
  f : Nat
  l : Nat
  r : Nat
  q : Nat
def seqU (A B : Nu) : Nu := ⟨A.null && B.null, A.f + (if A.null then B.f else 0), (if B.null then A.l else 0) + B.l, A.r + B.r + A.l * B.f, (if B.null then A.q else 0) + (if A.null then B.q else 0) + (if A.null && B.null then A.l * B.f else 0)⟩
def altU (A B : Nu) : Nu := ⟨A.null || B.null, A.f + B.f, A.l + B.l, A.r + B.r, A.q + B.q⟩
def plusU (A : Nu) : Nu := ⟨A.null, A.f, A.l, A.r + A.l * A.f - A.q, A.l * A.f⟩
def sgnU (k : Int) (A : Nu) : Nu := if k = 5 then { A with null := true } else { plusU A with null := A.null || decide (k ≠ 4) }
def oneU : Nu := ⟨true, 0, 0, 0, 0⟩
def zerU : Nu := ⟨false, 0, 0, 0, 0⟩
def catU : List Nu → Nu
  | [] => oneU
  | x :: l => seqU x (catU l)
def aluU : List Nu → Nu
  | [] => zerU
  | x :: l => altU x (aluU l)
def hdU : List Nu → Nu
  | [] => zerU
  | x :: _ => x
def nuK (k : Int) (l : List Nu) : Nu := if k = 1 then ⟨false, 1, 1, 0, 0⟩ else if k = 0 then catU l else if k = 2 then aluU l else sgnU k (hdU l)
def nuN : Nd → Nu
  | ⟨k, s, l⟩ => nuK k (l.map nuN)
theorem nuN_mk (k s : Int) (l : List Nd) : nuN ⟨k, s, l⟩ = nuK k (l.map nuN) := by rw [nuN]
theorem seq_assoc (A B C : Nu) : seqU (seqU A B) C = seqU A (seqU B C) := by
  obtain ⟨an, af, al, ar, aq⟩ := A
  obtain ⟨bn, bf, bl, br, bq⟩ := B
  obtain ⟨cn, cf, cl, cr, cq⟩ := C
  cases an <;> cases bn <;> cases cn <;> simp [seqU, Nat.add_mul, Nat.mul_add] <;> (try constructor) <;> omega
theorem seq_one (A : Nu) : seqU A oneU = A := by
  obtain ⟨an, af, al, ar, aq⟩ := A
  cases an <;> simp [seqU, oneU]
theorem one_seq (A : Nu) : seqU oneU A = A := by
  obtain ⟨an, af, al, ar, aq⟩ := A
  cases an <;> simp [seqU, oneU]
theorem catU_app : ∀ a b : List Nu, catU (a ++ b) = seqU (catU a) (catU b)
  | [], b => by rw [List.nil_append, catU, one_seq]
  | x :: a, b => by rw [List.cons_append, catU, catU, catU_app a b, seq_assoc]
/-- Begin and end exchanged. -/
def swp (A : Nu) : Nu := ⟨A.null, A.l, A.f, A.r, A.q⟩
theorem swp_seq (A B : Nu) : swp (seqU A B) = seqU (swp B) (swp A) := by
  obtain ⟨an, af, al, ar, aq⟩ := A
  obtain ⟨bn, bf, bl, br, bq⟩ := B
  cases an <;> cases bn <;> simp [seqU, swp, Nat.mul_comm] <;> (try constructor) <;> omega
theorem swp_alt (A B : Nu) : swp (altU A B) = altU (swp A) (swp B) := rfl
theorem swp_sgn (k : Int) (A : Nu) : swp (sgnU k A) = sgnU k (swp A) := by
  unfold sgnU
  split
  · rfl
  · simp [swp, plusU, Nat.mul_comm]
theorem swp_cat : ∀ l : List Nu, catU (l.map swp).reverse = swp (catU l)
  | [] => rfl
  | x :: l => by
    rw [List.map_cons, List.reverse_cons, catU_app, swp_cat l, show catU (x :: l) = seqU x (catU l) from rfl, swp_seq, show catU [swp x] = seqU (swp x) oneU from rfl, seq_one]
theorem swp_alu : ∀ l : List Nu, aluU (l.map swp) = swp (aluU l)
  | [] => rfl
  | x :: l => by rw [List.map_cons, aluU, swp_alu l, aluU, swp_alt]
theorem nu_turn : ∀ n, nuN (turnN n) = swp (nuN n) :=
  Nd.ind fun k s l ih => by
    have hm : (turnL l).map nuN = (l.map nuN).map swp := by
      rw [turnL_map, List.map_map, List.map_map]
      exact List.map_congr_left fun x hx => ih x hx
    rw [turnN_mk, nuN_mk, nuN_mk]
    unfold nuK
    by_cases h1 : k = 1
    · rw [if_pos h1, if_pos h1]; rfl
    rw [if_neg h1, if_neg h1]
    by_cases h0 : k = 0
    · rw [if_pos h0, if_pos h0, if_pos h0, List.map_reverse, hm, swp_cat]
    rw [if_neg h0, if_neg h0, if_neg h0]
    by_cases h2 : k = 2
    · rw [if_pos h2, if_pos h2, hm, swp_alu]
    rw [if_neg h2, if_neg h2, hm, swp_sgn]
    congr 1
    cases l <;> rfl

def qB (p : Prt) (i j : Nat) : Bool := fol p.notes i j && (p.last.contains i && p.first.contains j)
/-- The numbers are those of the part. -/
structure Cn (M : Nat) (p : Prt) (u : Nu) : Prop where
  null : p.null = u.null
  f : p.first.length = u.f
  l : p.last.length = u.l
  r : c2 M (fol p.notes) = u.r
  q : c2 M (qB p) = u.q
theorem cn_set (M c : Nat) : Cn M (setP c) ⟨false, 1, 1, 0, 0⟩ := ⟨rfl, rfl, rfl, c2_false M, (c2_congr (Q := fun _ _ => false) (fun i j => rfl)).trans (c2_false M)⟩
theorem cn_cat0 (M c : Nat) : Cn M (cat0 c) oneU := ⟨rfl, rfl, rfl, c2_false M, (c2_congr (Q := fun _ _ => false) (fun i j => rfl)).trans (c2_false M)⟩
theorem cn_alt0 (M c : Nat) : Cn M (alt0 c) zerU := ⟨rfl, rfl, rfl, c2_false M, (c2_congr (Q := fun _ _ => false) (fun i j => rfl)).trans (c2_false M)⟩
theorem inR_lt {M c u : Nat} {l : List Nat} (h : InR c u l) (hu : u < M) : c1 M (fun i => l.contains i) = l.length := c1_list (h.wide (Nat.zero_le _) (Nat.le_of_lt hu)) (fun x hx => by have := h.2 x hx; omega)
theorem cn_cat {M c : Nat} {W p : Prt} {A B : Nu} (h : Okp c W) (k : Okp W.upTo p) (hM : p.upTo < M) (hA : Cn M W A) (hB : Cn M p B) : Cn M (catS W p) (seqU A B) := by
  have hup := k.up
  have eP : c2 M (fun i j => W.last.contains i && p.first.contains j) = A.l * B.f := by
    rw [c2_prod, inR_lt h.last (by omega), inR_lt k.first hM, hA.l, hB.f]
  refine ⟨?_, ?_, ?_, ?_, ?_⟩
  · show (W.null && p.null) = _
    rw [hA.null, hB.null]; rfl
  · show (if W.null then W.first ++ p.first else W.first).length = A.f + (if A.null then B.f else 0)
    rw [← hA.null, ← hA.f, ← hB.f]
    cases W.null <;> simp
  · show (if p.null then W.last ++ p.last else p.last).length = (if B.null then A.l else 0) + B.l
    rw [← hB.null, ← hA.l, ← hB.l]
    cases p.null <;> simp
  · show _ = A.r + B.r + A.l * B.f
    rw [← hA.r, ← hB.r, ← eP, ← c2_or (P := fol W.notes) (Q := fol p.notes), ← c2_or]
    · refine c2_congr fun i j => ?_
      show fol (W.notes ++ (p.notes ++ [(W.last, p.first)])) i j = _
      rw [fol_app, fol_app, fol_one, Bool.or_assoc]
    · intro i j h1 h2
      simp at h2
      rw [Bool.or_eq_true] at h1
      have a1 := h.last.2 i h2.1
      have a2 := k.first.2 j h2.2
      rcases h1 with q | q
      · have := (h.fol q).2; omega
      · have := (k.fol q).1; omega
    · intro i j h1 h2
      have := (h.fol h1).1
      have := (k.fol h2).1
      omega
  · show _ = (if B.null then A.q else 0) + (if A.null then B.q else 0) + (if A.null && B.null then A.l * B.f else 0)
    rw [← hA.null, ← hB.null, ← hA.q, ← hB.q, ← eP, ← c2_if, ← c2_if, ← c2_if, ← c2_or, ← c2_or]
    · refine c2_congr fun i j => ?_
      rw [Bool.eq_iff_iff]
      unfold qB
      simp only [Bool.and_eq_true, Bool.or_eq_true, List.contains_iff_mem]
      rw [cat_fol, cat_last, cat_first]
      constructor
      · rintro ⟨hf, hl, hfi⟩
        rcases hf with q | q | ⟨q1, q2⟩
        · have r1 := h.fol q
          refine .inl (.inl ?_)
          rcases hl with ⟨l1, l2⟩ | l1
          · rcases hfi with f1 | ⟨_, f1⟩
            · exact ⟨l1, q, l2, f1⟩
            · have := k.first.2 j f1; omega
          · have := k.last.2 i l1; omega
        · have r1 := k.fol q
          refine .inl (.inr ?_)
          rcases hl with ⟨_, l1⟩ | l1
          · have := h.last.2 i l1; omega
          · rcases hfi with f1 | ⟨f0, f1⟩
            · have := h.first.2 j f1; omega
            · exact ⟨f0, q, l1, f1⟩
        · have a1 := h.last.2 i q1
          have a2 := k.first.2 j q2
          refine .inr ⟨⟨?_, ?_⟩, q1, q2⟩
          · rcases hfi with f1 | ⟨f0, _⟩
            · have := h.first.2 j f1; omega
            · exact f0
          · rcases hl with ⟨l0, _⟩ | l1
            · exact l0
            · have := k.last.2 i l1; omega
      · rintro ((⟨pn, q, l1, f1⟩ | ⟨wn, q, l1, f1⟩) | ⟨⟨wn, pn⟩, q1, q2⟩)
        · exact ⟨.inl q, .inl ⟨pn, l1⟩, .inl f1⟩
        · exact ⟨.inr (.inl q), .inr l1, .inr ⟨wn, f1⟩⟩
        · exact ⟨.inr (.inr ⟨q1, q2⟩), .inl ⟨pn, q1⟩, .inr ⟨wn, q2⟩⟩
    · intro i j h1 h2
      unfold qB at h1
      simp only [Bool.and_eq_true, Bool.or_eq_true, List.contains_iff_mem] at h1 h2
      have a1 := h.last.2 i h2.2.1
      have a2 := k.first.2 j h2.2.2
      rcases h1 with ⟨_, q, _⟩ | ⟨_, q, _⟩
      · have := (h.fol q).2; omega
      · have := (k.fol q).1; omega
    · intro i j h1 h2
      unfold qB at h1 h2
      simp only [Bool.and_eq_true] at h1 h2
      have := (h.fol h1.2.1).1
      have := (k.fol h2.2.1).1
      omega
theorem cn_alt {M c : Nat} {W p : Prt} {A B : Nu} (h : Okp c W) (k : Okp W.upTo p) (hA : Cn M W A) (hB : Cn M p B) : Cn M (altS W p) (altU A B) := by
  refine ⟨?_, ?_, ?_, ?_, ?_⟩
  · show (W.null || p.null) = _
    rw [hA.null, hB.null]; rfl
  · show (W.first ++ p.first).length = A.f + B.f
    rw [List.length_append, hA.f, hB.f]
  · show (W.last ++ p.last).length = A.l + B.l
    rw [List.length_append, hA.l, hB.l]
  · show _ = A.r + B.r
    rw [← hA.r, ← hB.r, ← c2_or]
    · refine c2_congr fun i j => ?_
      show fol (W.notes ++ p.notes) i j = _
      rw [fol_app]
    · intro i j h1 h2
      have := (h.fol h1).1
      have := (k.fol h2).1
      omega
  · show _ = A.q + B.q
    rw [← hA.q, ← hB.q, ← c2_or]
    · refine c2_congr fun i j => ?_
      rw [Bool.eq_iff_iff]
      unfold qB
      simp only [Bool.and_eq_true, Bool.or_eq_true, List.contains_iff_mem]
      rw [alt_fol]
      have hl : i ∈ (altS W p).last ↔ (i ∈ W.last ∨ i ∈ p.last) := by show i ∈ W.last ++ p.last ↔ _; simp
      have hf : j ∈ (altS W p).first ↔ (j ∈ W.first ∨ j ∈ p.first) := by show j ∈ W.first ++ p.first ↔ _; simp
      rw [hl, hf]
      constructor
      · rintro ⟨q | q, l1, f1⟩
        · have r1 := h.fol q
          refine .inl ⟨q, ?_, ?_⟩
          · rcases l1 with l1 | l1
            · exact l1
            · have := k.last.2 i l1; omega
          · rcases f1 with f1 | f1
            · exact f1
            · have := k.first.2 j f1; omega
        · have r1 := k.fol q
          refine .inr ⟨q, ?_, ?_⟩
          · rcases l1 with l1 | l1
            · have := h.last.2 i l1; omega
            · exact l1
          · rcases f1 with f1 | f1
            · have := h.first.2 j f1; omega
            · exact f1
      · rintro (⟨q, l1, f1⟩ | ⟨q, l1, f1⟩)
        · exact ⟨.inl q, .inl l1, .inl f1⟩
        · exact ⟨.inr q, .inr l1, .inr f1⟩
    · intro i j h1 h2
      unfold qB at h1 h2
      simp only [Bool.and_eq_true] at h1 h2
      have := (h.fol h1.1).1
      have := (k.fol h2.1).1
      omega
theorem cn_sgn {M c : Nat} {p : Prt} {A : Nu} (k : Int) (h : Okp c p) (hM : p.upTo < M) (hA : Cn M p A) : Cn M (sgnS k p) (sgnU k A) := by
  unfold sgnU
  by_cases h5 : k = 5
  · subst h5
    rw [if_pos rfl]
    refine ⟨by simp [sgnS], hA.f, hA.l, ?_, ?_⟩
    · rw [← hA.r]; simp [sgnS]
    · show _ = A.q
      rw [← hA.q]; refine c2_congr fun i j => ?_
      simp [qB, sgnS]
  · rw [if_neg h5]
    have eP : c2 M (fun i j => p.last.contains i && p.first.contains j) = A.l * A.f := by
      rw [c2_prod, inR_lt h.last hM, inR_lt h.first hM, hA.l, hA.f]
    have eF : ∀ i j, fol (sgnS k p).notes i j = (fol p.notes i j || (p.last.contains i && p.first.contains j)) := fun i j => by
      rw [Bool.eq_iff_iff, sgn_fol h5]; simp
    refine ⟨?_, hA.f, hA.l, ?_, ?_⟩
    · show (p.null || decide (k ≠ 4)) = _
      rw [hA.null]
    · show _ = A.r + A.l * A.f - A.q
      have e := c2_incl M (fol p.notes) (fun i j => p.last.contains i && p.first.contains j)
      have e2 : c2 M (fun i j => fol p.notes i j && (p.last.contains i && p.first.contains j)) = A.q := hA.q
      rw [eP, hA.r, e2] at e
      rw [c2_congr eF]
      omega
    · show _ = A.l * A.f
      rw [← eP]
      refine c2_congr fun i j => ?_
      unfold qB
      rw [eF]
      have e1 : (sgnS k p).last = p.last := rfl
      have e2 : (sgnS k p).first = p.first := rfl
      rw [e1, e2]
      cases fol p.notes i j <;> cases p.last.contains i <;> cases p.first.contains j <;> rfl
def CnN (M : Nat) (n : Nd) : Prop := ∀ c, c + (setsN n).length < M → Cn M (prtN n c) (nuN n)
theorem cnL_cat {M : Nat} : ∀ (l : List Nd), (∀ x ∈ l, Gd x) → (∀ x ∈ l, CnN M x) → ∀ c W A, Okp c W → W.upTo + (setsL l).length < M → Cn M W A → Cn M (catL l W) (seqU A (catU (l.map nuN)))
  | [], _, _, c, W, A, h, _, hA => by
    show Cn M W (seqU A oneU)
    rw [seq_one]; exact hA
  | x :: l, hg, ih, c, W, A, h, hM, hA => by
    have hx := hg x (by simp) W.upTo
    rw [setsL, List.length_append] at hM
    have hc := cn_cat h hx.1 (by rw [hx.2]; omega) hA (ih x (by simp) W.upTo (by omega))
    have := cnL_cat l (fun y hy => hg y (by simp [hy])) (fun y hy => ih y (by simp [hy])) c _ _ (okp_cat h hx.1) (by
      show (prtN x W.upTo).upTo + _ < M
      rw [hx.2]; omega) hc
    rw [catL_cons, List.map_cons, catU, ← seq_assoc]
    exact this
theorem alt_assoc (A B C : Nu) : altU (altU A B) C = altU A (altU B C) := by
  obtain ⟨an, af, al, ar, aq⟩ := A
  obtain ⟨bn, bf, bl, br, bq⟩ := B
  obtain ⟨cn, cf, cl, cr, cq⟩ := C
  simp [altU, Nat.add_assoc, Bool.or_assoc]
theorem alt_zer (A : Nu) : altU A zerU = A := by
  obtain ⟨an, af, al, ar, aq⟩ := A
  simp [altU, zerU]
theorem cnL_alt {M : Nat} : ∀ (l : List Nd), (∀ x ∈ l, Gd x) → (∀ x ∈ l, CnN M x) → ∀ c W A, Okp c W → W.upTo + (setsL l).length < M → Cn M W A → Cn M (altL l W) (altU A (aluU (l.map nuN)))
  | [], _, _, c, W, A, h, _, hA => by
    show Cn M W (altU A zerU)
    rw [alt_zer]; exact hA
  | x :: l, hg, ih, c, W, A, h, hM, hA => by
    have hx := hg x (by simp) W.upTo
    rw [setsL, List.length_append] at hM
    have hc := cn_alt h hx.1 hA (ih x (by simp) W.upTo (by omega))
    have := cnL_alt l (fun y hy => hg y (by simp [hy])) (fun y hy => ih y (by simp [hy])) c _ _ (okp_alt h hx.1) (by
      show (prtN x W.upTo).upTo + _ < M
      rw [hx.2]; omega) hc
    rw [altL_cons, List.map_cons, aluU, ← alt_assoc]
    exact this
theorem zer_alt (A : Nu) : altU zerU A = A := by
  obtain ⟨an, af, al, ar, aq⟩ := A
  simp [altU, zerU]
theorem cn_all (M : Nat) : ∀ n, rightN n = true → CnN M n :=
  Nd.ind fun k s l ih h c hM => by
    obtain ⟨hm, hl⟩ := right_kids h
    have ihl : ∀ x ∈ l, CnN M x := fun x hx => ih x hx (hl x hx)
    have ihg : ∀ x ∈ l, Gd x := fun x hx => gd_all x (hl x hx)
    rw [setsN_mk] at hM
    rw [prtN_mk, nuN_mk]
    unfold nuK
    by_cases h1 : k = 1
    · rw [if_pos h1, if_pos h1]; exact cn_set M c
    rw [if_neg h1] at hM
    rw [if_neg h1, if_neg h1]
    by_cases h0 : k = 0
    · rw [if_pos h0, if_pos h0]
      have := cnL_cat l ihg ihl c _ _ (okp_cat0 c) hM (cn_cat0 M c)
      rw [one_seq] at this
      exact this
    rw [if_neg h0, if_neg h0]
    by_cases h2 : k = 2
    · rw [if_pos h2, if_pos h2]
      have := cnL_alt l ihg ihl c _ _ (okp_alt0 c) hM (cn_alt0 M c)
      rw [zer_alt] at this
      exact this
    rw [if_neg h2, if_neg h2]
    obtain ⟨_, x, rfl⟩ := sgn_kid hm h0 h1 h2
    have es : setsL [x] = setsN x := by rw [setsL, setsL, List.append_nil]
    rw [es] at hM
    have hx := ihg x (by simp) c
    rw [hdL_cons]
    exact cn_sgn k hx.1 (by rw [hx.2]; exact hM) (ihl x (by simp) c hM)
/-- How many follow, in all. -/
def sumF (n : Nd) (i : Nat) : Nat := (((folN n).take i).map List.length).sum
theorem folN_len (n : Nd) : (folN n).length = (setsN n).length := by simp [folN]
theorem sumF_all {n : Nd} (h : rightN n = true) : sumF n (setsN n).length = (nuN n).r := by
  have hc := cn_all ((setsN n).length + 1) n h 0 (by omega)
  have hg := gd_all n h 0
  rw [← hc.r]
  unfold sumF
  rw [List.take_of_length_le (by rw [folN_len]; exact Nat.le_refl _)]
  unfold c2
  rw [sm_shift]
  have h0 : c1 ((setsN n).length + 1) (fol (prtN n 0).notes 0) = 0 := by
    unfold c1
    rw [sm_congr (g := fun _ => 0) (fun j _ => ?_)]
    · exact sm_zero _
    · cases q : fol (prtN n 0).notes 0 j with
      | false => rfl
      | true => have := (hg.1.fol q).1; omega
  rw [h0, Nat.zero_add]
  unfold folN
  rw [List.map_map]
  have key : ∀ k, (((List.range k).map (List.length ∘ fun i => rgF (fol (prtN n 0).notes (i + 1)) ((setsN n).length + 1)))).sum = sm (fun i => c1 ((setsN n).length + 1) (fol (prtN n 0).notes (i + 1))) k := fun k => by
    induction k with
    | zero => rfl
    | succ k ih =>
      rw [List.range_succ, List.map_append, List.sum_append, ih, sm]
      simp [c1_len]
  exact key _
theorem sets_turn : ∀ n, (setsN (turnN n)).length = (setsN n).length :=
  Nd.ind fun k s l ih => by
    rw [turnN_mk, setsN_mk, setsN_mk]
    by_cases h1 : k = 1
    · rw [if_pos h1, if_pos h1]
    rw [if_neg h1, if_neg h1]
    have len : ∀ a : List Nd, (setsL a).length = (a.map fun x => (setsN x).length).sum := fun a => by
      induction a with
      | nil => rfl
      | cons x a ih => rw [setsL, List.length_append, List.map_cons, List.sum_cons, ih]
    have hm : ((turnL l).map fun x => (setsN x).length) = l.map fun x => (setsN x).length := by
      rw [turnL_map, List.map_map]
      exact List.map_congr_left fun x hx => ih x hx
    rw [len, len]
    by_cases h0 : k = 0
    · rw [if_pos h0, List.map_reverse, List.sum_reverse, hm]
    · rw [if_neg h0, hm]
theorem err_turn (n : Nd) : errF (turnN n) = errF n := by unfold errF; rw [right_turn, sets_turn]
/-- The two automata hold as much. -/
theorem turn_counts {n : Nd} (h : errF n = 0) : (autF (turnN n)).null = (autF n).null ∧ (autF (turnN n)).sets.length = (autF n).sets.length ∧ (autF (turnN n)).first.length = (autF n).last.length ∧ (autF (turnN n)).last.length = (autF n).first.length ∧ sumF (turnN n) (setsN n).length = sumF n (setsN n).length := by
  have hr : rightN n = true := by
    cases q : rightN n with
    | true => rfl
    | false => rw [errF_bad q] at h; cases h
  have hr2 : rightN (turnN n) = true := by rw [right_turn]; exact hr
  have e1 : autF n = autN n := by unfold autF; rw [if_pos h]
  have e2 : autF (turnN n) = autN (turnN n) := by unfold autF; rw [err_turn, if_pos h]
  have a := cn_all ((setsN n).length + 1) n hr 0 (by omega)
  have b := cn_all ((setsN n).length + 1) (turnN n) hr2 0 (by rw [sets_turn]; omega)
  rw [nu_turn] at b
  have s1 := sumF_all hr
  have s2 := sumF_all hr2
  rw [sets_turn, nu_turn] at s2
  rw [e1, e2]
  refine ⟨?_, sets_turn n, ?_, ?_, by rw [s1, s2]; rfl⟩
  · show (prtN (turnN n) 0).null = (prtN n 0).null
    rw [a.null, b.null]; rfl
  · show (prtN (turnN n) 0).first.length = (prtN n 0).last.length
    rw [a.l, b.f]; rfl
  · show (prtN (turnN n) 0).last.length = (prtN n 0).first.length
    rw [a.f, b.l]; rfl
end Go.Proofs.YtidaoamfdbkfiaaDoor
