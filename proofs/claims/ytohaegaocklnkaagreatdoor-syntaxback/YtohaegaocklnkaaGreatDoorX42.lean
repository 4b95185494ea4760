/-
  Plain mathematics: a program that may be, printed and parsed, is that program. The document's conditions on a program are those that are told at once. Plain mathematics. What open and met of the document answer.
-/
import Derived.Test.YtohaegaocklnkaaGreatDoorX41
import Derived.Test.YtohaegaocklnkaaGreatDoorX32
import Derived.Test.YtohaegaocklnkaaGreatDoorX31
namespace Go.Proofs.YtohaegaocklnkaaGreatDoor
open Go.RowKit Go.Shelf S1
set_option linter.unusedVariables false

variable {st : Sts}
theorem reg0_sign {c : Int} (h : c = 47 ∨ c = 59) : Reg0 (sgK c) := by
  rcases h with rfl | rfl <;> exact ⟨⟨by decide, by decide⟩, by decide⟩
theorem endN_eat (N : Nms) {b : Nat} {K : List Tok} {s s' : Sts} {x : Nd} (h : Eat Reg0 (regexM N b) K s x s') {c : Int} (hc : c = 47 ∨ c = 59) :
    ∀ ts R, ts.map shT = K ++ (sgK c :: R) → ∃ r, r.map shT = R ∧ endN c (regexM N b ts s) = .inr (x, r, s') := by
  intro ts R he
  obtain ⟨r, hr, e⟩ := h ts _ he (reg0_sign hc)
  obtain ⟨u, r2, rfl, hu, hr2⟩ := sh_cons hr
  refine ⟨r2, hr2, ?_⟩
  have h1 : tkSign c u = true := (sign_sh (u := sgK c) (by rw [hu]; rfl)).trans (by simp [tkSign])
  rw [e]
  show (if tkSign c u = true then _ else _) = _
  rw [if_pos h1]
  rfl
theorem back_rule (N : Nms) (ha : Apart st) (h60 : st.length ≤ 60) {x : Rl} (hd : Dp 60 x.l.kids ∧ Dp 60 x.r.kids) {m m1 m2 : Nat} (h1 : mayN 60 0 0 m x.l = some m1) (h2 : mayN 60 0 0 m1 x.r = some m2) (hl : m2 ≤ st.length) :
    ∀ ts R, ts.map shT = rlK st x ++ R → ∃ r, r.map shT = R ∧ tkRule (hdT ts) = true ∧ tkWord wSet (hdT ts) = false ∧ (hdT ts).k ≠ 4 ∧ ruleM N ts (st.take m) = .inr (x, r, st.take m2) := by
  intro ts R he
  have ho : ∀ {n : Nd} {a b : Nat}, mayN 60 0 0 a n = some b → okN 60 0 0 n = true ∧ metN 60 a n = some b := fun {n a b} h => by
    unfold mayN at h
    split at h
    · rename_i q; exact ⟨q, h⟩
    · cases h
  obtain ⟨o1, e1⟩ := ho h1
  obtain ⟨o2, e2⟩ := ho h2
  have hle := metN_ge e2
  have hL := (back_node N ha h60 60 x.l 0 0 m m1 o1 (by omega) (by omega) hd.1 e1 (by omega)).2.2
  have hR := (back_node N ha h60 60 x.r 0 0 m1 m2 o2 (by omega) (by omega) hd.2 e2 hl).2.2
  have he' : ts.map shT = ⟨1, 0, if x.b = true then wBreak else wKeep, []⟩ :: (tkN 60 st x.l ++ (sgK 47 :: (tkN 60 st x.r ++ (sgK 59 :: R)))) := by
    rw [he]; simp [rlK, kwK]
  obtain ⟨u, t1, rfl, hu, ht1⟩ := sh_cons he'
  obtain ⟨r1, hr1, q1⟩ := endN_eat N hL (c := 47) (.inl rfl) t1 _ ht1
  obtain ⟨r2, hr2, q2⟩ := endN_eat N hR (c := 59) (.inr rfl) r1 _ hr1
  have hk : u.k = 1 := congrArg Tok.k hu
  have ht : u.t = if x.b = true then wBreak else wKeep := congrArg Tok.t hu
  refine ⟨r2, hr2, ?_, ?_, ?_, ?_⟩
  · show tkRule u = true
    unfold tkRule tkWord
    rw [hk, ht]
    cases x.b <;> decide
  · show tkWord wSet u = false
    unfold tkWord
    rw [hk, ht]
    cases x.b <;> decide
  · show u.k ≠ 4
    rw [hk]; decide
  · have hb : tkWord wBreak u = x.b := by
      unfold tkWord
      rw [hk, ht]
      cases x.b <;> decide
    unfold ruleM
    show (match endN 47 (regexM N 20 t1 (st.take m)) with | .inl e => _ | .inr (l, r, st1) => _) = _
    rw [q1]
    simp only
    rw [q2]
    simp only
    rw [show hdT (u :: t1) = u from rfl, hb]
theorem mayR_ge : ∀ {rl : List Rl} {m m' : Nat}, mayR m rl = some m' → m ≤ m'
  | [], m, m', h => by obtain rfl : m = m' := Option.some.inj h; exact Nat.le_refl _
  | x :: rl, m, m', h => by
    have ho : ∀ {n : Nd} {a b : Nat}, mayN 60 0 0 a n = some b → a ≤ b := fun {n a b} h => by
      unfold mayN at h
      split at h
      · exact metN_ge h
      · cases h
    unfold mayR at h
    split at h
    · cases h
    · rename_i a e
      split at h
      · cases h
      · rename_i b e2
        have := ho e
        have := ho e2
        have := mayR_ge h
        omega
theorem back_text (N : Nms) (ha : Apart st) (h60 : st.length ≤ 60) : ∀ {rl : List Rl} {m m' : Nat} {acc : List Rl} {f : Nat} {ts : List Tok} {e : Tok}, (∀ x ∈ rl, Dp 60 x.l.kids ∧ Dp 60 x.r.kids) → mayR m rl = some m' → m' ≤ st.length → acc.length + rl.length ≤ 64 → rl.length < f → e.k = 4 → ts.map shT = progK st rl ++ [e] →
    textF f N acc ts (st.take m) = .inr (acc ++ rl, st.take m')
  | [], m, m', acc, f, ts, e, _, h, _, _, hf, he, hts => by
    obtain rfl : m = m' := Option.some.inj h
    obtain ⟨g, rfl⟩ : ∃ g, f = g + 1 := ⟨f - 1, by simp at hf; omega⟩
    obtain ⟨u, r, rfl, hu, _⟩ := sh_cons hts
    have hk : u.k = 4 := (congrArg Tok.k hu).trans he
    unfold textF
    rw [if_pos (show (hdT (u :: r)).k = 4 from hk), List.append_nil]
  | x :: rl, m, m', acc, f, ts, e, hd, h, hl, hlen, hf, he, hts => by
    obtain ⟨g, rfl⟩ : ∃ g, f = g + 1 := ⟨f - 1, by simp at hf; omega⟩
    unfold mayR at h
    split at h
    · cases h
    · rename_i a e1
      split at h
      · cases h
      · rename_i b e2
        have hge := mayR_ge h
        have hts' : ts.map shT = rlK st x ++ (progK st rl ++ [e]) := by rw [hts]; simp [progK]
        obtain ⟨r, hr, q1, q2, q3, q4⟩ := back_rule N ha h60 (hd x (by simp)) e1 e2 (by omega) ts _ hts'
        simp only [List.length_cons] at hlen hf
        have := back_text N ha h60 (acc := acc ++ [x]) (f := g) (fun y hy => hd y (by simp [hy])) h hl (by simp; omega) (by omega) he hr
        unfold textF
        rw [if_neg q3, if_neg (by rw [q2]; decide), if_neg (by rw [q1]; decide), if_neg (by omega), q4]
        simp only
        rw [this, List.append_assoc]
        rfl
theorem can_prog (hS : ∀ s ∈ st, mkS s = s) : ∀ {rl : List Rl}, (∀ x ∈ rl, SIn 60 st.length x.l ∧ SIn 60 st.length x.r) → (progK st rl).map canT = progK st rl := by
  have hsg : ∀ k, (signTk k).map canT = signTk k := fun k => by
    unfold signTk
    split
    · rfl
    · split
      · rfl
      · split <;> rfl
  have hhd : ∀ {n : Nd}, (n.k = 1 → 0 ≤ n.s ∧ n.s < (st.length : Int)) → (headK st n).map canT = headK st n := fun {n} h => by
    unfold headK
    split
    · rename_i q
      obtain ⟨h0, h1⟩ := h q
      have hl : n.s.toNat < st.length := by omega
      have e2 : st.getD n.s.toNat [] = st[n.s.toNat] := by simp [List.getD, hl]
      rw [e2]
      simp only [List.map_cons, List.map_nil, canT, hS _ (List.getElem_mem hl)]
    · rfl
  have hK : ∀ {g : Nd → List Tok} {k : Int} {l : List Nd} {fst : Bool}, (∀ x ∈ l, (g x).map canT = g x) → (tkK g k fst l).map canT = tkK g k fst l := fun {g k l fst} h => by
    induction l generalizing fst with
    | nil => rfl
    | cons x l ih =>
      have h1 : (barK fst k).map canT = barK fst k := by unfold barK; split <;> rfl
      have h2 : (brK (inBr x.k k) (g x)).map canT = brK (inBr x.k k) (g x) := by
        unfold brK
        split
        · simp only [List.map_cons, List.map_append, h x (by simp)]; rfl
        · exact h x (by simp)
      unfold tkK
      rw [List.map_append, List.map_append, h1, h2, ih fun y hy => h y (by simp [hy])]
  have hN : ∀ {f : Nat} {n : Nd}, SIn f st.length n → (tkN f st n).map canT = tkN f st n := fun {f} => by
    induction f with
    | zero => intro n h; unfold tkN; rw [List.map_append, hhd h.here, hsg]
    | succ f ih => intro n h; unfold tkN; rw [List.map_append, List.map_append, hhd h.here, hsg, hK fun x hx => ih (h.2 x hx)]
  intro rl h
  induction rl with
  | nil => rfl
  | cons x rl ih =>
    have hx := h x (by simp)
    have e1 : (rlK st x).map canT = rlK st x := by
      unfold rlK kwK
      simp only [List.map_append, List.map_cons, List.map_nil, hN hx.1, hN hx.2]
      rfl
    show (rlK st x ++ progK st rl).map canT = rlK st x ++ progK st rl
    rw [List.map_append, e1, ih fun y hy => h y (by simp [hy])]
theorem setsF_parts : ∀ {k : Nat}, setsF k st = true → k ≤ st.length → (∀ i, (hi : i < k) → (h : i < st.length) → isSetB st[i] = true) ∧ ∀ i j, (hij : i < j) → (hj : j < k) → (h : j < st.length) → st[i]'(Nat.lt_trans hij h) ≠ st[j]
  | 0, _, _ => ⟨fun i hi => by omega, fun i j _ hj => by omega⟩
  | k + 1, h, hk => by
    unfold setsF at h
    have hkl : k < st.length := by omega
    rw [Bool.and_eq_true, List.getElem?_eq_getElem hkl] at h
    simp only [Bool.and_eq_true] at h
    obtain ⟨h1, h2, h3⟩ := h
    obtain ⟨p1, p2⟩ := setsF_parts h1 (by omega)
    refine ⟨fun i hi hl => ?_, fun i j hij hj hl => ?_⟩
    · by_cases q : i = k
      · subst q; exact h2
      · exact p1 i (by omega) hl
    · by_cases q : j = k
      · subst q
        intro e
        have : (st.take j).any (fun x => sameS x st[j]) = true := List.any_eq_true.2 ⟨st[i], List.mem_take_iff_getElem.2 ⟨i, by omega, rfl⟩, sameS_iff.2 e⟩
        rw [this] at h3
        cases h3
      · exact p2 i j hij (by omega) hl
theorem back_parse {rl : List Rl} (hr : rightB st rl = true) (hd : ∀ x ∈ rl, Dp 60 x.l.kids ∧ Dp 60 x.r.kids) (n : Nat) : parseL (toksL n (ascU 0 (progT (st.map setL) rl))) = .inr (rl, st) := by
  obtain ⟨p1, p2, hsets, hmay⟩ := rightB_parts hr
  have hset : setsF st.length st = true := by
    unfold rightB at hr
    simp only [Bool.and_eq_true] at hr
    exact hr.1.2
  obtain ⟨s1, s2⟩ := setsF_parts hset (Nat.le_refl _)
  have ha : Apart st := fun i j hi hj e => by
    rcases Nat.lt_trichotomy i j with q | q | q
    · exact absurd e (s2 i j q hj hj)
    · exact q
    · exact absurd e.symm (s2 j i q hi hi)
  have hS : ∀ s ∈ st, mkS s = s := fun s hs => by
    have := hsets s hs
    unfold isSetB at this
    rw [Bool.and_eq_true] at this
    exact sameS_iff.1 this.2
  have hSI := (mayR_in hd hmay).1
  obtain ⟨ts, e, h⟩ := (lx_prog (st := st) (fun s hs => isSetB_fits (hsets s hs)) hSI).all n
  rw [h]
  have hts : ((ts ++ [(⟨4, n, [], []⟩ : Tok)]).map canT).map shT = progK st rl ++ [⟨4, 0, [], mkS []⟩] := by
    rw [List.map_append, List.map_append, List.map_map]
    have : shT ∘ canT = canT ∘ shT := rfl
    rw [this, ← List.map_map, e, can_prog hS hSI]
    rfl
  have hlen : rl.length ≤ ts.length := by
    have h1 : ts.length = (progK st rl).length := by rw [← e, List.length_map]
    rw [h1]
    clear h hts hSI hmay hr e h1 p2
    induction rl with
    | nil => exact Nat.le_refl _
    | cons x rl ih =>
      have := ih fun y hy => hd y (by simp [hy])
      show _ ≤ (rlK st x ++ progK st rl).length
      have h2 : 1 ≤ (rlK st x).length := by unfold rlK kwK; simp
      simp only [List.length_cons, List.length_append]; omega
  have := back_text (st := st) (fun _ => none) ha p1 (acc := []) (f := (ts ++ [(⟨4, n, [], []⟩ : Tok)]).length + 1) hd hmay (Nat.le_refl _) (by simpa using p2) (by simp; omega) rfl hts
  rw [List.take_zero, List.take_length, List.nil_append] at this
  show (match textF _ _ [] _ [] with | .inl (r, e) => _ | .inr x => _) = _
  rw [this]
end Go.Proofs.YtohaegaocklnkaaGreatDoor

namespace Go.Proofs.YtohaegaocklnkaaGreatDoor
open Go.RowKit Go.Shelf S1
set_option linter.unusedVariables false

/-- A set's place is one of the first b. -/
def inS (b : Nat) (s : Int) : Bool := decide (0 ≤ s) && decide (s < (b : Int))
/-- The document's form. -/
def frN : Nat → Nat → Nat → Nat → Nd → Bool
  | 0, dp, sg, b, n => if n.k = 1 then n.kids.isEmpty && inS b n.s else okH sg n
  | f + 1, dp, sg, b, n => if n.k = 1 then n.kids.isEmpty && inS b n.s else okH sg n && n.kids.all fun x => decide (dp + brN x.k n.k ≤ 20) && frN f (dp + brN x.k n.k) (sgs sg n.k) b x
/-- The document's met. -/
def rmS (a s : Int) : Int := if a < s then -1 else if a < s + 1 then s + 1 else a
def rmL (g : Int → Nd → Int) : Int → List Nd → Int
  | a, [] => a
  | a, x :: l => if a < 0 then a else rmL g (g a x) l
def rmN : Nat → Int → Nd → Int
  | 0, a, n => if n.k = 1 then rmS a n.s else a
  | f + 1, a, n => if n.k = 1 then rmS a n.s else rmL (rmN f) a n.kids
def sinB : Nat → Nat → Nd → Bool
  | 0, b, n => if n.k = 1 then inS b n.s else true
  | f + 1, b, n => if n.k = 1 then inS b n.s else n.kids.all (sinB f b)
def oI (o : Option Nat) : Int := match o with
  | none => -1
  | some m => (m : Int)
theorem rmS_eq {m : Nat} {s : Int} (h : 0 ≤ s) : rmS (m : Int) s = oI (meetS m s) := by
  unfold rmS meetS
  by_cases h1 : (m : Int) < s
  · rw [if_pos h1, if_neg (by omega), if_neg (by omega)]; rfl
  · rw [if_neg h1]
    by_cases h2 : s = (m : Int)
    · rw [if_pos (by omega), if_pos h2, h2]; simp [oI]
    · rw [if_neg (by omega), if_neg h2, if_pos (by omega)]; rfl
theorem inS_iff {b : Nat} {s : Int} : inS b s = true ↔ 0 ≤ s ∧ s < (b : Int) := by simp [inS]
theorem frN_eq : ∀ (f dp sg b : Nat) (n : Nd), Dp f n.kids → frN f dp sg b n = (okN f dp sg n && sinB f b n)
  | 0, dp, sg, b, n, hd => by
    unfold frN okN sinB
    by_cases h : n.k = 1
    · simp [h]
    · simp [h]
  | f + 1, dp, sg, b, n, hd => by
    unfold frN okN sinB
    by_cases h : n.k = 1
    · simp [h]
    · simp only [h, if_false]
      have key : ∀ l : List Nd, (∀ x ∈ l, Dp f x.kids) → (l.all fun x => decide (dp + brN x.k n.k ≤ 20) && frN f (dp + brN x.k n.k) (sgs sg n.k) b x) = ((l.all fun x => decide (dp + brN x.k n.k ≤ 20) && okN f (dp + brN x.k n.k) (sgs sg n.k) x) && l.all (sinB f b)) := by
        intro l
        induction l with
        | nil => intro _; rfl
        | cons x l ih =>
          intro hl
          simp only [List.all_cons]
          rw [ih (fun y hy => hl y (by simp [hy])), frN_eq f _ _ b x (hl x (by simp))]
          cases decide (dp + brN x.k n.k ≤ 20) <;> cases okN f (dp + brN x.k n.k) (sgs sg n.k) x <;> cases sinB f b x <;> simp
      rw [key _ hd.2, Bool.and_assoc]
theorem rmL_neg {g : Int → Nd → Int} {a : Int} (h : a < 0) : ∀ (l : List Nd), rmL g a l = a
  | [] => rfl
  | x :: l => by unfold rmL; rw [if_pos h]
theorem rmN_eq : ∀ (f m b : Nat) (n : Nd), sinB f b n = true → rmN f (m : Int) n = oI (metN f m n)
  | 0, m, b, n, hs => by
    unfold rmN metN
    unfold sinB at hs
    by_cases h : n.k = 1
    · simp only [h, if_true] at hs ⊢
      exact rmS_eq (inS_iff.1 hs).1
    · simp only [h, if_false]; rfl
  | f + 1, m, b, n, hs => by
    unfold rmN metN
    unfold sinB at hs
    by_cases h : n.k = 1
    · simp only [h, if_true] at hs ⊢
      exact rmS_eq (inS_iff.1 hs).1
    · simp only [h, if_false] at hs ⊢
      have key : ∀ (l : List Nd) (m : Nat), l.all (sinB f b) = true → rmL (rmN f) (m : Int) l = oI (metL (metN f) m l) := by
        intro l
        induction l with
        | nil => intro m _; rfl
        | cons x l ih =>
          intro m hl
          simp only [List.all_cons, Bool.and_eq_true] at hl
          unfold rmL metL
          rw [if_neg (by omega), rmN_eq f m b x hl.1]
          cases hm : metN f m x with
          | none => simp only [oI]; exact rmL_neg (by decide) l
          | some m' => simp only [oI]; exact ih m' hl.2
      exact key _ m hs
theorem sinB_of : ∀ {f b : Nat} {n : Nd}, SIn f b n → sinB f b n = true
  | 0, b, n, h => by
    unfold sinB
    split
    · rename_i hk; exact inS_iff.2 (h hk)
    · rfl
  | f + 1, b, n, h => by
    unfold sinB
    split
    · rename_i hk; exact inS_iff.2 (h.1 hk)
    · rw [List.all_eq_true]
      exact fun x hx => sinB_of (h.2 x hx)
/-- The document's look at all rules. -/
def refR (b : Nat) : Int → List Rl → Bool
  | a, [] => a == (b : Int)
  | a, x :: l => frN 60 0 0 b x.l && frN 60 0 0 b x.r && (if rmN 60 a x.l < 0 then false else if rmN 60 (rmN 60 a x.l) x.r < 0 then false else refR b (rmN 60 (rmN 60 a x.l) x.r) l)
theorem mayN_none {f dp sg m b : Nat} {n : Nd} (hd : Dp f n.kids) (h : mayN f dp sg m n = none) : frN f dp sg b n = false ∨ rmN f (m : Int) n < 0 := by
  rw [frN_eq f dp sg b n hd]
  unfold mayN at h
  cases ho : okN f dp sg n with
  | false => left; rfl
  | true =>
    cases hs : sinB f b n with
    | false => left; rfl
    | true =>
      right
      rw [ho, if_pos rfl] at h
      rw [rmN_eq f m b n hs, h]; decide
theorem mayN_some {f dp sg m b : Nat} {n : Nd} {m' : Nat} (hd : Dp f n.kids) (h : mayN f dp sg m n = some m') : frN f dp sg b n = sinB f b n ∧ (sinB f b n = true → rmN f (m : Int) n = (m' : Int)) := by
  rw [frN_eq f dp sg b n hd]
  unfold mayN at h
  split at h
  · rename_i ho
    rw [ho]
    refine ⟨by simp, fun hs => ?_⟩
    rw [rmN_eq f m b n hs, h]; rfl
  · cases h
theorem refR_eq {b : Nat} : ∀ {rl : List Rl} {m : Nat}, (∀ x ∈ rl, Dp 60 x.l.kids ∧ Dp 60 x.r.kids) → refR b (m : Int) rl = (mayR m rl == some b)
  | [], m, _ => by
    show ((m : Int) == (b : Int)) = (some m == some b)
    by_cases e : m = b
    · subst e; simp
    · have e2 : ((m : Int) == (b : Int)) = false := by simp; omega
      rw [e2]; simp [e]
  | x :: l, m, hd => by
    have h1 := hd x (by simp)
    have hl : ∀ y ∈ l, Dp 60 y.l.kids ∧ Dp 60 y.r.kids := fun y hy => hd y (by simp [hy])
    have hno : ∀ {q : Bool}, (q = true → False) → q = false := fun {q} h => by cases q <;> simp_all
    cases hm1 : mayN 60 0 0 m x.l with
    | none =>
      have hr : mayR m (x :: l) = none := by rw [mayR, hm1]
      rw [hr]
      unfold refR
      rcases mayN_none (b := b) h1.1 hm1 with h | h
      · rw [h]; rfl
      · rw [if_pos h]; simp
    | some m1 =>
      obtain ⟨f1, f2⟩ := mayN_some (b := b) h1.1 hm1
      cases hm2 : mayN 60 0 0 m1 x.r with
      | none =>
        have hr : mayR m (x :: l) = none := by rw [mayR, hm1]; simp only; rw [hm2]
        rw [hr]
        unfold refR
        cases hs : sinB 60 b x.l with
        | false => rw [f1, hs]; rfl
        | true =>
          rw [f2 hs]
          rcases mayN_none (b := b) h1.2 hm2 with h | h
          · rw [h]; simp
          · rw [if_neg (by omega), if_pos h]; simp
      | some m2 =>
        obtain ⟨g1, g2⟩ := mayN_some (b := b) h1.2 hm2
        have hr : mayR m (x :: l) = mayR m2 l := by rw [mayR, hm1]; simp only; rw [hm2]
        rw [hr]
        have ih := refR_eq (b := b) (rl := l) (m := m2) hl
        unfold refR
        cases hs : sinB 60 b x.l with
        | false =>
          rw [f1, hs]
          symm
          rw [show (false && frN 60 0 0 b x.r && _) = false from rfl]
          refine hno (fun q => ?_)
          have q' := beq_iff_eq.1 q
          have hin := (mayN_in h1.1 hm1).1
          have hle1 := (mayN_in h1.2 hm2).2
          have hle2 := (mayR_in hl q').2
          rw [sinB_of (hin.more (by omega : m1 ≤ b))] at hs
          cases hs
        | true =>
          cases ht : sinB 60 b x.r with
          | false =>
            rw [f1, hs, g1, ht]
            symm
            rw [show (true && false && _) = false from rfl]
            refine hno (fun q => ?_)
            have q' := beq_iff_eq.1 q
            have hin := (mayN_in h1.2 hm2).1
            have hle2 := (mayR_in hl q').2
            rw [sinB_of (hin.more hle2)] at ht
            cases ht
          | true =>
            rw [f1, hs, g1, ht, f2 hs, g2 ht, if_neg (by omega), if_neg (by omega)]
            simpa using ih
end Go.Proofs.YtohaegaocklnkaaGreatDoor

namespace Go.Proofs.YtohaegaocklnkaaGreatDoor
open Go.RowKit Go.Shelf S1
set_option linter.unusedVariables false

theorem open_any8 (nk ns : Int) (za : Option Addr) (len ca : Nat) (yk ys : Int) (xa : Option Addr) (yl ka : Nat) (w : World) :
    Calls Tryz.prog 59 #[.agg #[.int .i64 nk, .int .i64 ns, .slice za len ca], .agg #[.int .i64 yk, .int .i64 ys, .slice xa yl ka]] w fun e w' => e = .returned (.bool (inBr yk nk)) ∧ Below w.heap.size w w' := by
  have HB0 : Hid (Below w.heap.size w ((w.alloc (.cells #[.int .i64 nk, .int .i64 ns, .slice za len ca] 39)).alloc (.cells #[.int .i64 yk, .int .i64 ys, .slice xa yl ka] 39))) := below_after (below_alloc _ _) (below_alloc _ _)
  by_cases h : nk = 2
  · subst h
    have e : inBr yk 2 = (yk == 2) := by simp [inBr]
    rw [e]
    clear e
    go_enter Tryz.func59, Tryz.ntmps59
    go_wp2
    go_ret
    exact ⟨rfl, HB0.out⟩
  · have h' : (nk == 2) = false := by simpa using h
    by_cases h2 : yk = 2
    · subst h2
      have e : inBr 2 nk = true := by simp [inBr]
      rw [e]
      clear e h
      go_enter Tryz.func59, Tryz.ntmps59
      go_wp2
      go_ret
      exact ⟨rfl, HB0.out⟩
    · have h2' : (yk == 2) = false := by simpa using h2
      have e : inBr yk nk = (yk == 0) := by simp [inBr, h2', h]
      rw [e]
      clear e h h2
      go_enter Tryz.func59, Tryz.ntmps59
      go_wp2
      go_ret
      exact ⟨rfl, HB0.out⟩
theorem rmS_le {a s : Int} (h : 0 ≤ a) : rmS a s ≤ a + 1 ∧ -1 ≤ rmS a s := by
  unfold rmS
  repeat' split
  all_goals omega
theorem rmN_le : ∀ {f : Nat} {a : Int} {n : Nd}, 0 ≤ a → rmN f a n ≤ a + (Sz f n : Int) ∧ -1 ≤ rmN f a n
  | 0, a, n, h => by
    unfold rmN
    split
    · have := rmS_le (s := n.s) h; simp [Sz]; omega
    · simp [Sz]; omega
  | f + 1, a, n, h => by
    unfold rmN
    split
    · have := rmS_le (s := n.s) h; simp [Sz]; omega
    · have key : ∀ (l : List Nd) (a : Int), -1 ≤ a → rmL (rmN f) a l ≤ (if a < 0 then 0 else a) + ((l.map (Sz f)).sum : Nat) ∧ -1 ≤ rmL (rmN f) a l := by
        intro l
        induction l with
        | nil =>
          intro a h
          unfold rmL
          refine ⟨?_, h⟩
          split <;> simp <;> omega
        | cons x l ih =>
          intro a h
          unfold rmL
          by_cases q : a < 0
          · rw [if_pos q, if_pos q]; constructor <;> omega
          · rw [if_neg q, if_neg q]
            have h1 := rmN_le (f := f) (n := x) (by omega : 0 ≤ a)
            have h2 := ih (rmN f a x) h1.2
            simp only [List.map_cons, List.sum_cons]
            split at h2 <;> omega
      have := key n.kids a (by omega)
      rw [if_neg (by omega)] at this
      simp only [Sz]
      omega

set_option maxRecDepth 100000 in
set_option maxHeartbeats 8000000 in
theorem met_body (n : Nd) (za : Option Addr) (ca : Nat) (f a : Nat) (r : Int) (hlen : n.kids.length ≤ 150) (hb : a + (1 + (n.kids.map (Sz f)).sum) ≤ 100000) (w : World) (hs0 : n.k = 1 → 0 ≤ n.s) (hr : r = if n.k = 1 then rmS (a : Int) n.s else rmL (rmN f) (a : Int) n.kids)
    (HR : ∀ i, (h : i < n.kids.length) → n.kids.length ≤ ca ∧ ∃ ga oa xa ka, za = some ⟨ga, oa, none⟩ ∧ ga < w.heap.size ∧ w.cell? ⟨ga, oa + i * 3, none⟩ = some (.int .i64 n.kids[i].k) ∧ w.cell? ⟨ga, oa + i * 3 + 1, none⟩ = some (.int .i64 n.kids[i].s) ∧ w.cell? ⟨ga, oa + i * 3 + 2, none⟩ = some (.slice xa n.kids[i].kids.length ka) ∧
      (∀ (a' : Nat) W, a' + Sz f n.kids[i] ≤ 100000 → Below w.heap.size w W → Calls Tryz.prog 34 #[.agg #[.int .i64 n.kids[i].k, .int .i64 n.kids[i].s, .slice xa n.kids[i].kids.length ka], .int .i64 (a' : Int)] W fun e w'' => e = .returned (.int .i64 (rmN f (a' : Int) n.kids[i])) ∧ Below W.heap.size W w'')) :
    Calls Tryz.prog 34 #[.agg #[.int .i64 n.k, .int .i64 n.s, .slice za n.kids.length ca], .int .i64 (a : Int)] w fun e w' => e = .returned (.int .i64 r) ∧ Below w.heap.size w w' := by
  have HHR : Hid (∀ i, (h : i < n.kids.length) → n.kids.length ≤ ca ∧ ∃ (ga oa : Nat) (xa : Option Addr) (ka : Nat) (yk ys : Int) (yl : Nat), za = some ⟨ga, oa, none⟩ ∧ ga < w.heap.size ∧ w.cell? ⟨ga, oa + i * 3, none⟩ = some (.int .i64 yk) ∧ w.cell? ⟨ga, oa + i * 3 + 1, none⟩ = some (.int .i64 ys) ∧ w.cell? ⟨ga, oa + i * 3 + 2, none⟩ = some (.slice xa yl ka) ∧
      (∀ (a' : Nat) W, a' + Sz f n.kids[i] ≤ 100000 → Below w.heap.size w W → Calls Tryz.prog 34 #[.agg #[.int .i64 yk, .int .i64 ys, .slice xa yl ka], .int .i64 (a' : Int)] W fun e w'' => e = .returned (.int .i64 (rmN f (a' : Int) n.kids[i])) ∧ Below W.heap.size W w'')) := fun i hi => by
    obtain ⟨h1, ga, oa, xa, ka, h⟩ := HR i hi
    exact ⟨h1, ga, oa, xa, ka, _, _, _, h⟩
  have HS0 : Hid (n.k = 1 → 0 ≤ n.s) := hs0
  have HRE : Hid (r = if n.k = 1 then rmS (a : Int) n.s else rmL (rmN f) (a : Int) n.kids) := hr
  have HBD : Hid (a + (1 + (n.kids.map (Sz f)).sum) ≤ 100000) := hb
  have ha : a ≤ 100000 := by omega
  obtain ⟨len, hle⟩ : ∃ len, len = n.kids.length := ⟨_, rfl⟩
  obtain ⟨nk, hnk⟩ : ∃ x, x = n.k := ⟨_, rfl⟩
  obtain ⟨ns, hns⟩ : ∃ x, x = n.s := ⟨_, rfl⟩
  rw [← hle, ← hnk, ← hns]
  have HLEN : Hid (len = n.kids.length ∧ nk = n.k ∧ ns = n.s) := ⟨hle, hnk, hns⟩
  have hlen' : len ≤ 150 := by omega
  have HB0 : Hid (Below w.heap.size w (w.alloc (.cells #[.int .i64 nk, .int .i64 ns, .slice za len ca] 39))) := below_alloc _ _
  have HEA : Hid ((w.alloc (.cells #[.int .i64 nk, .int .i64 ns, .slice za len ca] 39)).heap[w.heap.size]? = some (.cells #[.int .i64 nk, .int .i64 ns, .slice za len ca] 39 (0, 0))) := heap_new' w _
  clear HR hb hr hle hnk hns hlen hs0
  by_cases hk1 : nk = 1
  · have hk1' : (nk == 1) = true := by simpa using hk1
    have hs0 : 0 ≤ ns := by rw [HLEN.out.2.2]; exact HS0.out (by rw [← HLEN.out.2.1]; exact hk1)
    obtain ⟨si, rfl⟩ : ∃ si : Nat, ns = (si : Int) := ⟨ns.toNat, by omega⟩
    have HE : Hid (r = rmS (a : Int) (si : Int)) := by
      show _ = _
      rw [HRE.out, if_pos (by rw [← HLEN.out.2.1]; exact hk1), HLEN.out.2.2]
    by_cases h1 : a < si
    · have HE2 : Hid (r = -1) := by show _ = _; rw [HE.out]; unfold rmS; rw [if_pos (by omega)]
      clear hk1
      go_enter Tryz.func34, Tryz.ntmps34
      go_wp2
      go_ret
      rw [HE2.out]
      exact ⟨rfl, HB0.out⟩
    · by_cases h2 : a < si + 1
      · have HE2 : Hid (r = (si : Int) + 1) := by show _ = _; rw [HE.out]; unfold rmS; rw [if_neg (by omega), if_pos (by omega)]
        have hmx : (if (a : Int) < (si : Int) + 1 then (si : Int) + 1 else (a : Int)) = (si : Int) + 1 := if_pos (by omega)
        clear hk1
        go_enter Tryz.func34, Tryz.ntmps34
        go_wp2
        go_ret
        rw [HE2.out]
        exact ⟨by first | rfl | rw [hmx] | (simp; omega), HB0.out⟩
      · have HE2 : Hid (r = (a : Int)) := by show _ = _; rw [HE.out]; unfold rmS; rw [if_neg (by omega), if_neg (by omega)]
        have hmx : (if (a : Int) < (si : Int) + 1 then (si : Int) + 1 else (a : Int)) = (a : Int) := if_neg (by omega)
        clear hk1
        go_enter Tryz.func34, Tryz.ntmps34
        go_wp2
        go_ret
        rw [HE2.out]
        exact ⟨by first | rfl | rw [hmx] | (simp; omega), HB0.out⟩
  · have hk1' : (nk == 1) = false := by simpa using hk1
    have HE : Hid (r = rmL (rmN f) (a : Int) n.kids) := by
      show _ = _
      rw [HRE.out, if_neg (by rw [← HLEN.out.2.1]; exact hk1)]
    clear hk1
    go_enter Tryz.func34, Tryz.ntmps34
    go_wp2
    go_loopw [1, 5] (fun x1 x5 wr => ∃ (j : Nat) (av : Int), j ≤ len ∧ x5 = .int .i64 (j : Int) ∧ x1 = .int .i64 av ∧ Hid (r = rmL (rmN f) av (n.kids.drop j)) ∧ -1 ≤ av ∧ Hid (av + (((n.kids.drop j).map (Sz f)).sum : Nat) ≤ 100000) ∧ wr.heap[w.heap.size]? = some (.cells #[.int .i64 nk, .int .i64 ns, .slice za len ca] 39 (0, 0)) ∧ Below w.heap.size w wr) (fun _ x5 _ => len - (intOf x5).toNat)
    case atStart => exact ⟨0, (a : Int), Nat.zero_le _, rfl, rfl, HE, by omega, (by have := HBD.out; show _ ≤ _; rw [List.drop_zero]; omega), HEA.out, HB0.out⟩
    case round =>
      obtain ⟨j, av, hj, rfl, rfl, HD, hav, HZ, hEA, hB⟩ := hrel
      have hlt : w.heap.size < wr.heap.size := (Array.getElem?_eq_some_iff.1 hEA).1
      have a2 : wr.cell? ⟨w.heap.size, 2, none⟩ = some (.slice za len ca) := cell_of_row _ _ 2 _ _ _ hEA
      have HEA' : Hid (wr.heap[w.heap.size]? = some (.cells #[.int .i64 nk, .int .i64 ns, .slice za len ca] 39 (0, 0))) := hEA
      clear hEA
      by_cases hjl : j < len
      · have hjn : j < n.kids.length := by rw [← HLEN.out.1]; exact hjl
        have ed : n.kids.drop j = n.kids[j] :: n.kids.drop (j + 1) := List.drop_eq_getElem_cons hjn
        by_cases hneg : av < 0
        · obtain rfl : av = -1 := by omega
          have HE2 : Hid (r = -1) := by
            show _ = _
            rw [HD.out]; exact rmL_neg (by decide) _
          clear hneg ed
          go_wp2
          go_ret
          rw [HE2.out]
          exact ⟨rfl, hB⟩
        · obtain ⟨an, rfl⟩ : ∃ an : Nat, av = (an : Int) := ⟨av.toNat, by omega⟩
          obtain ⟨hca, ga, oa, xa, ka, yk, ys, yl, rfl, hga, p0, p1, p2, hcall⟩ := HHR.out j hjn
          have r0 : wr.cell? ⟨ga, oa + j * 3, none⟩ = some (.int .i64 yk) := (hB.cell (p := ⟨ga, _, none⟩) hga).trans p0
          have r1 : wr.cell? ⟨ga, oa + j * 3 + 1, none⟩ = some (.int .i64 ys) := (hB.cell (p := ⟨ga, _, none⟩) hga).trans p1
          have r2 : wr.cell? ⟨ga, oa + j * 3 + 2, none⟩ = some (.slice xa yl ka) := (hB.cell (p := ⟨ga, _, none⟩) hga).trans p2
          have hga' : ga < wr.heap.size := Nat.lt_of_lt_of_le hga hB.size
          have hj0 : (0 : Int) ≤ (j : Int) := by omega
          have hj1 : (j : Int) < (len : Int) := by omega
          have hca2 : len ≤ ca := by rw [HLEN.out.1]; exact hca
          have HZ1 : Hid ((an : Int) + (Sz f n.kids[j] : Nat) + (((n.kids.drop (j + 1)).map (Sz f)).sum : Nat) ≤ 100000) := by
            have h5 := HZ.out
            rw [ed] at h5
            simp only [List.map_cons, List.sum_cons] at h5
            show _ ≤ _
            omega
          have HD1 : Hid (r = rmL (rmN f) (rmN f (an : Int) n.kids[j]) (n.kids.drop (j + 1))) := by
            show _ = _
            rw [HD.out, ed, rmL, if_neg (by omega)]
          have hcl := hcall an wr (by have := HZ1.out; omega) hB
          have HRM : Hid (rmN f (an : Int) n.kids[j] ≤ (an : Int) + (Sz f n.kids[j] : Int) ∧ -1 ≤ rmN f (an : Int) n.kids[j]) := rmN_le (by omega)
          obtain ⟨nv, hnv⟩ : ∃ x, x = rmN f (an : Int) n.kids[j] := ⟨_, rfl⟩
          rw [← hnv] at hcl HD1 HRM
          have hdd : decide ((an : Int) ≥ 0) = true := by simp
          clear p0 p1 p2 hcall hca ed hneg hnv HD HZ
          go_wp2_with fail
          refine hcl.mono ?_
          rintro e w1 ⟨rfl, hB1⟩
          clear hcl
          have HZ2 : Hid (nv + (((n.kids.drop (j + 1)).map (Sz f)).sum : Nat) ≤ 100000) := by
            have := HZ1.out
            have := HRM.out.1
            show _ ≤ _
            omega
          go_wp2
          go_roundw
          case rel => exact ⟨j + 1, nv, by omega, by go_num, rfl, HD1, HRM.out.2, HZ2, (hB1.block _ hlt).trans HEA'.out, below_after hB hB1⟩
          case measure => simp [intOf]; omega
      · have HE2 : Hid (r = av) := by
          show _ = _
          rw [HD.out, List.drop_eq_nil_of_le (by rw [← HLEN.out.1]; omega)]; rfl
        go_wp2
        go_ret
        rw [HE2.out]
        exact ⟨rfl, hB⟩
theorem met_any : ∀ (d : Nat) (n : Nd) (z : Value) (a b : Nat) (w : World), Dp d n.kids → SIn d b n → a + Sz d n ≤ 100000 → KdX (fun k => k < w.heap.size) w z n.kids →
    Calls Tryz.prog 34 #[ndV n z, .int .i64 (a : Int)] w fun e w' => e = .returned (.int .i64 (rmN d (a : Int) n)) ∧ Below w.heap.size w w'
  | 0, n, z, a, b, w, hd, hs, hb, hz => by
    obtain ⟨za, ca, rfl, _⟩ := hz.slice
    have h0 : n.kids = [] := hd
    have hb' : a + 1 ≤ 100000 := hb
    refine met_body n za ca 0 a _ (by rw [h0]; simp) (by rw [h0]; simp; omega) w (fun h => (hs h).1) ?_ (fun i hi => by rw [h0] at hi; cases hi)
    rw [h0]
    rfl
  | d + 1, n, z, a, b, w, hd, hs, hb, hz => by
    obtain ⟨za, ca, rfl, _⟩ := hz.slice
    have hb' : a + (1 + (n.kids.map (Sz d)).sum) ≤ 100000 := hb
    refine met_body n za ca d a _ hd.1 hb' w (fun h => (hs.1 h).1) rfl (fun i hi => ?_)
    obtain ⟨g, off, cap, z', e1, e2, e3, e4, e5, e6, e7⟩ := hz.at i hi
    obtain ⟨rfl, _, rfl⟩ : za = some ⟨g, off, none⟩ ∧ n.kids.length = n.kids.length ∧ ca = cap := by simpa using e1
    obtain ⟨xa, xc, rfl, _⟩ := e7.slice
    refine ⟨e2, g, off, xa, xc, rfl, e3, e4, e5, e6, fun a' W h1 hB => ?_⟩
    exact met_any d n.kids[i] _ a' b W (hd.2 _ (List.getElem_mem hi)) (hs.2 _ (List.getElem_mem hi)) h1 (e7.to (fun k hk => ⟨hB.block k hk, Nat.lt_of_lt_of_le hk hB.size⟩))
end Go.Proofs.YtohaegaocklnkaaGreatDoor
