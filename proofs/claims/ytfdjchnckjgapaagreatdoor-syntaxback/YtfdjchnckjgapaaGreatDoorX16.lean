/-
  SxMath SxLen
-/
import Derived.Test.YtfdjchnckjgapaaGreatDoorX07
namespace Go.Proofs.YtfdjchnckjgapaaGreatDoor
open Go.RowKit S1
set_option linter.unusedVariables false
def pickS (g : Bool → Bool → Bool) (a b : List Rg) : List Rg := pickGo (fun x => g (hasR a x) (hasR b x)) (edgesL (a ++ b)) []
def orS (a b : List Rg) : List Rg := pickS (fun x y => x || y) a b
def andS (a b : List Rg) : List Rg := pickS (fun x y => x && y) a b
def lessS (a b : List Rg) : List Rg := pickS (fun x y => x && !y) a b
def notS (a : List Rg) : List Rg := pickS (fun x _ => !x) a []
def mkS (a : List Rg) : List Rg := pickS (fun x _ => x) a []
def allS : List Rg := [⟨0, 1114111⟩]
def canT (t : Tok) : Tok := ⟨t.k, t.p, t.t, mkS t.s⟩
def tkSign (c : Int) (t : Tok) : Bool := t.k == 2 && t.t == [c]
def tkWord (s : List Int) (t : Tok) : Bool := t.k == 1 && t.t == s
def wSet : List Int := [115, 101, 116]
def wBreak : List Int := [98, 114, 101, 97, 107]
def wKeep : List Int := [107, 101, 101, 112]
def tkRule (t : Tok) : Bool := tkWord wBreak t || tkWord wKeep t
def tkName (t : Tok) : Bool := t.k == 1 && !tkWord wSet t && !tkRule t
def tkTells (t : Tok) : Bool := t.k == 3 || tkName t || tkSign 46 t
def tkPart (t : Tok) : Bool := tkTells t || tkSign 40 t
def hdT : List Tok → Tok
  | [] => ⟨4, 0, [], []⟩
  | t :: _ => t
def EndsT : List Tok → Prop
  | [] => False
  | [t] => t.k = 4
  | t :: u :: l => t.k ≠ 4 ∧ EndsT (u :: l)
theorem EndsT.cons {ts : List Tok} (h : EndsT ts) : ∃ t r, ts = t :: r := by
  match ts, h with
  | t :: r, _ => exact ⟨t, r, rfl⟩
theorem EndsT.tail {t : Tok} {r : List Tok} (h : EndsT (t :: r)) (hk : t.k ≠ 4) : EndsT r := by
  match r, h with
  | [], h => exact absurd h hk
  | u :: l, h => exact h.2
theorem EndsT.pos {ts : List Tok} (h : EndsT ts) : 0 < ts.length := by
  obtain ⟨t, r, rfl⟩ := h.cons
  simp
theorem sign_k {c : Int} {t : Tok} (h : tkSign c t = true) : t.k = 2 ∧ t.t = [c] := by simpa [tkSign] using h
theorem word_k {s : List Int} {t : Tok} (h : tkWord s t = true) : t.k = 1 ∧ t.t = s := by simpa [tkWord] using h
theorem name_k {t : Tok} (h : tkName t = true) : t.k = 1 := by
  simp only [tkName, Bool.and_eq_true, beq_iff_eq] at h; exact h.1.1
theorem sign_end {c : Int} {t : Tok} (h : tkSign c t = true) : t.k ≠ 4 := by rw [(sign_k h).1]; decide
theorem rule_end {t : Tok} (h : tkRule t = true) : t.k ≠ 4 := by
  simp only [tkRule, Bool.or_eq_true] at h
  rcases h with h | h
  · rw [(word_k h).1]; decide
  · rw [(word_k h).1]; decide
theorem word_end {s : List Int} {t : Tok} (h : tkWord s t = true) : t.k ≠ 4 := by rw [(word_k h).1]; decide
theorem name_end {t : Tok} (h : tkName t = true) : t.k ≠ 4 := by rw [name_k h]; decide
abbrev Nms := List Int → Option (List Rg)
def setM (N : Nms) (t : Tok) : Int ⊕ List Rg :=
  if t.k = 3 then .inr t.s
  else if tkSign 46 t = true then .inr allS
  else if tkName t = true then (match N t.t with
    | some s => .inr s
    | none => .inl 4)
  else .inl 6
abbrev QR := (List Tok × Int) ⊕ (List Rg × List Tok)
def opOf (t : Tok) : Option (List Rg → List Rg → List Rg) :=
  if tkSign 43 t = true then some orS
  else if tkSign 45 t = true then some lessS
  else if tkSign 38 t = true then some andS
  else none
def sumF (f : List Tok → QR) : Nat → List Rg → List Tok → QR
  | 0, acc, ts => .inr (acc, ts)
  | n + 1, acc, ts => match opOf (hdT ts) with
    | none => .inr (acc, ts)
    | some op => match f ts.tail with
      | .inl e => .inl e
      | .inr (s, r) => sumF f n (op acc s) r
def sumG (f : List Tok → QR) (ts : List Tok) : QR := match f ts with
  | .inl e => .inl e
  | .inr (s, r) => sumF f (r.length + 1) s r
def endQ (c : Int) : QR → QR
  | .inl e => .inl e
  | .inr (s, r) => if tkSign c (hdT r) = true then .inr (s, r.tail) else .inl (r, 6)
def notQ : QR → QR
  | .inl e => .inl e
  | .inr (s, r) => .inr (notS s, r)
def termG (N : Nms) (f : Option (List Tok → QR)) (ts : List Tok) : QR :=
  if tkSign 126 (hdT ts) = true then (match f with
    | none => .inl (ts, 3)
    | some f => notQ (f ts.tail))
  else if tkSign 40 (hdT ts) = true then (match f with
    | none => .inl (ts, 3)
    | some f => endQ 41 (sumG f ts.tail))
  else match setM N (hdT ts) with
    | .inl e => .inl (ts, e)
    | .inr s => .inr (s, ts.tail)
def termM (N : Nms) : Nat → List Tok → QR
  | 0, ts => termG N none ts
  | b + 1, ts => termG N (some (termM N b)) ts
def sumM (N : Nms) (b : Nat) (ts : List Tok) : QR := sumG (termM N b) ts
structure Nd where
  k : Int
  s : Int
  kids : List Nd
abbrev Sts := List (List Rg)
def sameS : List Rg → List Rg → Bool
  | [], [] => true
  | a :: l, b :: m => a.lo == b.lo && a.hi == b.hi && sameS l m
  | _, _ => false
theorem sameS_iff : ∀ {a b : List Rg}, sameS a b = true ↔ a = b
  | [], [] => by simp [sameS]
  | [], b :: m => by simp [sameS]
  | a :: l, [] => by simp [sameS]
  | a :: l, b :: m => by
    simp only [sameS, Bool.and_eq_true, beq_iff_eq, sameS_iff (a := l) (b := m), List.cons.injEq]
    constructor
    · rintro ⟨⟨h1, h2⟩, h3⟩
      refine ⟨?_, h3⟩
      cases a; cases b; simp_all
    · rintro ⟨rfl, rfl⟩; exact ⟨⟨rfl, rfl⟩, rfl⟩
def idxS (s : List Rg) : Sts → Option Nat
  | [] => none
  | x :: l => if sameS x s = true then some 0 else (idxS s l).map (· + 1)
def placeM (st : Sts) (s : List Rg) : Option (Nat × Sts) := match idxS s st with
  | some i => some (i, st)
  | none => if st.length = 60 then none else some (st.length, st ++ [s])
abbrev NR (α : Type) := (List Tok × Int) ⊕ (α × List Tok × Sts)
def endN (c : Int) : NR Nd → NR Nd
  | .inl e => .inl e
  | .inr (n, r, st) => if tkSign c (hdT r) = true then .inr (n, r.tail, st) else .inl (r, 6)
def partM (N : Nms) (f : Option (List Tok → Sts → NR Nd)) (ts : List Tok) (st : Sts) : NR Nd :=
  if tkSign 40 (hdT ts) = true then (match f with
    | none => .inl (ts, 3)
    | some f => endN 41 (f ts.tail st))
  else match setM N (hdT ts) with
    | .inl e => .inl (ts, e)
    | .inr s => match placeM st s with
      | none => .inl (ts, 3)
      | some (i, st') => .inr (⟨1, i, []⟩, ts.tail, st')
def kindT (t : Tok) : Int := if tkSign 42 t = true then 3 else if tkSign 43 t = true then 4 else if tkSign 63 t = true then 5 else 0
def signK (k : Int) : Bool := k == 3 || k == 4 || k == 5
def cntN : Nat → Nd → Nat
  | 0, _ => 0
  | f + 1, n => if signK n.k = true then (match n.kids with
    | [] => 1
    | x :: _ => cntN f x + 1) else 0
def signF : Nat → Nat → Nd → List Tok → Sts → NR Nd
  | 0, _, n, ts, st => .inr (n, ts, st)
  | f + 1, c, n, ts, st => if kindT (hdT ts) = 0 then .inr (n, ts, st)
    else if c = 3 then .inl (ts, 3)
    else signF f (c + 1) ⟨kindT (hdT ts), 0, [n]⟩ ts.tail st
def signedM (p : List Tok → Sts → NR Nd) (ts : List Tok) (st : Sts) : NR Nd := match p ts st with
  | .inl e => .inl e
  | .inr (n, r, st') => signF 4 (cntN 4 n) n r st'
def catF (p : List Tok → Sts → NR Nd) : Nat → List Nd → List Tok → Sts → NR (List Nd)
  | 0, acc, ts, st => .inr (acc, ts, st)
  | f + 1, acc, ts, st => if tkPart (hdT ts) = true then (match p ts st with
      | .inl e => .inl e
      | .inr (n, r, st') => catF p f (acc ++ [n]) r st')
    else .inr (acc, ts, st)
def joinN (k : Int) (l : List Nd) : Nd := match l with
  | [x] => x
  | l => ⟨k, 0, l⟩
def catM (p : List Tok → Sts → NR Nd) (ts : List Tok) (st : Sts) : NR Nd := match catF p (ts.length + 1) [] ts st with
  | .inl e => .inl e
  | .inr (l, r, st') => .inr (joinN 0 l, r, st')
def altF (p : List Tok → Sts → NR Nd) : Nat → List Nd → List Tok → Sts → NR (List Nd)
  | 0, acc, ts, st => .inr (acc, ts, st)
  | f + 1, acc, ts, st => if tkSign 124 (hdT ts) = true then (match p ts.tail st with
      | .inl e => .inl e
      | .inr (n, r, st') => altF p f (acc ++ [n]) r st')
    else .inr (acc, ts, st)
def regexG (p : List Tok → Sts → NR Nd) (ts : List Tok) (st : Sts) : NR Nd := match p ts st with
  | .inl e => .inl e
  | .inr (n, r, st') => match altF p (r.length + 1) [n] r st' with
    | .inl e => .inl e
    | .inr (l, r2, st2) => .inr (joinN 2 l, r2, st2)
def regexM (N : Nms) : Nat → List Tok → Sts → NR Nd
  | 0, ts, st => regexG (catM (signedM (partM N none))) ts st
  | b + 1, ts, st => regexG (catM (signedM (partM N (some (regexM N b))))) ts st
def inner (N : Nms) : Nat → Option (List Tok → Sts → NR Nd)
  | 0 => none
  | b + 1 => some (regexM N b)
theorem regexM_eq (N : Nms) (b : Nat) (ts : List Tok) (st : Sts) : regexM N b ts st = regexG (catM (signedM (partM N (inner N b)))) ts st := by
  cases b <;> rfl
def innerT (N : Nms) : Nat → Option (List Tok → QR)
  | 0 => none
  | b + 1 => some (termM N b)
theorem termM_eq (N : Nms) (b : Nat) (ts : List Tok) : termM N b ts = termG N (innerT N b) ts := by
  cases b <;> rfl
structure Rl where
  b : Bool
  l : Nd
  r : Nd
def ruleM (N : Nms) (ts : List Tok) (st : Sts) : NR Rl := match endN 47 (regexM N 20 ts.tail st) with
  | .inl e => .inl e
  | .inr (l, r, st1) => match endN 59 (regexM N 20 r st1) with
    | .inl e => .inl e
    | .inr (n, r2, st2) => .inr (⟨tkWord wBreak (hdT ts), l, n⟩, r2, st2)
def giveN (N : Nms) (x : List Int) (s : List Rg) : Nms := fun y => if y = x then some s else N y
def nameM (N : Nms) (ts : List Tok) : (List Tok × Int) ⊕ (Nms × List Tok) :=
  if tkName (hdT ts) = false then .inl (ts, 6)
  else match N (hdT ts).t with
    | some _ => .inl (ts, 5)
    | none => if tkSign 61 (hdT ts.tail) = false then .inl (ts.tail, 6)
      else match endQ 59 (sumM N 20 ts.tail.tail) with
        | .inl e => .inl e
        | .inr (s, r) => .inr (giveN N (hdT ts).t s, r)
def textF : Nat → Nms → List Rl → List Tok → Sts → (List Tok × Int) ⊕ (List Rl × Sts)
  | 0, _, rs, _, st => .inr (rs, st)
  | f + 1, N, rs, ts, st =>
    if (hdT ts).k = 4 then .inr (rs, st)
    else if tkWord wSet (hdT ts) = true then (match nameM N ts.tail with
      | .inl e => .inl e
      | .inr (N', r) => textF f N' rs r st)
    else if tkRule (hdT ts) = false then .inl (ts, 6)
    else if rs.length = 64 then .inl (ts, 3)
    else match ruleM N ts st with
      | .inl e => .inl e
      | .inr (x, r, st') => textF f N (rs ++ [x]) r st'
def parseL : TR → (Nat × Int) ⊕ (List Rl × Sts)
  | .inl e => .inl e
  | .inr l => match textF (l.length + 1) (fun _ => none) [] (l.map canT) [] with
    | .inl (r, e) => .inl ((hdT r).p, e)
    | .inr x => .inr x
end Go.Proofs.YtfdjchnckjgapaaGreatDoor

namespace Go.Proofs.YtfdjchnckjgapaaGreatDoor
open Go.RowKit S1
set_option linter.unusedVariables false
def Left (ts r : List Tok) : Prop := r.length ≤ ts.length ∧ (EndsT ts → EndsT r) ∧ ∀ t ∈ r, t ∈ ts
def LeftS (ts r : List Tok) : Prop := r.length < ts.length ∧ (EndsT ts → EndsT r) ∧ ∀ t ∈ r, t ∈ ts
theorem Left.refl (ts : List Tok) : Left ts ts := ⟨Nat.le_refl _, id, fun _ h => h⟩
theorem Left.trans {a b c : List Tok} (h : Left a b) (k : Left b c) : Left a c := ⟨Nat.le_trans k.1 h.1, fun x => k.2.1 (h.2.1 x), fun t q => h.2.2 t (k.2.2 t q)⟩
theorem LeftS.left {a b : List Tok} (h : LeftS a b) : Left a b := ⟨Nat.le_of_lt h.1, h.2⟩
theorem LeftS.trans {a b c : List Tok} (h : LeftS a b) (k : Left b c) : LeftS a c := ⟨Nat.lt_of_le_of_lt k.1 h.1, fun x => k.2.1 (h.2.1 x), fun t q => h.2.2 t (k.2.2 t q)⟩
theorem Left.transS {a b c : List Tok} (h : Left a b) (k : LeftS b c) : LeftS a c := ⟨Nat.lt_of_lt_of_le k.1 h.1, fun x => k.2.1 (h.2.1 x), fun t q => h.2.2 t (k.2.2 t q)⟩
theorem leftS_tail {ts : List Tok} (h : (hdT ts).k ≠ 4) : LeftS ts ts.tail := by
  match ts, h with
  | [], h => exact absurd rfl h
  | t :: r, h => exact ⟨by simp, fun e => e.tail h, fun t q => List.mem_of_mem_tail q⟩
theorem left_tail_sign {c : Int} {ts : List Tok} (h : tkSign c (hdT ts) = true) : LeftS ts ts.tail := leftS_tail (sign_end h)
theorem setM_end {N : Nms} {t : Tok} {s : List Rg} (h : setM N t = .inr s) : t.k ≠ 4 := by
  intro e
  have h2 : ∀ c, tkSign c t = false := fun c => by simp [tkSign, e]
  have h3 : tkName t = false := by simp [tkName, e]
  simp [setM, e, h2, h3] at h
theorem opOf_end {t : Tok} {op} (h : opOf t = some op) : t.k ≠ 4 := by
  intro e
  have h2 : ∀ c, tkSign c t = false := fun c => by simp [tkSign, e]
  simp [opOf, h2] at h
theorem kindT_end {t : Tok} (h : kindT t ≠ 0) : t.k ≠ 4 := by
  intro e
  have h2 : ∀ c, tkSign c t = false := fun c => by simp [tkSign, e]
  simp [kindT, h2] at h
def QLeft (ts : List Tok) : QR → Prop
  | .inl (r, _) => Left ts r
  | .inr (_, r) => LeftS ts r
theorem QLeft.weak {a b : List Tok} (h : Left a b) {q : QR} (k : QLeft b q) : QLeft a q := by
  match q, k with
  | .inl (r, _), k => exact h.trans k
  | .inr (s, r), k => exact h.transS k
theorem sumF_left {f : List Tok → QR} (hf : ∀ ts, QLeft ts (f ts)) : ∀ (n : Nat) (acc : List Rg) (ts : List Tok), (∀ r e, sumF f n acc ts = .inl (r, e) → Left ts r) ∧ (∀ s r, sumF f n acc ts = .inr (s, r) → Left ts r)
  | 0, acc, ts => ⟨fun r e h => (by cases h), fun s r h => (by cases h; exact Left.refl _)⟩
  | n + 1, acc, ts => by
    unfold sumF
    split
    · exact ⟨fun r e h => (by cases h), fun s r h => (by cases h; exact Left.refl _)⟩
    · rename_i op ho
      have h0 := leftS_tail (opOf_end ho)
      have h1 := hf ts.tail
      split
      · rename_i e he
        rw [he] at h1
        obtain ⟨r', e'⟩ := e
        exact ⟨fun r e h => (by cases h; exact h0.left.trans h1), fun s r h => (by cases h)⟩
      · rename_i s r he
        rw [he] at h1
        have ih := sumF_left hf n (op acc s) r
        have h2 : Left ts r := (h0.trans (LeftS.left h1)).left
        exact ⟨fun r e h => h2.trans (ih.1 r e h), fun s r h => h2.trans (ih.2 s r h)⟩
theorem sumG_left {f : List Tok → QR} (hf : ∀ ts, QLeft ts (f ts)) (ts : List Tok) : QLeft ts (sumG f ts) := by
  have h1 := hf ts
  unfold sumG
  split
  · rename_i e he; rw [he] at h1; exact h1
  · rename_i s r he
    rw [he] at h1
    have ih := sumF_left hf (r.length + 1) s r
    cases h : sumF f (r.length + 1) s r with
    | inl x => obtain ⟨r', e'⟩ := x; exact (LeftS.left h1).trans (ih.1 _ _ h)
    | inr x => obtain ⟨s', r'⟩ := x; exact LeftS.trans h1 (ih.2 _ _ h)
theorem endQ_left {c : Int} {ts : List Tok} {q : QR} (h : QLeft ts q) : QLeft ts (endQ c q) := by
  match q, h with
  | .inl (r, e), h => exact h
  | .inr (s, r), h =>
    simp only [endQ]
    split
    · rename_i q; exact LeftS.trans h (left_tail_sign q).left
    · exact LeftS.left h
theorem termG_left {N : Nms} {f : Option (List Tok → QR)} (hf : ∀ g, f = some g → ∀ ts, QLeft ts (g ts)) (ts : List Tok) : QLeft ts (termG N f ts) := by
  unfold termG
  split
  · rename_i hs
    have h0 := left_tail_sign hs
    split
    · exact Left.refl ts
    · rename_i g
      have h1 := hf g rfl ts.tail
      cases h : g ts.tail with
      | inl x => obtain ⟨r', e'⟩ := x; rw [h] at h1; exact h0.left.trans h1
      | inr x => obtain ⟨s', r'⟩ := x; rw [h] at h1; exact h0.trans (LeftS.left h1)
  · split
    · rename_i hs
      have h0 := left_tail_sign hs
      split
      · exact Left.refl ts
      · rename_i g
        exact QLeft.weak h0.left (endQ_left (sumG_left (hf g rfl) ts.tail))
    · split
      · exact Left.refl ts
      · rename_i s hs
        exact leftS_tail (setM_end hs)
theorem termM_left (N : Nms) : ∀ (b : Nat) (ts : List Tok), QLeft ts (termM N b ts)
  | 0, ts => termG_left (fun g h => by cases h) ts
  | b + 1, ts => termG_left (fun g h => by cases h; exact termM_left N b) ts
theorem sumM_left (N : Nms) (b : Nat) (ts : List Tok) : QLeft ts (sumM N b ts) := sumG_left (termM_left N b) ts
def NLeft {α : Type} (ts : List Tok) : NR α → Prop
  | .inl (r, _) => Left ts r
  | .inr (_, r, _) => Left ts r
def NLeftS {α : Type} (ts : List Tok) : NR α → Prop
  | .inl (r, _) => Left ts r
  | .inr (_, r, _) => LeftS ts r
theorem endN_left {c : Int} {ts : List Tok} {q : NR Nd} (h : NLeft ts q) : NLeft ts (endN c q) := by
  match q, h with
  | .inl (r, e), h => exact h
  | .inr (n, r, st), h =>
    simp only [endN]
    split
    · rename_i q; exact Left.trans h (left_tail_sign q).left
    · exact h
theorem partM_left {N : Nms} {f : Option (List Tok → Sts → NR Nd)} (hf : ∀ g, f = some g → ∀ ts st, NLeft ts (g ts st)) (ts : List Tok) (st : Sts) : NLeftS ts (partM N f ts st) := by
  unfold partM
  split
  · rename_i hs
    have h0 := left_tail_sign hs
    split
    · exact Left.refl ts
    · rename_i g
      have h1 := endN_left (c := 41) (hf g rfl ts.tail st)
      cases h : endN 41 (g ts.tail st) with
      | inl x => obtain ⟨r', e'⟩ := x; rw [h] at h1; exact h0.left.trans h1
      | inr x => obtain ⟨s', r', st'⟩ := x; rw [h] at h1; exact h0.trans h1
  · split
    · exact Left.refl ts
    · rename_i s hs
      split
      · exact Left.refl ts
      · exact leftS_tail (setM_end hs)
theorem signF_left : ∀ (f c : Nat) (n : Nd) (ts : List Tok) (st : Sts), NLeft ts (signF f c n ts st)
  | 0, c, n, ts, st => Left.refl ts
  | f + 1, c, n, ts, st => by
    unfold signF
    split
    · exact Left.refl ts
    · rename_i hk
      split
      · exact Left.refl ts
      · have h0 := leftS_tail (kindT_end hk)
        have ih := signF_left f (c + 1) ⟨kindT (hdT ts), 0, [n]⟩ ts.tail st
        cases h : signF f (c + 1) ⟨kindT (hdT ts), 0, [n]⟩ ts.tail st with
        | inl x => obtain ⟨r', e'⟩ := x; rw [h] at ih; exact h0.left.trans ih
        | inr x => obtain ⟨s', r', st'⟩ := x; rw [h] at ih; exact h0.left.trans ih
theorem signedM_left {p : List Tok → Sts → NR Nd} (hp : ∀ ts st, NLeftS ts (p ts st)) (ts : List Tok) (st : Sts) : NLeftS ts (signedM p ts st) := by
  have h1 := hp ts st
  unfold signedM
  split
  · rename_i e he; rw [he] at h1; exact h1
  · rename_i n r st' he
    rw [he] at h1
    have h2 := signF_left 4 (cntN 4 n) n r st'
    cases h : signF 4 (cntN 4 n) n r st' with
    | inl x => obtain ⟨r', e'⟩ := x; rw [h] at h2; exact (LeftS.left h1).trans h2
    | inr x => obtain ⟨s', r', st'⟩ := x; rw [h] at h2; exact LeftS.trans h1 h2
theorem catF_left {p : List Tok → Sts → NR Nd} (hp : ∀ ts st, NLeftS ts (p ts st)) : ∀ (f : Nat) (acc : List Nd) (ts : List Tok) (st : Sts), NLeft ts (catF p f acc ts st)
  | 0, acc, ts, st => Left.refl ts
  | f + 1, acc, ts, st => by
    have h1 := hp ts st
    unfold catF
    split
    · split
      · rename_i e he; rw [he] at h1; exact h1
      · rename_i n r st' he
        rw [he] at h1
        have ih := catF_left hp f (acc ++ [n]) r st'
        cases h : catF p f (acc ++ [n]) r st' with
        | inl x => obtain ⟨r', e'⟩ := x; rw [h] at ih; exact (LeftS.left h1).trans ih
        | inr x => obtain ⟨s', r', st'⟩ := x; rw [h] at ih; exact (LeftS.left h1).trans ih
    · exact Left.refl ts
theorem catM_left {p : List Tok → Sts → NR Nd} (hp : ∀ ts st, NLeftS ts (p ts st)) (ts : List Tok) (st : Sts) : NLeft ts (catM p ts st) := by
  have h1 := catF_left hp (ts.length + 1) [] ts st
  unfold catM
  split
  · rename_i e he; rw [he] at h1; exact h1
  · rename_i n r st' he
    rw [he] at h1; exact h1
theorem altF_left {p : List Tok → Sts → NR Nd} (hp : ∀ ts st, NLeft ts (p ts st)) : ∀ (f : Nat) (acc : List Nd) (ts : List Tok) (st : Sts), NLeft ts (altF p f acc ts st)
  | 0, acc, ts, st => Left.refl ts
  | f + 1, acc, ts, st => by
    have h1 := hp ts.tail st
    unfold altF
    split
    · rename_i hs
      have h0 := (left_tail_sign hs).left
      split
      · rename_i e he; rw [he] at h1; exact h0.trans h1
      · rename_i n r st' he
        rw [he] at h1
        have ih := altF_left hp f (acc ++ [n]) r st'
        cases h : altF p f (acc ++ [n]) r st' with
        | inl x => obtain ⟨r', e'⟩ := x; rw [h] at ih; exact (h0.trans h1).trans ih
        | inr x => obtain ⟨s', r', st'⟩ := x; rw [h] at ih; exact (h0.trans h1).trans ih
    · exact Left.refl ts
theorem regexG_left {p : List Tok → Sts → NR Nd} (hp : ∀ ts st, NLeft ts (p ts st)) (ts : List Tok) (st : Sts) : NLeft ts (regexG p ts st) := by
  have h1 := hp ts st
  unfold regexG
  split
  · rename_i e he; rw [he] at h1; exact h1
  · rename_i n r st' he
    rw [he] at h1
    have h2 := altF_left hp (r.length + 1) [n] r st'
    split
    · rename_i e he; rw [he] at h2; exact Left.trans h1 h2
    · rename_i l r2 st2 he; rw [he] at h2; exact Left.trans h1 h2
theorem regexM_left (N : Nms) : ∀ (b : Nat) (ts : List Tok) (st : Sts), NLeft ts (regexM N b ts st)
  | 0, ts, st => regexG_left (catM_left (signedM_left (partM_left (fun g h => by cases h)))) ts st
  | b + 1, ts, st => regexG_left (catM_left (signedM_left (partM_left (fun g h => by cases h; exact regexM_left N b)))) ts st
theorem inner_left (N : Nms) (b : Nat) : ∀ g, inner N b = some g → ∀ ts st, NLeft ts (g ts st) := fun g h => by
  cases b with
  | zero => cases h
  | succ b => cases h; exact regexM_left N b
end Go.Proofs.YtfdjchnckjgapaaGreatDoor
