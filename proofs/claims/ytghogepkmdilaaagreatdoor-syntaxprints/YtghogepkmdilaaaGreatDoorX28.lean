/-
  Sets that are joined of others have no more ranges than these have edges. Plain mathematics. Expressions that were parsed have few parts; texts have few tokens. Plain mathematics. What scansionref02.with answers: a range more behind a row of the call's own, or its last one grown.
-/
import Derived.Test.YtghogepkmdilaaaGreatDoorX27
import Derived.Test.YtghogepkmdilaaaGreatDoorX09
namespace Go.Proofs.YtghogepkmdilaaaGreatDoor
open Go.RowKit Go.Shelf S1
set_option linter.unusedVariables false

/-- A set is told alike at two neighbours, but at an edge. -/
def Stb (E : List Int) (s : List Rg) : Prop := ∀ x, 1 ≤ x → x ≤ 1114111 → x ∉ E → hasR s x = hasR s (x - 1)
/-- A set whose edges are of these. -/
def GS (E : List Int) (s : List Rg) : Prop := IsSet s ∧ Stb E s

theorem nodup_le : ∀ {l m : List Int}, l.Nodup → (∀ x ∈ l, x ∈ m) → l.length ≤ m.length
  | [], m, _, _ => Nat.zero_le _
  | a :: l, m, hn, hs => by
    have ha := hs a (by simp)
    have h1 : ∀ x ∈ l, x ∈ m.erase a := fun x hx => by
      have hne : x ≠ a := fun q => by
        subst q
        exact (List.nodup_cons.1 hn).1 hx
      exact (List.mem_erase_of_ne hne).2 (hs x (by simp [hx]))
    have h2 := nodup_le (List.nodup_cons.1 hn).2 h1
    rw [List.length_erase_of_mem ha] at h2
    have h3 : 0 < m.length := List.length_pos_of_mem ha
    simp only [List.length_cons]
    omega
theorem norm_los : ∀ {l : List Rg} {b : Int}, NormFrom b l → (l.map Rg.lo).Nodup ∧ ∀ x ∈ l, b ≤ x.lo
  | [], b, _ => ⟨by simp, fun x hx => (by cases hx)⟩
  | r :: l, b, h => by
    obtain ⟨i1, i2⟩ := norm_los h.2.2
    refine ⟨List.nodup_cons.2 ⟨fun q => ?_, i1⟩, fun x hx => ?_⟩
    · obtain ⟨x, hx, e⟩ := List.mem_map.1 q
      have := i2 x hx
      have := h.2.1
      omega
    · rcases List.mem_cons.1 hx with rfl | hx
      · exact h.1
      · have := i2 x hx
        have := h.2.1
        have := h.1
        omega
theorem norm_edge : ∀ {l : List Rg} {b : Int}, NormFrom b l → ∀ r ∈ l, hasR l r.lo = true ∧ hasR l (r.lo - 1) = false
  | [], b, _, r, h => by cases h
  | s :: l, b, hn, r, h => by
    rcases List.mem_cons.1 h with rfl | h
    · refine ⟨hasR_iff.2 ⟨r, by simp, by omega, hn.2.1⟩, ?_⟩
      cases q : hasR (r :: l) (r.lo - 1) with
      | false => rfl
      | true =>
        rw [hasR_cons, Bool.or_eq_true] at q
        rcases q with q | q
        · have := (of_decide_eq_true q).1; omega
        · have := hn.2.2.ge q; have := hn.2.1; omega
    · obtain ⟨i1, i2⟩ := norm_edge hn.2.2 r h
      have hlo := (norm_los hn.2.2).2 r h
      refine ⟨by rw [hasR_cons, i1]; simp, ?_⟩
      rw [hasR_cons, i2, Bool.or_false]
      apply decide_eq_false
      omega
theorem stb_len {E : List Int} {s : List Rg} (h : IsSet s) (hs : Stb E s) : s.length ≤ E.length + 1 := by
  have h1 := norm_los h.1
  have h2 : ∀ x ∈ s.map Rg.lo, x ∈ 0 :: E := fun x hx => by
    obtain ⟨r, hr, rfl⟩ := List.mem_map.1 hx
    have hf := h.fits r hr
    by_cases q : r.lo = 0
    · rw [q]; simp
    · by_cases q2 : r.lo ∈ E
      · simp [q2]
      · have h3 := hs r.lo (by omega) (by omega) q2
        obtain ⟨e1, e2⟩ := norm_edge h.1 r hr
        rw [e1, e2] at h3
        cases h3
  have h3 := nodup_le h1.1 h2
  simpa using h3
theorem stb_pick {E : List Int} {g : Bool → Bool → Bool} {a b : List Rg} (ha : GS E a) (hb : GS E b) : GS E (pickS g a b) := by
  have hu := pickS_upto g ha.1 hb.1
  refine ⟨hu.isSet, fun x h1 h2 h3 => ?_⟩
  have e1 : decide (0 ≤ x ∧ x < 1114112 ∧ g (hasR a x) (hasR b x) = true) = g (hasR a x) (hasR b x) := by
    cases g (hasR a x) (hasR b x) with
    | true => apply decide_eq_true; exact ⟨by omega, by omega, rfl⟩
    | false => apply decide_eq_false; rintro ⟨_, _, q⟩; cases q
  have e2 : decide (0 ≤ x - 1 ∧ x - 1 < 1114112 ∧ g (hasR a (x - 1)) (hasR b (x - 1)) = true) = g (hasR a (x - 1)) (hasR b (x - 1)) := by
    cases g (hasR a (x - 1)) (hasR b (x - 1)) with
    | true => apply decide_eq_true; exact ⟨by omega, by omega, rfl⟩
    | false => apply decide_eq_false; rintro ⟨_, _, q⟩; cases q
  rw [hu.2 x, hu.2 (x - 1), e1, e2, ha.2 x h1 h2 h3, hb.2 x h1 h2 h3]
theorem GS.nil (E : List Int) : GS E [] := ⟨IsSet.nil, fun x _ _ _ => rfl⟩
theorem GS.all (E : List Int) : GS E allS := ⟨allS_set, fun x h1 h2 _ => by
  have : ∀ y : Int, 0 ≤ y → y ≤ 1114111 → hasR allS y = true := fun y h1 h2 => hasR_iff.2 ⟨⟨0, 1114111⟩, by simp [allS], h1, h2⟩
  rw [this x (by omega) h2, this (x - 1) (by omega) (by omega)]⟩
/-- The edges of entries. -/
def edgesOf (L : List Rg) : List Int := L.flatMap fun r => [r.lo, r.hi + 1]
theorem edgesOf_len : ∀ (L : List Rg), (edgesOf L).length = 2 * L.length
  | [] => rfl
  | r :: L => by
    have e : edgesOf (r :: L) = [r.lo, r.hi + 1] ++ edgesOf L := rfl
    rw [e, List.length_append, edgesOf_len L]; simp; omega
theorem stb_mk {L l : List Rg} (hf : Fits l) (hl : ∀ r ∈ l, r ∈ L) : GS (edgesOf L) (mkS l) := by
  have hu : Upto (fun x => hasR l x) (mkS l) 1114112 := pick_spec l [] hf (fun x hx => (by cases hx)) (fun x _ => x)
  refine ⟨hu.isSet, fun x h1 h2 h3 => ?_⟩
  have key : hasR l x = hasR l (x - 1) := by
    cases q : hasR l x with
    | true =>
      obtain ⟨r, hr, a1, a2⟩ := hasR_iff.1 q
      symm
      refine hasR_iff.2 ⟨r, hr, ?_, by omega⟩
      have : x ≠ r.lo := fun e => h3 (by rw [e]; exact List.mem_flatMap.2 ⟨r, hl r hr, by simp⟩)
      omega
    | false =>
      symm
      cases q2 : hasR l (x - 1) with
      | false => rfl
      | true =>
        obtain ⟨r, hr, a1, a2⟩ := hasR_iff.1 q2
        have : x ≠ r.hi + 1 := fun e => h3 (by rw [e]; exact List.mem_flatMap.2 ⟨r, hl r hr, by simp⟩)
        have : hasR l x = true := hasR_iff.2 ⟨r, hr, by omega, by omega⟩
        rw [this] at q; cases q
  rw [hu.2 x, hu.2 (x - 1)]
  simp only [key]
  apply decide_eq_decide.2
  constructor
  · rintro ⟨_, _, c⟩; exact ⟨by omega, by omega, c⟩
  · rintro ⟨_, _, c⟩; exact ⟨by omega, by omega, c⟩

/-- All entries of tokens, and how many there are. -/
def entsOf (l : List Tok) : List Rg := l.flatMap Tok.s
theorem setF_count {n : Nat} : ∀ {k : Nat} {us r : List U} {acc l : List Rg}, setF n k us acc = SR.good l r → l.length + r.length ≤ acc.length + us.length
  | 0, us, r, acc, l, h => by cases h
  | k + 1, us, r, acc, l, h => by
    cases h1 : sgn (isC 93) us with
    | mk o s => cases o with
      | some x =>
        rw [setF_end h1] at h
        obtain ⟨e1, e2⟩ := Prod.mk.inj (Sum.inr.inj h)
        have := sgn_len h1
        rw [← e1, ← e2]; omega
      | none => cases h2 : entL us with
        | mk o2 r2 => cases o2 with
          | none => rw [setF_stuck h1 h2] at h; cases h
          | some e =>
            cases h3 : (decide (e.hi < e.lo) || decide (1114111 < e.hi)) with
            | true => rw [setF_arg h1 h2 h3] at h; cases h
            | false =>
              rw [setF_on h1 h2 h3] at h
              have h4 := setF_count h
              have h5 := entL_len h2
              simp only [List.length_append, List.length_cons, List.length_nil] at h4
              omega
theorem tokO_count {n : Nat} {us r : List U} {t : Tok} (h : tokO n us = OR.good t r) : t.s.length + r.length ≤ us.length := by
  match us, h with
  | [], h =>
    obtain ⟨e1, e2⟩ := Prod.mk.inj (Sum.inr.inj (show OR.good ⟨4, n, [], []⟩ [] = OR.good t r from h))
    rw [← e1, ← e2]; simp
  | u :: us, h =>
    rw [tokO_cons] at h
    split at h
    · obtain ⟨e1, e2⟩ := Prod.mk.inj (Sum.inr.inj h)
      rw [← e1, ← e2]
      have := dropWhile_le (fitU nameR) us
      simp; omega
    · split at h
      · obtain ⟨e1, e2⟩ := Prod.mk.inj (Sum.inr.inj h)
        rw [← e1, ← e2]; simp
      · split at h
        · cases h1 : setF n (us.length + 1) us [] with
          | inl x => rw [h1] at h; cases h
          | inr x =>
            obtain ⟨l, s⟩ := x
            rw [h1] at h
            obtain ⟨e1, e2⟩ := Prod.mk.inj (Sum.inr.inj h)
            have := setF_count h1
            rw [← e1, ← e2]; simp at this ⊢; omega
        · cases h
theorem toksF_count {n : Nat} : ∀ {k : Nat} {us : List U} {acc l : List Tok}, toksF n k us acc = TR.good l → (entsOf l).length ≤ (entsOf acc).length + us.length
  | 0, us, acc, l, h => by cases h
  | k + 1, us, acc, l, h => by
    have hbl := blankL_le false us
    cases h1 : tokO n (blankL false us) with
    | inl x => obtain ⟨a, e⟩ := x; rw [toksF_bad h1] at h; cases h
    | inr x =>
      obtain ⟨t, r⟩ := x
      have hc := tokO_count h1
      have he : ∀ (acc : List Tok) (t : Tok), (entsOf (acc ++ [t])).length = (entsOf acc).length + t.s.length := fun acc t => by simp [entsOf]
      by_cases h4 : t.k = 4
      · rw [toksF_end h1 h4] at h
        obtain rfl := Sum.inr.inj h
        rw [he]; omega
      · rw [toksF_on h1 h4] at h
        have := toksF_count h
        rw [he] at this; omega
theorem toks_count {zs : List Int} {us : List U} (hr : Run zs 0 us zs.length) {l : List Tok} (h : toksL zs.length us = TR.good l) : (entsOf l).length ≤ zs.length := by
  have hlen := Run.le hr (Nat.zero_le _)
  have := toksF_count (show toksF zs.length (us.length + 1) us [] = TR.good l from h)
  simp [entsOf] at this ⊢
  omega
end Go.Proofs.YtghogepkmdilaaaGreatDoor

namespace Go.Proofs.YtghogepkmdilaaaGreatDoor
open Go.RowKit Go.Shelf S1
set_option linter.unusedVariables false

/-- So deep, no expression has many parts. -/
def Wid : Nat → List Nd → Prop
  | 0, _ => True
  | f + 1, l => l.length ≤ 70000 ∧ ∀ x ∈ l, Wid f x.kids
def WdN (n : Nd) : Prop := ∀ f, Wid f n.kids
theorem wdN_of {k s : Int} {l : List Nd} (h : l.length ≤ 70000) (hl : ∀ x ∈ l, WdN x) : WdN ⟨k, s, l⟩ := fun f => by
  cases f with
  | zero => trivial
  | succ f => exact ⟨h, fun x hx => hl x hx f⟩
theorem joinN_wd {k : Int} : ∀ {l : List Nd}, l.length ≤ 70000 → (∀ x ∈ l, WdN x) → WdN (joinN k l)
  | [], h, hl => wdN_of h hl
  | [x], h, hl => hl x (by simp)
  | x :: y :: l, h, hl => wdN_of h hl
theorem signF_wd : ∀ (f c : Nat) (n : Nd) (ts : List Tok) (st : Sts) {m : Nd} {r : List Tok} {st' : Sts}, WdN n → signF f c n ts st = .inr (m, r, st') → WdN m
  | 0, c, n, ts, st, m, r, st', hn, h => by cases h; exact hn
  | f + 1, c, n, ts, st, m, r, st', hn, h => by
    unfold signF at h
    split at h
    · cases h; exact hn
    · split at h
      · cases h
      · exact signF_wd f (c + 1) _ _ _ (wdN_of (by simp) (fun x hx => by
          obtain rfl : x = n := by simpa using hx
          exact hn)) h
/-- p tells expressions of few parts. -/
def PWd (p : List Tok → Sts → NR Nd) : Prop := ∀ ts st n r st', ts.length ≤ 69990 → p ts st = .inr (n, r, st') → WdN n ∧ r.length ≤ ts.length
theorem nleft_len {α : Type} {ts : List Tok} {q : NR α} {n : α} {r : List Tok} {st' : Sts} (h : NLeft ts q) (e : q = .inr (n, r, st')) : r.length ≤ ts.length := by
  subst e; exact h.1
theorem signedM_wd {p : List Tok → Sts → NR Nd} (hp : PWd p) : PWd (signedM p) := fun ts st n r st' hl h => by
  unfold signedM at h
  split at h
  · cases h
  · rename_i m r1 st1 he
    obtain ⟨h1, h2⟩ := hp _ _ _ _ _ hl he
    exact ⟨signF_wd 4 _ m r1 st1 h1 h, Nat.le_trans (nleft_len (signF_left 4 (cntN 4 m) m r1 st1) h) h2⟩
theorem catF_wd {p : List Tok → Sts → NR Nd} (hp : PWd p) : ∀ (f : Nat) (acc : List Nd) (ts : List Tok) (st : Sts) {l : List Nd} {r : List Tok} {st' : Sts}, ts.length ≤ 69990 → (∀ x ∈ acc, WdN x) → catF p f acc ts st = .inr (l, r, st') → (∀ x ∈ l, WdN x) ∧ l.length ≤ acc.length + f ∧ r.length ≤ ts.length
  | 0, acc, ts, st, l, r, st', hl, ha, h => by cases h; exact ⟨ha, Nat.le_refl _, Nat.le_refl _⟩
  | f + 1, acc, ts, st, l, r, st', hl, ha, h => by
    unfold catF at h
    split at h
    · split at h
      · cases h
      · rename_i n r1 st1 he
        obtain ⟨h1, h2⟩ := hp _ _ _ _ _ hl he
        obtain ⟨i1, i2, i3⟩ := catF_wd hp f _ _ _ (Nat.le_trans h2 hl) (fun x hx => by
          rcases List.mem_append.1 hx with q | q
          · exact ha x q
          · obtain rfl : x = n := by simpa using q
            exact h1) h
        refine ⟨i1, ?_, Nat.le_trans i3 h2⟩
        simp at i2; omega
    · cases h; exact ⟨ha, by omega, Nat.le_refl _⟩
theorem altF_wd {p : List Tok → Sts → NR Nd} (hp : PWd p) : ∀ (f : Nat) (acc : List Nd) (ts : List Tok) (st : Sts) {l : List Nd} {r : List Tok} {st' : Sts}, ts.length ≤ 69990 → (∀ x ∈ acc, WdN x) → altF p f acc ts st = .inr (l, r, st') → (∀ x ∈ l, WdN x) ∧ l.length ≤ acc.length + f ∧ r.length ≤ ts.length
  | 0, acc, ts, st, l, r, st', hl, ha, h => by cases h; exact ⟨ha, Nat.le_refl _, Nat.le_refl _⟩
  | f + 1, acc, ts, st, l, r, st', hl, ha, h => by
    unfold altF at h
    split at h
    · split at h
      · cases h
      · rename_i n r1 st1 he
        have ht : ts.tail.length ≤ ts.length := by simp
        obtain ⟨h1, h2⟩ := hp _ _ _ _ _ (Nat.le_trans ht hl) he
        obtain ⟨i1, i2, i3⟩ := altF_wd hp f _ _ _ (Nat.le_trans h2 (Nat.le_trans ht hl)) (fun x hx => by
          rcases List.mem_append.1 hx with q | q
          · exact ha x q
          · obtain rfl : x = n := by simpa using q
            exact h1) h
        refine ⟨i1, ?_, Nat.le_trans i3 (Nat.le_trans h2 ht)⟩
        simp at i2; omega
    · cases h; exact ⟨ha, by omega, Nat.le_refl _⟩
theorem catM_wd {p : List Tok → Sts → NR Nd} (hp : PWd p) : PWd (catM p) := fun ts st n r st' hl h => by
  unfold catM at h
  split at h
  · cases h
  · rename_i l r1 st1 he
    cases h
    obtain ⟨i1, i2, i3⟩ := catF_wd hp _ _ _ _ hl (fun x hx => (by cases hx)) he
    exact ⟨joinN_wd (by simp at i2; omega) i1, i3⟩
theorem regexG_wd {p : List Tok → Sts → NR Nd} (hp : PWd p) : PWd (regexG p) := fun ts st n r st' hl h => by
  unfold regexG at h
  split at h
  · cases h
  · rename_i m r1 st1 he
    obtain ⟨h1, h2⟩ := hp _ _ _ _ _ hl he
    split at h
    · cases h
    · rename_i l r2 st2 he2
      cases h
      obtain ⟨i1, i2, i3⟩ := altF_wd hp _ _ _ _ (Nat.le_trans h2 hl) (fun x hx => by
        obtain rfl : x = m := by simpa using hx
        exact h1) he2
      exact ⟨joinN_wd (by simp at i2; omega) i1, Nat.le_trans i3 h2⟩
theorem partM_wd {N : Nms} {f : Option (List Tok → Sts → NR Nd)} (hf : ∀ g, f = some g → PWd g) : PWd (partM N f) := fun ts st n r st' hl h => by
  have ht : ts.tail.length ≤ ts.length := by simp
  unfold partM at h
  split at h
  · split at h
    · cases h
    · rename_i g
      cases hq : g ts.tail st with
      | inl x => rw [hq] at h; cases h
      | inr x =>
        obtain ⟨m, r1, st1⟩ := x
        rw [hq] at h
        simp only [endN] at h
        split at h
        · cases h
          obtain ⟨h1, h2⟩ := hf g rfl _ _ _ _ _ (Nat.le_trans ht hl) hq
          refine ⟨h1, ?_⟩
          have : r1.tail.length ≤ r1.length := by simp
          omega
        · cases h
  · split at h
    · cases h
    · split at h
      · cases h
      · cases h
        exact ⟨wdN_of (by simp) (fun x hx => (by cases hx)), ht⟩
theorem regexM_wd (N : Nms) : ∀ (b : Nat), PWd (regexM N b)
  | 0 => regexG_wd (catM_wd (signedM_wd (partM_wd (fun g h => by cases h))))
  | b + 1 => regexG_wd (catM_wd (signedM_wd (partM_wd (fun g h => by cases h; exact regexM_wd N b))))
/-- A rule's expressions have few parts. -/
def WdR (x : Rl) : Prop := WdN x.l ∧ WdN x.r
theorem ruleM_wd {N : Nms} {ts : List Tok} {st : Sts} {x : Rl} {r : List Tok} {st' : Sts} (hl : ts.length ≤ 69990) (h : ruleM N ts st = .inr (x, r, st')) : WdR x := by
  have ht : ts.tail.length ≤ ts.length := by simp
  have key : ∀ {c : Int} {q : NR Nd} {n : Nd} {r : List Tok} {st' : Sts}, endN c q = .inr (n, r, st') → ∃ r0, q = .inr (n, r0, st') ∧ r.length ≤ r0.length := fun {c q n r st'} h => by
    match q, h with
    | .inr (n0, r0, st0), h =>
      simp only [endN] at h
      split at h
      · cases h; exact ⟨r0, rfl, by simp⟩
      · cases h
  unfold ruleM at h
  split at h
  · cases h
  · rename_i l r1 st1 he
    obtain ⟨r0, e0, hr0⟩ := key he
    obtain ⟨h1, h2⟩ := regexM_wd N 20 _ _ _ _ _ (Nat.le_trans ht hl) e0
    split at h
    · cases h
    · rename_i n r2 st2 he2
      obtain ⟨r3, e3, hr3⟩ := key he2
      obtain ⟨h3, h4⟩ := regexM_wd N 20 _ _ _ _ _ (by omega) e3
      cases h
      exact ⟨h1, h3⟩
theorem textF_wd : ∀ (f : Nat) (N : Nms) (rs : List Rl) (ts : List Tok) (st : Sts) {rs' : List Rl} {st' : Sts}, ts.length ≤ 69990 → (∀ x ∈ rs, WdR x) → textF f N rs ts st = .inr (rs', st') → ∀ x ∈ rs', WdR x
  | 0, N, rs, ts, st, rs', st', hl, ha, h => by cases h; exact ha
  | f + 1, N, rs, ts, st, rs', st', hl, ha, h => by
    have ht : ts.tail.length ≤ ts.length := by simp
    unfold textF at h
    split at h
    · cases h; exact ha
    · rename_i hk
      split at h
      · split at h
        · cases h
        · rename_i N' r hn
          exact textF_wd f N' rs r st (Nat.le_trans (nameM_left hn) (Nat.le_trans ht hl)) ha h
      · split at h
        · cases h
        · split at h
          · cases h
          · split at h
            · cases h
            · rename_i x r st1 hn
              refine textF_wd f N (rs ++ [x]) r st1 (Nat.le_trans (Nat.le_of_lt (ruleM_left hk hn)) hl) (fun y hy => ?_) h
              rcases List.mem_append.1 hy with q | q
              · exact ha y q
              · obtain rfl : y = x := by simpa using q
                exact ruleM_wd hl hn
theorem toksF_few {n : Nat} : ∀ {k : Nat} {us : List U} {acc l : List Tok}, toksF n k us acc = TR.good l → l.length ≤ acc.length + us.length + 1
  | 0, us, acc, l, h => by cases h
  | k + 1, us, acc, l, h => by
    have hbl := blankL_le false us
    cases h1 : tokO n (blankL false us) with
    | inl x => obtain ⟨a, e⟩ := x; rw [toksF_bad h1] at h; cases h
    | inr x =>
      obtain ⟨t, r⟩ := x
      have hlen := tokO_len h1
      by_cases h4 : t.k = 4
      · rw [toksF_end h1 h4] at h
        obtain rfl := Sum.inr.inj h
        simp
      · rw [toksF_on h1 h4] at h
        have h5 := toksF_few h
        have h6 : r.length < (blankL false us).length := by
          rcases hlen with ⟨q, _⟩ | ⟨_, q⟩
          · exact absurd q h4
          · exact q
        simp at h5; omega
theorem toks_few {zs : List Int} {us : List U} (hr : Run zs 0 us zs.length) {l : List Tok} (h : toksL zs.length us = TR.good l) : l.length ≤ zs.length + 1 := by
  have hlen := Run.le hr (Nat.zero_le _)
  have := toksF_few (show toksF zs.length (us.length + 1) us [] = TR.good l from h)
  simp at this
  omega
theorem parseL_wd {zs : List Int} {us : List U} (hr : Run zs 0 us zs.length) (hz : zs.length ≤ 65536) {rs : List Rl} {st : Sts} (h : parseL (toksL zs.length us) = .inr (rs, st)) : ∀ x ∈ rs, WdR x := by
  cases ht : toksL zs.length us with
  | inl e => rw [ht] at h; cases h
  | inr l =>
    have hc := toks_few hr ht
    rw [ht] at h
    unfold parseL at h
    simp only at h
    split at h
    · cases h
    · rename_i x hx
      obtain ⟨rs', st'⟩ := x
      cases h
      exact textF_wd _ _ _ _ _ (by simp; omega) (fun x hx => (by cases hx)) hx
end Go.Proofs.YtghogepkmdilaaaGreatDoor

namespace Go.Proofs.YtghogepkmdilaaaGreatDoor
open Go.RowKit
set_option linter.unusedVariables false

set_option maxRecDepth 100000 in
set_option maxHeartbeats 2000000 in
theorem with_any (base : Nat) (l : List Rg) (lo hi : Int) (v : Value) (w : World) (hlen : l.length ≤ 600000) (hbd : -10 ≤ lo ∧ lo ≤ 2000000) (hbase : base ≤ w.heap.size) (hown : w.ownsRow base 80 2 v l.length (cellsRs l)) :
    Calls Tryz.prog 139 #[v, .int .i64 lo, .int .i64 hi] w fun e w' => ∃ v', e = .returned v' ∧ w'.ownsRow base 80 2 v' (withL l lo hi).length (cellsRs (withL l lo hi)) ∧ Below base w w' := by
  obtain ⟨i0, hi0, hz0, hz1, hz2⟩ := info_parts Tryz.infoRange
  obtain ⟨a, cap, rfl, hc, hcell⟩ := rng_of_row hown
  have HO : Hid (w.ownsRow base 80 2 (.slice a l.length cap) l.length (cellsRs l)) := hown
  clear hown
  rcases list_last l with rfl | ⟨ini, s, rfl⟩
  · have HO2 : Hid ((w.alloc (.cells #[.int .i64 lo, .int .i64 hi] 80)).ownsRow base 80 2 (.slice a 0 cap) 0 []) := World.ownsRow.alloc HO.out _
    have HN : Hid _ := heap_new' w (.cells #[.int .i64 lo, .int .i64 hi] 80)
    have HB : Hid (Below base w (w.alloc (.cells #[.int .i64 lo, .int .i64 hi] 80))) := (Below.refl base w).alloc hbase _
    rw [withL_nil]
    clear hcell HO
    have hid : decide ((0 : Int) < 0) = false := rfl
    go_enter Tryz.func139, Tryz.ntmps139
    go_wp2_with (at_builtin; go_must (refine wpList_append_own _ rfl (.tmp 30) (.tmp 34) 44 rfl base 80 i0 (.agg #[.int .i64 0, .int .i64 0]) 2 16 Tryz.underlying44 hi0 hz0 hz1 hz2 rfl (by decide) _ _ _ rfl HO2.out ⟨w.heap.size, 0, none⟩ 1 1 (cellsR ⟨lo, hi⟩) rfl rfl (World.news_of_block HN.out) (by simp [cellsR, Value.oneCell']) (by unfold maxLen; omega) (by omega) (by simp; omega) ?_); intro v' w1 hown' hgrow hnil)
    go_ret
    exact ⟨v', rfl, by simpa [cellsRs] using hown', HB.out.grown hgrow (by simp; omega) (fun j e => (World.ownsRow.lt HO2.out j e).1)⟩
  · have hl1 : (ini ++ [s]).length = ini.length + 1 := by simp
    have hle : ini.length + 1 ≤ 600000 := by rw [← hl1]; exact hlen
    obtain ⟨g, off, rfl, hg, c0, c1⟩ := hcell ini.length (by omega)
    have e1 : (ini ++ [s])[ini.length]'(by omega) = s := by simp
    rw [e1] at c0 c1
    have hoff : off = 0 ∧ base ≤ g := by
      rcases HO.out.2 with ⟨e, _⟩ | ⟨g', cap', cur, e, hb, _⟩
      · cases e
      · simp at e; exact ⟨e.1.2, by rw [e.1.1]; exact hb⟩
    obtain ⟨hoff, hbg⟩ := hoff
    subst hoff
    simp only [Nat.zero_add] at c0 c1
    rw [hl1] at HO hc ⊢
    have f1 : w.frozen? ⟨g, ini.length * 2 + 1, none⟩ = false := own_frozen HO.out _
    clear hcell hlen e1
    have hn0 : (0 : Int) < (ini.length : Int) + 1 := by omega
    by_cases q : s.hi = lo - 1
    · rw [withL_join q]
      have hq : (s.hi == lo - 1) = true := by simp [q]
      clear q
      have HO4 : Hid ((w.setCell ⟨g, ini.length * 2 + 1, none⟩ (.int .i64 hi)).ownsRow base 80 2 (.slice (some ⟨g, 0, none⟩) (ini.length + 1) cap) (ini ++ [(⟨s.lo, hi⟩ : Rg)]).length (cellsRs (ini ++ [⟨s.lo, hi⟩]))) := by
        have := own_grow (base := base) (g := g) (cap := cap) (ini := ini) (s := s) (w := w) (by rw [hl1]; exact HO.out) hi
        rw [hl1] at this
        exact this
      have HB4 : Hid (Below base w (w.setCell ⟨g, ini.length * 2 + 1, none⟩ (.int .i64 hi))) := (Below.refl base w).setCell (p := ⟨g, ini.length * 2 + 1, none⟩) hbg _
      clear HO
      go_enter Tryz.func139, Tryz.ntmps139
      go_wp2
      go_ret
      exact ⟨.slice (some ⟨g, 0, none⟩) (ini.length + 1) cap, rfl, HO4.out, HB4.out⟩
    · rw [withL_snoc q]
      have hq : (s.hi == lo - 1) = false := by simp [q]
      clear q
      have HO3 : Hid ((w.alloc (.cells #[.int .i64 lo, .int .i64 hi] 80)).ownsRow base 80 2 (.slice (some ⟨g, 0, none⟩) (ini.length + 1) cap) (ini.length + 1) (cellsRs (ini ++ [s]))) := World.ownsRow.alloc HO.out _
      have HN3 : Hid _ := heap_new' w (.cells #[.int .i64 lo, .int .i64 hi] 80)
      have HB3 : Hid (Below base w (w.alloc (.cells #[.int .i64 lo, .int .i64 hi] 80))) := (Below.refl base w).alloc hbase _
      clear HO
      go_enter Tryz.func139, Tryz.ntmps139
      go_wp2_with (at_builtin; go_must (refine wpList_append_own _ rfl (.tmp 30) (.tmp 34) 44 rfl base 80 i0 (.agg #[.int .i64 0, .int .i64 0]) 2 16 Tryz.underlying44 hi0 hz0 hz1 hz2 rfl (by decide) _ _ _ rfl HO3.out ⟨w.heap.size, 0, none⟩ 1 1 (cellsR ⟨lo, hi⟩) rfl rfl (World.news_of_block HN3.out) (by simp [cellsR, Value.oneCell']) (by unfold maxLen; omega) (by omega) (by simp; omega) ?_); intro v' w1 hown' hgrow hnil)
      go_ret
      refine ⟨v', rfl, ?_, HB3.out.grown hgrow (by simp; omega) (fun j e => (World.ownsRow.lt HO3.out j e).1)⟩
      rw [cellsRs_snoc]
      simpa using hown'
end Go.Proofs.YtghogepkmdilaaaGreatDoor
