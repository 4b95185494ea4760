/-
  BkPar
-/
import Derived.Test.YtfdjchnckjgapaaGreatDoorX48
namespace Go.Proofs.YtfdjchnckjgapaaGreatDoor
open Go.RowKit Go.Shelf S1
set_option linter.unusedVariables false
def Apart (st : Sts) : Prop := ∀ i j, (hi : i < st.length) → (hj : j < st.length) → st[i] = st[j] → i = j
theorem idxS_none {s : List Rg} : ∀ {l : Sts}, (∀ x ∈ l, x ≠ s) → idxS s l = none
  | [], _ => rfl
  | x :: l, h => by
    have h1 : ¬ sameS x s = true := fun q => h x (by simp) (sameS_iff.1 q)
    unfold idxS
    rw [if_neg h1, idxS_none fun y hy => h y (by simp [hy])]
    rfl
theorem idxS_at : ∀ {l : Sts} {i : Nat} (h : i < l.length), (∀ j, (hj : j < i) → l[j]'(Nat.lt_trans hj h) ≠ l[i]) → idxS l[i] l = some i
  | [], i, h, _ => by cases h
  | x :: l, 0, h, _ => by
    have h1 : sameS x x = true := sameS_iff.2 rfl
    show (if sameS x x = true then some 0 else _) = _
    rw [if_pos h1]
  | x :: l, i + 1, h, hn => by
    have h1 : ¬ sameS x (x :: l)[i + 1] = true := fun q => hn 0 (by omega) (sameS_iff.1 q)
    unfold idxS
    rw [if_neg h1]
    have := idxS_at (l := l) (i := i) (by simpa using h) (fun j hj => by have := hn (j + 1) (by omega); simpa using this)
    simp only [List.getElem_cons_succ]
    rw [this]
    rfl
theorem place_met {st : Sts} (ha : Apart st) (h60 : st.length ≤ 60) {m m' : Nat} {s : Int} (hm : meetS m s = some m') (hl : m' ≤ st.length) :
    ∃ i : Nat, s = (i : Int) ∧ placeM (st.take m) (st.getD s.toNat []) = some (i, st.take m') := by
  unfold meetS at hm
  split at hm
  · rename_i q
    obtain rfl : m + 1 = m' := Option.some.inj hm
    subst q
    have hml : m < st.length := by omega
    have e : st.getD ((m : Int)).toNat [] = st[m] := by simp [List.getD, hml]
    refine ⟨m, rfl, ?_⟩
    rw [e]
    unfold placeM
    have hno : idxS st[m] (st.take m) = none := idxS_none fun x hx => by
      obtain ⟨i, hi, rfl⟩ := List.getElem_of_mem hx
      rw [List.length_take] at hi
      rw [List.getElem_take]
      intro q
      have := ha i m (by omega) hml q
      omega
    rw [hno]
    simp only
    have hlen : (st.take m).length = m := by rw [List.length_take]; omega
    rw [hlen, if_neg (by omega), List.take_append_getElem hml]
  · split at hm
    · rename_i q1 q
      obtain rfl : m = m' := Option.some.inj hm
      obtain ⟨i, rfl⟩ : ∃ i : Nat, s = (i : Int) := ⟨s.toNat, by omega⟩
      have hi : i < m := by omega
      have hil : i < st.length := by omega
      have hit : i < (st.take m).length := by rw [List.length_take]; omega
      have e : st.getD ((i : Int)).toNat [] = (st.take m)[i] := by rw [List.getElem_take]; simp [List.getD, hil]
      refine ⟨i, rfl, ?_⟩
      rw [e]
      unfold placeM
      rw [idxS_at hit (fun j hj q => by
        rw [List.getElem_take, List.getElem_take] at q
        have := ha j i (by omega) hil q
        omega)]
    · cases hm
theorem sh_cons {ts : List Tok} {t : Tok} {K : List Tok} (h : ts.map shT = t :: K) : ∃ u r, ts = u :: r ∧ shT u = t ∧ r.map shT = K := by
  cases ts with
  | nil => cases h
  | cons u r => rw [List.map_cons] at h; exact ⟨u, r, rfl, (List.cons.inj h).1, (List.cons.inj h).2⟩
theorem hd_sh {r R : List Tok} (h : r.map shT = R) : shT (hdT r) = shT (hdT R) := by
  subst h
  cases r <;> rfl
theorem sign_sh {c : Int} {t u : Tok} (h : shT t = shT u) : tkSign c t = tkSign c u := by
  have h1 : tkSign c (shT t) = tkSign c (shT u) := by rw [h]
  exact h1
theorem kind_sh {t u : Tok} (h : shT t = shT u) : kindT t = kindT u := by
  have h1 : kindT (shT t) = kindT (shT u) := by rw [h]
  exact h1
theorem part_sh {t u : Tok} (h : shT t = shT u) : tkPart t = tkPart u := by
  have h1 : tkPart (shT t) = tkPart (shT u) := by rw [h]
  exact h1
def Eat {α : Type} (C : Tok → Prop) (p : List Tok → Sts → NR α) (K : List Tok) (st : Sts) (a : α) (st' : Sts) : Prop :=
  ∀ ts R, ts.map shT = K ++ R → C (hdT R) → ∃ r, r.map shT = R ∧ p ts st = .inr (a, r, st')
def Cat0 (t : Tok) : Prop := kindT t = 0 ∧ tkPart t = false
def Reg0 (t : Tok) : Prop := Cat0 t ∧ tkSign 124 t = false
def Sgd (p : List Tok → Sts → NR Nd) (d : Nat) (K : List Tok) (st : Sts) (n : Nd) (st' : Sts) : Prop :=
  ∀ ts R, ts.map shT = K ++ R → ∃ r, r.map shT = R ∧ signedM p ts st = signF (4 - d) d n r st'
theorem Sgd.cat {p : List Tok → Sts → NR Nd} {d : Nat} {K : List Tok} {st st' : Sts} {n : Nd} (h : Sgd p d K st n st') (hd : d ≤ 3) : Eat (fun t => kindT t = 0) (signedM p) K st n st' := by
  intro ts R he hC
  obtain ⟨r, hr, e⟩ := h ts R he
  refine ⟨r, hr, ?_⟩
  rw [e]
  obtain ⟨j, hj⟩ : ∃ j, 4 - d = j + 1 := ⟨3 - d, by omega⟩
  rw [hj]
  unfold signF
  rw [if_pos ((kind_sh (hd_sh hr)).trans hC)]
theorem Sgd.sign {p : List Tok → Sts → NR Nd} {d : Nat} {K : List Tok} {st st' : Sts} {x : Nd} {k : Int} (h : Sgd p d K st x st') (hd : d < 3) (hk : signK k = true) : Sgd p (d + 1) (K ++ signTk k) st ⟨k, 0, [x]⟩ st' := by
  intro ts R he
  have hs : ∃ c, signTk k = [sgK c] ∧ kindT (sgK c) = k ∧ k ≠ 0 := by
    simp [signK] at hk
    rcases hk with (hk | hk) | hk <;> subst hk
    · exact ⟨42, rfl, by decide, by decide⟩
    · exact ⟨43, rfl, by decide, by decide⟩
    · exact ⟨63, rfl, by decide, by decide⟩
  obtain ⟨c, hc, hkk, hk0⟩ := hs
  rw [hc, List.append_assoc] at he
  obtain ⟨r, hr, e⟩ := h ts _ he
  obtain ⟨u, r2, rfl, hu, hr2⟩ := sh_cons hr
  refine ⟨r2, hr2, ?_⟩
  rw [e]
  obtain ⟨j, hj⟩ : ∃ j, 4 - d = j + 1 := ⟨3 - d, by omega⟩
  have hku : kindT u = k := (kind_sh (t := u) (u := sgK c) (by rw [hu]; rfl)).trans hkk
  rw [hj]
  have hst : signF (j + 1) d x (u :: r2) st' = if kindT u = 0 then .inr (x, u :: r2, st') else if d = 3 then .inl (u :: r2, 3) else signF j (d + 1) ⟨kindT u, 0, [x]⟩ r2 st' := rfl
  rw [hst, hku, if_neg hk0, if_neg (by omega), show 4 - (d + 1) = j by omega]
def Chn (p : List Tok → Sts → NR Nd) : List Tok → Sts → List Nd → Sts → Prop
  | K, st, [], st2 => K = [] ∧ st2 = st
  | K, st, x :: l, st2 => ∃ A M st1, K = A ++ M ∧ Eat (fun t => kindT t = 0) p A st x st1 ∧ (∃ t T, A = t :: T ∧ tkPart t = true ∧ kindT t = 0) ∧ Chn p M st1 l st2
theorem Chn.nil {p : List Tok → Sts → NR Nd} (st : Sts) : Chn p [] st [] st := ⟨rfl, rfl⟩
theorem Chn.cons {p : List Tok → Sts → NR Nd} {K M : List Tok} {st st1 st2 : Sts} {x : Nd} {l : List Nd} (h1 : Eat (fun t => kindT t = 0) p K st x st1) (h2 : ∃ t T, K = t :: T ∧ tkPart t = true ∧ kindT t = 0) (h3 : Chn p M st1 l st2) : Chn p (K ++ M) st (x :: l) st2 := ⟨K, M, st1, rfl, h1, h2, h3⟩
theorem Chn.ind {p : List Tok → Sts → NR Nd} {motive : ∀ K st l st2, Chn p K st l st2 → Prop} (nil : ∀ st, motive [] st [] st (Chn.nil st))
    (cons : ∀ {K M : List Tok} {st st1 st2 : Sts} {x : Nd} {l : List Nd} (h1 : Eat (fun t => kindT t = 0) p K st x st1) (h2 : ∃ t T, K = t :: T ∧ tkPart t = true ∧ kindT t = 0) (h3 : Chn p M st1 l st2) (ih : motive M st1 l st2 h3), motive (K ++ M) st (x :: l) st2 (Chn.cons h1 h2 h3)) :
    ∀ {K : List Tok} {st : Sts} {l : List Nd} {st2 : Sts} (h : Chn p K st l st2), motive K st l st2 h := by
  intro K st l
  induction l generalizing K st with
  | nil => intro st2 h; obtain ⟨rfl, rfl⟩ := h; exact nil _
  | cons x l ih => intro st2 h; obtain ⟨A, M, st1, rfl, h1, h2, h3⟩ := h; exact cons h1 h2 h3 (ih h3)
theorem Chn.hd {p : List Tok → Sts → NR Nd} {K : List Tok} {st st' : Sts} {l : List Nd} (h : Chn p K st l st') {R : List Tok} (hR : kindT (hdT R) = 0) : kindT (hdT (K ++ R)) = 0 := by
  induction h using Chn.ind with
  | nil st => exact hR
  | cons h1 h2 h3 _ =>
    obtain ⟨t, T, rfl, _, h0⟩ := h2
    exact h0
theorem catF_eat {p : List Tok → Sts → NR Nd} {K : List Tok} {st st' : Sts} {l : List Nd} (h : Chn p K st l st') : ∀ {acc : List Nd} {f : Nat}, l.length < f → Eat Cat0 (catF p f acc) K st (acc ++ l) st' := by
  induction h using Chn.ind with
  | nil st =>
    intro acc f hf ts R he hC
    obtain ⟨g, rfl⟩ : ∃ g, f = g + 1 := ⟨f - 1, by simp at hf; omega⟩
    refine ⟨ts, he, ?_⟩
    unfold catF
    have : tkPart (hdT ts) = false := (part_sh (hd_sh (R := R) he)).trans hC.2
    rw [if_neg (by rw [this]; decide), List.append_nil]
  | cons h1 h2 h3 ih =>
    rename_i K M st st1 st2 x l
    intro acc f hf ts R he hC
    obtain ⟨g, rfl⟩ : ∃ g, f = g + 1 := ⟨f - 1, by simp at hf; omega⟩
    rw [List.append_assoc] at he
    obtain ⟨r, hr, e⟩ := h1 ts _ he (h3.hd hC.1)
    obtain ⟨r2, hr2, e2⟩ := ih (acc := acc ++ [x]) (f := g) (by simp at hf; omega) r R hr hC
    refine ⟨r2, hr2, ?_⟩
    obtain ⟨t, T, rfl, ht, _⟩ := h2
    have hp : tkPart (hdT ts) = true := (part_sh (hd_sh he)).trans ht
    unfold catF
    rw [if_pos hp, e]
    simp only
    rw [e2, List.append_assoc]
    rfl
theorem catM_eat {p : List Tok → Sts → NR Nd} {K : List Tok} {st st' : Sts} {l : List Nd} (h : Chn p K st l st') (hl : l.length ≤ K.length) : Eat Cat0 (catM p) K st (joinN 0 l) st' := by
  intro ts R he hC
  have hlen : K.length ≤ ts.length := by
    have := congrArg List.length he
    simp at this; omega
  obtain ⟨r, hr, e⟩ := catF_eat h (acc := []) (f := ts.length + 1) (by omega) ts R he hC
  refine ⟨r, hr, ?_⟩
  unfold catM
  rw [e]
  rfl
def Alt (p : List Tok → Sts → NR Nd) : List Tok → Sts → List Nd → Sts → Prop
  | K, st, [], st2 => K = [] ∧ st2 = st
  | K, st, x :: l, st2 => ∃ A M st1, K = sgK 124 :: (A ++ M) ∧ Eat Cat0 p A st x st1 ∧ Alt p M st1 l st2
theorem Alt.nil {p : List Tok → Sts → NR Nd} (st : Sts) : Alt p [] st [] st := ⟨rfl, rfl⟩
theorem Alt.cons {p : List Tok → Sts → NR Nd} {K M : List Tok} {st st1 st2 : Sts} {x : Nd} {l : List Nd} (h1 : Eat Cat0 p K st x st1) (h3 : Alt p M st1 l st2) : Alt p (sgK 124 :: (K ++ M)) st (x :: l) st2 := ⟨K, M, st1, rfl, h1, h3⟩
theorem Alt.ind {p : List Tok → Sts → NR Nd} {motive : ∀ K st l st2, Alt p K st l st2 → Prop} (nil : ∀ st, motive [] st [] st (Alt.nil st))
    (cons : ∀ {K M : List Tok} {st st1 st2 : Sts} {x : Nd} {l : List Nd} (h1 : Eat Cat0 p K st x st1) (h3 : Alt p M st1 l st2) (ih : motive M st1 l st2 h3), motive (sgK 124 :: (K ++ M)) st (x :: l) st2 (Alt.cons h1 h3)) :
    ∀ {K : List Tok} {st : Sts} {l : List Nd} {st2 : Sts} (h : Alt p K st l st2), motive K st l st2 h := by
  intro K st l
  induction l generalizing K st with
  | nil => intro st2 h; obtain ⟨rfl, rfl⟩ := h; exact nil _
  | cons x l ih => intro st2 h; obtain ⟨A, M, st1, rfl, h1, h3⟩ := h; exact cons h1 h3 (ih h3)
theorem Alt.hd {p : List Tok → Sts → NR Nd} {K : List Tok} {st st' : Sts} {l : List Nd} (h : Alt p K st l st') {R : List Tok} (hR : Cat0 (hdT R)) : Cat0 (hdT (K ++ R)) := by
  induction h using Alt.ind with
  | nil st => exact hR
  | cons h1 h2 _ => exact ⟨(by decide : kindT (sgK 124) = 0), (by decide : tkPart (sgK 124) = false)⟩
theorem altF_eat {p : List Tok → Sts → NR Nd} {K : List Tok} {st st' : Sts} {l : List Nd} (h : Alt p K st l st') : ∀ {acc : List Nd} {f : Nat}, l.length < f → Eat Reg0 (altF p f acc) K st (acc ++ l) st' := by
  induction h using Alt.ind with
  | nil st =>
    intro acc f hf ts R he hC
    obtain ⟨g, rfl⟩ : ∃ g, f = g + 1 := ⟨f - 1, by simp at hf; omega⟩
    refine ⟨ts, he, ?_⟩
    unfold altF
    have : tkSign 124 (hdT ts) = false := (sign_sh (hd_sh (R := R) he)).trans hC.2
    rw [if_neg (by rw [this]; decide), List.append_nil]
  | cons h1 h3 ih =>
    rename_i K M st st1 st2 x l
    intro acc f hf ts R he hC
    obtain ⟨g, rfl⟩ : ∃ g, f = g + 1 := ⟨f - 1, by simp at hf; omega⟩
    obtain ⟨u, ts', rfl, hu, he'⟩ := sh_cons he
    have he2 : ts'.map shT = K ++ (M ++ R) := by rw [← List.append_assoc]; exact he'
    obtain ⟨r, hr, e⟩ := h1 ts' _ he2 (h3.hd hC.1)
    obtain ⟨r2, hr2, e2⟩ := ih (acc := acc ++ [x]) (f := g) (by simp at hf; omega) r R hr hC
    refine ⟨r2, hr2, ?_⟩
    have hp : tkSign 124 (hdT (u :: ts')) = true := (sign_sh (t := u) (u := sgK 124) (by rw [hu]; rfl)).trans (by decide)
    unfold altF
    rw [if_pos hp]
    show (match p ts' st with | .inl e => _ | .inr (n, r, st') => _) = _
    rw [e]
    simp only
    rw [e2, List.append_assoc]
    rfl
theorem regexG_eat {p : List Tok → Sts → NR Nd} {K M : List Tok} {st st1 st' : Sts} {x : Nd} {l : List Nd} (h1 : Eat Cat0 p K st x st1) (h : Alt p M st1 l st') (hl : l.length ≤ M.length) : Eat Reg0 (regexG p) (K ++ M) st (joinN 2 (x :: l)) st' := by
  intro ts R he hC
  rw [List.append_assoc] at he
  obtain ⟨r, hr, e⟩ := h1 ts _ he (h.hd hC.1)
  have hlen : M.length ≤ r.length := by
    have := congrArg List.length hr
    simp at this; omega
  obtain ⟨r2, hr2, e2⟩ := altF_eat h (acc := [x]) (f := r.length + 1) (by omega) r R hr hC
  refine ⟨r2, hr2, ?_⟩
  unfold regexG
  rw [e]
  simp only
  rw [e2]
  rfl
end Go.Proofs.YtfdjchnckjgapaaGreatDoor
