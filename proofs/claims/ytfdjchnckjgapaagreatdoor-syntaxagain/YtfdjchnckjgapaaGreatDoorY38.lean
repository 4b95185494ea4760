/-
  What a text tells may be: its sets and its rules. Plain mathematics of SyntaxAgain.
-/
import Derived.Test.YtfdjchnckjgapaaGreatDoorY37
import Derived.Test.YtfdjchnckjgapaaGreatDoorY30
namespace Go.Proofs.YtfdjchnckjgapaaGreatDoor
open Go.RowKit S1
set_option linter.unusedVariables false

/-- The sets of tokens and of names have few edges. -/
def TkA (E : List Int) (ts : List Tok) : Prop := ∀ t ∈ ts, GS E t.s
def NmsA (E : List Int) (N : Nms) : Prop := ∀ x s, N x = some s → GS E s
theorem TkA.hd {E : List Int} {ts : List Tok} (h : TkA E ts) : GS E (hdT ts).s := by
  cases ts with
  | nil => exact GS.nil E
  | cons t l => exact h t (by simp)
theorem TkA.sub {E : List Int} {ts r : List Tok} (h : TkA E ts) (k : ∀ t ∈ r, t ∈ ts) : TkA E r := fun t ht => h t (k t ht)
theorem TkA.tail {E : List Int} {ts : List Tok} (h : TkA E ts) : TkA E ts.tail := h.sub (fun t ht => List.mem_of_mem_tail ht)
theorem setM_a {E : List Int} {N : Nms} {t : Tok} {s : List Rg} (ht : GS E t.s) (hN : NmsA E N) (h : setM N t = .inr s) : GS E s := by
  unfold setM at h
  split at h
  · cases h; exact ht
  · split at h
    · cases h; exact GS.all E
    · split at h
      · split at h
        · rename_i s1 h1
          cases h; exact hN _ _ h1
        · cases h
      · cases h
def QrA (E : List Int) (f : List Tok → QR) : Prop := ∀ ts s r, TkA E ts → f ts = .inr (s, r) → GS E s ∧ ∀ t ∈ r, t ∈ ts
theorem sumF_a {E : List Int} {f : List Tok → QR} (hf : QrA E f) : ∀ (n : Nat) (acc : List Rg) (ts : List Tok) (s : List Rg) (r : List Tok), TkA E ts → GS E acc → sumF f n acc ts = .inr (s, r) → GS E s ∧ ∀ t ∈ r, t ∈ ts
  | 0, acc, ts, s, r, ht, ha, h => by
    obtain ⟨rfl, rfl⟩ : acc = s ∧ ts = r := by simpa [sumF] using h
    exact ⟨ha, fun _ h => h⟩
  | n + 1, acc, ts, s, r, ht, ha, h => by
    unfold sumF at h
    split at h
    · obtain ⟨rfl, rfl⟩ : acc = s ∧ ts = r := by simpa using h
      exact ⟨ha, fun _ h => h⟩
    · rename_i op hop
      split at h
      · cases h
      · rename_i s1 r1 h1
        obtain ⟨g1, g2⟩ := hf _ _ _ ht.tail h1
        have hg : GS E (op acc s1) := by
          unfold opOf at hop
          split at hop
          · cases hop; exact stb_pick ha g1
          · split at hop
            · cases hop; exact stb_pick ha g1
            · split at hop
              · cases hop; exact stb_pick ha g1
              · cases hop
        obtain ⟨k1, k2⟩ := sumF_a hf n _ r1 s r (ht.tail.sub g2) hg h
        exact ⟨k1, fun t q => List.mem_of_mem_tail (g2 t (k2 t q))⟩
theorem sumG_a {E : List Int} {f : List Tok → QR} (hf : QrA E f) : QrA E (sumG f) := fun ts s r ht h => by
  unfold sumG at h
  split at h
  · cases h
  · rename_i s1 r1 h1
    obtain ⟨g1, g2⟩ := hf _ _ _ ht h1
    obtain ⟨k1, k2⟩ := sumF_a hf _ _ r1 s r (ht.sub g2) g1 h
    exact ⟨k1, fun t q => g2 t (k2 t q)⟩
theorem endQ_inr {c : Int} {q : QR} {s : List Rg} {r : List Tok} (h : endQ c q = .inr (s, r)) : ∃ r0, q = .inr (s, r0) ∧ r = r0.tail := by
  match q, h with
  | .inl e, h => cases h
  | .inr (s0, r0), h =>
    simp only [endQ] at h
    split at h
    · obtain ⟨rfl, rfl⟩ : s0 = s ∧ r0.tail = r := by simpa using h
      exact ⟨r0, rfl, rfl⟩
    · cases h
theorem termG_a {E : List Int} {N : Nms} (hN : NmsA E N) {f : Option (List Tok → QR)} (hf : ∀ g, f = some g → QrA E g) : QrA E (termG N f) := fun ts s r ht h => by
  unfold termG at h
  split at h
  · cases f with
    | none => cases h
    | some g =>
      simp only at h
      match e : g ts.tail, h with
      | .inl x, h => cases h
      | .inr (s0, r0), h =>
        obtain ⟨rfl, rfl⟩ : notS s0 = s ∧ r0 = r := by simpa [notQ] using h
        obtain ⟨g1, g2⟩ := hf g rfl _ _ _ ht.tail e
        exact ⟨stb_pick g1 (GS.nil E), fun t q => List.mem_of_mem_tail (g2 t q)⟩
  · split at h
    · cases f with
      | none => cases h
      | some g =>
        obtain ⟨r0, e0, rfl⟩ := endQ_inr h
        obtain ⟨g1, g2⟩ := sumG_a (hf g rfl) _ _ _ ht.tail e0
        exact ⟨g1, fun t q => List.mem_of_mem_tail (g2 t (List.mem_of_mem_tail q))⟩
    · split at h
      · cases h
      · rename_i s1 h1
        obtain ⟨rfl, rfl⟩ : s1 = s ∧ ts.tail = r := by simpa using h
        exact ⟨setM_a ht.hd hN h1, fun t q => List.mem_of_mem_tail q⟩
theorem termM_a {E : List Int} {N : Nms} (hN : NmsA E N) : ∀ b, QrA E (termM N b)
  | 0 => termG_a hN (fun g h => by cases h)
  | b + 1 => termG_a hN (fun g h => by cases h; exact termM_a hN b)
theorem sumM_a {E : List Int} {N : Nms} (hN : NmsA E N) (b : Nat) : QrA E (sumM N b) := sumG_a (termM_a hN b)

/-- The sets of a program: each has few edges, none is there twice. -/
def StA (E : List Int) (st : Sts) : Prop := (∀ s ∈ st, GS E s) ∧ st.Nodup ∧ st.length ≤ 60
theorem idxS_no : ∀ {s : List Rg} {l : Sts}, idxS s l = none → s ∉ l
  | s, [], h => by simp
  | s, x :: l, h => by
    unfold idxS at h
    split at h
    · cases h
    · rename_i hx
      have h2 : idxS s l = none := by simpa using h
      have h3 := idxS_no h2
      intro q
      rcases List.mem_cons.1 q with q | q
      · exact hx (sameS_iff.2 q.symm)
      · exact h3 q
theorem placeM_a {E : List Int} {st st' : Sts} {s : List Rg} {i : Nat} (hs : GS E s) (h : StA E st) (e : placeM st s = some (i, st')) : StA E st' := by
  unfold placeM at e
  split at e
  · obtain ⟨_, rfl⟩ : _ ∧ st = st' := by simpa using e
    exact h
  · rename_i hi
    split at e
    · cases e
    · rename_i hl
      obtain ⟨_, rfl⟩ : _ ∧ st ++ [s] = st' := by simpa using e
      refine ⟨fun x hx => ?_, ?_, ?_⟩
      · rcases List.mem_append.1 hx with q | q
        · exact h.1 x q
        · rw [List.mem_singleton.1 q]; exact hs
      · rw [List.nodup_append]
        refine ⟨h.2.1, by simp, fun a ha b hb => ?_⟩
        rw [List.mem_singleton.1 hb]
        exact fun q => idxS_no hi (q ▸ ha)
      · have := h.2.2; simp; omega
def PA {α : Type} (E : List Int) (p : List Tok → Sts → NR α) : Prop := ∀ ts st n r st', TkA E ts → StA E st → p ts st = .inr (n, r, st') → StA E st' ∧ ∀ t ∈ r, t ∈ ts
theorem partM_a {E : List Int} {N : Nms} (hN : NmsA E N) {f : Option (List Tok → Sts → NR Nd)} (hf : ∀ g, f = some g → PA E g) : PA E (partM N f) := fun ts st n r st' ht hs h => by
  unfold partM at h
  split at h
  · cases f with
    | none => cases h
    | some g =>
      obtain ⟨r0, e0, rfl, _⟩ := endN_inr h
      obtain ⟨g1, g2⟩ := hf g rfl _ _ _ _ _ ht.tail hs e0
      exact ⟨g1, fun t q => List.mem_of_mem_tail (g2 t (List.mem_of_mem_tail q))⟩
  · split at h
    · cases h
    · rename_i s1 h1
      split at h
      · cases h
      · rename_i i st1 h2
        obtain ⟨_, rfl, rfl⟩ : _ ∧ ts.tail = r ∧ st1 = st' := by simpa using h
        exact ⟨placeM_a (setM_a ht.hd hN h1) hs h2, fun t q => List.mem_of_mem_tail q⟩
theorem signF_a : ∀ (f c : Nat) (n : Nd) (ts : List Tok) (st : Sts) {n' : Nd} {r : List Tok} {st' : Sts}, signF f c n ts st = .inr (n', r, st') → st' = st ∧ ∀ t ∈ r, t ∈ ts
  | 0, c, n, ts, st, n', r, st', h => by
    obtain ⟨_, rfl, rfl⟩ : n = n' ∧ ts = r ∧ st = st' := by simpa [signF] using h
    exact ⟨rfl, fun _ h => h⟩
  | f + 1, c, n, ts, st, n', r, st', h => by
    unfold signF at h
    split at h
    · obtain ⟨_, rfl, rfl⟩ : n = n' ∧ ts = r ∧ st = st' := by simpa using h
      exact ⟨rfl, fun _ h => h⟩
    · split at h
      · cases h
      · obtain ⟨h1, h2⟩ := signF_a f _ _ _ _ h
        exact ⟨h1, fun t q => List.mem_of_mem_tail (h2 t q)⟩
theorem signedM_a {E : List Int} {p : List Tok → Sts → NR Nd} (hp : PA E p) : PA E (signedM p) := fun ts st n r st' ht hs h => by
  unfold signedM at h
  split at h
  · cases h
  · rename_i n1 r1 st1 h1
    obtain ⟨g1, g2⟩ := hp _ _ _ _ _ ht hs h1
    obtain ⟨rfl, k2⟩ := signF_a _ _ _ _ _ h
    exact ⟨g1, fun t q => g2 t (k2 t q)⟩
theorem catF_a {E : List Int} {p : List Tok → Sts → NR Nd} (hp : PA E p) : ∀ (f : Nat) (acc : List Nd), PA E (catF p f acc)
  | 0, acc, ts, st, n, r, st', ht, hs, h => by
    obtain ⟨_, rfl, rfl⟩ : acc = n ∧ ts = r ∧ st = st' := by simpa [catF] using h
    exact ⟨hs, fun _ h => h⟩
  | f + 1, acc, ts, st, n, r, st', ht, hs, h => by
    unfold catF at h
    split at h
    · split at h
      · cases h
      · rename_i n1 r1 st1 h1
        obtain ⟨g1, g2⟩ := hp _ _ _ _ _ ht hs h1
        obtain ⟨k1, k2⟩ := catF_a hp f _ _ _ _ _ _ (ht.sub g2) g1 h
        exact ⟨k1, fun t q => g2 t (k2 t q)⟩
    · obtain ⟨_, rfl, rfl⟩ : acc = n ∧ ts = r ∧ st = st' := by simpa using h
      exact ⟨hs, fun _ h => h⟩
theorem catM_a {E : List Int} {p : List Tok → Sts → NR Nd} (hp : PA E p) : PA E (catM p) := fun ts st n r st' ht hs h => by
  unfold catM at h
  split at h
  · cases h
  · rename_i l r1 st1 h1
    obtain ⟨_, rfl, rfl⟩ : joinN 0 l = n ∧ r1 = r ∧ st1 = st' := by simpa using h
    exact catF_a hp _ _ _ _ _ _ _ ht hs h1
theorem altF_a {E : List Int} {p : List Tok → Sts → NR Nd} (hp : PA E p) : ∀ (f : Nat) (acc : List Nd), PA E (altF p f acc)
  | 0, acc, ts, st, n, r, st', ht, hs, h => by
    obtain ⟨_, rfl, rfl⟩ : acc = n ∧ ts = r ∧ st = st' := by simpa [altF] using h
    exact ⟨hs, fun _ h => h⟩
  | f + 1, acc, ts, st, n, r, st', ht, hs, h => by
    unfold altF at h
    split at h
    · split at h
      · cases h
      · rename_i n1 r1 st1 h1
        obtain ⟨g1, g2⟩ := hp _ _ _ _ _ ht.tail hs h1
        obtain ⟨k1, k2⟩ := altF_a hp f _ _ _ _ _ _ (ht.tail.sub g2) g1 h
        exact ⟨k1, fun t q => List.mem_of_mem_tail (g2 t (k2 t q))⟩
    · obtain ⟨_, rfl, rfl⟩ : acc = n ∧ ts = r ∧ st = st' := by simpa using h
      exact ⟨hs, fun _ h => h⟩
theorem regexG_a {E : List Int} {p : List Tok → Sts → NR Nd} (hp : PA E p) : PA E (regexG p) := fun ts st n r st' ht hs h => by
  unfold regexG at h
  split at h
  · cases h
  · rename_i n1 r1 st1 h1
    obtain ⟨g1, g2⟩ := hp _ _ _ _ _ ht hs h1
    split at h
    · cases h
    · rename_i l r2 st2 h2
      obtain ⟨_, rfl, rfl⟩ : joinN 2 l = n ∧ r2 = r ∧ st2 = st' := by simpa using h
      obtain ⟨k1, k2⟩ := altF_a hp _ _ _ _ _ _ _ (ht.sub g2) g1 h2
      exact ⟨k1, fun t q => g2 t (k2 t q)⟩
theorem regexM_a {E : List Int} {N : Nms} (hN : NmsA E N) : ∀ b, PA E (regexM N b)
  | 0 => fun ts st n r st' => regexG_a (catM_a (signedM_a (partM_a hN (fun g h => by cases h)))) ts st n r st'
  | b + 1 => fun ts st n r st' => regexG_a (catM_a (signedM_a (partM_a hN (fun g h => by cases h; exact regexM_a hN b)))) ts st n r st'

/-- All rules may be, looked at so deep. -/
def mayRf (f : Nat) : Nat → List Rl → Option Nat
  | m, [] => some m
  | m, x :: l => match mayN f 0 0 m x.l with
    | none => none
    | some m1 => match mayN f 0 0 m1 x.r with
      | none => none
      | some m2 => mayRf f m2 l
theorem mayRf_snoc {f : Nat} : ∀ {l : List Rl} {m m1 m2 m3 : Nat} {x : Rl}, mayRf f m l = some m1 → mayN f 0 0 m1 x.l = some m2 → mayN f 0 0 m2 x.r = some m3 → mayRf f m (l ++ [x]) = some m3
  | [], m, m1, m2, m3, x, h, h1, h2 => by
    obtain rfl : m = m1 := by simpa [mayRf] using h
    simp [mayRf, h1, h2]
  | y :: l, m, m1, m2, m3, x, h, h1, h2 => by
    rw [List.cons_append]
    unfold mayRf at h ⊢
    split at h
    · cases h
    · split at h
      · cases h
      · exact mayRf_snoc h h1 h2
/-- What is said of an expression of a rule: it may be, it is not deep, and not great. -/
def NdA (K : Nat) (n : Nd) : Prop := HtK 105 n.kids ∧ ∀ f, Sz f n ≤ K
theorem got_may {ts r : List Tok} {st st' : Sts} {n : Nd} (h : Got (MayA 0) 105 3 ts st n r st') {f : Nat} (hf : 105 ≤ f) : mayN f 0 0 st.length n = some st'.length := by
  unfold mayN
  rw [if_pos (h.may.2 f 0 (by have := h.cnt; omega)), h.met f hf]
theorem ruleM_a {E : List Int} {N : Nms} (hN : NmsA E N) {ts : List Tok} {st : Sts} {x : Rl} {r : List Tok} {st' : Sts} (ht : TkA E ts) (hs : StA E st) (h : ruleM N ts st = .inr (x, r, st')) {f K : Nat} (hf : 105 ≤ f) (hK : 2 * ts.length + 2 ≤ K) :
    StA E st' ∧ (∀ t ∈ r, t ∈ ts) ∧ NdA K x.l ∧ NdA K x.r ∧ ∃ m, mayN f 0 0 st.length x.l = some m ∧ mayN f 0 0 m x.r = some st'.length := by
  have htl : ts.tail.length ≤ ts.length := by simp
  unfold ruleM at h
  split at h
  · cases h
  · rename_i l r1 st1 he
    obtain ⟨r0, e0, rfl, hr0⟩ := endN_inr he
    obtain ⟨a1, a2⟩ := regexM_a hN 20 _ _ _ _ _ ht.tail hs e0
    have g1 := regex_got N 20 (by omega) _ _ _ _ _ e0
    have a3 : ∀ t ∈ r0.tail, t ∈ ts := fun t q => List.mem_of_mem_tail (a2 t (List.mem_of_mem_tail q))
    split at h
    · cases h
    · rename_i n r2 st2 he2
      obtain ⟨r3, e3, rfl, hr3⟩ := endN_inr he2
      obtain ⟨b1, b2⟩ := regexM_a hN 20 _ _ _ _ _ (ht.sub a3) a1 e3
      have g2 := regex_got N 20 (by omega) _ _ _ _ _ e3
      obtain ⟨rfl, rfl, rfl⟩ : (⟨tkWord wBreak (hdT ts), l, n⟩ : Rl) = x ∧ r3.tail = r ∧ st2 = st' := by simpa using h
      refine ⟨b1, fun t q => a3 t (b2 t (List.mem_of_mem_tail q)), ⟨g1.ht, fun f => ?_⟩, ⟨g2.ht, fun f => ?_⟩, st1.length, got_may g1 hf, got_may g2 hf⟩
      · have := g1.sz f
        show Sz f l ≤ K
        omega
      · have h1 := g1.sz 0
        have h2 := g2.sz f
        show Sz f n ≤ K
        omega
theorem nameM_a {E : List Int} {N N' : Nms} (hN : NmsA E N) {ts r : List Tok} (ht : TkA E ts) (h : nameM N ts = .inr (N', r)) : NmsA E N' ∧ ∀ t ∈ r, t ∈ ts := by
  unfold nameM at h
  split at h
  · cases h
  · split at h
    · cases h
    · split at h
      · cases h
      · split at h
        · cases h
        · rename_i s r1 h1
          obtain ⟨rfl, rfl⟩ : giveN N (hdT ts).t s = N' ∧ r1 = r := by simpa using h
          obtain ⟨r0, e0, rfl⟩ := endQ_inr h1
          obtain ⟨g1, g2⟩ := sumM_a hN 20 _ _ _ ht.tail.tail e0
          refine ⟨fun y s' hy => ?_, fun t q => List.mem_of_mem_tail (List.mem_of_mem_tail (g2 t (List.mem_of_mem_tail q)))⟩
          unfold giveN at hy
          split at hy
          · cases hy; exact g1
          · exact hN _ _ hy
/-- What is said of a program of a text. -/
structure PrgA (E : List Int) (f K : Nat) (rl : List Rl) (st : Sts) : Prop where
  sts : StA E st
  few : rl.length ≤ 64
  may : mayRf f 0 rl = some st.length
  nds : ∀ x ∈ rl, NdA K x.l ∧ NdA K x.r
theorem textF_a {E : List Int} {f0 K : Nat} (hf : 105 ≤ f0) : ∀ (f : Nat) (N : Nms) (rs : List Rl) (ts : List Tok) (st : Sts) {rs' : List Rl} {st' : Sts}, 2 * ts.length + 2 ≤ K → TkA E ts → NmsA E N → PrgA E f0 K rs st → textF f N rs ts st = .inr (rs', st') → PrgA E f0 K rs' st'
  | 0, N, rs, ts, st, rs', st', hl, ht, hN, ha, h => by
    obtain ⟨rfl, rfl⟩ : rs = rs' ∧ st = st' := by simpa [textF] using h
    exact ha
  | f + 1, N, rs, ts, st, rs', st', hl, ht, hN, ha, h => by
    have htl : ts.tail.length ≤ ts.length := by simp
    unfold textF at h
    split at h
    · obtain ⟨rfl, rfl⟩ : rs = rs' ∧ st = st' := by simpa using h
      exact ha
    · rename_i hk
      split at h
      · split at h
        · cases h
        · rename_i N' r hn
          obtain ⟨g1, g2⟩ := nameM_a hN ht.tail hn
          have := nameM_left hn
          exact textF_a hf f N' rs r st (by omega) (ht.tail.sub g2) g1 ha h
      · split at h
        · cases h
        · split at h
          · cases h
          · rename_i h64
            split at h
            · cases h
            · rename_i x r st1 hn
              have h1 := ruleM_left hk hn
              obtain ⟨g1, g2, g3, g4, m, g5, g6⟩ := ruleM_a hN ht ha.sts hn hf hl
              refine textF_a hf f N (rs ++ [x]) r st1 (by omega) (ht.sub g2) hN ⟨g1, by have := ha.few; simp; omega, mayRf_snoc ha.may g5 g6, fun y hy => ?_⟩ h
              rcases List.mem_append.1 hy with q | q
              · exact ha.nds y q
              · rw [List.mem_singleton.1 q]; exact ⟨g3, g4⟩
theorem isSetB_of {s : List Rg} (h : IsSet s) : isSetB s = true := by
  have h1 : mkS s = s := by
    have hu : Upto (fun x => hasR s x) (mkS s) 1114112 := pick_spec s [] h.fits (fun x hx => (by cases hx)) (fun x _ => x)
    exact hu.unique h.upto
  unfold isSetB
  rw [h1, Bool.and_eq_true]
  refine ⟨List.all_eq_true.2 fun r hr => ?_, sameS_iff.2 rfl⟩
  have := h.fits r hr
  exact decide_eq_true ⟨this.1, this.2.1, by omega⟩
theorem setsF_of {st : Sts} (h1 : ∀ s ∈ st, isSetB s = true) (h2 : st.Nodup) : ∀ k, setsF k st = true
  | 0 => rfl
  | k + 1 => by
    unfold setsF
    rw [setsF_of h1 h2 k, Bool.true_and]
    split
    · rfl
    · rename_i s hs
      obtain ⟨hk, rfl⟩ := List.getElem?_eq_some_iff.1 hs
      rw [h1 _ (List.getElem_mem hk), Bool.true_and, Bool.not_eq_true', List.any_eq_false]
      intro x hx q
      have q2 := sameS_iff.1 q
      obtain ⟨i, hi, rfl⟩ := List.mem_take_iff_getElem.1 hx
      exact List.pairwise_iff_getElem.1 h2 i k (by omega) hk (by omega) q2
theorem PrgA.sets {E : List Int} {f K : Nat} {rl : List Rl} {st : Sts} (h : PrgA E f K rl st) : setsF st.length st = true := setsF_of (fun s hs => isSetB_of (h.sts.1 s hs).1) h.sts.2.1 _
/-- A program of a text. -/
theorem parseL_a {ts : List Tok} (hfit : ∀ t ∈ ts, Fits t.s) {f K : Nat} (hf : 105 ≤ f) (hK : 2 * ts.length + 2 ≤ K) {rl : List Rl} {st : Sts} (h : parseL (.inr ts) = .inr (rl, st)) : PrgA (edgesOf (entsOf ts)) f K rl st := by
  unfold parseL at h
  simp only at h
  split at h
  · cases h
  · rename_i x hx
    obtain ⟨rs', st'⟩ := x
    obtain ⟨rfl, rfl⟩ : rs' = rl ∧ st' = st := by simpa using h
    refine textF_a hf _ _ _ _ _ (by simpa using hK) (fun t ht => ?_) (fun x s h => by cases h) ⟨⟨fun s hs => (by cases hs), List.nodup_nil, by simp⟩, by simp, rfl, fun x hx => (by cases hx)⟩ hx
    obtain ⟨u, hu, rfl⟩ := List.mem_map.1 ht
    exact stb_mk (hfit u hu) (fun r hr => List.mem_flatMap.2 ⟨u, hu, hr⟩)
theorem PrgA.len {E : List Int} {f K : Nat} {rl : List Rl} {st : Sts} (h : PrgA E f K rl st) : ∀ s ∈ st, s.length ≤ E.length + 1 := fun s hs => stb_len (h.sts.1 s hs).1 (h.sts.1 s hs).2
end Go.Proofs.YtfdjchnckjgapaaGreatDoor
