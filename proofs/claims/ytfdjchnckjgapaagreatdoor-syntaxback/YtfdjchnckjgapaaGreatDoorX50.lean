/-
  BkBack
-/
import Derived.Test.YtfdjchnckjgapaaGreatDoorX49
namespace Go.Proofs.YtfdjchnckjgapaaGreatDoor
open Go.RowKit Go.Shelf S1
set_option linter.unusedVariables false
def HdP (K : List Tok) : Prop := ∃ t T, K = t :: T ∧ tkPart t = true ∧ kindT t = 0
theorem HdP.app {K M : List Tok} (h : HdP K) : HdP (K ++ M) := by
  obtain ⟨t, T, rfl, h1, h2⟩ := h
  exact ⟨t, T ++ M, rfl, h1, h2⟩
theorem Chn.len {p : List Tok → Sts → NR Nd} {K : List Tok} {st st' : Sts} {l : List Nd} (h : Chn p K st l st') : l.length ≤ K.length := by
  induction h using Chn.ind with
  | nil => exact Nat.le_refl _
  | cons h1 h2 h3 ih =>
    obtain ⟨t, T, rfl, _⟩ := h2
    simp; omega
theorem Alt.len {p : List Tok → Sts → NR Nd} {K : List Tok} {st st' : Sts} {l : List Nd} (h : Alt p K st l st') : l.length ≤ K.length := by
  induction h using Alt.ind with
  | nil => exact Nat.le_refl _
  | cons h1 h3 ih => simp; omega
theorem meetS_ge {m m' : Nat} {s : Int} (h : meetS m s = some m') : m ≤ m' := (meetS_in h).2
theorem metL_ge {g : Nat → Nd → Option Nat} : ∀ {l : List Nd} {m m' : Nat}, (∀ x ∈ l, ∀ a b, g a x = some b → a ≤ b) → metL g m l = some m' → m ≤ m'
  | [], m, m', _, h => by obtain rfl : m = m' := Option.some.inj h; exact Nat.le_refl _
  | x :: l, m, m', hg, h => by
    unfold metL at h
    split at h
    · cases h
    · rename_i a e
      have h1 := hg x (by simp) _ _ e
      have h2 := metL_ge (fun y hy => hg y (by simp [hy])) h
      omega
theorem metN_ge : ∀ {f : Nat} {n : Nd} {m m' : Nat}, metN f m n = some m' → m ≤ m'
  | 0, n, m, m', h => by
    unfold metN at h
    split at h
    · exact meetS_ge h
    · obtain rfl : m = m' := Option.some.inj h; exact Nat.le_refl _
  | f + 1, n, m, m', h => by
    unfold metN at h
    split at h
    · exact meetS_ge h
    · exact metL_ge (fun x _ a b e => metN_ge e) h
theorem tkN_set {f : Nat} {st : Sts} {n : Nd} (h : n.k = 1) (hk : n.kids = []) : tkN f st n = headK st n := by
  have hs : signTk n.k = [] := by rw [h]; rfl
  cases f with
  | zero => unfold tkN; rw [hs, List.append_nil]
  | succ f => unfold tkN; rw [hs, hk]; simp [tkK]
theorem metN_set {f : Nat} {m : Nat} {n : Nd} (h : n.k = 1) : metN f m n = meetS m n.s := by
  cases f <;> (unfold metN; rw [if_pos h])
theorem cnt_none {n : Nd} (h : signK n.k = false) : cntN 4 n = 0 := by
  unfold cntN; rw [if_neg (by rw [h]; decide)]
variable {st : Sts}
theorem set_sgd (N : Nms) (F : Option (List Tok → Sts → NR Nd)) (ha : Apart st) (h60 : st.length ≤ 60) {n : Nd} (h1 : n.k = 1) (hk : n.kids = []) {m m' : Nat} (hm : meetS m n.s = some m') (hl : m' ≤ st.length) :
    Sgd (partM N F) 0 (headK st n) (st.take m) n (st.take m') ∧ HdP (headK st n) := by
  obtain ⟨i, hi, hp⟩ := place_met ha h60 hm hl
  have hh : headK st n = [⟨3, 0, [], st.getD n.s.toNat []⟩] := by unfold headK; rw [if_pos h1]
  refine ⟨fun ts R he => ?_, ?_⟩
  · rw [hh] at he
    obtain ⟨u, r, rfl, hu, hr⟩ := sh_cons he
    refine ⟨r, hr, ?_⟩
    have hu3 : u.k = 3 := congrArg Tok.k hu
    have hus : u.s = st.getD n.s.toNat [] := congrArg Tok.s hu
    have hs40 : tkSign 40 u = false := by simp [tkSign, hu3]
    have hset : setM N u = .inr (st.getD n.s.toNat []) := by unfold setM; rw [if_pos hu3, hus]
    have hpt : partM N F (u :: r) (st.take m) = .inr (⟨1, (i : Int), []⟩, r, st.take m') := by
      unfold partM
      rw [show hdT (u :: r) = u from rfl, if_neg (by rw [hs40]; decide), hset]
      simp only
      rw [hp]
      rfl
    have hn : (⟨1, (i : Int), []⟩ : Nd) = n := by cases n; simp only at h1 hk hi; rw [h1, hk, hi]
    unfold signedM
    rw [hpt]
    simp only
    rw [hn, cnt_none (by rw [h1]; decide)]
  · rw [hh]
    exact ⟨_, [], rfl, by simp [tkPart, tkTells], by simp [kindT, tkSign]⟩
theorem br_sgd (N : Nms) {b : Nat} {K : List Tok} {s s' : Sts} {x : Nd} (h : Eat Reg0 (regexM N b) K s x s') (hx : signK x.k = false) :
    Sgd (partM N (inner N (b + 1))) 0 (sgK 40 :: (K ++ [sgK 41])) s x s' := by
  intro ts R he
  obtain ⟨u, r, rfl, hu, hr⟩ := sh_cons he
  have hr' : r.map shT = K ++ (sgK 41 :: R) := by rw [show K ++ (sgK 41 :: R) = (K ++ [sgK 41]) ++ R by simp]; exact hr
  obtain ⟨r2, hr2, e⟩ := h r _ hr' ⟨⟨(by decide : kindT (sgK 41) = 0), (by decide : tkPart (sgK 41) = false)⟩, (by decide : tkSign 124 (sgK 41) = false)⟩
  obtain ⟨v, r3, rfl, hv, hr3⟩ := sh_cons hr2
  refine ⟨r3, hr3, ?_⟩
  have h40 : tkSign 40 u = true := (sign_sh (u := sgK 40) (by rw [hu]; rfl)).trans (by decide)
  have h41 : tkSign 41 v = true := (sign_sh (u := sgK 41) (by rw [hv]; rfl)).trans (by decide)
  have hpt : partM N (inner N (b + 1)) (u :: r) s = .inr (x, r3, s') := by
    unfold partM
    rw [show hdT (u :: r) = u from rfl, if_pos h40]
    show endN 41 (regexM N b r s) = _
    rw [e]
    show (if tkSign 41 v = true then _ else _) = _
    rw [if_pos h41]
    rfl
  unfold signedM
  rw [hpt]
  simp only
  rw [cnt_none hx]
theorem of_sgd {p : List Tok → Sts → NR Nd} {d : Nat} {K : List Tok} {s s' : Sts} {n : Nd} (h : Sgd p d K s n s') (hd : d ≤ 3) (hh : HdP K) : Eat Cat0 (catM (signedM p)) K s n s' := by
  have hc : Chn (signedM p) (K ++ []) s [n] s' := .cons (h.cat hd) hh (.nil s')
  have := catM_eat hc hc.len
  rw [List.append_nil] at this
  exact this
theorem of_cat (N : Nms) {b : Nat} {K : List Tok} {s s' : Sts} {n : Nd} (h : Eat Cat0 (catM (signedM (partM N (inner N b)))) K s n s') : Eat Reg0 (regexM N b) K s n s' := by
  have := regexG_eat h (.nil s') (Nat.le_refl _)
  rw [List.append_nil] at this
  intro ts R he hC
  obtain ⟨r, hr, e⟩ := this ts R he hC
  exact ⟨r, hr, by rw [regexM_eq, e]; rfl⟩
theorem chn_kids {p : List Tok → Sts → NR Nd} {g : Nd → List Tok} {q : Nat → Nd → Option Nat} {w : Int} (hw : w ≠ 2) (hq : ∀ x a b, q a x = some b → a ≤ b) : ∀ {l : List Nd} {fst : Bool} {m m' : Nat},
    (∀ x ∈ l, ∀ a b, q a x = some b → b ≤ st.length → ∃ d, d ≤ 3 ∧ Sgd p d (brK (inBr x.k w) (g x)) (st.take a) x (st.take b) ∧ HdP (brK (inBr x.k w) (g x))) →
    metL q m l = some m' → m' ≤ st.length → Chn (signedM p) (tkK g w fst l) (st.take m) l (st.take m')
  | [], fst, m, m', _, h, _ => by
    obtain rfl : m = m' := Option.some.inj h
    exact .nil _
  | x :: l, fst, m, m', hx, h, hl => by
    unfold metL at h
    split at h
    · cases h
    · rename_i a e
      have h2 := metL_ge (fun y _ => hq y) h
      obtain ⟨d, hd, hs, hh⟩ := hx x (by simp) _ _ e (by omega)
      have hb : barK fst w = [] := by unfold barK; rw [if_neg (fun q => hw q.2)]
      unfold tkK
      rw [hb, List.nil_append]
      exact .cons (hs.cat hd) hh (chn_kids hw hq (fun y hy => hx y (by simp [hy])) h hl)
theorem alt_kids {p : List Tok → Sts → NR Nd} {g : Nd → List Tok} {q : Nat → Nd → Option Nat} (hq : ∀ x a b, q a x = some b → a ≤ b) : ∀ {l : List Nd} {m m' : Nat},
    (∀ x ∈ l, ∀ a b, q a x = some b → b ≤ st.length → Eat Cat0 p (brK (inBr x.k 2) (g x)) (st.take a) x (st.take b)) →
    metL q m l = some m' → m' ≤ st.length → Alt p (tkK g 2 false l) (st.take m) l (st.take m')
  | [], m, m', _, h, _ => by
    obtain rfl : m = m' := Option.some.inj h
    exact .nil _
  | x :: l, m, m', hx, h, hl => by
    unfold metL at h
    split at h
    · cases h
    · rename_i a e
      have h2 := metL_ge (fun y _ => hq y) h
      show Alt p (sgK 124 :: (brK (inBr x.k 2) (g x) ++ tkK g 2 false l)) _ _ _
      exact .cons (hx x (by simp) _ _ e (by omega)) (alt_kids hq (fun y hy => hx y (by simp [hy])) h hl)
theorem back_node (N : Nms) (ha : Apart st) (h60 : st.length ≤ 60) : ∀ (f : Nat) (n : Nd) (dp sg m m' : Nat), okN f dp sg n = true → sg ≤ 3 → dp ≤ 20 → Dp f n.kids → metN f m n = some m' → m' ≤ st.length →
    (n.k ≠ 0 → n.k ≠ 2 → ∃ d, d + sg ≤ 3 ∧ Sgd (partM N (inner N (20 - dp))) d (tkN f st n) (st.take m) n (st.take m') ∧ HdP (tkN f st n)) ∧
    (n.k ≠ 2 → Eat Cat0 (catM (signedM (partM N (inner N (20 - dp))))) (tkN f st n) (st.take m) n (st.take m')) ∧
    Eat Reg0 (regexM N (20 - dp)) (tkN f st n) (st.take m) n (st.take m') := by
  intro f
  induction f with
  | zero =>
    intro n dp sg m m' hok hsg hdp hD hm hl
    have hkd : n.kids = [] := hD
    by_cases h1 : n.k = 1
    · rw [metN_set h1] at hm
      obtain ⟨hs, hh⟩ := set_sgd N (inner N (20 - dp)) ha h60 h1 hkd hm hl
      rw [tkN_set h1 hkd]
      have hB := of_sgd hs (by omega) hh
      exact ⟨fun _ _ => ⟨0, by omega, hs, hh⟩, fun _ => hB, of_cat N hB⟩
    · unfold okN at hok
      rw [if_neg h1] at hok
      unfold metN at hm
      rw [if_neg h1] at hm
      obtain rfl : m = m' := Option.some.inj hm
      simp only [okH, hasP, hkd, Bool.and_eq_true, beq_iff_eq, decide_eq_true_eq, List.length_nil] at hok
      obtain ⟨⟨hs0, _⟩, hp⟩ := hok
      have h0 : n.k = 0 := by
        by_cases h0 : n.k = 0
        · exact h0
        · rw [if_neg h0] at hp
          split at hp
          · simp at hp
          · simp at hp
      have hK : tkN 0 st n = [] := by unfold tkN headK signTk; rw [h0]; rfl
      have hn : joinN 0 [] = n := by cases n; simp only at h0 hs0 hkd; rw [h0, hs0, hkd]; rfl
      rw [hK]
      have hB : Eat Cat0 (catM (signedM (partM N (inner N (20 - dp))))) [] (st.take m) n (st.take m) := by
        have := catM_eat (Chn.nil (p := signedM (partM N (inner N (20 - dp)))) (st.take m)) (Nat.le_refl _)
        rw [hn] at this
        exact this
      exact ⟨fun h => absurd h0 h, fun _ => hB, of_cat N hB⟩
  | succ f ih =>
    intro n dp sg m m' hok hsg hdp hD hm hl
    by_cases h1 : n.k = 1
    · have hkd : n.kids = [] := by
        unfold okN at hok; rw [if_pos h1] at hok; simpa using hok
      rw [metN_set h1] at hm
      obtain ⟨hs, hh⟩ := set_sgd N (inner N (20 - dp)) ha h60 h1 hkd hm hl
      rw [tkN_set h1 hkd]
      have hB := of_sgd hs (by omega) hh
      exact ⟨fun _ _ => ⟨0, by omega, hs, hh⟩, fun _ => hB, of_cat N hB⟩
    · unfold okN at hok
      rw [if_neg h1, Bool.and_eq_true] at hok
      obtain ⟨hH, hall⟩ := hok
      unfold metN at hm
      rw [if_neg h1] at hm
      simp only [okH, Bool.and_eq_true, beq_iff_eq, decide_eq_true_eq] at hH
      obtain ⟨⟨hs0, hsgs⟩, hp⟩ := hH
      have hkid : ∀ x ∈ n.kids, dp + brN x.k n.k ≤ 20 ∧ okN f (dp + brN x.k n.k) (sgs sg n.k) x = true := fun x hx => by
        have := List.all_eq_true.1 hall x hx
        simpa using this
      have hhead : headK st n = [] := by unfold headK; rw [if_neg h1]
      
      have hbr : ∀ x ∈ n.kids, inBr x.k n.k = true → ∀ a b, metN f a x = some b → b ≤ st.length → Sgd (partM N (inner N (20 - dp))) 0 (brK (inBr x.k n.k) (tkN f st x)) (st.take a) x (st.take b) ∧ HdP (brK (inBr x.k n.k) (tkN f st x)) := fun x hx hin a b hab hb => by
        obtain ⟨hd1, ho1⟩ := hkid x hx
        have hbN : brN x.k n.k = 1 := by unfold brN; rw [if_pos hin]
        rw [hbN] at hd1 ho1
        have hxs : signK x.k = false := by
          simp [inBr] at hin
          rcases hin with q | q
          · rw [q]; rfl
          · rw [q.1]; rfl
        have h3 := (ih x (dp + 1) (sgs sg n.k) a b ho1 hsgs hd1 (hD.2 x hx) hab hb).2.2
        have h4 := br_sgd N h3 hxs
        rw [show 20 - (dp + 1) + 1 = 20 - dp by omega] at h4
        have e : brK (inBr x.k n.k) (tkN f st x) = sgK 40 :: (tkN f st x ++ [sgK 41]) := by unfold brK; rw [if_pos hin]
        rw [e]
        exact ⟨h4, ⟨sgK 40, _, rfl, by decide, by decide⟩⟩
      have hno : ∀ x ∈ n.kids, inBr x.k n.k = false → brK (inBr x.k n.k) (tkN f st x) = tkN f st x ∧ okN f dp (sgs sg n.k) x = true := fun x hx hin => by
        obtain ⟨hd1, ho1⟩ := hkid x hx
        have hbN : brN x.k n.k = 0 := by unfold brN; rw [hin]; rfl
        rw [hbN] at ho1
        exact ⟨by unfold brK; rw [hin]; rfl, ho1⟩
      by_cases h2 : n.k = 2
      · 
        have hlen : 2 ≤ n.kids.length := by
          unfold hasP at hp; rw [if_neg (by omega), if_pos h2] at hp; simpa using hp
        have hsg2 : signTk n.k = [] := by rw [h2]; rfl
        have hcat : ∀ x ∈ n.kids, ∀ a b, metN f a x = some b → b ≤ st.length → Eat Cat0 (catM (signedM (partM N (inner N (20 - dp))))) (brK (inBr x.k n.k) (tkN f st x)) (st.take a) x (st.take b) := fun x hx a b hab hb => by
          cases hin : inBr x.k n.k with
          | true =>
            obtain ⟨hs, hh⟩ := hbr x hx hin a b hab hb
            rw [hin] at hs hh
            exact of_sgd hs (by omega) hh
          | false =>
            obtain ⟨e, ho⟩ := hno x hx hin
            rw [hin] at e
            rw [e]
            have hx2 : x.k ≠ 2 := by intro q; rw [q] at hin; simp [inBr] at hin
            exact (ih x dp (sgs sg n.k) a b ho hsgs hdp (hD.2 x hx) hab hb).2.1 hx2
        refine ⟨fun _ h => absurd h2 h, fun h => absurd h2 h, ?_⟩
        cases hk : n.kids with
        | nil => rw [hk] at hlen; simp at hlen
        | cons x l =>
          rw [hk] at hm
          unfold metL at hm
          split at hm
          · cases hm
          · rename_i a e
            have hle := metL_ge (fun y _ a b e => metN_ge e) hm
            have h3 := hcat x (by rw [hk]; simp) _ _ e (by omega)
            have h4 := alt_kids (st := st) (p := catM (signedM (partM N (inner N (20 - dp))))) (g := tkN f st) (q := metN f) (fun x a b e => metN_ge e) (l := l) (fun y hy a b e hb => by
              have := hcat y (by rw [hk]; simp [hy]) a b e hb
              rw [h2] at this
              exact this) hm hl
            have h5 := regexG_eat h3 h4 h4.len
            have hK : tkN (f + 1) st n = brK (inBr x.k n.k) (tkN f st x) ++ tkK (tkN f st) 2 false l := by
              show headK st n ++ (tkK (tkN f st) n.k true n.kids ++ signTk n.k) = _
              rw [hhead, hsg2, hk, List.append_nil, List.nil_append]
              show barK true n.k ++ (brK (inBr x.k n.k) (tkN f st x) ++ tkK (tkN f st) n.k false l) = _
              rw [show barK true n.k = [] from by unfold barK; rw [if_neg (by simp)], List.nil_append]
              rw [show tkK (tkN f st) n.k false l = tkK (tkN f st) 2 false l by rw [h2]]
            have hn : joinN 2 (x :: l) = n := by
              cases n with
              | mk k s kids =>
                simp only at h2 hs0 hk hlen
                subst h2 hs0 hk
                cases l with
                | nil => simp at hlen
                | cons y l => rfl
            rw [hK]
            rw [hn] at h5
            intro ts R he hC
            obtain ⟨r, hr, e⟩ := h5 ts R he hC
            exact ⟨r, hr, by rw [regexM_eq, e]⟩
      · 
        have hsgd : ∀ x ∈ n.kids, ∀ a b, metN f a x = some b → b ≤ st.length → ∃ d, d + sgs sg n.k ≤ 3 ∧ Sgd (partM N (inner N (20 - dp))) d (brK (inBr x.k n.k) (tkN f st x)) (st.take a) x (st.take b) ∧ HdP (brK (inBr x.k n.k) (tkN f st x)) := fun x hx a b hab hb => by
          cases hin : inBr x.k n.k with
          | true =>
            obtain ⟨hs, hh⟩ := hbr x hx hin a b hab hb
            rw [hin] at hs hh
            exact ⟨0, by omega, hs, hh⟩
          | false =>
            obtain ⟨e, ho⟩ := hno x hx hin
            rw [hin] at e
            rw [e]
            have hx2 : x.k ≠ 2 := by intro q; rw [q] at hin; simp [inBr] at hin
            have hx0 : x.k ≠ 0 := by intro q; rw [q] at hin; simp [inBr] at hin; exact h2 hin
            exact (ih x dp (sgs sg n.k) a b ho hsgs hdp (hD.2 x hx) hab hb).1 hx0 hx2
        by_cases h0 : n.k = 0
        · have hlen : n.kids.length ≠ 1 := by
            unfold hasP at hp; rw [if_pos h0] at hp; simpa using hp
          have hsg2 : signTk n.k = [] := by rw [h0]; rfl
          have hc := chn_kids (st := st) (p := partM N (inner N (20 - dp))) (g := tkN f st) (q := metN f) h2 (fun x a b e => metN_ge e) (l := n.kids) (fst := true) (fun x hx a b e hb => by
            obtain ⟨d, hd, hs, hh⟩ := hsgd x hx a b e hb
            exact ⟨d, by omega, hs, hh⟩) hm hl
          have hK : tkN (f + 1) st n = tkK (tkN f st) n.k true n.kids := by
            show headK st n ++ (tkK (tkN f st) n.k true n.kids ++ signTk n.k) = _
            rw [hhead, hsg2, List.append_nil, List.nil_append]
          have hn : joinN 0 n.kids = n := by
            cases n with
            | mk k s kids =>
              simp only at h0 hs0 hlen
              subst h0 hs0
              cases kids with
              | nil => rfl
              | cons x l =>
                cases l with
                | nil => simp at hlen
                | cons y l => rfl
          have hB : Eat Cat0 (catM (signedM (partM N (inner N (20 - dp))))) (tkN (f + 1) st n) (st.take m) n (st.take m') := by
            rw [hK]
            have := catM_eat hc hc.len
            rw [hn] at this
            exact this
          exact ⟨fun h => absurd h0 h, fun _ => hB, of_cat N hB⟩
        · 
          unfold hasP at hp
          rw [if_neg h0, if_neg h2, Bool.and_eq_true] at hp
          obtain ⟨hsk, hl1⟩ := hp
          obtain ⟨x, hk⟩ : ∃ x, n.kids = [x] := List.length_eq_one_iff.1 (by simpa using hl1)
          rw [hk] at hm
          have hmx : metN f m x = some m' := by
            unfold metL at hm
            split at hm
            · cases hm
            · rename_i a e
              rw [e]; exact hm
          obtain ⟨d, hd, hs, hh⟩ := hsgd x (by rw [hk]; simp) m m' hmx hl
          have hsgs' : sgs sg n.k = sg + 1 := by unfold sgs; rw [if_pos hsk]
          rw [hsgs'] at hd
          have hK : tkN (f + 1) st n = brK (inBr x.k n.k) (tkN f st x) ++ signTk n.k := by
            show headK st n ++ (tkK (tkN f st) n.k true n.kids ++ signTk n.k) = _
            rw [hhead, hk, List.nil_append]
            show (barK true n.k ++ (brK (inBr x.k n.k) (tkN f st x) ++ [])) ++ signTk n.k = _
            rw [show barK true n.k = [] from by unfold barK; rw [if_neg (by simp)], List.nil_append, List.append_nil]
          have hn : (⟨n.k, 0, [x]⟩ : Nd) = n := by
            cases n with
            | mk k s kids => simp only at hs0 hk; subst hs0 hk; rfl
          have hA := hs.sign (k := n.k) (by omega) hsk
          rw [hn] at hA
          rw [hK]
          have hB := of_sgd hA (by omega) hh.app
          exact ⟨fun _ _ => ⟨d + 1, by omega, hA, hh.app⟩, fun _ => hB, of_cat N hB⟩
end Go.Proofs.YtfdjchnckjgapaaGreatDoor
