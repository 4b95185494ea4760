/-
  Plain mathematics: the tokens of a text between which blanks are put.
-/
import Derived.Test.YtdjhgjnhfmggjaaDoorBkMath
namespace Go.Proofs.YtdjhgjnhfmggjaaDoor
open Go.RowKit S1
set_option linter.unusedVariables false

/-- Blanks of one byte each. -/
def InsOK (I : List Int) : Prop := (∀ c ∈ I, 0 ≤ c ∧ c < 128) ∧ ∀ p, BlkU (ascU p I)
theorem asc_good : ∀ (p : Nat) (l : List Int), ∀ u ∈ ascU p l, u.bad = false
  | p, [], u, h => by cases h
  | p, c :: t, u, h => by
    rcases List.mem_cons.1 h with rfl | h
    · rfl
    · exact asc_good (p + 1) t u h
theorem asc_app : ∀ (p : Nat) (a b : List Int), ascU p (a ++ b) = ascU p a ++ ascU (p + a.length) b
  | p, [], b => rfl
  | p, c :: t, b => by
    show _ :: ascU (p + 1) (t ++ b) = _ :: (ascU (p + 1) t ++ _)
    rw [asc_app (p + 1) t b, show p + 1 + t.length = p + (c :: t).length by simp; omega]
theorem InsOK.app {a b : List Int} (ha : InsOK a) (hb : InsOK b) : InsOK (a ++ b) :=
  ⟨fun c hc => (List.mem_append.1 hc).elim (ha.1 c) (hb.1 c), fun p => by rw [asc_app]; exact (ha.2 p).app (hb.2 _)⟩
theorem InsOK.nil : InsOK [] := ⟨fun c hc => (by cases hc), fun p => BlkU.nil⟩
theorem InsOK.one {c : Int} (h : blankR c = true) : InsOK [c] := by
  have hc : c = 32 ∨ c = 9 ∨ c = 13 ∨ c = 10 := by simpa [blankR, or_assoc] using h
  refine ⟨fun d hd => ?_, fun p => BlkU.one rfl h⟩
  obtain rfl : d = c := by simpa using hd
  omega
theorem InsOK.all : ∀ {l : List Int}, (∀ c ∈ l, blankR c = true) → InsOK l
  | [], _ => InsOK.nil
  | c :: t, h => InsOK.app (a := [c]) (InsOK.one (h c (List.mem_cons_self))) (InsOK.all fun d hd => h d (List.mem_cons_of_mem _ hd))
theorem InsOK.note : InsOK [35, 91, 32, 97, 10] := ⟨by decide, fun p z => by simp [ascU, blankL]⟩

/-- What is told of a token but its place. -/
def keyT (t : Tok) : Int × List Int × List Rg := (t.k, t.t, t.s)

theorem toksL_ins {I : List Int} (hI : InsOK I) : Run I 0 (ascU 0 I) I.length ∧ toksL I.length (ascU 0 I) = TR.good [⟨4, I.length, [], []⟩] := by
  refine ⟨run_ascii hI.1, ?_⟩
  have h : blankL false (ascU 0 I) = [] := by
    have := hI.2 0 []
    simpa [blankL] using this
  unfold toksL
  exact toksF_end (t := ⟨4, I.length, [], []⟩) (r := []) (by rw [h]; rfl) rfl

theorem toksL_step {I Z c : List Int} (hI : InsOK I) {S : List U} (hZ : Run Z 0 S Z.length) (hg : ∀ u ∈ S, u.bad = false) {t : Tok} (hS : SegOK t S) {ws : List U} {L : List Tok} (hc : Run c 0 ws c.length) (hL : toksL c.length ws = TR.good L) :
    ∃ vs, Run (I ++ (Z ++ 10 :: c)) 0 vs (I ++ (Z ++ 10 :: c)).length ∧ toksL (I ++ (Z ++ 10 :: c)).length vs = TR.good ((t :: L.map (shT (Z.length + 1))).map (shT I.length)) := by
  have r1 := run_lines hZ hg hc
  have r0 := run_shift (a := I) r1
  rw [Nat.zero_add] at r0
  have r2 := run_cat (run_app (c := Z ++ 10 :: c) (run_ascii hI.1) (asc_good 0 I)) r0
  refine ⟨_, r2, ?_⟩
  have t1 := seg_toks hS (Z ++ 10 :: c).length Z.length (ws.map (shU (Z.length + 1))) (j := (S ++ lfU Z.length :: ws.map (shU (Z.length + 1))).length + 1) (by omega)
  have t2 := toksF_sh (Z.length + 1) hL
  rw [show c.length + (Z.length + 1) = (Z ++ 10 :: c).length by simp; omega] at t2
  rw [List.length_map, t2] at t1
  have t3 := toksF_sh I.length t1
  have e1 : (Z ++ 10 :: c).length + I.length = (I ++ (Z ++ 10 :: c)).length := by simp; omega
  rw [e1] at t3
  unfold toksL
  rw [toksF_blank _ [] (hI.2 0 _)]
  rw [toksF_fuel (j := (S ++ lfU Z.length :: ws.map (shU (Z.length + 1))).length + 1) (by simp; omega) (by simp)]
  exact t3

/-- THE TEXT THAT IS MADE: from the i-th token on; the places of the tokens, the text's end the last. -/
def bkT (b : List Int) (ins : Nat → List Int) : Nat → List Nat → List Int
  | _, [] => []
  | i, [_] => ins i
  | i, a :: a' :: r => ins i ++ ((b.take a').drop a ++ 10 :: bkT b ins (i + 1) (a' :: r))

theorem run_split {b : List Int} : ∀ {us vs : List U} {p e : Nat}, Run b p (us ++ vs) e → ∃ q, Run b p us q ∧ Run b q vs e
  | [], vs, p, e, h => ⟨p, rfl, h⟩
  | u :: us, vs, p, e, h => by
    obtain ⟨q, h1, h2⟩ := run_split h.2.2
    exact ⟨q, ⟨h.1, h.2.1, h1⟩, h2⟩

theorem bk_all (b : List Int) (ins : Nat → List Int) (hins : ∀ i, InsOK (ins i)) : ∀ (ps : List (Tok × List U)) (i p : Nat), p ≤ b.length → Run b p (ps.map Prod.snd).flatten b.length → (∀ x ∈ ps, SegOK x.1 x.2) → (∀ x ∈ ps, ∀ u ∈ x.2, u.bad = false) →
    (∀ a r, ps.map (fun x => x.1.p) ++ [b.length] = a :: r → a = p) ∧ ∃ ws L, Run (bkT b ins i (ps.map (fun x => x.1.p) ++ [b.length])) 0 ws (bkT b ins i (ps.map (fun x => x.1.p) ++ [b.length])).length ∧ toksL (bkT b ins i (ps.map (fun x => x.1.p) ++ [b.length])).length ws = TR.good L ∧
      L.map keyT = ps.map (fun x => keyT x.1) ++ [(4, [], [])] ∧ L.Pairwise (fun x y => x.p < y.p)
  | [], i, p, hp, hr, hs, hg => by
    have hr' : p = b.length := hr
    refine ⟨fun a r e => ?_, ascU 0 (ins i), [⟨4, (ins i).length, [], []⟩], (toksL_ins (hins i)).1, (toksL_ins (hins i)).2, rfl, by simp⟩
    obtain ⟨e1, _⟩ := List.cons.inj e
    omega
  | (t, S) :: ps, i, p, hp, hr, hs, hg => by
    have hseg : SegOK t S := hs (t, S) (List.mem_cons_self)
    obtain ⟨hk4, u, z, eS, htp⟩ := hseg.at
    obtain ⟨q, h1, h2⟩ := run_split (us := S) (vs := (ps.map Prod.snd).flatten) (by simpa using hr)
    have hq := Run.le h1 hp
    have hup : u.p = p := by
      rw [eS] at h1
      rw [h1.2.1]
      rfl
    obtain ⟨hhead, ws, L, hrun, htok, hkey, hpair⟩ := bk_all b ins hins ps (i + 1) q (by omega) h2 (fun x hx => hs x (List.mem_cons_of_mem _ hx)) (fun x hx => hg x (List.mem_cons_of_mem _ hx))
    refine ⟨fun a r e => ?_, ?_⟩
    · obtain ⟨e1, _⟩ := List.cons.inj e
      rw [← e1, ← hup]
      exact htp
    · obtain ⟨a', r, er⟩ : ∃ a' r, ps.map (fun x => x.1.p) ++ [b.length] = a' :: r := by
        cases ps with
        | nil => exact ⟨_, _, rfl⟩
        | cons x ps => exact ⟨_, _, rfl⟩
      have ea : a' = q := hhead a' r er
      have el : ((t, S) :: ps).map (fun x => x.1.p) ++ [b.length] = p :: a' :: r := by
        rw [List.map_cons, List.cons_append, er]
        show t.p :: _ = _
        rw [htp, hup]
      rw [el]
      rw [er] at hrun htok
      have hZ := run_slice (b := b) (a := p) (e := q) (by omega) (by omega) h1 (Nat.le_refl _) (Nat.le_refl _)
      have hZl : ((b.take q).drop p).length = q - p := by simp; omega
      rw [Nat.sub_self] at hZ
      have hZ' : Run ((b.take q).drop p) 0 (S.map (mvU (· - p))) ((b.take q).drop p).length := by rw [hZl]; exact hZ
      have hgd : ∀ v ∈ S.map (mvU (· - p)), v.bad = false := by
        intro v hv
        obtain ⟨v', hv', rfl⟩ := List.mem_map.1 hv
        exact hg (t, S) (List.mem_cons_self) v' hv'
      obtain ⟨vs, r1, r2⟩ := toksL_step (hins i) hZ' hgd (hseg.mv (· - p)) hrun htok
      refine ⟨vs, _, by rw [ea] at r1 ⊢; exact r1, by rw [ea] at r2 ⊢; exact r2, ?_, ?_⟩
      · rw [List.map_map, List.map_cons, List.map_cons, List.cons_append, ← hkey]
        rw [List.map_map]
        rfl
      · rw [List.map_cons, List.pairwise_cons]
        refine ⟨fun y hy => ?_, ?_⟩
        · simp only [List.map_map, List.mem_map] at hy
          obtain ⟨y', _, rfl⟩ := hy
          have e0 : t.p - p = 0 := by omega
          show (t.p - p) + (ins i).length < y'.p + (((b.take q).drop p).length + 1) + (ins i).length
          omega
        · rw [List.map_map]
          exact List.Pairwise.map _ (fun x y h => by show x.p + _ + _ < y.p + _ + _; omega) hpair
end Go.Proofs.YtdjhgjnhfmggjaaDoor
