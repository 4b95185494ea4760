/-
  States in parts: a group that leaves its part, and what leads to a part. Plain mathematics.
-/
import Derived.Test.YtklhjjgnhigbiaaGreatDoorLsMach
import Derived.Test.YtklhjjgnhigbiaaGreatDoorLsBfs
namespace Go.Proofs.YtklhjjgnhigbiaaGreatDoor
set_option linter.unusedVariables false

/-- Of each state its part; of each part its states. -/
structure Prt13 where
  p : Nat → Nat
  B : List (List Nat)
/-- The states of g get the part x. -/
def putP (p : Nat → Nat) (g : List Nat) (x : Nat) : Nat → Nat := fun s => if s ∈ g then x else p s
/-- A group leaves its part. -/
def leaveP (P : Prt13) (g : List Nat) : Prt13 :=
  let old := P.p (g.getD 0 0)
  let all := P.B.getD old []
  if g.length = 0 ∨ g.length = all.length then P
  else
    let rest := all.filter fun s => !decide (s ∈ g)
    if rest.length < g.length then ⟨putP (putP (putP P.p g P.B.length) rest P.B.length) g old, P.B.set old g ++ [rest]⟩
    else ⟨putP P.p g P.B.length, P.B.set old rest ++ [g]⟩
structure Prt13.Ok (n : Nat) (P : Prt13) : Prop where
  lt : ∀ s, s < n → P.p s < P.B.length
  nd : ∀ i, i < P.B.length → (P.B.getD i []).Nodup
  ne : ∀ i, i < P.B.length → P.B.getD i [] ≠ []
  mem : ∀ i s, i < P.B.length → (s ∈ P.B.getD i [] ↔ s < n ∧ P.p s = i)
section
variable {n : Nat} {P : Prt13}
theorem getD_set_same {B : List (List Nat)} {i : Nat} {x : List Nat} (h : i < B.length) : (B.set i x).getD i [] = x := by
  rw [List.getD_eq_getElem?_getD, List.getElem?_set_self h]; rfl
theorem getD_set_ne {B : List (List Nat)} {i j : Nat} {x : List Nat} (h : i ≠ j) : (B.set i x).getD j [] = B.getD j [] := by
  rw [List.getD_eq_getElem?_getD, List.getElem?_set_ne h, List.getD_eq_getElem?_getD]
theorem getD_app_lt {B : List (List Nat)} {j : Nat} {x : List Nat} (h : j < B.length) : (B ++ [x]).getD j [] = B.getD j [] := by
  rw [List.getD_eq_getElem?_getD, List.getElem?_append_left h, List.getD_eq_getElem?_getD]
theorem getD_app_last {B : List (List Nat)} {x : List Nat} : (B ++ [x]).getD B.length [] = x := by
  rw [List.getD_eq_getElem?_getD, List.getElem?_append_right (Nat.le_refl _), Nat.sub_self]; rfl
theorem nodup_same {g l : List Nat} (hg : g.Nodup) (hs : ∀ x ∈ g, x ∈ l) (hl : l.length ≤ g.length) (hn : l.Nodup) : ∀ x ∈ l, x ∈ g := fun x hx => by
  by_cases h : x ∈ g
  · exact h
  · have h2 : (x :: g).Nodup := List.nodup_cons.2 ⟨h, hg⟩
    have := List.Nodup.length_le_of_subset (l₁ := x :: g) (l₂ := l) h2 (fun y hy => by
      rcases List.mem_cons.1 hy with rfl | hy
      · exact hx
      · exact hs y hy)
    simp at this; omega
/-- What a group does that leaves: the parts are those of before, parted by the group. -/
structure LvOk (n : Nat) (P P' : Prt13) (g : List Nat) : Prop where
  ok : P'.Ok n
  iff : ∀ i k, i < n → k < n → (P'.p i = P'.p k ↔ P.p i = P.p k ∧ (i ∈ g ↔ k ∈ g))
  new : ∀ s, s < n → P'.p s = P.p s ∨ P'.p s = P.B.length
  le : P.B.length ≤ P'.B.length
theorem leave_two (h : P.Ok n) {old : Nat} {a b : List Nat} (ho : old < P.B.length) (ha : a ≠ []) (hb : b ≠ []) (na : a.Nodup) (nb : b.Nodup) (hab : ∀ s, s ∈ P.B.getD old [] ↔ s ∈ a ∨ s ∈ b) (hd : ∀ s, s ∈ a → s ∈ b → False) {p' : Nat → Nat}
    (hp : ∀ s, s < n → p' s = if s ∈ b then P.B.length else P.p s) :
    LvOk n P ⟨p', P.B.set old a ++ [b]⟩ b := by
  have hl : (P.B.set old a).length = P.B.length := List.length_set
  have hmo : ∀ s, s ∈ a ∨ s ∈ b ↔ s < n ∧ P.p s = old := fun s => (hab s).symm.trans (h.mem old s ho)
  have hgo : (P.B.set old a ++ [b]).getD old [] = a := by rw [getD_app_lt (by omega), getD_set_same ho]
  have hgl : (P.B.set old a ++ [b]).getD P.B.length [] = b := by rw [← hl]; exact getD_app_last
  have hgx : ∀ j, j < P.B.length → j ≠ old → (P.B.set old a ++ [b]).getD j [] = P.B.getD j [] := fun j hj hne => by
    rw [getD_app_lt (by omega), getD_set_ne (Ne.symm hne)]
  have hlen : (P.B.set old a ++ [b]).length = P.B.length + 1 := by rw [List.length_append, hl]; rfl
  have hpn : ∀ s, s < n → p' s < P.B.length + 1 := fun s hs => by
    rw [hp s hs]
    have := h.lt s hs
    split <;> omega
  refine ⟨⟨fun s hs => ?_, fun i hi => ?_, fun i hi => ?_, fun i s hi => ?_⟩, fun i k hi hk => ?_, fun s hs => ?_, ?_⟩
  · show p' s < (P.B.set old a ++ [b]).length
    rw [hlen]; exact hpn s hs
  · show ((P.B.set old a ++ [b]).getD i []).Nodup
    have hi' : i < P.B.length + 1 := by rw [← hlen]; exact hi
    by_cases e : i = P.B.length
    · rw [e, hgl]; exact nb
    · by_cases e2 : i = old
      · rw [e2, hgo]; exact na
      · rw [hgx i (by omega) e2]; exact h.nd i (by omega)
  · show (P.B.set old a ++ [b]).getD i [] ≠ []
    have hi' : i < P.B.length + 1 := by rw [← hlen]; exact hi
    by_cases e : i = P.B.length
    · rw [e, hgl]; exact hb
    · by_cases e2 : i = old
      · rw [e2, hgo]; exact ha
      · rw [hgx i (by omega) e2]; exact h.ne i (by omega)
  · show s ∈ (P.B.set old a ++ [b]).getD i [] ↔ s < n ∧ p' s = i
    have hi' : i < P.B.length + 1 := by rw [← hlen]; exact hi
    by_cases hs : s < n
    · have hlt := h.lt s hs
      rw [hp s hs]
      by_cases e : i = P.B.length
      · rw [e, hgl]
        by_cases hsb : s ∈ b
        · rw [if_pos hsb]; exact ⟨fun _ => ⟨hs, rfl⟩, fun _ => hsb⟩
        · rw [if_neg hsb]
          exact ⟨fun q => absurd q hsb, fun q => by have := q.2; omega⟩
      · by_cases e2 : i = old
        · rw [e2, hgo]
          by_cases hsb : s ∈ b
          · rw [if_pos hsb]
            exact ⟨fun q => absurd hsb (fun r => hd s q r), fun q => by have := q.2; omega⟩
          · rw [if_neg hsb]
            constructor
            · intro q
              exact (hmo s).1 (.inl q)
            · intro q
              rcases (hmo s).2 q with r | r
              · exact r
              · exact absurd r hsb
        · rw [hgx i (by omega) e2, h.mem i s (by omega)]
          by_cases hsb : s ∈ b
          · rw [if_pos hsb]
            have := (hmo s).1 (.inr hsb)
            constructor
            · intro q
              have := q.2; omega
            · intro q
              have := q.2; omega
          · rw [if_neg hsb]
    · have hm : ¬ s ∈ (P.B.set old a ++ [b]).getD i [] := fun q => by
        by_cases e : i = P.B.length
        · rw [e, hgl] at q
          exact hs ((hmo s).1 (.inr q)).1
        · by_cases e2 : i = old
          · rw [e2, hgo] at q
            exact hs ((hmo s).1 (.inl q)).1
          · rw [hgx i (by omega) e2] at q
            exact hs ((h.mem i s (by omega)).1 q).1
      exact ⟨fun q => absurd q hm, fun q => absurd q.1 hs⟩
  · show p' i = p' k ↔ _
    have hli := h.lt i hi
    have hlk := h.lt k hk
    rw [hp i hi, hp k hk]
    by_cases h1 : i ∈ b <;> by_cases h2 : k ∈ b
    · have a1 := (hmo i).1 (.inr h1)
      have a2 := (hmo k).1 (.inr h2)
      simp [h1, h2, a1.2, a2.2]
    · simp [h1, h2]; omega
    · simp [h1, h2]; omega
    · simp [h1, h2]
  · show p' s = P.p s ∨ p' s = P.B.length
    rw [hp s hs]
    split
    · exact .inr rfl
    · exact .inl rfl
  · show _ ≤ (P.B.set old a ++ [b]).length
    omega
theorem leave_ok (h : P.Ok n) {g : List Nat} (hn : g.Nodup) (hg : ∀ s, s ∈ g → s < n ∧ P.p s = P.p (g.getD 0 0)) : LvOk n P (leaveP P g) g := by
  have same : ∀ (hs : ∀ i k, i < n → k < n → P.p i = P.p k → (i ∈ g ↔ k ∈ g)), LvOk n P P g := fun hs =>
    ⟨h, fun i k hi hk => ⟨fun e => ⟨e, hs i k hi hk e⟩, fun e => e.1⟩, fun s _ => .inl rfl, Nat.le_refl _⟩
  by_cases h0 : g.length = 0
  · have e : leaveP P g = P := by unfold leaveP; simp only [h0, true_or, if_true]
    rw [e]
    have : g = [] := List.length_eq_zero_iff.1 h0
    subst this
    exact same (fun i k _ _ _ => by simp)
  have hg0 : g.getD 0 0 ∈ g := by
    rw [List.getD_eq_getElem?_getD, List.getElem?_eq_getElem (by omega)]
    exact List.getElem_mem _
  obtain ⟨old, ho⟩ : ∃ x, x = P.p (g.getD 0 0) := ⟨_, rfl⟩
  rw [← ho] at hg
  have hol : old < P.B.length := by rw [ho]; exact h.lt _ (hg _ hg0).1
  have hsub : ∀ x ∈ g, x ∈ P.B.getD old [] := fun x hx => (h.mem old x hol).2 (hg x hx)
  by_cases h1 : g.length = (P.B.getD old []).length
  · have e : leaveP P g = P := by unfold leaveP; simp only [← ho, h1, or_true, if_true]
    rw [e]
    have hall := nodup_same hn hsub (by omega) (h.nd old hol)
    refine same (fun i k hi hk e => ?_)
    constructor
    · intro q
      exact hall k ((h.mem old k hol).2 ⟨hk, by rw [← e]; exact (hg i q).2⟩)
    · intro q
      exact hall i ((h.mem old i hol).2 ⟨hi, by rw [e]; exact (hg k q).2⟩)
  obtain ⟨rest, hr⟩ : ∃ x, x = (P.B.getD old []).filter fun s => !decide (s ∈ g) := ⟨_, rfl⟩
  have hrm : ∀ s, s ∈ rest ↔ s ∈ P.B.getD old [] ∧ ¬ s ∈ g := fun s => by rw [hr, List.mem_filter]; simp
  have hrn : rest.Nodup := by rw [hr]; exact List.Pairwise.filter _ (h.nd old hol)
  have hgn : g ≠ [] := fun e => h0 (by rw [e]; rfl)
  have hre : rest ≠ [] := fun e => by
    refine h1 (Nat.le_antisymm (List.Nodup.length_le_of_subset hn hsub) (List.Nodup.length_le_of_subset (h.nd old hol) (fun x hx => ?_)))
    by_cases q : x ∈ g
    · exact q
    · have := (hrm x).2 ⟨hx, q⟩
      rw [e] at this; cases this
  have hcov : ∀ s, s ∈ P.B.getD old [] ↔ s ∈ rest ∨ s ∈ g := fun s => by
    rw [hrm]
    by_cases q : s ∈ g
    · exact ⟨fun _ => .inr q, fun _ => hsub s q⟩
    · simp [q]
  have hdis : ∀ s, s ∈ rest → s ∈ g → False := fun s a b => ((hrm s).1 a).2 b
  by_cases h2 : rest.length < g.length
  · have e : leaveP P g = ⟨putP (putP (putP P.p g P.B.length) rest P.B.length) g old, P.B.set old g ++ [rest]⟩ := by
      unfold leaveP; simp only [← ho, ← hr, h0, h1, or_self, if_false, h2, if_true]
    rw [e]
    have hp : ∀ s, s < n → putP (putP (putP P.p g P.B.length) rest P.B.length) g old s = if s ∈ rest then P.B.length else P.p s := fun s hs => by
      unfold putP
      by_cases q : s ∈ g
      · have q2 : ¬ s ∈ rest := fun r => hdis s r q
        simp [q, q2, (hg s q).2]
      · by_cases q2 : s ∈ rest <;> simp [q, q2]
    have k := leave_two h hol hgn hre hn hrn (fun s => (hcov s).trans Or.comm) (fun s a b => hdis s b a) hp
    refine ⟨k.ok, fun i j hi hj => ?_, k.new, k.le⟩
    rw [k.iff i j hi hj]
    refine ⟨fun q => ⟨q.1, ?_⟩, fun q => ⟨q.1, ?_⟩⟩
    · by_cases ho2 : P.p i = old
      · have mi := (hcov i).1 ((h.mem old i hol).2 ⟨hi, ho2⟩)
        have mj := (hcov j).1 ((h.mem old j hol).2 ⟨hj, by rw [← q.1]; exact ho2⟩)
        constructor
        · intro a
          rcases mj with r | r
          · exact absurd a (fun a => hdis i (q.2.2 r) a)
          · exact r
        · intro a
          rcases mi with r | r
          · exact absurd a (fun a => hdis j (q.2.1 r) a)
          · exact r
      · exact ⟨fun a => absurd (hg i a).2 ho2, fun a => absurd (hg j a).2 (by rw [← q.1]; exact ho2)⟩
    · rw [hrm, hrm, h.mem old i hol, h.mem old j hol, q.1, q.2]
      simp [hi, hj]
  · have e : leaveP P g = ⟨putP P.p g P.B.length, P.B.set old rest ++ [g]⟩ := by
      unfold leaveP; simp only [← ho, ← hr, h0, h1, or_self, if_false, h2]
    rw [e]
    exact leave_two h hol hre hgn hrn hn hcov hdis (fun s _ => rfl)
end
/-- By which classes a state leads to some. -/
def sgT (M : Mach) (T : List Nat) (s : Nat) : List Nat := (List.range M.k).filter fun c => decide (M.d s c ∈ T)
/-- The states that lead there, in groups of one part and the same classes. -/
structure GrpOk (M : Mach) (p : Nat → Nat) (T : List Nat) (G : List (List Nat)) : Prop where
  nd : ∀ g ∈ G, g.Nodup
  mem : ∀ g ∈ G, ∀ s ∈ g, s < M.n ∧ sgT M T s ≠ [] ∧ ∀ t, t < M.n → (t ∈ g ↔ p t = p s ∧ sgT M T t = sgT M T s)
  all : ∀ s, s < M.n → sgT M T s ≠ [] → ∃ g ∈ G, s ∈ g
/-- What holds ahead of the part `to`. -/
structure HopI (M : Mach) (P : Prt13) (to : Nat) : Prop where
  ok : P.Ok M.n
  alk : ∀ i k, i < M.n → k < M.n → alk M i k → P.p i = P.p k
  fin : ∀ i k, i < M.n → k < M.n → P.p i = P.p k → M.f i = M.f k
  inv : ∀ i k c, i < M.n → k < M.n → c < M.k → P.p i = P.p k → P.p (M.d i c) = P.p (M.d k c) ∨ to ≤ P.p (M.d i c) ∨ to ≤ P.p (M.d k c)
section
variable {M : Mach} {P : Prt13}
theorem getD_zero_mem {g : List Nat} {s : Nat} (h : s ∈ g) : g.getD 0 0 ∈ g := by
  cases g with
  | nil => cases h
  | cons x g => exact List.mem_cons_self ..
/-- Groups that leave one after another. -/
structure FldI (M : Mach) (P0 P : Prt13) (T : List Nat) (to : Nat) (D : List (List Nat)) : Prop where
  ok : P.Ok M.n
  iff : ∀ i k, i < M.n → k < M.n → (P.p i = P.p k ↔ P0.p i = P0.p k ∧ ∀ g ∈ D, (i ∈ g ↔ k ∈ g))
  le : to < P.B.length
  inv : ∀ i k c, i < M.n → k < M.n → c < M.k → P.p i = P.p k → P.p (M.d i c) = P.p (M.d k c) ∨ to + 1 ≤ P.p (M.d i c) ∨ to + 1 ≤ P.p (M.d k c) ∨ ¬ (M.d i c ∈ T ↔ M.d k c ∈ T)
theorem fld_group {P0 : Prt13} {T : List Nat} {to : Nat} {G D : List (List Nat)} (hG : GrpOk M P0.p T G) (hD : ∀ g ∈ D, g ∈ G) (h : FldI M P0 P T to D) {g : List Nat} (hg : g ∈ G) : ∀ s, s ∈ g → s < M.n ∧ P.p s = P.p (g.getD 0 0) := fun s hs => by
  obtain ⟨a1, a2, a3⟩ := hG.mem g hg s hs
  have h0 := getD_zero_mem hs
  obtain ⟨b1, b2, b3⟩ := hG.mem g hg _ h0
  refine ⟨a1, (h.iff s _ a1 b1).2 ⟨((b3 s a1).1 hs).1, fun g' hg' => ?_⟩⟩
  have e := (b3 s a1).1 hs
  constructor
  · intro q
    obtain ⟨_, _, c3⟩ := hG.mem g' (hD g' hg') s q
    exact (c3 _ b1).2 ⟨e.1.symm, e.2.symm⟩
  · intro q
    obtain ⟨_, _, c3⟩ := hG.mem g' (hD g' hg') _ q
    exact (c3 _ a1).2 ⟨e.1, e.2⟩
theorem fld_step (hM : M.Ok) {P0 : Prt13} {T : List Nat} {to : Nat} {G D : List (List Nat)} (hG : GrpOk M P0.p T G) (hD : ∀ g ∈ D, g ∈ G) (h : FldI M P0 P T to D) {g : List Nat} (hg : g ∈ G) : FldI M P0 (leaveP P g) T to (D ++ [g]) := by
  have k := leave_ok h.ok (hG.nd g hg) (fld_group hG hD h hg)
  refine ⟨k.ok, fun i j hi hj => ?_, Nat.lt_of_lt_of_le h.le k.le, fun i j c hi hj hc e => ?_⟩
  · rw [k.iff i j hi hj, h.iff i j hi hj]
    constructor
    · rintro ⟨⟨a, b⟩, c⟩
      refine ⟨a, fun g' hg' => ?_⟩
      rcases List.mem_append.1 hg' with q | q
      · exact b g' q
      · rw [List.mem_singleton.1 q]; exact c
    · rintro ⟨a, b⟩
      exact ⟨⟨a, fun g' hg' => b g' (List.mem_append_left _ hg')⟩, b g (List.mem_append_right _ (List.mem_singleton.2 rfl))⟩
  · have hdi := hM.cl i c hi hc
    have hdj := hM.cl j c hj hc
    have hle := h.le
    rcases h.inv i j c hi hj hc ((k.iff i j hi hj).1 e).1 with q | q | q | q
    · by_cases r : (leaveP P g).p (M.d i c) = (leaveP P g).p (M.d j c)
      · exact .inl r
      · rcases k.new _ hdi with a | a
        · rcases k.new _ hdj with b | b
          · exact absurd (a.trans (q.trans b.symm)) r
          · exact .inr (.inr (.inl (by omega)))
        · exact .inr (.inl (by omega))
    · refine .inr (.inl ?_)
      rcases k.new _ hdi with a | a <;> omega
    · refine .inr (.inr (.inl ?_))
      rcases k.new _ hdj with a | a <;> omega
    · exact .inr (.inr (.inr q))
theorem fld_all (hM : M.Ok) {P0 : Prt13} {T : List Nat} {to : Nat} {G : List (List Nat)} (hG : GrpOk M P0.p T G) : ∀ (E D : List (List Nat)) (P : Prt13), D ++ E = G → FldI M P0 P T to D → FldI M P0 (E.foldl leaveP P) T to G
  | [], D, P, e, h => by
    rw [List.append_nil] at e
    subst e; exact h
  | g :: E, D, P, e, h => by
    have e2 : (D ++ [g]) ++ E = G := by rw [List.append_assoc]; exact e
    exact fld_all hM hG E (D ++ [g]) _ e2 (fld_step hM hG (fun x hx => by rw [← e]; exact List.mem_append_left _ hx) h (by rw [← e]; exact List.mem_append_right _ (List.mem_cons_self ..)))
theorem fld_init {to : Nat} (h : HopI M P to) (hM : M.Ok) (hto : to < P.B.length) : FldI M P P (P.B.getD to []) to [] := by
  refine ⟨h.ok, fun i k _ _ => ⟨fun e => ⟨e, fun g hg => by cases hg⟩, fun e => e.1⟩, hto, fun i k c hi hk hc e => ?_⟩
  have hdi := hM.cl i c hi hc
  have hdk := hM.cl k c hk hc
  rw [h.ok.mem to _ hto, h.ok.mem to _ hto]
  rcases h.inv i k c hi hk hc e with q | q | q
  · exact .inl q
  · by_cases r : P.p (M.d i c) = to
    · by_cases r2 : P.p (M.d k c) = to
      · exact .inl (r.trans r2.symm)
      · exact .inr (.inr (.inr (fun x => r2 (x.1 ⟨hdi, r⟩).2)))
    · exact .inr (.inl (by omega))
  · by_cases r : P.p (M.d k c) = to
    · by_cases r2 : P.p (M.d i c) = to
      · exact .inl (r2.trans r.symm)
      · exact .inr (.inr (.inr (fun x => r2 (x.2 ⟨hdk, r⟩).2)))
    · exact .inr (.inr (.inl (by omega)))
/-- A part is looked at, and all that lead there leave their parts. -/
theorem hop_step (hM : M.Ok) {to : Nat} (h : HopI M P to) (hto : to < P.B.length) {G : List (List Nat)} (hG : GrpOk M P.p (P.B.getD to []) G) : HopI M (G.foldl leaveP P) (to + 1) := by
  have k := fld_all hM hG G [] P rfl (fld_init h hM hto)
  have hT : ∀ s, s ∈ P.B.getD to [] ↔ s < M.n ∧ P.p s = to := fun s => h.ok.mem to s hto
  have hsig : ∀ i j, i < M.n → j < M.n → (G.foldl leaveP P).p i = (G.foldl leaveP P).p j → sgT M (P.B.getD to []) i = sgT M (P.B.getD to []) j := fun i j hi hj e => by
    obtain ⟨e1, e2⟩ := (k.iff i j hi hj).1 e
    by_cases si : sgT M (P.B.getD to []) i = []
    · by_cases sj : sgT M (P.B.getD to []) j = []
      · rw [si, sj]
      · obtain ⟨g, hg, hjg⟩ := hG.all j hj sj
        have hig := (e2 g hg).2 hjg
        obtain ⟨_, _, c3⟩ := hG.mem g hg j hjg
        exact ((c3 i hi).1 hig).2
    · obtain ⟨g, hg, hig⟩ := hG.all i hi si
      have hjg := (e2 g hg).1 hig
      obtain ⟨_, _, c3⟩ := hG.mem g hg j hjg
      exact ((c3 i hi).1 hig).2
  refine ⟨k.ok, fun i j hi hj e => ?_, fun i j hi hj e => ?_, fun i j c hi hj hc e => ?_⟩
  · have e0 := h.alk i j hi hj e
    refine (k.iff i j hi hj).2 ⟨e0, fun g hg => ?_⟩
    have es : sgT M (P.B.getD to []) i = sgT M (P.B.getD to []) j := by
      unfold sgT
      refine List.filter_congr (fun c hc => ?_)
      have hc := List.mem_range.1 hc
      have := h.alk _ _ (hM.cl i c hi hc) (hM.cl j c hj hc) (alk_step hM hc e)
      have hiff : M.d i c ∈ P.B.getD to [] ↔ M.d j c ∈ P.B.getD to [] := by
        rw [hT, hT, this]
        exact ⟨fun q => ⟨hM.cl j c hj hc, q.2⟩, fun q => ⟨hM.cl i c hi hc, q.2⟩⟩
      exact decide_eq_decide.2 hiff
    constructor
    · intro q
      obtain ⟨_, _, c3⟩ := hG.mem g hg i q
      exact (c3 j hj).2 ⟨e0.symm, es.symm⟩
    · intro q
      obtain ⟨_, _, c3⟩ := hG.mem g hg j q
      exact (c3 i hi).2 ⟨e0, es⟩
  · exact h.fin i j hi hj ((k.iff i j hi hj).1 e).1
  · rcases k.inv i j c hi hj hc e with q | q | q | q
    · exact .inl q
    · exact .inr (.inl q)
    · exact .inr (.inr q)
    · refine absurd ?_ q
      have es := hsig i j hi hj e
      have hmem : ∀ s, M.d s c ∈ P.B.getD to [] ↔ c ∈ sgT M (P.B.getD to []) s := fun s => by
        unfold sgT
        rw [List.mem_filter, List.mem_range]
        simp [hc]
      rw [hmem, hmem, es]
/-- All have been looked at. -/
theorem hop_end (hM : M.Ok) {to : Nat} (h : HopI M P to) (hto : P.B.length ≤ to) : ∀ i k, i < M.n → k < M.n → (P.p i = P.p k ↔ Go.Proofs.YtklhjjgnhigbiaaGreatDoor.alk M i k) := fun i k hi hk => by
  refine ⟨fun e w hw => ?_, h.alk i k hi hk⟩
  have key : ∀ (w : List Nat) (i k : Nat), i < M.n → k < M.n → P.p i = P.p k → M.wd w → M.tk i w = M.tk k w := by
    intro w
    induction w with
    | nil => intro i k hi hk e _; exact h.fin i k hi hk e
    | cons c w ih =>
      intro i k hi hk e hw
      obtain ⟨hc, hw'⟩ := wd_cons.1 hw
      have hdi := hM.cl i c hi hc
      have hdk := hM.cl k c hk hc
      refine ih _ _ hdi hdk ?_ hw'
      have l1 := h.ok.lt _ hdi
      have l2 := h.ok.lt _ hdk
      rcases h.inv i k c hi hk hc e with q | q | q
      · exact q
      · omega
      · omega
  exact key w i k hi hk e hw
/-- All states in one part. -/
def oneP (n : Nat) : Prt13 := ⟨fun _ => 0, [List.range n]⟩
theorem one_ok {n : Nat} (h : 0 < n) : (oneP n).Ok n := by
  have hl : (oneP n).B.length = 1 := rfl
  refine ⟨fun s _ => by rw [hl]; exact Nat.one_pos, fun i hi => ?_, fun i hi => ?_, fun i s hi => ?_⟩
  all_goals
    have e : i = 0 := by rw [hl] at hi; omega
    subst e
    show _
  · exact List.nodup_range
  · show List.range n ≠ []
    intro e
    have := congrArg List.length e
    simp at this; omega
  · show s ∈ List.range n ↔ s < n ∧ 0 = 0
    simp
def finS (M : Mach) : List Nat := (List.range M.n).filter M.f
theorem hop_init (hM : M.Ok) : HopI M (leaveP (oneP M.n) (finS M)) 1 := by
  have k := leave_ok (one_ok hM.ne) (g := finS M) (List.Pairwise.filter _ List.nodup_range) (fun s hs => ⟨List.mem_range.1 (List.mem_filter.1 hs).1, rfl⟩)
  have hf : ∀ s, s < M.n → (s ∈ finS M ↔ M.f s = true) := fun s hs => by unfold finS; rw [List.mem_filter, List.mem_range]; simp [hs]
  refine ⟨k.ok, fun i j hi hj e => ?_, fun i j hi hj e => ?_, fun i j c hi hj hc e => ?_⟩
  · refine (k.iff i j hi hj).2 ⟨rfl, ?_⟩
    rw [hf i hi, hf j hj]
    have := e [] wd_nil
    show M.f i = true ↔ M.f j = true
    rw [show M.f i = M.f j from this]
  · have := ((k.iff i j hi hj).1 e).2
    rw [hf i hi, hf j hj] at this
    exact Bool.eq_iff_iff.2 this
  · rcases k.new _ (hM.cl i c hi hc) with a | a
    · rcases k.new _ (hM.cl j c hj hc) with b | b
      · exact .inl (a.trans b.symm)
      · exact .inr (.inr (by rw [b]; exact Nat.le_refl _))
    · exact .inr (.inl (by rw [a]; exact Nat.le_refl _))
end
/-- There are no more parts than states. -/
theorem Prt13.Ok.few {n : Nat} {P : Prt13} (h : P.Ok n) : P.B.length ≤ n := by
  have hmem : ∀ i, i < P.B.length → (P.B.getD i []).getD 0 0 ∈ P.B.getD i [] := fun i hi => by
    obtain ⟨x, hx⟩ := List.exists_mem_of_ne_nil _ (h.ne i hi)
    exact getD_zero_mem hx
  have hm : ((List.range P.B.length).map fun i => (P.B.getD i []).getD 0 0).Nodup := by
    unfold List.Nodup
    rw [List.pairwise_map]
    refine List.Pairwise.imp_of_mem ?_ (List.nodup_range (n := P.B.length))
    intro i j hi hj hne e
    have hi := List.mem_range.1 hi
    have hj := List.mem_range.1 hj
    have a := ((h.mem i _ hi).1 (hmem i hi)).2
    have b := ((h.mem j _ hj).1 (hmem j hj)).2
    rw [← e] at b
    exact hne (a.symm.trans b)
  have := nodup_len hm (fun x hx => by
    obtain ⟨i, hi, rfl⟩ := List.mem_map.1 hx
    have hi := List.mem_range.1 hi
    exact ((h.mem i _ hi).1 (hmem i hi)).1)
  simpa using this
end Go.Proofs.YtklhjjgnhigbiaaGreatDoor
