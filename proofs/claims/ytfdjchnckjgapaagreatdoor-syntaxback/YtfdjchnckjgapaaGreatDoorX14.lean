/-
  Plain mathematics: where tokens stand, and where an error is told. Slices of ints in memory; appending whatever slice; scansionref02.rising.
-/
import Derived.Test.YtfdjchnckjgapaaGreatDoorX13
import Derived.Test.YtfdjchnckjgapaaGreatDoorX05
namespace Go.Proofs.YtfdjchnckjgapaaGreatDoor
open Go.RowKit S1
set_option linter.unusedVariables false

theorem run_suffix_at {zs : List Int} : ∀ {us r : List U} {p : Nat}, Run zs p us zs.length → r <:+ us → p ≤ atL zs.length r
  | us, r, p, h, hs => by
    rcases List.suffix_cons_iff.1 (show r <:+ (⟨0, 0, 0, false⟩ : U) :: us from hs.trans (List.suffix_cons _ _)) with e | hs'
    · -- r is longer than us: impossible
      have := hs.length_le
      rw [e] at this
      simp at this
      omega
    · match us, h, hs' with
      | [], h, hs' =>
        have e := List.suffix_nil.1 hs'
        rw [e]
        exact Nat.le_of_eq (show p = zs.length from h)
      | u :: t, h, hs' =>
        rcases List.suffix_cons_iff.1 hs' with e | hs2
        · rw [e]; show p ≤ u.p; rw [h.2.1]; exact Nat.le_refl _
        · have := run_suffix_at h.2.2 hs2
          omega
theorem runs_at_mono {zs : List Int} {us r : List U} (h : Runs zs us) (hs : r <:+ us) : atL zs.length us ≤ atL zs.length r := by
  obtain ⟨p, h⟩ := h
  rw [run_at h]
  exact run_suffix_at h hs
theorem runs_at_strict {zs : List Int} {u : U} {t r : List U} (h : Runs zs (u :: t)) (hs : r <:+ t) : u.p + 1 ≤ atL zs.length r ∧ u.p < zs.length := by
  obtain ⟨p, h⟩ := h
  have h1 := run_suffix_at h.2.2 hs
  have hw := unitAt_w h.1
  rw [← h.2.1] at hw
  have hp : u.p = p := by rw [h.2.1]; rfl
  have := h.1
  omega

/-- Where an error may be told. -/
def BadAt (n a : Nat) (x : Int) : Prop := a ≤ n ∧ (x = 7 → a = n) ∧ (x = 6 → a < n) ∧ x ≠ 0
theorem stuck_at {zs : List Int} {us : List U} (h : Runs zs us) : BadAt zs.length (atL zs.length us) (stuckE us) := by
  match us, h with
  | [], h => exact ⟨Nat.le_refl _, fun _ => rfl, fun e => by simp [stuckE] at e, by simp [stuckE]⟩
  | u :: t, h =>
    have := runs_at_strict h (List.suffix_refl t)
    exact ⟨by show u.p ≤ _; omega, fun e => by simp [stuckE] at e, fun _ => this.2, by simp [stuckE]⟩
theorem setF_at {zs : List Int} : ∀ {k : Nat} {us : List U} {acc : List Rg} {a : Nat} {x : Int}, us.length < k → Runs zs us → setF zs.length k us acc = SR.bad a x → BadAt zs.length a x
  | 0, us, acc, a, x, hk, hr, h => by omega
  | k + 1, us, acc, a, x, hk, hr, h => by
    cases h1 : sgn (isC 93) us with
    | mk o s => cases o with
      | some y => rw [setF_end h1] at h; cases h
      | none => cases h2 : entL us with
        | mk o2 r2 =>
          have hsf := entL_suffix us
          rw [h2] at hsf
          cases o2 with
          | none =>
            rw [setF_stuck h1 h2] at h
            obtain ⟨e1, e2⟩ := Prod.mk.inj (Sum.inl.inj h)
            rw [← e1, ← e2]
            exact stuck_at (hr.of_suffix hsf)
          | some e =>
            have hlen := entL_len h2
            cases h3 : (decide (e.hi < e.lo) || decide (1114111 < e.hi)) with
            | true =>
              rw [setF_arg h1 h2 h3] at h
              obtain ⟨e1, e2⟩ := Prod.mk.inj (Sum.inl.inj h)
              rw [← e1, ← e2]
              exact ⟨hr.at_le, fun e => (by cases e), fun e => (by cases e), by decide⟩
            | false => rw [setF_on h1 h2 h3] at h; exact setF_at (us := r2) (by omega) (hr.of_suffix hsf) h
theorem tokO_at {zs : List Int} {us : List U} {a : Nat} {x : Int} (hr : Runs zs us) (h : tokO zs.length us = OR.bad a x) : BadAt zs.length a x := by
  match us, hr, h with
  | [], hr, h => cases h
  | u :: t, hr, h =>
    have hst := runs_at_strict hr (List.suffix_refl t)
    rw [tokO_cons] at h
    split at h
    · cases h
    · split at h
      · cases h
      · split at h
        · cases h1 : setF zs.length (t.length + 1) t [] with
          | inl x =>
            obtain ⟨b, y⟩ := x
            rw [h1] at h
            obtain ⟨e1, e2⟩ := Prod.mk.inj (Sum.inl.inj h)
            rw [← e1, ← e2]
            exact setF_at (by omega) hr.tail h1
          | inr x => rw [h1] at h; cases h
        · obtain ⟨e1, e2⟩ := Prod.mk.inj (Sum.inl.inj h)
          rw [← e1, ← e2]
          exact ⟨by omega, fun e => (by cases e), fun _ => hst.2, by decide⟩
theorem toksF_at {zs : List Int} : ∀ {k : Nat} {us : List U} {acc : List Tok} {a : Nat} {x : Int}, us.length < k → Runs zs us → toksF zs.length k us acc = TR.bad a x → BadAt zs.length a x
  | 0, us, acc, a, x, hk, hr, h => by omega
  | k + 1, us, acc, a, x, hk, hr, h => by
    have hr1 := hr.of_suffix (blankL_suffix false us)
    have hbl := blankL_le false us
    cases h1 : tokO zs.length (blankL false us) with
    | inl x =>
      obtain ⟨b, y⟩ := x
      rw [toksF_bad h1] at h
      obtain ⟨e1, e2⟩ := Prod.mk.inj (Sum.inl.inj h)
      rw [← e1, ← e2]
      exact tokO_at hr1 h1
    | inr x =>
      obtain ⟨t, r⟩ := x
      rcases tokO_len h1 with ⟨h4, _⟩ | ⟨h4, hlt⟩
      · rw [toksF_end h1 h4] at h; cases h
      · rw [toksF_on h1 h4] at h
        exact toksF_at (by omega) (hr1.of_suffix (tokO_suffix h1)) h

/-- Tokens stand where they begin, from the place a on. -/
def Placed (zs : List Int) : Nat → List Tok → Prop
  | _, [] => False
  | a, t :: ts => a ≤ t.p ∧ t.p + t.t.length ≤ zs.length ∧ cutZ zs t.p (t.p + t.t.length) = t.t ∧ (t.k = 3 → zs[t.p]? = some 91) ∧ ((t.k = 4 ∧ ts = [] ∧ t.p = zs.length) ∨ (t.k ≠ 4 ∧ ts ≠ [] ∧ Placed zs (t.p + max t.t.length 1) ts))

/-- Tokens put ahead. -/
def preT (acc : List Tok) : TR → TR
  | .inl x => .inl x
  | .inr l => .inr (acc ++ l)
theorem preT_preT (a b : List Tok) (x : TR) : preT a (preT b x) = preT (a ++ b) x := by
  cases x <;> simp [preT]
theorem toksF_app {n : Nat} : ∀ (k : Nat) (us : List U) (acc : List Tok), toksF n k us acc = preT acc (toksF n k us [])
  | 0, us, acc => rfl
  | k + 1, us, acc => by
    cases h1 : tokO n (blankL false us) with
    | inl x => obtain ⟨b, y⟩ := x; rw [toksF_bad h1, toksF_bad h1]; rfl
    | inr x =>
      obtain ⟨t, r⟩ := x
      by_cases h4 : t.k = 4
      · rw [toksF_end h1 h4, toksF_end h1 h4]; rfl
      · rw [toksF_on h1 h4, toksF_on h1 h4, toksF_app k r (acc ++ [t]), toksF_app k r ([] ++ [t]), preT_preT]
        rfl
/-- The first token, and the others. -/
theorem toksF_cons {n k : Nat} {us : List U} {l : List Tok} (h : toksF n (k + 1) us [] = TR.good l) : ∃ t r, tokO n (blankL false us) = OR.good t r ∧ ((t.k = 4 ∧ l = [t]) ∨ (t.k ≠ 4 ∧ ∃ l', l = t :: l' ∧ toksF n k r [] = TR.good l')) := by
  cases h1 : tokO n (blankL false us) with
  | inl x => obtain ⟨b, y⟩ := x; rw [toksF_bad h1] at h; cases h
  | inr x =>
    obtain ⟨t, r⟩ := x
    refine ⟨t, r, rfl, ?_⟩
    by_cases h4 : t.k = 4
    · rw [toksF_end h1 h4] at h
      have e := Sum.inr.inj h
      exact .inl ⟨h4, e.symm⟩
    · rw [toksF_on h1 h4, toksF_app] at h
      cases h2 : toksF n k r [] with
      | inl x => rw [h2] at h; cases h
      | inr l' =>
        rw [h2] at h
        have h := Sum.inr.inj h
        exact .inr ⟨h4, l', h.symm, rfl⟩
theorem toksF_nonempty {n : Nat} : ∀ {k : Nat} {us : List U} {l : List Tok}, toksF n k us [] = TR.good l → l ≠ []
  | 0, us, l, h => by cases h
  | k + 1, us, l, h => by
    obtain ⟨t, r, _, ⟨_, e⟩ | ⟨_, l', e, _⟩⟩ := toksF_cons h
    · rw [e]; simp
    · rw [e]; simp

/-- A token stands where it begins; what is left begins behind it. -/
theorem tokO_placed {zs : List Int} {us r : List U} {t : Tok} (hr : Runs zs us) (h : tokO zs.length us = OR.good t r) : t.p = atL zs.length us ∧ t.p + t.t.length ≤ zs.length ∧ cutZ zs t.p (t.p + t.t.length) = t.t ∧ (t.k = 3 → zs[t.p]? = some 91) ∧ (t.k = 4 ∧ t.p = zs.length ∨ t.k ≠ 4 ∧ t.p + max t.t.length 1 ≤ atL zs.length r) := by
  match us, hr, h with
  | [], hr, h =>
    obtain ⟨e1, e2⟩ := Prod.mk.inj (Sum.inr.inj h)
    rw [← e1]
    exact ⟨rfl, Nat.le_refl _, by simp [cutZ], fun e => (by cases e), .inl ⟨rfl, rfl⟩⟩
  | u :: t', hr, h =>
    have hst := runs_at_strict hr (List.suffix_refl t')
    rw [tokO_cons] at h
    split at h
    · rename_i q
      obtain ⟨e1, e2⟩ := Prod.mk.inj (Sum.inr.inj h)
      have hsp : u :: t' = (u :: t'.takeWhile (fitU nameR)) ++ t'.dropWhile (fitU nameR) := by rw [List.cons_append, ← take_drop_while]
      have hcut := runs_cut (a := u :: t'.takeWhile (fitU nameR)) (b := t'.dropWhile (fitU nameR)) (by rw [← hsp]; exact hr) (fun v hv => by
        rcases List.mem_cons.1 hv with rfl | hv
        · exact fit_name q
        · exact fit_inName (takeWhile_all _ _ v hv))
      have hln := congrArg List.length hcut.1
      have hle := (hr.of_suffix (show t'.dropWhile (fitU nameR) <:+ u :: t' from (List.dropWhile_suffix _).trans (List.suffix_cons _ _))).at_le
      rw [cutZ_length hle] at hln
      rw [← hsp] at hcut hln
      have hat : atL zs.length (u :: t') = u.p := rfl
      rw [hat] at hcut hln
      rw [← e1, ← e2]
      simp only [List.length_map, List.length_cons, List.map_cons] at hln ⊢
      have hq : u.p + ((t'.takeWhile (fitU nameR)).length + 1) = atL zs.length (t'.dropWhile (fitU nameR)) := by omega
      refine ⟨rfl, by omega, by rw [hq]; simpa using hcut.1, fun e => (by cases e), .inr ⟨by decide, by omega⟩⟩
    · split at h
      · rename_i q
        obtain ⟨e1, e2⟩ := Prod.mk.inj (Sum.inr.inj h)
        have hcut := runs_cut (a := [u]) (b := t') hr (fun v hv => by
          obtain rfl : v = u := by simpa using hv
          exact fit_tok q)
        have hle := hr.tail.at_le
        have hln := congrArg List.length hcut.1
        rw [cutZ_length hle] at hln
        have hat : atL zs.length ([u] ++ t') = u.p := rfl
        rw [hat] at hcut hln
        rw [← e1, ← e2]
        simp only [List.length_map, List.length_singleton] at hln ⊢
        have hq : u.p + 1 = atL zs.length t' := by omega
        refine ⟨rfl, by omega, by rw [hq]; simpa using hcut.1, fun e => (by cases e), .inr ⟨by decide, by omega⟩⟩
      · split at h
        · rename_i q
          cases h1 : setF zs.length (t'.length + 1) t' [] with
          | inl x => rw [h1] at h; cases h
          | inr x =>
            obtain ⟨l, s⟩ := x
            rw [h1] at h
            obtain ⟨e1, e2⟩ := Prod.mk.inj (Sum.inr.inj h)
            rw [← e1, ← e2]
            have hs2 := runs_at_strict hr (setF_suffix h1)
            obtain ⟨p, hr'⟩ := hr
            have hu : u.bad = false ∧ u.r = 91 := by simp [fitU, isC] at q; exact q
            obtain ⟨_, hp, hzz⟩ := unit_ascii hr'.1 hr'.2.1 hu.1 (by omega)
            refine ⟨rfl, by simp; omega, by simp [cutZ], fun _ => ?_,   .inr ⟨(by decide : (3 : Int) ≠ 4), by simpa using hs2.1⟩⟩
            show zs[u.p]? = some 91
            rw [hp, hzz, hu.2]
        · cases h
theorem toksF_placed {zs : List Int} : ∀ {k : Nat} {us : List U} {l : List Tok} {a : Nat}, Runs zs us → a ≤ atL zs.length us → toksF zs.length k us [] = TR.good l → Placed zs a l
  | 0, us, l, a, hr, ha, h => by cases h
  | k + 1, us, l, a, hr, ha, h => by
    obtain ⟨t, r, h1, h2⟩ := toksF_cons h
    have hsf := blankL_suffix false us
    have hr1 := hr.of_suffix hsf
    have hm := runs_at_mono hr hsf
    obtain ⟨p1, p2, p3, p4, p5⟩ := tokO_placed hr1 h1
    rcases h2 with ⟨h4, rfl⟩ | ⟨h4, l', rfl, h5⟩
    · refine ⟨by omega, p2, p3, p4, .inl ⟨h4, rfl, ?_⟩⟩
      rcases p5 with q | q
      · exact q.2
      · exact absurd h4 q.1
    · refine ⟨by omega, p2, p3, p4, .inr ⟨h4, toksF_nonempty h5, ?_⟩⟩
      rcases p5 with q | q
      · exact absurd q.1 h4
      · exact toksF_placed (hr1.of_suffix (tokO_suffix h1)) q.2 h5
theorem Placed.ne {zs : List Int} {a : Nat} {l : List Tok} (h : Placed zs a l) : l ≠ [] := by
  cases l with
  | nil => exact h.elim
  | cons t ts => simp
theorem Placed.last {zs : List Int} : ∀ {l : List Tok} {a : Nat}, Placed zs a l → ∀ (hl : l.length - 1 < l.length), (l[l.length - 1]).p = zs.length
  | [], a, h, hl => h.elim
  | t :: ts, a, h, hl => by
    rcases h.2.2.2.2 with ⟨_, rfl, e⟩ | ⟨_, hne, h2⟩
    · exact e
    · have hp : 0 < ts.length := by cases ts with
        | nil => exact absurd rfl hne
        | cons x y => simp
      have := Placed.last h2 (by omega)
      have e : (t :: ts).length - 1 = (ts.length - 1) + 1 := by simp; omega
      simp only [e, List.getElem_cons_succ]
      exact this
/-- The token at a place, and what is known of the others. -/
theorem Placed.drop {zs : List Int} : ∀ {l : List Tok} {a k : Nat}, Placed zs a l → k < l.length → ∃ b, Placed zs b (l.drop k) ∧ a ≤ b
  | l, a, 0, h, hk => ⟨a, by simpa using h, Nat.le_refl _⟩
  | [], a, k + 1, h, hk => by simp at hk
  | t :: ts, a, k + 1, h, hk => by
    rcases h.2.2.2.2 with ⟨_, rfl, e⟩ | ⟨_, hne, h2⟩
    · simp at hk
    · obtain ⟨b, h3, h4⟩ := Placed.drop h2 (by simpa using hk)
      exact ⟨b, by simpa using h3, by have := h.1; omega⟩
end Go.Proofs.YtfdjchnckjgapaaGreatDoor

namespace Go.Proofs.YtfdjchnckjgapaaGreatDoor
open Go.RowKit
set_option linter.unusedVariables false

theorem cell_some_lt {w : World} {a : Addr} {v : Value} (h : w.cell? a = some v) : a.block < w.heap.size := by
  rcases Nat.lt_or_ge a.block w.heap.size with q | q
  · exact q
  · simp [World.cell?, Array.getElem?_eq_none q] at h

/-- What is appended: nothing, of a nil slice; or the cells news. -/
def SrcIs (w : World) (x : Value) (m size : Nat) (news : List Value) : Prop :=
  (x = .slice none 0 0 ∧ m = 0 ∧ news = []) ∨ ∃ ad c, x = .slice (some ad) m c ∧ news.length = m * size ∧ (∀ j u, news[j]? = some u → w.cell? (ad.add j) = some u) ∧ ∀ u ∈ news, u.oneCell' = true

theorem SrcIs.below {w w' : World} {x : Value} {m size : Nat} {news : List Value} (h : SrcIs w x m size news) (hb : Below w.heap.size w w') : SrcIs w' x m size news := by
  rcases h with h | ⟨ad, c, e, hl, hc, h1⟩
  · exact .inl h
  · refine .inr ⟨ad, c, e, hl, fun j u hj => ?_, h1⟩
    have := hc j u hj
    rw [hb.cell (cell_some_lt this)]
    exact this

theorem src_of_row {w : World} {base e size : Nat} {v : Value} {n : Nat} {xs : List Value} (h : w.ownsRow base e size v n xs) (h1 : ∀ u ∈ xs, u.oneCell' = true) : SrcIs w v n size xs := by
  have hl := h.1
  rcases h.2 with ⟨rfl, h0⟩ | ⟨g, cap, cur, rfl, hb, hg, hc, hm, hs, ht⟩
  · subst h0
    exact .inl ⟨rfl, rfl, List.length_eq_zero_iff.1 (by simpa using hl)⟩
  · exact .inr ⟨⟨g, 0, none⟩, cap, rfl, hl, fun j u hj => h.cells (g := g) rfl j u hj, h1⟩

theorem wpList_append_src {P : Program} (w : World) {ops : Array Oper} {rest : List Oper} {o : Oper} {a : Act} {Q : Exit → Act → World → Prop} (hgd : o.guard = none) (s x : Operand) (t : TypeId)
    (ho : o.op = .call { callee := .builtin .append, args := #[s, x], argTypes := #[t, t] })
    (base : Nat) (e : TypeId) (i : TypeInfo) (z : Value) (size bytes : Nat) (ht : P.underlying t = some (.slice e)) (hi : P.info? e = some i) (hz : i.zero = some z)
    (hsize : i.size = size) (hby : i.bytes = bytes) (hzs : z.cells.size = size) (hsz : 0 < size)
    (v : Value) (n : Nat) (xs : List Value) (hs : a.eval s = v) (hown : w.ownsRow base e size v n xs) (y : Value) (hx : a.eval x = y)
    (m : Nat) (news : List Value) (hsrc : SrcIs w y m size news) (h63 : n + m ≤ maxLen) (hbytes : (n + m) * bytes ≤ 140737488355328) (hbase : base ≤ w.heap.size)
    (h : ∀ v' w', w'.ownsRow base e size v' (n + m) (xs ++ news) → w.grownBy w' v.ownBlock → wpList P ops Q rest (a.put o.dst v') w') : wpList P ops Q (o :: rest) a w := by
  subst hx
  rcases hsrc with ⟨hx, rfl, rfl⟩ | ⟨ad, c, hx, hl, hc, h1⟩
  · refine wpList_append_own_none hgd s x t ho base e i size ht hi v n xs hs hown hx ?_
    refine h v w (by simpa using hown) ⟨rfl, rfl, rfl, Nat.le_refl _, fun _ _ _ => rfl⟩
  · exact wpList_append_own w hgd s x t ho base e i z size bytes ht hi hz hsize hby hzs hsz v n xs hs hown ad m c news hx hl hc h1 h63 hbytes hbase fun v' w' h2 h3 _ => h v' w' h2 h3

/-- The slice value v holds the ints l. -/
def IntsIn (w : World) (v : Value) (l : List Int) : Prop :=
  ∃ a cap, v = .slice a l.length cap ∧ l.length ≤ cap ∧ ∀ i, (h : i < l.length) → ∃ g off, a = some ⟨g, off, none⟩ ∧ g < w.heap.size ∧ w.cell? ⟨g, off + i, none⟩ = some (.int .i64 l[i])

theorem ints_of_row {w : World} {base : Nat} {v : Value} {zs : List Int} (h : w.ownsRow base 3 1 v zs.length (zs.map (Value.int .i64))) : IntsIn w v zs := by
  rcases h.2 with ⟨rfl, h0⟩ | ⟨g, cap, cur, rfl, hb, hg, hc, hm, hs, ht⟩
  · exact ⟨none, 0, by rw [h0], by omega, fun i hi => by omega⟩
  · refine ⟨_, cap, rfl, hc, fun i hi => ⟨g, 0, rfl, (Array.getElem?_eq_some_iff.1 hg).1, ?_⟩⟩
    have := h.cells (g := g) rfl i (.int .i64 zs[i]) (by simp [hi])
    rw [add_lit'] at this
    exact this
theorem IntsIn.below {w w' : World} {v : Value} {zs : List Int} (h : IntsIn w v zs) (hb : Below w.heap.size w w') : IntsIn w' v zs := by
  obtain ⟨a, cap, rfl, hc, hi⟩ := h
  refine ⟨a, cap, rfl, hc, fun i hlt => ?_⟩
  obtain ⟨g, off, rfl, hg, hj⟩ := hi i hlt
  exact ⟨g, off, rfl, Nat.lt_of_lt_of_le hg hb.size, (hb.cell (p := ⟨g, off + i, none⟩) hg).trans hj⟩
theorem one_ints (k : IntKind) (l : List Int) : ∀ u ∈ l.map (Value.int k), u.oneCell' = true := fun u hu => by
  obtain ⟨n, _, rfl⟩ := List.mem_map.1 hu
  rfl

theorem addr_add (g off j : Nat) : (⟨g, off, none⟩ : Addr).add j = ⟨g, off + j, none⟩ := by unfold Addr.add; split <;> simp_all

/-- The first k of them, and the rest, as what is appended. -/
theorem src_take {w : World} {g off cap : Nat} {l : List Int} (h : IntsIn w (.slice (some ⟨g, off, none⟩) l.length cap) l) (k : Nat) (hk : k ≤ l.length) (c : Nat) : SrcIs w (.slice (some ⟨g, off, none⟩) k c) k 1 ((l.take k).map (Value.int .i64)) := by
  obtain ⟨a, cap', e, hc, hi⟩ := h
  refine .inr ⟨_, c, rfl, by simp; omega, fun j u hj => ?_, one_ints _ _⟩
  have hjl : j < k := by
    have := (List.getElem?_eq_some_iff.1 hj).1
    simp at this; omega
  obtain ⟨g', off', e2, hg, hcj⟩ := hi j (by omega)
  obtain ⟨rfl, rfl⟩ : g = g' ∧ off = off' := by
    have : some (⟨g, off, none⟩ : Addr) = some ⟨g', off', none⟩ := by rw [← e2]; simpa using (by simpa using e : _ ∧ _).1
    simpa using this
  rw [addr_add, hcj]
  have e3 : ((l.take k).map (Value.int .i64))[j]? = some (.int .i64 l[j]) := by
    simp [hjl, show j < l.length by omega]
  rw [e3] at hj
  exact hj
theorem src_drop {w : World} {g off cap : Nat} {l : List Int} (h : IntsIn w (.slice (some ⟨g, off, none⟩) l.length cap) l) (k : Nat) (hk : k ≤ l.length) (ad : Addr) (had : k < l.length → ad = ⟨g, off + k, none⟩) (c : Nat) : SrcIs w (.slice (some ad) (l.length - k) c) (l.length - k) 1 ((l.drop k).map (Value.int .i64)) := by
  obtain ⟨a, cap', e, hc, hi⟩ := h
  refine .inr ⟨_, c, rfl, by simp, fun j u hj => ?_, one_ints _ _⟩
  have hjl : j < l.length - k := by
    have := (List.getElem?_eq_some_iff.1 hj).1
    simpa using this
  obtain ⟨g', off', e2, hg, hcj⟩ := hi (k + j) (by omega)
  obtain ⟨rfl, rfl⟩ : g = g' ∧ off = off' := by
    have : some (⟨g, off, none⟩ : Addr) = some ⟨g', off', none⟩ := by rw [← e2]; simpa using (by simpa using e : _ ∧ _).1
    simpa using this
  rw [had (by omega), addr_add, Nat.add_assoc, hcj]
  have e3 : ((l.drop k).map (Value.int .i64))[j]? = some (.int .i64 l[k + j]) := by
    simp [show k + j < l.length by omega]
  rw [e3] at hj
  exact hj

theorem insE_at : ∀ (l : List Int) (n : Int) (k : Nat), k ≤ l.length → (∀ i, (h : i < l.length) → i < k → l[i] < n) → (∀ h : k < l.length, n ≤ l[k]) → insE l n = if (∃ h : k < l.length, l[k] = n) then l else l.take k ++ n :: l.drop k
  | [], n, k, hk, _, _ => by
    obtain rfl : k = 0 := by simpa using hk
    rw [if_neg (by rintro ⟨h, _⟩; cases h)]
    rfl
  | y :: l, n, 0, hk, _, h2 => by
    have h3 : n ≤ y := h2 (by simp)
    unfold insE
    rw [if_neg (by omega)]
    by_cases q : y = n
    · rw [if_pos q, if_pos ⟨by simp, q⟩]
    · rw [if_neg q, if_neg (by rintro ⟨_, z⟩; exact q z)]
      rfl
  | y :: l, n, k + 1, hk, h1, h2 => by
    have h3 : y < n := h1 0 (by simp) (by omega)
    have ih := insE_at l n k (by simpa using hk) (fun i h q => by have := h1 (i + 1) (by simpa using h) (by omega); simpa using this) (fun h => by have := h2 (by simpa using h); simpa using this)
    unfold insE
    rw [if_pos h3, ih]
    by_cases q : ∃ h : k < l.length, l[k] = n
    · rw [if_pos q, if_pos (by obtain ⟨h, e⟩ := q; exact ⟨by simpa using h, by simpa using e⟩)]
    · rw [if_neg q, if_neg (by rintro ⟨h, e⟩; exact q ⟨by simpa using h, by simpa using e⟩)]
      rfl

theorem owns_empty (w : World) (base e size : Nat) (hb : base ≤ w.heap.size) : (w.alloc (.cells #[] e)).ownsRow base e size (.slice (some ⟨w.heap.size, 0, none⟩) 0 0) 0 [] :=
  ⟨by simp, .inr ⟨w.heap.size, 0, #[], rfl, hb, heap_new' w _, Nat.le_refl _, by unfold maxLen; omega, by simp, by simp⟩⟩

theorem src_one (w : World) (n : Int) : SrcIs (w.alloc (.cells #[.int .i64 n] 3)) (.slice (some ⟨w.heap.size, 0, none⟩) 1 1) 1 1 [.int .i64 n] :=
  .inr ⟨_, 1, rfl, rfl, World.news_of_block (heap_new' w _), by simp [Value.oneCell']⟩

set_option maxRecDepth 100000 in
set_option maxHeartbeats 4000000 in
theorem rising_any (l : List Int) (n : Int) (v : Value) (w : World) (h1 : 1 ≤ l.length) (hlen : l.length ≤ 100000) (hv : IntsIn w v l) :
    Calls Tryz.prog 173 #[v, .int .i64 n] w fun e w' => ∃ v', e = .returned v' ∧ IntsIn w' v' (insE l n) ∧ Below w.heap.size w w' := by
  obtain ⟨iI, hiI, hzI0, hzI1, hzI2⟩ := info_parts Tryz.infoInt
  have HV0 : Hid (IntsIn w v l) := hv
  obtain ⟨a, cap, rfl, hc, hcell⟩ := hv
  obtain ⟨g, off, rfl, hg, _⟩ := hcell 0 (by omega)
  have HA : Hid (∀ i, (h : i < l.length) → w.cell? ⟨g, off + i, none⟩ = some (.int .i64 l[i])) := fun i h => by
    obtain ⟨g', off', e, _, hc'⟩ := hcell i h
    obtain ⟨rfl, rfl⟩ : g = g' ∧ off = off' := by simpa using e
    exact hc'
  have HV : Hid (IntsIn w (.slice (some ⟨g, off, none⟩) l.length cap) l) := HV0
  clear hcell HV0
  go_enter Tryz.func173, Tryz.ntmps173
  go_wp2
  go_loopw [5] (fun x wr => ∃ k : Nat, k ≤ l.length ∧ x = .int .i64 k ∧ (∀ i, (h : i < l.length) → i < k → l[i] < n) ∧ wr = w) (fun x _ => l.length - (intOf x).toNat)
  case atStart => exact ⟨0, Nat.zero_le _, rfl, fun i h q => by omega, rfl⟩
  case round =>
    obtain ⟨k, hk, rfl, hlo, rfl⟩ := hrel
    have HLO : Hid (∀ i, (h : i < l.length) → i < k → l[i] < n) := hlo
    clear hlo
    have hown0 := owns_empty wr wr.heap.size 3 1 (Nat.le_refl _)
    have HO0 : Hid ((wr.alloc (.cells #[] 3)).ownsRow wr.heap.size 3 1 (.slice (some ⟨wr.heap.size, 0, none⟩) 0 0) 0 []) := hown0
    have HS1 : Hid (SrcIs (wr.alloc (.cells #[] 3)) (.slice (some ⟨g, off, none⟩) k cap) k 1 ((l.take k).map (Value.int .i64))) := (src_take HV.out k hk cap).below ((Below.refl _ _).alloc (Nat.le_refl _) _)
    clear hown0
    by_cases hlt : k < l.length
    · have hck := HA.out k hlt
      obtain ⟨y, hy⟩ : ∃ y, y = l[k] := ⟨_, rfl⟩
      rw [← hy] at hck
      have HY : Hid (y = l[k]) := hy
      clear hy
      have hk' : (k : Int) < (l.length : Int) := by omega
      by_cases q : y < n
      · have HL2 : Hid (∀ i, (h : i < l.length) → i < k + 1 → l[i] < n) := fun i h z => by
          by_cases e : i = k
          · subst e; rw [← HY.out]; exact q
          · exact HLO.out i h (by omega)
        go_wp2
        go_roundw
        case rel => exact ⟨k + 1, by omega, by go_num, HL2.out, trivial⟩
        case measure => simp [intOf]; omega
      · have HI : Hid _ := insE_at l n k hk HLO.out (fun _ => by rw [← HY.out]; omega)
        by_cases q2 : y = n
        · have HE : Hid (insE l n = l) := by
            show _ = _
            rw [HI.out, if_pos ⟨hlt, by rw [← HY.out]; exact q2⟩]
          have hq2 : (y == n) = true := by simp [q2]
          clear q2
          go_wp2
          go_ret
          exact ⟨_, rfl, by rw [HE.out]; exact HV.out, Below.refl _ _⟩
        · have HE : Hid (insE l n = l.take k ++ n :: l.drop k) := by
            show _ = _
            rw [HI.out, if_neg (by rintro ⟨_, z⟩; exact q2 (by rw [HY.out]; exact z))]
          have hq2 : (y == n) = false := by simp [q2]
          clear q2 HI
          have HAD : Hid (∀ W, Below wr.heap.size wr W → SrcIs W (.slice (some ⟨g, off + k, none⟩) (l.length - k) (cap - k)) (l.length - k) 1 ((l.drop k).map (Value.int .i64))) := fun W hW => (src_drop HV.out k hk ⟨g, off + k, none⟩ (fun _ => rfl) (cap - k)).below hW
          go_wp2_with (first | (at_builtin; refine wpList_append_src _ rfl (.tmp 34) (.tmp 37) 168 rfl wr.heap.size 3 iI (.int .i64 0) 1 8 Tryz.underlying168 hiI hzI0 hzI1 hzI2 rfl (by decide) _ _ _ rfl HO0.out _ rfl k _ HS1.out (by unfold maxLen; omega) (by omega) (by simp) ?_; intro v1 w1 ho1 hg1; have hB1 : Below wr.heap.size wr w1 := ((Below.refl _ _).alloc (Nat.le_refl _) _).grown hg1 (by simp) (fun j e => (World.ownsRow.lt HO0.out j e).1); have hs1 := hB1.size; have ho1' := World.ownsRow.alloc ho1 (.cells #[.int .i64 n] 3); have hsr1 := src_one w1 n; have HO1 : Hid ((w1.alloc (.cells #[.int .i64 n] 3)).ownsRow wr.heap.size 3 1 v1 (0 + k) ([] ++ (l.take k).map (Value.int .i64))) := ho1'; clear ho1 ho1' hg1) | (at_builtin; refine wpList_append_src _ rfl (.tmp 39) (.tmp 41) 168 rfl wr.heap.size 3 iI (.int .i64 0) 1 8 Tryz.underlying168 hiI hzI0 hzI1 hzI2 rfl (by decide) _ _ _ rfl HO1.out _ rfl 1 _ hsr1 (by unfold maxLen; omega) (by omega) (by simp; omega) ?_; intro v2 w2 ho2 hg2; have hB2 : Below wr.heap.size wr w2 := (hB1.alloc hs1 _).grown hg2 (by simp; omega) (fun j e => (World.ownsRow.lt HO1.out j e).1); have hs2 := hB2.size; have hsr2 := HAD.out w2 hB2; have HO2 : Hid (w2.ownsRow wr.heap.size 3 1 v2 (0 + k + 1) ([] ++ (l.take k).map (Value.int .i64) ++ [.int .i64 n])) := ho2; clear ho2 hg2 hsr1) | (at_builtin; refine wpList_append_src _ rfl (.tmp 43) (.tmp 46) 168 rfl wr.heap.size 3 iI (.int .i64 0) 1 8 Tryz.underlying168 hiI hzI0 hzI1 hzI2 rfl (by decide) _ _ _ rfl HO2.out _ rfl (l.length - k) _ hsr2 (by unfold maxLen; omega) (by omega) (by omega) ?_; intro v3 w3 ho3 hg3))
          go_ret
          refine ⟨v3, rfl, ?_, hB2.grown hg3 hs2 (fun j e => (World.ownsRow.lt HO2.out j e).1)⟩
          rw [HE.out]
          refine ints_of_row (base := wr.heap.size) ?_
          have e : (l.take k ++ n :: l.drop k).length = 0 + k + 1 + (l.length - k) := by simp; omega
          rw [e]
          simpa using ho3
    · obtain rfl : k = l.length := by omega
      have HI : Hid _ := insE_at l n l.length (Nat.le_refl _) HLO.out (fun h => absurd h (Nat.lt_irrefl _))
      have HE : Hid (insE l n = l.take l.length ++ n :: l.drop l.length) := by
        show _ = _
        rw [HI.out, if_neg (by rintro ⟨z, _⟩; exact Nat.lt_irrefl _ z)]
      have hid : decide ((l.length : Int) < (l.length : Int)) = false := by simp
      clear HI
      have HAD : Hid (∀ W ad c, SrcIs W (.slice (some ad) 0 c) 0 1 []) := fun W ad c => .inr ⟨ad, c, rfl, rfl, fun j u hj => by simp at hj, fun u hu => by cases hu⟩
      by_cases hcl : cap = l.length
      · subst hcl
        go_wp2_with (first | (at_builtin; refine wpList_append_src _ rfl (.tmp 34) (.tmp 37) 168 rfl wr.heap.size 3 iI (.int .i64 0) 1 8 Tryz.underlying168 hiI hzI0 hzI1 hzI2 rfl (by decide) _ _ _ rfl HO0.out _ rfl l.length _ HS1.out (by unfold maxLen; omega) (by omega) (by simp) ?_; intro v1 w1 ho1 hg1; have hB1 : Below wr.heap.size wr w1 := ((Below.refl _ _).alloc (Nat.le_refl _) _).grown hg1 (by simp) (fun j e => (World.ownsRow.lt HO0.out j e).1); have hs1 := hB1.size; have ho1' := World.ownsRow.alloc ho1 (.cells #[.int .i64 n] 3); have hsr1 := src_one w1 n; have HO1 : Hid ((w1.alloc (.cells #[.int .i64 n] 3)).ownsRow wr.heap.size 3 1 v1 (0 + l.length) ([] ++ (l.take l.length).map (Value.int .i64))) := ho1'; clear ho1 ho1' hg1) | (at_builtin; refine wpList_append_src _ rfl (.tmp 39) (.tmp 41) 168 rfl wr.heap.size 3 iI (.int .i64 0) 1 8 Tryz.underlying168 hiI hzI0 hzI1 hzI2 rfl (by decide) _ _ _ rfl HO1.out _ rfl 1 _ hsr1 (by unfold maxLen; omega) (by omega) (by simp; omega) ?_; intro v2 w2 ho2 hg2; have hB2 : Below wr.heap.size wr w2 := (hB1.alloc hs1 _).grown hg2 (by simp; omega) (fun j e => (World.ownsRow.lt HO1.out j e).1); have hs2 := hB2.size; have hsr2 := HAD.out w2 ⟨g, off, none⟩ 0; have HO2 : Hid (w2.ownsRow wr.heap.size 3 1 v2 (0 + l.length + 1) ([] ++ (l.take l.length).map (Value.int .i64) ++ [.int .i64 n])) := ho2; clear ho2 hg2 hsr1) | (at_builtin; go_must (refine wpList_append_src _ rfl (.tmp 43) (.tmp 46) 168 rfl wr.heap.size 3 iI (.int .i64 0) 1 8 Tryz.underlying168 hiI hzI0 hzI1 hzI2 rfl (by decide) _ _ _ rfl HO2.out _ rfl 0 [] hsr2 (by unfold maxLen; omega) (by omega) (by omega) ?_); intro v3 w3 ho3 hg3))
        go_ret
        refine ⟨v3, rfl, ?_, hB2.grown hg3 hs2 (fun j e => (World.ownsRow.lt HO2.out j e).1)⟩
        rw [HE.out]
        refine ints_of_row (base := wr.heap.size) ?_
        have e : (l.take l.length ++ n :: l.drop l.length).length = 0 + l.length + 1 + 0 := by simp
        rw [e]
        simpa using ho3
      · have hcl' : (cap == l.length) = false := by simp [hcl]
        go_wp2_with (first | (at_builtin; refine wpList_append_src _ rfl (.tmp 34) (.tmp 37) 168 rfl wr.heap.size 3 iI (.int .i64 0) 1 8 Tryz.underlying168 hiI hzI0 hzI1 hzI2 rfl (by decide) _ _ _ rfl HO0.out _ rfl l.length _ HS1.out (by unfold maxLen; omega) (by omega) (by simp) ?_; intro v1 w1 ho1 hg1; have hB1 : Below wr.heap.size wr w1 := ((Below.refl _ _).alloc (Nat.le_refl _) _).grown hg1 (by simp) (fun j e => (World.ownsRow.lt HO0.out j e).1); have hs1 := hB1.size; have ho1' := World.ownsRow.alloc ho1 (.cells #[.int .i64 n] 3); have hsr1 := src_one w1 n; have HO1 : Hid ((w1.alloc (.cells #[.int .i64 n] 3)).ownsRow wr.heap.size 3 1 v1 (0 + l.length) ([] ++ (l.take l.length).map (Value.int .i64))) := ho1'; clear ho1 ho1' hg1) | (at_builtin; refine wpList_append_src _ rfl (.tmp 39) (.tmp 41) 168 rfl wr.heap.size 3 iI (.int .i64 0) 1 8 Tryz.underlying168 hiI hzI0 hzI1 hzI2 rfl (by decide) _ _ _ rfl HO1.out _ rfl 1 _ hsr1 (by unfold maxLen; omega) (by omega) (by simp; omega) ?_; intro v2 w2 ho2 hg2; have hB2 : Below wr.heap.size wr w2 := (hB1.alloc hs1 _).grown hg2 (by simp; omega) (fun j e => (World.ownsRow.lt HO1.out j e).1); have hs2 := hB2.size; have hsr2 := HAD.out w2 ⟨g, off + l.length, none⟩ (cap - l.length); have HO2 : Hid (w2.ownsRow wr.heap.size 3 1 v2 (0 + l.length + 1) ([] ++ (l.take l.length).map (Value.int .i64) ++ [.int .i64 n])) := ho2; clear ho2 hg2 hsr1) | (at_builtin; go_must (refine wpList_append_src _ rfl (.tmp 43) (.tmp 46) 168 rfl wr.heap.size 3 iI (.int .i64 0) 1 8 Tryz.underlying168 hiI hzI0 hzI1 hzI2 rfl (by decide) _ _ _ rfl HO2.out _ rfl 0 [] hsr2 (by unfold maxLen; omega) (by omega) (by omega) ?_); intro v3 w3 ho3 hg3))
        go_ret
        refine ⟨v3, rfl, ?_, hB2.grown hg3 hs2 (fun j e => (World.ownsRow.lt HO2.out j e).1)⟩
        rw [HE.out]
        refine ints_of_row (base := wr.heap.size) ?_
        have e : (l.take l.length ++ n :: l.drop l.length).length = 0 + l.length + 1 + 0 := by simp
        rw [e]
        simpa using ho3
end Go.Proofs.YtfdjchnckjgapaaGreatDoor
