/-
  What the parser's text answers; what is known of the tokens of a text. What syntax.Parse answers.
-/
import Derived.Test.YtfdjchnckjgapaaGreatDoorX29
import Derived.Test.YtfdjchnckjgapaaGreatDoorX14
namespace Go.Proofs.YtfdjchnckjgapaaGreatDoor
open Go.RowKit Go.Shelf S1
set_option linter.unusedVariables false

/-- What a text tells. -/
def TxA (c : Pc) (P : Nat) (q : (List Tok × Int) ⊕ (List Rl × Sts)) (w : World) (e : Ending) (w' : World) : Prop :=
  ∃ x, e = .returned (.int .i64 x) ∧ Below c.base w w' ∧ ((x ≠ 0 ∧ ∃ c' X r st, q = .inl (r, x) ∧ Pa c' X P w' r st 0) ∨ (x = 0 ∧ ∃ rv N rs r st, q = .inr (rs.map Prod.fst, st) ∧ PT (c.up rv N) P w' rs r st))

set_option maxRecDepth 100000 in
set_option maxHeartbeats 8000000 in
theorem text_any (c : Pc) (P : Nat) (w : World) (rs : List RlV) (ts : List Tok) (st : Sts) (hpt : PT c P w rs ts st) (hbm : c.base ≤ c.mb) (f : Nat) (hf0 : ts.length < f) :
    Calls Tryz.prog 19 #[.pointer (some ⟨P, 0, none⟩)] w fun e w' => TxA c P (textF f c.N (rs.map Prod.fst) ts st) w e w' := by
  obtain ⟨q, hq⟩ : ∃ q, q = textF f c.N (rs.map Prod.fst) ts st := ⟨_, rfl⟩
  rw [← hq]
  have HQ : Hid (textF f c.N (rs.map Prod.fst) ts st = q) := hq.symm
  have HBM : Hid (c.base ≤ c.mb) := hbm
  have HPT : Hid (PT c P w rs ts st) := hpt
  clear hq hpt hbm
  go_enter Tryz.func19, Tryz.ntmps19
  go_wp2
  go_loopw [] (fun wr => ∃ (f : Nat) (rv : Value) (N : Nms) (rs : List RlV) (r : List Tok) (st : Sts), r.length < f ∧ Hid (textF f N (rs.map Prod.fst) r st = q) ∧ PT (c.up rv N) P wr rs r st ∧ Below c.base w wr) (fun wr => leftP c.n wr P)
  case atStart => exact ⟨f, c.rv, c.N, rs, ts, st, hf0, HQ, HPT.out, Below.refl _ _⟩
  case round =>
    obtain ⟨f, rv, N, rs, r, st, hrf, HEQ, hpt, hB⟩ := hrel
    obtain ⟨f, rfl⟩ : ∃ k, f = k + 1 := ⟨f - 1, by omega⟩
    obtain ⟨t, r', rfl⟩ := hpt.1.ends.cons
    have hl0 : leftP c.n wr P = (t :: r').length := hpt.1.left
    have h1 := more_any (c.up rv N) _ P wr t r' st 0 hpt.1
    have HPR : Hid (PT (c.up rv N) P wr rs (t :: r') st) := hpt
    clear hpt
    by_cases hk : t.k = 4
    · have hk' : (t.k != 4) = false := by simpa using hk
      have HE : Hid (q = .inr (rs.map Prod.fst, st)) := by
        show _ = _
        rw [← HEQ.out]; exact textF_end hk
      rw [hk'] at h1
      clear hk
      go_wp2_with fail
      refine h1.mono ?_
      rintro e w1 ⟨rfl, hB1⟩
      clear h1
      go_wp2
      go_ret
      refine ⟨0, rfl, hB.trans (hB1.mono ?_), .inr ⟨rfl, rv, N, rs, t :: r', st, HE.out, HPR.out.below hB1⟩⟩
      have h2 : c.base ≤ P := HPR.out.1.rv.2.2
      have := HPR.out.1.lt
      omega
    · have hk' : (t.k != 4) = true := by simpa using hk
      rw [hk'] at h1
      have HK : Hid (t.k ≠ 4) := hk
      clear hk
      go_wp2_with fail
      refine h1.mono ?_
      rintro e w1 ⟨rfl, hB1⟩
      clear h1
      have HP1 : Hid (PT (c.up rv N) P w1 rs (t :: r') st) := HPR.out.below hB1
      have hB01 : Below c.base w w1 := hB.trans (hB1.mono (by
        have h2 : c.base ≤ P := HPR.out.1.rv.2.2
        have := HPR.out.1.lt
        omega))
      have h2 := sentence_any (c.up rv N) P w1 rs t r' st HP1.out HBM.out
      obtain ⟨qs, hqs⟩ : ∃ qs, qs = senM (c.up rv N).N (rs.map Prod.fst) (t :: r') st := ⟨_, rfl⟩
      rw [← hqs] at h2
      have HQS : Hid (senM N (rs.map Prod.fst) (t :: r') st = qs) := hqs.symm
      clear hqs hB hB1
      go_wp2_with fail
      refine h2.mono ?_
      rintro e w2 ⟨x, rfl, hB2, hx⟩
      have hB02 : Below c.base w w2 := hB01.trans hB2
      clear h2 hB2 hB01
      rcases hx with ⟨hx, c', X, r2, st2, he, hp⟩ | ⟨rfl, rv2, N2, rs2, r2, st2, he, hpt2⟩
      · have hx' : (x != 0) = true := by simpa using hx
        have HX : Hid (x ≠ 0) := hx
        have HE : Hid (q = .inl (r2, x)) := by
          show _ = _
          rw [← HEQ.out]; exact textF_bad (ts := t :: r') HK.out (HQS.out.trans he)
        clear hx he
        go_wp2
        go_ret
        exact ⟨x, rfl, hB02, .inl ⟨HX.out, c', X, r2, st2, HE.out, hp⟩⟩
      · have hle := senM_left (ts := t :: r') HK.out (HQS.out.trans he)
        have HE : Hid (textF f N2 (rs2.map Prod.fst) r2 st2 = q) := by
          show _ = _
          rw [← HEQ.out]; exact (textF_on (ts := t :: r') HK.out (HQS.out.trans he)).symm
        have HLE : Hid (r2.length < (t :: r').length) := hle
        have HLF : Hid (r2.length < f) := by
          have h5 : (t :: r').length < f + 1 := hrf
          show _ < _
          omega
        clear he hle hrf
        go_wp2
        go_roundw
        case rel => exact ⟨f, rv2, N2, rs2, r2, st2, HLF.out, HE, hpt2, hB02⟩
        case measure =>
          have h5 : leftP c.n w2 P = r2.length := hpt2.1.left
          rw [h5, hl0]; exact HLE.out

/-! What is known of tokens. -/
theorem letL_nonneg {us r : List U} {x : Int} (hus : ∀ u ∈ us, 0 ≤ u.r) (h : letL us = (some x, r)) : 0 ≤ x ∧ ∀ u ∈ r, 0 ≤ u.r := by
  have hs : ∀ {p : Int → Bool} {a b : List U} {y : Int}, (∀ u ∈ a, 0 ≤ u.r) → sgn p a = (some y, b) → 0 ≤ y ∧ ∀ u ∈ b, 0 ≤ u.r := fun ha h => by
    obtain ⟨u, rfl, _, rfl⟩ := sgn_some h
    exact ⟨ha u (by simp), fun v hv => ha v (by simp [hv])⟩
  unfold letL at h
  split at h
  · exact hs hus h
  · rename_i a c
    have h1 := (hs hus c).2
    split at h
    · exact hs h1 h
    · rename_i a2 c2
      have h2 := (hs h1 c2).2
      split at h
      · simp at h
      · rename_i a3 c3
        have h3 := (hs h2 c3).2
        have hfl : ∀ (n : Nat) (us : List U), (∀ u ∈ us, 0 ≤ u.r) → (∀ c ∈ figsL n us, figR c = true) ∧ ∀ u ∈ figsD n us, 0 ≤ u.r := by
          intro n
          induction n with
          | zero => intro us hu; exact ⟨fun c hc => by simp [figsL] at hc, by simpa [figsD] using hu⟩
          | succ n ih =>
            intro us hu
            match us with
            | [] => exact ⟨fun c hc => by simp [figsL] at hc, fun u hu => by simp [figsD] at hu⟩
            | u :: t =>
              unfold figsL figsD
              split
              · rename_i hf
                obtain ⟨i1, i2⟩ := ih t (fun v hv => hu v (by simp [hv]))
                refine ⟨fun c hc => ?_, i2⟩
                rcases List.mem_cons.1 hc with rfl | hc
                · simp [fitU] at hf; exact hf.2
                · exact i1 c hc
              · exact ⟨fun c hc => by simp at hc, hu⟩
        unfold numL at h
        split at h
        · simp at h
        · split at h
          · rename_i x4 r4 c4
            simp only [Prod.mk.injEq, Option.some.injEq] at h
            obtain ⟨rfl, rfl⟩ := h
            obtain ⟨f1, f2⟩ := hfl 6 _ h3
            refine ⟨?_, (hs f2 c4).2⟩
            have key : ∀ (l : List Int) (acc : Int), (∀ c ∈ l, figR c = true) → 0 ≤ acc → 0 ≤ l.foldl (fun n c => n * 16 + figV c) acc := by
              intro l
              induction l with
              | nil => intro acc _ h; exact h
              | cons c l ih =>
                intro acc hl ha
                have hc := hl c (by simp)
                have hv : 0 ≤ figV c := by
                  simp [figR, decB] at hc
                  unfold figV
                  split <;> omega
                exact ih _ (fun d hd => hl d (by simp [hd])) (by show 0 ≤ acc * 16 + figV c; omega)
            exact key _ 0 f1 (by omega)
          · simp at h
theorem entL_nonneg {us r : List U} {e : Rg} (hus : ∀ u ∈ us, 0 ≤ u.r) (h : entL us = (some e, r)) : 0 ≤ e.lo ∧ ∀ u ∈ r, 0 ≤ u.r := by
  unfold entL at h
  split at h
  · simp at h
  · rename_i lo a c
    obtain ⟨h1, h2⟩ := letL_nonneg hus c
    split at h
    · simp only [Prod.mk.injEq, Option.some.injEq] at h
      obtain ⟨rfl, rfl⟩ := h
      exact ⟨h1, h2⟩
    · rename_i a2 c2
      obtain ⟨u, hu, _, _⟩ := sgn_some c2
      split at h
      · simp at h
      · rename_i hi b c3
        have h3 := (letL_nonneg (fun v hv => h2 v (by rw [hu]; simp [hv])) c3).2
        simp only [Prod.mk.injEq, Option.some.injEq] at h
        obtain ⟨rfl, rfl⟩ := h
        exact ⟨h1, h3⟩
theorem setF_fits {n : Nat} : ∀ {k : Nat} {us r : List U} {acc l : List Rg}, (∀ u ∈ us, 0 ≤ u.r) → Fits acc → setF n k us acc = SR.good l r → Fits l ∧ ∀ u ∈ r, 0 ≤ u.r
  | 0, us, r, acc, l, hu, ha, h => by cases h
  | k + 1, us, r, acc, l, hu, ha, h => by
    cases h1 : sgn (isC 93) us with
    | mk o s => cases o with
      | some x =>
        rw [setF_end h1] at h
        obtain ⟨e1, e2⟩ := Prod.mk.inj (Sum.inr.inj h)
        obtain ⟨u, rfl, _, _⟩ := sgn_some h1
        rw [← e1, ← e2]
        exact ⟨ha, fun v hv => hu v (by simp [hv])⟩
      | none => cases h2 : entL us with
        | mk o2 r2 => cases o2 with
          | none => rw [setF_stuck h1 h2] at h; cases h
          | some e =>
            cases h3 : (decide (e.hi < e.lo) || decide (1114111 < e.hi)) with
            | true => rw [setF_arg h1 h2 h3] at h; cases h
            | false =>
              rw [setF_on h1 h2 h3] at h
              obtain ⟨n1, n2⟩ := entL_nonneg hu h2
              refine setF_fits n2 (fun x hx => ?_) h
              rcases List.mem_append.1 hx with q | q
              · exact ha x q
              · obtain rfl : x = e := by simpa using q
                simp at h3
                exact ⟨n1, by omega, by omega⟩
/-- A token as the parser takes it. -/
def TkOk (m : Nat) (t : Tok) : Prop := Fits t.s ∧ Byt t.t ∧ t.t.length ≤ m
theorem tokO_ok {n m : Nat} {us r : List U} {t : Tok} (hu : ∀ u ∈ us, 0 ≤ u.r) (hm : us.length ≤ m) (h : tokO n us = OR.good t r) : TkOk m t ∧ ∀ u ∈ r, 0 ≤ u.r := by
  have hf0 : Fits [] := fun x hx => (by cases hx)
  match us, hu, hm, h with
  | [], hu, hm, h =>
    obtain ⟨e1, e2⟩ := Prod.mk.inj (Sum.inr.inj (show OR.good ⟨4, n, [], []⟩ [] = OR.good t r from h))
    rw [← e1, ← e2]
    exact ⟨⟨hf0, fun c hc => (by cases hc), Nat.zero_le _⟩, fun u hu => (by cases hu)⟩
  | u :: us, hu, hm, h =>
    rw [tokO_cons] at h
    split at h
    · rename_i hn
      obtain ⟨e1, e2⟩ := Prod.mk.inj (Sum.inr.inj h)
      rw [← e1, ← e2]
      refine ⟨⟨hf0, fun c hc => ?_, ?_⟩, fun v hv => hu v (List.mem_cons_of_mem _ (by
        rw [take_drop_while (fitU nameR) us]
        exact List.mem_append_right _ hv))⟩
      · rcases List.mem_cons.1 hc with rfl | hc
        · have h5 := (fit_name hn).2; have h6 := hu u (by simp); omega
        · obtain ⟨v, hv, rfl⟩ := List.mem_map.1 hc
          have h5 := (fit_inName (takeWhile_all _ _ v hv)).2
          have h6 := hu v (List.mem_cons_of_mem _ (by
            rw [take_drop_while (fitU nameR) us]
            exact List.mem_append_left _ hv))
          omega
      · have h5 := congrArg List.length (take_drop_while (fitU nameR) us)
        rw [List.length_append] at h5
        simp at hm ⊢
        omega
    · split at h
      · rename_i hn
        obtain ⟨e1, e2⟩ := Prod.mk.inj (Sum.inr.inj h)
        rw [← e1, ← e2]
        refine ⟨⟨hf0, fun c hc => ?_, by simp at hm ⊢; omega⟩, fun v hv => hu v (by simp [hv])⟩
        obtain rfl : c = u.r := by simpa using hc
        have h5 := (fit_tok hn).2; have h6 := hu u (by simp); omega
      · split at h
        · cases h1 : setF n (us.length + 1) us [] with
          | inl x => rw [h1] at h; cases h
          | inr x =>
            obtain ⟨l, s⟩ := x
            rw [h1] at h
            obtain ⟨e1, e2⟩ := Prod.mk.inj (Sum.inr.inj h)
            obtain ⟨f1, f2⟩ := setF_fits (fun v hv => hu v (by simp [hv])) hf0 h1
            rw [← e1, ← e2]
            exact ⟨⟨f1, fun c hc => (by cases hc), Nat.zero_le _⟩, f2⟩
        · cases h
theorem blankL_suf : ∀ (b : Bool) (us : List U), ∀ u ∈ blankL b us, u ∈ us
  | _, [], u, h => by simp [blankL] at h
  | true, v :: t, u, h => by
    unfold blankL at h
    split at h
    · exact h
    · split at h
      · exact List.mem_cons_of_mem _ (blankL_suf false t u h)
      · exact List.mem_cons_of_mem _ (blankL_suf true t u h)
  | false, v :: t, u, h => by
    unfold blankL at h
    split at h
    · exact h
    · split at h
      · exact List.mem_cons_of_mem _ (blankL_suf true t u h)
      · split at h
        · exact List.mem_cons_of_mem _ (blankL_suf false t u h)
        · exact h
theorem endsT_snoc : ∀ {l : List Tok} {t : Tok}, (∀ x ∈ l, x.k ≠ 4) → t.k = 4 → EndsT (l ++ [t])
  | [], t, _, h => h
  | [x], t, hl, h => ⟨hl x (by simp), h⟩
  | x :: y :: l, t, hl, h => ⟨hl x (by simp), endsT_snoc (l := y :: l) (fun z hz => hl z (by simp [hz])) h⟩
theorem toksF_ok {n m : Nat} : ∀ {k : Nat} {us : List U} {acc l : List Tok}, (∀ u ∈ us, 0 ≤ u.r) → us.length ≤ m → (∀ t ∈ acc, TkOk m t ∧ t.k ≠ 4) → toksF n k us acc = TR.good l → EndsT l ∧ ∀ t ∈ l, TkOk m t
  | 0, us, acc, l, hu, hm, ha, h => by cases h
  | k + 1, us, acc, l, hu, hm, ha, h => by
    have hb : ∀ u ∈ blankL false us, 0 ≤ u.r := fun u h => hu u (blankL_suf _ _ u h)
    have hbl := blankL_le false us
    cases h1 : tokO n (blankL false us) with
    | inl x => obtain ⟨a, e⟩ := x; rw [toksF_bad h1] at h; cases h
    | inr x =>
      obtain ⟨t, r⟩ := x
      obtain ⟨o1, o2⟩ := tokO_ok hb (show (blankL false us).length ≤ m by omega) h1
      by_cases h4 : t.k = 4
      · rw [toksF_end h1 h4] at h
        obtain rfl := Sum.inr.inj h
        refine ⟨endsT_snoc (fun x hx => (ha x hx).2) h4, fun x hx => ?_⟩
        rcases List.mem_append.1 hx with q | q
        · exact (ha x q).1
        · obtain rfl : x = t := by simpa using q
          exact o1
      · rw [toksF_on h1 h4] at h
        have hlen := tokO_len h1
        refine toksF_ok o2 (by rcases hlen with ⟨q, _⟩ | ⟨_, q⟩ <;> first | exact absurd q h4 | omega) (fun x hx => ?_) h
        rcases List.mem_append.1 hx with q | q
        · exact ha x q
        · obtain rfl : x = t := by simpa using q
          exact ⟨o1, h4⟩
theorem toks_ok {zs : List Int} {us : List U} (hr : Run zs 0 us zs.length) {l : List Tok} (h : toksL zs.length us = TR.good l) : EndsT l ∧ ∀ t ∈ l, TkOk zs.length t := by
  have hlen := Run.le hr (Nat.zero_le _)
  exact toksF_ok (fun u hu => (run_range hr u hu).1) (by omega) (fun t ht => (by cases ht)) h
theorem endsT_map {l : List Tok} (h : EndsT l) : EndsT (l.map canT) := by
  match l, h with
  | [t], h => exact h
  | t :: u :: l, h => exact ⟨h.1, endsT_map h.2⟩
end Go.Proofs.YtfdjchnckjgapaaGreatDoor

namespace Go.Proofs.YtfdjchnckjgapaaGreatDoor
open Go.RowKit Go.Shelf S1
set_option linter.unusedVariables false

/-- A program in memory, in rows from base on. -/
def PrgAt (base : Nat) (w : World) (sv rv : Value) (rs : List RlV) (st : Sts) : Prop :=
  (∃ vs, w.ownsRow base 43 1 sv st.length vs ∧ SetsS (fun k => k < w.heap.size) w vs st) ∧ w.ownsRow base 41 7 rv rs.length (cellsRls rs) ∧ RlX (fun k => k < w.heap.size) w rs ∧ st.length ≤ 60 ∧ rs.length ≤ 64
theorem PrgAt.below {base : Nat} {w w' : World} {sv rv : Value} {rs : List RlV} {st : Sts} (h : PrgAt base w sv rv rs st) (hB : Below w.heap.size w w') : PrgAt base w' sv rv rs st := by
  obtain ⟨⟨vs, h1, h2⟩, h3, h4, h5⟩ := h
  have hq : ∀ k, k < w.heap.size → w'.heap[k]? = w.heap[k]? ∧ k < w'.heap.size := fun k hk => ⟨hB.block k hk, Nat.lt_of_lt_of_le hk hB.size⟩
  exact ⟨⟨vs, own_block h1 (fun k hk => hB.block k (h1.lt k hk).2), h2.to hq⟩, own_block h3 (fun k hk => hB.block k (h3.lt k hk).2), h4.to hq, h5⟩
/-- A block that holds no number is none of a set's, nor an expression's. -/
def NoInt (w : World) (R : Nat) : Prop := ∀ off k x, w.cell? ⟨R, off, none⟩ ≠ some (.int k x)
theorem RngS.offN {Q : Nat → Prop} {w : World} {v : Value} {l : List Rg} {R : Nat} (hm : NoInt w R) (h : RngS Q w v l) : RngS (fun k => Q k ∧ k ≠ R) w v l := by
  obtain ⟨a, cap, e, hc, hn, hi⟩ := h
  refine ⟨a, cap, e, hc, hn, fun i hlt => ?_⟩
  obtain ⟨g, off, rfl, hg, h0, h1⟩ := hi i hlt
  exact ⟨g, off, rfl, ⟨hg, fun q => hm _ _ _ (q ▸ h0)⟩, h0, h1⟩
theorem SetsS.offN {Q : Nat → Prop} {w : World} {vs : List Value} {st : Sts} {R : Nat} (hm : NoInt w R) (h : SetsS Q w vs st) : SetsS (fun k => Q k ∧ k ≠ R) w vs st := ⟨h.1, fun i hi => by
  obtain ⟨v, h1, h2, h3⟩ := h.2 i hi
  exact ⟨v, h1, h2.offN hm, h3⟩⟩
theorem KidS.offN {Q : Nat → Prop} {w : World} {R : Nat} (hm : NoInt w R) : ∀ {f : Nat} {z : Value} {l : List Nd}, KidS Q w f z l → KidS (fun k => Q k ∧ k ≠ R) w f z l
  | 0, z, l, h => h
  | f + 1, z, l, ⟨a, cap, e, hc, hi⟩ => ⟨a, cap, e, hc, fun i h => by
    obtain ⟨g, off, z', h1, h2, h3, h4, h5, h6⟩ := hi i h
    exact ⟨g, off, z', h1, ⟨h2, fun q => hm _ _ _ (q ▸ h3)⟩, h3, h4, h5, h6.offN hm⟩⟩
theorem RlX.offN {Q : Nat → Prop} {w : World} {R : Nat} (hm : NoInt w R) {l : List RlV} (h : RlX Q w l) : RlX (fun k => Q k ∧ k ≠ R) w l := fun x hx => by
  obtain ⟨⟨f, h1⟩, ⟨g, h2⟩⟩ := h x hx
  exact ⟨⟨f, h1.offN hm⟩, ⟨g, h2.offN hm⟩⟩
/-- What Parse tells. -/
def PaA (w : World) (q : (Nat × Int) ⊕ (List Rl × Sts)) (e : Ending) (w' : World) : Prop := Below w.heap.size w w' ∧
  ((∃ a x, q = .inl (a, x) ∧ x ≠ 0 ∧ e = .returned (.tuple #[.agg #[.slice none 0 0, .slice none 0 0], .int .i64 ((a : Nat) : Int), .int .i64 x])) ∨
   (∃ rs st sv rv, q = .inr (rs.map Prod.fst, st) ∧ e = .returned (.tuple #[.agg #[sv, rv], .int .i64 0, .int .i64 0]) ∧ PrgAt w.heap.size w' sv rv rs st))
theorem mkS_eq {l s : List Rg} (hf : Fits l) (h : Upto (hasR l) s 1114112) : mkS l = s := by
  have h2 : Upto (fun x => hasR l x) (mkS l) 1114112 := pick_spec l [] hf (fun x hx => (by cases hx)) (fun x _ => x)
  exact h2.unique h

/-- The tokens of a text, as the parser takes them. -/
theorem toks_ready {w : World} {base : Nat} {l : List (Tok × Value)} {g cp : Nat} {m : Nat} (hm : m ≤ 70000) (hown : w.ownsRow base 54 4 (.slice (some ⟨g, 0, none⟩) l.length cp) l.length (cellsTs l)) (hso : SetsOwn w base l) (hok : ∀ t ∈ l.map Prod.fst, TkOk m t) : TokS (fun k => k < w.heap.size) w g 0 0 ((l.map Prod.fst).map canT) := fun i hi => by
  have hi' : i < l.length := by simpa using hi
  obtain ⟨a, cap, e, _, hx⟩ := toks_of_row hown
  obtain ⟨rfl, _, rfl⟩ : some ⟨g, 0, none⟩ = a ∧ l.length = l.length ∧ cp = cap := by simpa using e
  obtain ⟨g', off', e2, h0, h1, h2, h3, h4⟩ := hx i hi'
  obtain ⟨rfl, rfl⟩ : g = g' ∧ 0 = off' := by simpa using e2
  obtain ⟨s, s1, s2, s3⟩ := hso l[i] (List.getElem_mem hi')
  obtain ⟨o1, o2, o3⟩ := hok l[i].1 (List.mem_map_of_mem (List.getElem_mem hi'))
  have el : ((l.map Prod.fst).map canT)[i] = canT l[i].1 := by simp
  rw [el]
  have es : (canT l[i].1).s = s := mkS_eq o1 s1
  rw [es]
  rw [show 0 + (0 + i) * 4 = 0 + i * 4 by omega]
  exact ⟨h0, h1, h2, h3, ⟨l[i].2, h4, rngS_of_row s3 (fun k _ hk => hk)⟩, s1.isSet, o2, by have := o3; show l[i].1.t.length ≤ _; omega⟩

set_option maxRecDepth 100000 in
set_option maxHeartbeats 16000000 in
theorem parse_any8 (zs : List Int) (hby : Byt zs) (hz : zs.length ≤ 65536) (us : List U) (hus : Run zs 0 us zs.length) (ta : Option Addr) (cap : Nat) (w : World) (hsv : SynV w) (hI : BytesAt w.heap.size w (.slice ta zs.length cap) zs) :
    Calls Tryz.prog 9 #[.slice ta zs.length cap] w fun e w' => PaA w (parseL (toksL zs.length us)) e w' := by
  have hB0 := below_alloc w (.cells #[.slice none 0 0, .slice none 0 0] 27)
  have h1 := tokens_any zs hby hz us hus ta cap (w.alloc (.cells #[.slice none 0 0, .slice none 0 0] 27)) (hsv.grown (World.grownBy_alloc w _ none) (by simp)) ((hI.below hB0).mono hB0.size)
  have HTOK : Hid (∀ l, toksL zs.length us = TR.good l → EndsT l ∧ ∀ t ∈ l, TkOk zs.length t) := fun l h => toks_ok hus h
  have HB0 : Hid (Below w.heap.size w (w.alloc (.cells #[.slice none 0 0, .slice none 0 0] 27))) := hB0
  have HE0 : Hid ((w.alloc (.cells #[.slice none 0 0, .slice none 0 0] 27)).heap[w.heap.size]? = some (.cells #[.slice none 0 0, .slice none 0 0] 27 (0, 0))) := heap_new' _ _
  have HSZ0 : Hid ((w.alloc (.cells #[.slice none 0 0, .slice none 0 0] 27)).heap.size = w.heap.size + 1) := by show _ = _; simp
  obtain ⟨tr, htr⟩ : ∃ tr, tr = toksL zs.length us := ⟨_, rfl⟩
  rw [← htr] at h1 HTOK
  rw [← htr]
  obtain ⟨q, hq⟩ : ∃ q, q = parseL tr := ⟨_, rfl⟩
  rw [← hq]
  have HQ : Hid (q = parseL tr) := hq
  have hmm := @run_makeMap Tryz.prog
  clear htr hq hI hsv hus hby hB0
  go_enter Tryz.func9, Tryz.ntmps9
  go_wp2_with fail
  refine h1.mono ?_
  rintro e w1 (⟨a, x, rfl, rfl, hx, hB1⟩ | ⟨l, v, rfl, hll, rfl, hown, hso, hB1⟩)
  · have hx' : (x != 0) = true := by simpa using hx
    have HX : Hid (x ≠ 0) := hx
    have hR := (hB1.block w.heap.size (by rw [HSZ0.out]; omega)).trans HE0.out
    have HR : Hid (w1.heap[w.heap.size]? = some (.cells #[.slice none 0 0, .slice none 0 0] 27 (0, 0))) := hR
    have hlw : w.heap.size < w1.heap.size := by have := hB1.size; rw [HSZ0.out] at this; omega
    have HB1 : Hid (Below w.heap.size w w1) := below_after HB0.out hB1
    have d0 : w1.cell? ⟨w.heap.size, 0, none⟩ = some (.slice none 0 0) := cell_of_row _ _ 0 _ _ _ hR
    have df0 : w1.frozen? ⟨w.heap.size, 0, none⟩ = false := frozen_of_row _ _ 0 _ _ hR
    have d1 : w1.cell? ⟨w.heap.size, 1, none⟩ = some (.slice none 0 0) := cell_of_row _ _ 1 _ _ _ hR
    have df1 : w1.frozen? ⟨w.heap.size, 1, none⟩ = false := frozen_of_row _ _ 1 _ _ hR
    clear h1 hx hB1 hR
    go_wp2
    refine bodyPost_ret (results_row_tmp2 rfl _ _ w.heap.size 27 #[.slice none 0 0, .slice none 0 0] (0, 0) _ rfl ?_ Tryz.underlying27 rfl (by kernel_rfl)) rfl ?_
    · exact heap_set (heap_set HR.out _) _
    exact ⟨(HB1.out.setCell (by simp) _).setCell (by simp) _, .inl ⟨a, x, HQ.out, HX.out, rfl⟩⟩
  · obtain ⟨hends, hok⟩ := HTOK.out _ rfl
    have hlpos : 0 < l.length := by have := hends.pos; simpa using this
    have hown' := hown
    rcases hown.2 with ⟨rfl, h0⟩ | ⟨g, cp, cur, rfl, hb, hg, hc, hm, hs, ht⟩
    · omega
    -- the parser, as it begins
    have hsz1 : w.heap.size + 1 ≤ w1.heap.size := by have := hB1.size; rw [HSZ0.out] at this; exact this
    have hBm := below_alloc w1 (.map #[] 0)
    have hB2 : Below w1.heap.size w1 ((w1.alloc (.map #[] 0)).alloc (.cells #[.slice (some ⟨g, 0, none⟩) l.length cp, .int .i64 0, .map (some w1.heap.size), .slice none 0 0, .slice none 0 0, .int .i64 0] 51)) := below_after hBm (below_alloc _ _)
    have hsz2 : ((w1.alloc (.map #[] 0)).alloc (.cells #[.slice (some ⟨g, 0, none⟩) l.length cp, .int .i64 0, .map (some w1.heap.size), .slice none 0 0, .slice none 0 0, .int .i64 0] 51)).heap.size = w1.heap.size + 2 := by simp
    have hP := heap_new' (w1.alloc (.map #[] 0)) (.cells #[.slice (some ⟨g, 0, none⟩) l.length cp, .int .i64 0, .map (some w1.heap.size), .slice none 0 0, .slice none 0 0, .int .i64 0] 51)
    rw [World.size_alloc] at hP
    have hmap : ((w1.alloc (.map #[] 0)).alloc (.cells #[.slice (some ⟨g, 0, none⟩) l.length cp, .int .i64 0, .map (some w1.heap.size), .slice none 0 0, .slice none 0 0, .int .i64 0] 51)).heap[w1.heap.size]? = some (.map #[] 0) := ((below_alloc _ _).block _ (by simp)).trans (heap_new' w1 _)
    have hom : ((w1.alloc (.map #[] 0)).alloc (.cells #[.slice (some ⟨g, 0, none⟩) l.length cp, .int .i64 0, .map (some w1.heap.size), .slice none 0 0, .slice none 0 0, .int .i64 0] 51)).ownsMap Tryz.prog 9 heldR w1.heap.size 0 (.map []) := ownsMap_block (World.ownsMap_made w1 Tryz.prog 9 heldR) (((below_alloc (w1.alloc (.map #[] 0)) (.cells #[.slice (some ⟨g, 0, none⟩) l.length cp, .int .i64 0, .map (some w1.heap.size), .slice none 0 0, .slice none 0 0, .int .i64 0] 51)).block _ (by simp)))
    have him : ∀ k, k < w1.heap.size + 1 → Im (XV NoX (.slice none 0 0)) ((w1.alloc (.map #[] 0)).alloc (.cells #[.slice (some ⟨g, 0, none⟩) l.length cp, .int .i64 0, .map (some w1.heap.size), .slice none 0 0, .slice none 0 0, .int .i64 0] 51)) (w1.heap.size + 1) k := fun k hk => ⟨by omega, by omega, fun x hx => by
      have : ((w1.alloc (.map #[] 0)).alloc (.cells #[.slice (some ⟨g, 0, none⟩) l.length cp, .int .i64 0, .map (some w1.heap.size), .slice none 0 0, .slice none 0 0, .int .i64 0] 51)).cell? ⟨w1.heap.size + 1, 3, none⟩ = some (.slice none 0 0) := cell_of_row _ _ 3 _ _ _ hP
      rw [this] at hx
      obtain rfl : Value.slice none 0 0 = x := by simpa using hx
      simp [Value.ownBlock], fun q => q.elim id (fun q => by simp [Value.ownBlock] at q)⟩
    have hPT : PT ⟨g, 0, l.length, cp, w1.heap.size, w1.heap.size, .slice none 0 0, fun _ => none, 51⟩ (w1.heap.size + 1) ((w1.alloc (.map #[] 0)).alloc (.cells #[.slice (some ⟨g, 0, none⟩) l.length cp, .int .i64 0, .map (some w1.heap.size), .slice none 0 0, .slice none 0 0, .int .i64 0] 51)) [] ((l.map Prod.fst).map canT) [] := by
      refine ⟨⟨0, .slice none 0 0, hP, ⟨by simp, by show l.length ≤ _; omega, hc, endsT_map hends, ((toks_ready (m := zs.length) (by omega) hown hso hok).to (fun k hk => ⟨hB2.block k hk, him k (Nat.lt_succ_of_lt hk)⟩)), ⟨[], World.ownsRow_nil _ _ _ _, ⟨rfl, fun i hi => (by cases hi)⟩⟩, by simp [Value.ownBlock], by simp, ⟨him w1.heap.size (by omega), 0, .map [], by omega, hom, fun x hx hl => ⟨fun _ => rfl, fun s hs => (by cases hs)⟩⟩, by show w1.heap.size ≤ _; omega, fun j hj => hj.elim (fun q => q.elim) (fun q => by simp [Value.ownBlock] at q)⟩, by omega⟩, World.ownsRow_nil _ _ _ _, fun k hk => by simp [Value.ownBlock] at hk, fun x hx => (by cases hx), by simp⟩
    have h2 := text_any _ (w1.heap.size + 1) ((w1.alloc (.map #[] 0)).alloc (.cells #[.slice (some ⟨g, 0, none⟩) l.length cp, .int .i64 0, .map (some w1.heap.size), .slice none 0 0, .slice none 0 0, .int .i64 0] 51)) [] _ [] hPT (Nat.le_refl _) (l.length + 1) (by simp)
    have HEQ : Hid (q = match textF (l.length + 1) (fun _ => none) [] ((l.map Prod.fst).map canT) [] with
      | .inl (r, e) => .inl ((hdT r).p, e)
      | .inr x => .inr x) := by
      show _ = _
      rw [HQ.out]
      show parseL (.inr (l.map Prod.fst)) = _
      unfold parseL
      simp only [List.length_map]
      rfl
    obtain ⟨qt, hqt⟩ : ∃ qt, qt = textF (l.length + 1) (fun _ => none) [] ((l.map Prod.fst).map canT) [] := ⟨_, rfl⟩
    have HE2 : Hid ((∀ r e, qt = .inl (r, e) → q = .inl ((hdT r).p, e)) ∧ ∀ x, qt = .inr x → q = .inr x) := by
      have h5 := HEQ.out
      rw [← hqt] at h5
      exact ⟨fun r e he => by rw [h5, he], fun x he => by rw [h5, he]⟩
    have h2' : Calls Tryz.prog 19 #[.pointer (some ⟨w1.heap.size + 1, 0, none⟩)] ((w1.alloc (.map #[] 0)).alloc (.cells #[.slice (some ⟨g, 0, none⟩) l.length cp, .int .i64 0, .map (some w1.heap.size), .slice none 0 0, .slice none 0 0, .int .i64 0] 51)) fun e w' => TxA ⟨g, 0, l.length, cp, w1.heap.size, w1.heap.size, .slice none 0 0, fun _ => none, 51⟩ (w1.heap.size + 1) qt ((w1.alloc (.map #[] 0)).alloc (.cells #[.slice (some ⟨g, 0, none⟩) l.length cp, .int .i64 0, .map (some w1.heap.size), .slice none 0 0, .slice none 0 0, .int .i64 0] 51)) e w' := by rw [hqt]; exact h2
    have HB2 : Hid (Below w.heap.size w ((w1.alloc (.map #[] 0)).alloc (.cells #[.slice (some ⟨g, 0, none⟩) l.length cp, .int .i64 0, .map (some w1.heap.size), .slice none 0 0, .slice none 0 0, .int .i64 0] 51))) := below_after (below_after HB0.out hB1) hB2
    have HR2 : Hid (((w1.alloc (.map #[] 0)).alloc (.cells #[.slice (some ⟨g, 0, none⟩) l.length cp, .int .i64 0, .map (some w1.heap.size), .slice none 0 0, .slice none 0 0, .int .i64 0] 51)).heap[w.heap.size]? = some (.cells #[.slice none 0 0, .slice none 0 0] 27 (0, 0))) := (hB2.block _ (by omega)).trans ((hB1.block w.heap.size (by rw [HSZ0.out]; omega)).trans HE0.out)
    clear h1 h2 hown hown' hso hb hg hc hm hs ht hends hok hBm hB2 hP hmap hom him hPT HEQ HQ hqt HTOK hB1
    go_wp2_with fail
    refine h2'.mono ?_
    rintro e w3 ⟨x, rfl, hB3, hx⟩
    have hB3' : Below w.heap.size w w3 := HB2.out.trans (hB3.mono (by show w.heap.size ≤ w1.heap.size; omega))
    have hR3 := (hB3.block w.heap.size (show w.heap.size < w1.heap.size by omega)).trans HR2.out
    have HR3 : Hid (w3.heap[w.heap.size]? = some (.cells #[.slice none 0 0, .slice none 0 0] 27 (0, 0))) := hR3
    have hlw : w.heap.size < w3.heap.size := (Array.getElem?_eq_some_iff.1 hR3).1
    have HB3 : Hid (Below w.heap.size w w3) := hB3'
    clear h2' HB2
    rcases hx with ⟨hx, c', X, r, st, he, hp⟩ | ⟨rfl, rv, N, rs, r, st, he, hpt⟩
    · have hx' : (x != 0) = true := by simpa using hx
      have HX : Hid (x ≠ 0) := hx
      obtain ⟨t, r', rfl⟩ := hp.ends.cons
      have HE : Hid (q = .inl (t.p, x)) := HE2.out.1 _ _ he
      have h3 := next_any c' X (w1.heap.size + 1) w3 t r' st 0 hp
      have hPl := hp.lt
      clear hx he hp hB3 hB3'
      go_wp2_with fail
      refine h3.mono ?_
      rintro e w4 ⟨v4, rfl, hr4, hB4⟩
      obtain ⟨va, vc, rfl⟩ := hr4.slice
      unfold tokV
      have hff := field_tok1 (.int .i64 t.k) (.int .i64 (t.p : Int)) (.string (strOfNums t.t)) (.slice va t.s.length vc) w4
      have hR4 := (hB4.block w.heap.size hlw).trans HR3.out
      have HR4 : Hid (w4.heap[w.heap.size]? = some (.cells #[.slice none 0 0, .slice none 0 0] 27 (0, 0))) := hR4
      have HB4 : Hid (Below w.heap.size w w4) := below_after HB3.out hB4
      have hlw4 : w.heap.size < w4.heap.size := (Array.getElem?_eq_some_iff.1 hR4).1
      have d0 : w4.cell? ⟨w.heap.size, 0, none⟩ = some (.slice none 0 0) := cell_of_row _ _ 0 _ _ _ hR4
      have df0 : w4.frozen? ⟨w.heap.size, 0, none⟩ = false := frozen_of_row _ _ 0 _ _ hR4
      have d1 : w4.cell? ⟨w.heap.size, 1, none⟩ = some (.slice none 0 0) := cell_of_row _ _ 1 _ _ _ hR4
      have df1 : w4.frozen? ⟨w.heap.size, 1, none⟩ = false := frozen_of_row _ _ 1 _ _ hR4
      clear h3 hr4 hB4 hR4 hR3 HR3
      go_wp2
      refine bodyPost_ret (results_row_tmp2 rfl _ _ w.heap.size 27 #[.slice none 0 0, .slice none 0 0] (0, 0) _ rfl ?_ Tryz.underlying27 rfl (by kernel_rfl)) rfl ?_
      · exact heap_set (heap_set HR4.out _) _
      exact ⟨(HB4.out.setCell (by simp) _).setCell (by simp) _, .inl ⟨t.p, x, HE.out, HX.out, rfl⟩⟩
    · have HE : Hid (q = .inr (rs.map Prod.fst, st)) := HE2.out.2 _ he
      obtain ⟨p1, p2, p3, p4, p5⟩ := hpt
      have hPl := p1.lt
      obtain ⟨cr, _, _⟩ := p1.rv
      have cr' : w3.cell? ⟨w1.heap.size + 1, 4, none⟩ = some rv := cr
      obtain ⟨ad, capS, vs, cs, _, _, hl60, hownS, hss, _, _, _⟩ := p1.sets
      obtain ⟨ra, rc, rfl⟩ : ∃ a cp, rv = .slice a rs.length cp := by
        rcases p2.2 with ⟨e1, e2⟩ | ⟨g, cap, cur, e1, _⟩
        · exact ⟨none, 0, by rw [show rv = .slice none 0 0 from e1, e2]⟩
        · exact ⟨_, _, e1⟩
      have hni : NoInt w3 w.heap.size := fun off k x hx => by
        simp only [World.cell?, hR3] at hx
        match off, hx with
        | 0, hx => simp at hx
        | 1, hx => simp at hx
        | n + 2, hx => simp at hx
      have hWr : Wr w.heap.size w3 ((w3.setCell ⟨w.heap.size, 0, none⟩ (.slice ad st.length capS)).setCell ⟨w.heap.size, 1, none⟩ (.slice ra rs.length rc)) := ((Wr.refl _ w3).set 0 _).set 1 _
      have hto : ∀ (Y : Nat → Prop), (∀ k, Y k → k < w3.heap.size) → ∀ k, (Y k ∧ k ≠ w.heap.size) → ((w3.setCell ⟨w.heap.size, 0, none⟩ (.slice ad st.length capS)).setCell ⟨w.heap.size, 1, none⟩ (.slice ra rs.length rc)).heap[k]? = w3.heap[k]? ∧ k < ((w3.setCell ⟨w.heap.size, 0, none⟩ (.slice ad st.length capS)).setCell ⟨w.heap.size, 1, none⟩ (.slice ra rs.length rc)).heap.size := fun Y hY k hk => ⟨hWr.block k hk.2, by rw [hWr.size]; exact hY k hk.1⟩
      have hbw : w.heap.size < w1.heap.size := by omega
      have HPG : Hid (PrgAt w.heap.size ((w3.setCell ⟨w.heap.size, 0, none⟩ (.slice ad st.length capS)).setCell ⟨w.heap.size, 1, none⟩ (.slice ra rs.length rc)) (.slice ad st.length capS) (.slice ra rs.length rc) rs st) := by
        refine ⟨⟨vs, own_block (own_mono hownS (by show w.heap.size ≤ w1.heap.size; omega)) (fun k hk => hWr.block k (fun q => ?_)), (hss.offN hni).to (hto _ (fun k hk => hk.1))⟩, own_block (own_mono p2 (by show w.heap.size ≤ w1.heap.size; omega)) (fun k hk => hWr.block k (fun q => ?_)), (p4.offN hni).to (hto _ (fun k hk => hk.1.1)), hl60, p5⟩
        · have h5 : w1.heap.size ≤ k := (hownS.lt k hk).1
          omega
        · have h5 : w1.heap.size ≤ k := (p2.lt k hk).1
          omega
      have d0 : w3.cell? ⟨w.heap.size, 0, none⟩ = some (.slice none 0 0) := cell_of_row _ _ 0 _ _ _ hR3
      have df0 : w3.frozen? ⟨w.heap.size, 0, none⟩ = false := frozen_of_row _ _ 0 _ _ hR3
      have d1 : w3.cell? ⟨w.heap.size, 1, none⟩ = some (.slice none 0 0) := cell_of_row _ _ 1 _ _ _ hR3
      have df1 : w3.frozen? ⟨w.heap.size, 1, none⟩ = false := frozen_of_row _ _ 1 _ _ hR3
      clear he p1 p2 p3 p4 p5 cr hownS hss hni hWr hto hR3 hB3 hB3'
      go_wp2
      refine bodyPost_ret (results_row_tmp2 rfl _ _ w.heap.size 27 #[.slice ad st.length capS, .slice ra rs.length rc] (0, 0) _ rfl ?_ Tryz.underlying27 rfl (by kernel_rfl)) rfl ?_
      · exact heap_set (heap_set HR3.out _) _
      exact ⟨(HB3.out.setCell (by simp) _).setCell (by simp) _, .inr ⟨rs, st, _, _, HE.out, rfl, HPG.out⟩⟩
end Go.Proofs.YtfdjchnckjgapaaGreatDoor
