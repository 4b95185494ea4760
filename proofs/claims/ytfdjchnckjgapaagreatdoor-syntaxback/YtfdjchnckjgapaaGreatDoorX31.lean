/-
  TexP
-/
import Derived.Test.YtfdjchnckjgapaaGreatDoorX30
import Derived.Test.YtfdjchnckjgapaaGreatDoorX15
namespace Go.Proofs.YtfdjchnckjgapaaGreatDoor
open Go.RowKit Go.Shelf S1
set_option linter.unusedVariables false
def TxA (c : Pc) (P : Nat) (q : (List Tok × Int) ⊕ (List Rl × Sts)) (w : World) (e : Ending) (w' : World) : Prop :=
  ∃ x, e = .returned (.int .i64 x) ∧ Below c.base w w' ∧ ((x ≠ 0 ∧ ∃ c' X r st, q = .inl (r, x) ∧ Pa c' X P w' r st 0) ∨ (x = 0 ∧ ∃ rv N rs r st, q = .inr (rs.map Prod.fst, st) ∧ PT (c.up rv N) P w' rs r st))
set_option maxRecDepth 100000 in
set_option maxHeartbeats 8000000 in
theorem text_any (c : Pc) (P : Nat) (w : World) (rs : List RlV) (ts : List Tok) (st : Sts) (hpt : PT c P w rs ts st) (hbm : c.base ≤ c.mb) (f : Nat) (hf0 : ts.length < f) :
    Calls Tryz.prog 19 #[.pointer (some ⟨P, 0, none⟩)] w fun e w' => TxA c P (textF f c.N (rs.map Prod.fst) ts st) w e w' := by
  obtain ⟨q, hq⟩ : ∃ q, q = textF f c.N (rs.map Prod.fst) ts st := ⟨_, rfl⟩
  rw [← hq]
  have HQ : Hid (textF f c.N (rs.map Prod.fst) ts st = q) := hq.symm
  have HBM : Hid (c.base ≤ c.mb) := hbm
  have HPT : Hid (PT c P w rs ts st) := hpt
  clear hq hpt hbm
  go_enter Tryz.func19, Tryz.ntmps19
  go_wp2
  go_loopw [] (fun wr => ∃ (f : Nat) (rv : Value) (N : Nms) (rs : List RlV) (r : List Tok) (st : Sts), r.length < f ∧ Hid (textF f N (rs.map Prod.fst) r st = q) ∧ PT (c.up rv N) P wr rs r st ∧ Below c.base w wr) (fun wr => leftP c.n wr P)
  case atStart => exact ⟨f, c.rv, c.N, rs, ts, st, hf0, HQ, HPT.out, Below.refl _ _⟩
  case round =>
    obtain ⟨f, rv, N, rs, r, st, hrf, HEQ, hpt, hB⟩ := hrel
    obtain ⟨f, rfl⟩ : ∃ k, f = k + 1 := ⟨f - 1, by omega⟩
    obtain ⟨t, r', rfl⟩ := hpt.1.ends.cons
    have hl0 : leftP c.n wr P = (t :: r').length := hpt.1.left
    have h1 := more_any (c.up rv N) _ P wr t r' st 0 hpt.1
    have HPR : Hid (PT (c.up rv N) P wr rs (t :: r') st) := hpt
    clear hpt
    by_cases hk : t.k = 4
    · have hk' : (t.k != 4) = false := by simpa using hk
      have HE : Hid (q = .inr (rs.map Prod.fst, st)) := by
        show _ = _
        rw [← HEQ.out]; exact textF_end hk
      rw [hk'] at h1
      clear hk
      go_wp2_with fail
      refine h1.mono ?_
      rintro e w1 ⟨rfl, hB1⟩
      clear h1
      go_wp2
      go_ret
      refine ⟨0, rfl, hB.trans (hB1.mono ?_), .inr ⟨rfl, rv, N, rs, t :: r', st, HE.out, HPR.out.below hB1⟩⟩
      have h2 : c.base ≤ P := HPR.out.1.rv.2.2
      have := HPR.out.1.lt
      omega
    · have hk' : (t.k != 4) = true := by simpa using hk
      rw [hk'] at h1
      have HK : Hid (t.k ≠ 4) := hk
      clear hk
      go_wp2_with fail
      refine h1.mono ?_
      rintro e w1 ⟨rfl, hB1⟩
      clear h1
      have HP1 : Hid (PT (c.up rv N) P w1 rs (t :: r') st) := HPR.out.below hB1
      have hB01 : Below c.base w w1 := hB.trans (hB1.mono (by
        have h2 : c.base ≤ P := HPR.out.1.rv.2.2
        have := HPR.out.1.lt
        omega))
      have h2 := sentence_any (c.up rv N) P w1 rs t r' st HP1.out HBM.out
      obtain ⟨qs, hqs⟩ : ∃ qs, qs = senM (c.up rv N).N (rs.map Prod.fst) (t :: r') st := ⟨_, rfl⟩
      rw [← hqs] at h2
      have HQS : Hid (senM N (rs.map Prod.fst) (t :: r') st = qs) := hqs.symm
      clear hqs hB hB1
      go_wp2_with fail
      refine h2.mono ?_
      rintro e w2 ⟨x, rfl, hB2, hx⟩
      have hB02 : Below c.base w w2 := hB01.trans hB2
      clear h2 hB2 hB01
      rcases hx with ⟨hx, c', X, r2, st2, he, hp⟩ | ⟨rfl, rv2, N2, rs2, r2, st2, he, hpt2⟩
      · have hx' : (x != 0) = true := by simpa using hx
        have HX : Hid (x ≠ 0) := hx
        have HE : Hid (q = .inl (r2, x)) := by
          show _ = _
          rw [← HEQ.out]; exact textF_bad (ts := t :: r') HK.out (HQS.out.trans he)
        clear hx he
        go_wp2
        go_ret
        exact ⟨x, rfl, hB02, .inl ⟨HX.out, c', X, r2, st2, HE.out, hp⟩⟩
      · have hle := senM_left (ts := t :: r') HK.out (HQS.out.trans he)
        have HE : Hid (textF f N2 (rs2.map Prod.fst) r2 st2 = q) := by
          show _ = _
          rw [← HEQ.out]; exact (textF_on (ts := t :: r') HK.out (HQS.out.trans he)).symm
        have HLE : Hid (r2.length < (t :: r').length) := hle
        have HLF : Hid (r2.length < f) := by
          have h5 : (t :: r').length < f + 1 := hrf
          show _ < _
          omega
        clear he hle hrf
        go_wp2
        go_roundw
        case rel => exact ⟨f, rv2, N2, rs2, r2, st2, HLF.out, HE, hpt2, hB02⟩
        case measure =>
          have h5 : leftP c.n w2 P = r2.length := hpt2.1.left
          rw [h5, hl0]; exact HLE.out
theorem letL_nonneg {us r : List U} {x : Int} (hus : ∀ u ∈ us, 0 ≤ u.r) (h : letL us = (some x, r)) : 0 ≤ x ∧ ∀ u ∈ r, 0 ≤ u.r := by
  have hs : ∀ {p : Int → Bool} {a b : List U} {y : Int}, (∀ u ∈ a, 0 ≤ u.r) → sgn p a = (some y, b) → 0 ≤ y ∧ ∀ u ∈ b, 0 ≤ u.r := fun ha h => by
    obtain ⟨u, rfl, _, rfl⟩ := sgn_some h
    exact ⟨ha u (by simp), fun v hv => ha v (by simp [hv])⟩
  unfold letL at h
  split at h
  · exact hs hus h
  · rename_i a c
    have h1 := (hs hus c).2
    split at h
    · exact hs h1 h
    · rename_i a2 c2
      have h2 := (hs h1 c2).2
      split at h
      · simp at h
      · rename_i a3 c3
        have h3 := (hs h2 c3).2
        have hfl : ∀ (n : Nat) (us : List U), (∀ u ∈ us, 0 ≤ u.r) → (∀ c ∈ figsL n us, figR c = true) ∧ ∀ u ∈ figsD n us, 0 ≤ u.r := by
          intro n
          induction n with
          | zero => intro us hu; exact ⟨fun c hc => by simp [figsL] at hc, by simpa [figsD] using hu⟩
          | succ n ih =>
            intro us hu
            match us with
            | [] => exact ⟨fun c hc => by simp [figsL] at hc, fun u hu => by simp [figsD] at hu⟩
            | u :: t =>
              unfold figsL figsD
              split
              · rename_i hf
                obtain ⟨i1, i2⟩ := ih t (fun v hv => hu v (by simp [hv]))
                refine ⟨fun c hc => ?_, i2⟩
                rcases List.mem_cons.1 hc with rfl | hc
                · simp [fitU] at hf; exact hf.2
                · exact i1 c hc
              · exact ⟨fun c hc => by simp at hc, hu⟩
        unfold numL at h
        split at h
        · simp at h
        · split at h
          · rename_i x4 r4 c4
            simp only [Prod.mk.injEq, Option.some.injEq] at h
            obtain ⟨rfl, rfl⟩ := h
            obtain ⟨f1, f2⟩ := hfl 6 _ h3
            refine ⟨?_, (hs f2 c4).2⟩
            have key : ∀ (l : List Int) (acc : Int), (∀ c ∈ l, figR c = true) → 0 ≤ acc → 0 ≤ l.foldl (fun n c => n * 16 + figV c) acc := by
              intro l
              induction l with
              | nil => intro acc _ h; exact h
              | cons c l ih =>
                intro acc hl ha
                have hc := hl c (by simp)
                have hv : 0 ≤ figV c := by
                  simp [figR, decB] at hc
                  unfold figV
                  split <;> omega
                exact ih _ (fun d hd => hl d (by simp [hd])) (by show 0 ≤ acc * 16 + figV c; omega)
            exact key _ 0 f1 (by omega)
          · simp at h
theorem entL_nonneg {us r : List U} {e : Rg} (hus : ∀ u ∈ us, 0 ≤ u.r) (h : entL us = (some e, r)) : 0 ≤ e.lo ∧ ∀ u ∈ r, 0 ≤ u.r := by
  unfold entL at h
  split at h
  · simp at h
  · rename_i lo a c
    obtain ⟨h1, h2⟩ := letL_nonneg hus c
    split at h
    · simp only [Prod.mk.injEq, Option.some.injEq] at h
      obtain ⟨rfl, rfl⟩ := h
      exact ⟨h1, h2⟩
    · rename_i a2 c2
      obtain ⟨u, hu, _, _⟩ := sgn_some c2
      split at h
      · simp at h
      · rename_i hi b c3
        have h3 := (letL_nonneg (fun v hv => h2 v (by rw [hu]; simp [hv])) c3).2
        simp only [Prod.mk.injEq, Option.some.injEq] at h
        obtain ⟨rfl, rfl⟩ := h
        exact ⟨h1, h3⟩
theorem setF_fits {n : Nat} : ∀ {k : Nat} {us r : List U} {acc l : List Rg}, (∀ u ∈ us, 0 ≤ u.r) → Fits acc → setF n k us acc = SR.good l r → Fits l ∧ ∀ u ∈ r, 0 ≤ u.r
  | 0, us, r, acc, l, hu, ha, h => by cases h
  | k + 1, us, r, acc, l, hu, ha, h => by
    cases h1 : sgn (isC 93) us with
    | mk o s => cases o with
      | some x =>
        rw [setF_end h1] at h
        obtain ⟨e1, e2⟩ := Prod.mk.inj (Sum.inr.inj h)
        obtain ⟨u, rfl, _, _⟩ := sgn_some h1
        rw [← e1, ← e2]
        exact ⟨ha, fun v hv => hu v (by simp [hv])⟩
      | none => cases h2 : entL us with
        | mk o2 r2 => cases o2 with
          | none => rw [setF_stuck h1 h2] at h; cases h
          | some e =>
            cases h3 : (decide (e.hi < e.lo) || decide (1114111 < e.hi)) with
            | true => rw [setF_arg h1 h2 h3] at h; cases h
            | false =>
              rw [setF_on h1 h2 h3] at h
              obtain ⟨n1, n2⟩ := entL_nonneg hu h2
              refine setF_fits n2 (fun x hx => ?_) h
              rcases List.mem_append.1 hx with q | q
              · exact ha x q
              · obtain rfl : x = e := by simpa using q
                simp at h3
                exact ⟨n1, by omega, by omega⟩
def TkOk (m : Nat) (t : Tok) : Prop := Fits t.s ∧ Byt t.t ∧ t.t.length ≤ m
theorem tokO_ok {n m : Nat} {us r : List U} {t : Tok} (hu : ∀ u ∈ us, 0 ≤ u.r) (hm : us.length ≤ m) (h : tokO n us = OR.good t r) : TkOk m t ∧ ∀ u ∈ r, 0 ≤ u.r := by
  have hf0 : Fits [] := fun x hx => (by cases hx)
  match us, hu, hm, h with
  | [], hu, hm, h =>
    obtain ⟨e1, e2⟩ := Prod.mk.inj (Sum.inr.inj (show OR.good ⟨4, n, [], []⟩ [] = OR.good t r from h))
    rw [← e1, ← e2]
    exact ⟨⟨hf0, fun c hc => (by cases hc), Nat.zero_le _⟩, fun u hu => (by cases hu)⟩
  | u :: us, hu, hm, h =>
    rw [tokO_cons] at h
    split at h
    · rename_i hn
      obtain ⟨e1, e2⟩ := Prod.mk.inj (Sum.inr.inj h)
      rw [← e1, ← e2]
      refine ⟨⟨hf0, fun c hc => ?_, ?_⟩, fun v hv => hu v (List.mem_cons_of_mem _ (by
        rw [take_drop_while (fitU nameR) us]
        exact List.mem_append_right _ hv))⟩
      · rcases List.mem_cons.1 hc with rfl | hc
        · have h5 := (fit_name hn).2; have h6 := hu u (by simp); omega
        · obtain ⟨v, hv, rfl⟩ := List.mem_map.1 hc
          have h5 := (fit_inName (takeWhile_all _ _ v hv)).2
          have h6 := hu v (List.mem_cons_of_mem _ (by
            rw [take_drop_while (fitU nameR) us]
            exact List.mem_append_left _ hv))
          omega
      · have h5 := congrArg List.length (take_drop_while (fitU nameR) us)
        rw [List.length_append] at h5
        simp at hm ⊢
        omega
    · split at h
      · rename_i hn
        obtain ⟨e1, e2⟩ := Prod.mk.inj (Sum.inr.inj h)
        rw [← e1, ← e2]
        refine ⟨⟨hf0, fun c hc => ?_, by simp at hm ⊢; omega⟩, fun v hv => hu v (by simp [hv])⟩
        obtain rfl : c = u.r := by simpa using hc
        have h5 := (fit_tok hn).2; have h6 := hu u (by simp); omega
      · split at h
        · cases h1 : setF n (us.length + 1) us [] with
          | inl x => rw [h1] at h; cases h
          | inr x =>
            obtain ⟨l, s⟩ := x
            rw [h1] at h
            obtain ⟨e1, e2⟩ := Prod.mk.inj (Sum.inr.inj h)
            obtain ⟨f1, f2⟩ := setF_fits (fun v hv => hu v (by simp [hv])) hf0 h1
            rw [← e1, ← e2]
            exact ⟨⟨f1, fun c hc => (by cases hc), Nat.zero_le _⟩, f2⟩
        · cases h
theorem blankL_suf : ∀ (b : Bool) (us : List U), ∀ u ∈ blankL b us, u ∈ us
  | _, [], u, h => by simp [blankL] at h
  | true, v :: t, u, h => by
    unfold blankL at h
    split at h
    · exact h
    · split at h
      · exact List.mem_cons_of_mem _ (blankL_suf false t u h)
      · exact List.mem_cons_of_mem _ (blankL_suf true t u h)
  | false, v :: t, u, h => by
    unfold blankL at h
    split at h
    · exact h
    · split at h
      · exact List.mem_cons_of_mem _ (blankL_suf true t u h)
      · split at h
        · exact List.mem_cons_of_mem _ (blankL_suf false t u h)
        · exact h
theorem endsT_snoc : ∀ {l : List Tok} {t : Tok}, (∀ x ∈ l, x.k ≠ 4) → t.k = 4 → EndsT (l ++ [t])
  | [], t, _, h => h
  | [x], t, hl, h => ⟨hl x (by simp), h⟩
  | x :: y :: l, t, hl, h => ⟨hl x (by simp), endsT_snoc (l := y :: l) (fun z hz => hl z (by simp [hz])) h⟩
theorem toksF_ok {n m : Nat} : ∀ {k : Nat} {us : List U} {acc l : List Tok}, (∀ u ∈ us, 0 ≤ u.r) → us.length ≤ m → (∀ t ∈ acc, TkOk m t ∧ t.k ≠ 4) → toksF n k us acc = TR.good l → EndsT l ∧ ∀ t ∈ l, TkOk m t
  | 0, us, acc, l, hu, hm, ha, h => by cases h
  | k + 1, us, acc, l, hu, hm, ha, h => by
    have hb : ∀ u ∈ blankL false us, 0 ≤ u.r := fun u h => hu u (blankL_suf _ _ u h)
    have hbl := blankL_le false us
    cases h1 : tokO n (blankL false us) with
    | inl x => obtain ⟨a, e⟩ := x; rw [toksF_bad h1] at h; cases h
    | inr x =>
      obtain ⟨t, r⟩ := x
      obtain ⟨o1, o2⟩ := tokO_ok hb (show (blankL false us).length ≤ m by omega) h1
      by_cases h4 : t.k = 4
      · rw [toksF_end h1 h4] at h
        obtain rfl := Sum.inr.inj h
        refine ⟨endsT_snoc (fun x hx => (ha x hx).2) h4, fun x hx => ?_⟩
        rcases List.mem_append.1 hx with q | q
        · exact (ha x q).1
        · obtain rfl : x = t := by simpa using q
          exact o1
      · rw [toksF_on h1 h4] at h
        have hlen := tokO_len h1
        refine toksF_ok o2 (by rcases hlen with ⟨q, _⟩ | ⟨_, q⟩ <;> first | exact absurd q h4 | omega) (fun x hx => ?_) h
        rcases List.mem_append.1 hx with q | q
        · exact ha x q
        · obtain rfl : x = t := by simpa using q
          exact ⟨o1, h4⟩
theorem toks_ok {zs : List Int} {us : List U} (hr : Run zs 0 us zs.length) {l : List Tok} (h : toksL zs.length us = TR.good l) : EndsT l ∧ ∀ t ∈ l, TkOk zs.length t := by
  have hlen := Run.le hr (Nat.zero_le _)
  exact toksF_ok (fun u hu => (run_range hr u hu).1) (by omega) (fun t ht => (by cases ht)) h
theorem endsT_map {l : List Tok} (h : EndsT l) : EndsT (l.map canT) := by
  match l, h with
  | [t], h => exact h
  | t :: u :: l, h => exact ⟨h.1, endsT_map h.2⟩
end Go.Proofs.YtfdjchnckjgapaaGreatDoor
