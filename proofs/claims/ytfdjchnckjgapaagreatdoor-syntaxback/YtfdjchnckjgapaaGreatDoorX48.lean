/-
  What term and sum of the document's reader answer, at every depth. What place, signed, ends and begins of the document's reader answer.
-/
import Derived.Test.YtfdjchnckjgapaaGreatDoorX41
import Derived.Test.YtfdjchnckjgapaaGreatDoorX26
namespace Go.Proofs.YtfdjchnckjgapaaGreatDoor
open Go.RowKit Go.Shelf S1
set_option linter.unusedVariables false

/-- The document's set of what is not in a set. -/
theorem notR {E : List Int} (hE : E.length ≤ 10000) (a : List Rg) (va : Value) (w : World) (ha : GS E a) (hva : RngSrc w va a) : Calls Tryz.prog 124 #[va] w fun e w' => ∃ v, e = .returned v ∧ GS E (notS a) ∧ w'.ownsRow w.heap.size 94 2 v (notS a).length (cellsRs (notS a)) ∧ Below w.heap.size w w' := (refNot_any a ha.1 (by have := stb_len ha.1 ha.2; omega) va w hva).mono (by
  rintro e w' ⟨l, v, rfl, hu, ho, hB⟩
  obtain rfl : l = notS a := hu.unique (notS_upto ha.1)
  exact ⟨v, rfl, stb_pick ha (GS.nil E), ho, hB⟩)

theorem RngS.none {Q : Nat → Prop} {w : World} : RngS Q w (.slice none 0 0) [] := RngS.nil _ _

set_option maxRecDepth 100000 in
set_option maxHeartbeats 16000000 in
theorem rterm_step (b : Nat) (ih : ∀ m, b = m + 1 → RTermC m) : RTermC b := fun c X P w ts st dp E hdb hE hgt hgn hpa => by
  obtain ⟨t, r, rfl⟩ := hpa.ends.cons
  obtain ⟨q, hq⟩ : ∃ q, q = termM c.N b (t :: r) := ⟨_, rfl⟩
  have HQ : Hid (q = termG c.N (innerT c.N b) (t :: r)) := hq.trans (termM_eq _ _ _)
  rw [← hq]
  have HI : Hid (∀ m, b = m + 1 → RTermC m) := ih
  have HGR : Hid (GT E r) := fun y hy => hgt y (by simp [hy])
  have HGT : Hid (GS E t.s) := hgt t (by simp)
  have HGN : Hid (GN E c.N) := hgn
  have HP : Hid (Pa c X P w (t :: r) st 0) := hpa
  have hdp : (dp : Int) ≤ 20 := by omega
  have h1 : Calls Tryz.prog 88 #[.pointer (some ⟨P, 0, none⟩), .string ⟨#[126]⟩] w fun e w' => AnsB w (decide (0 = 0) && tkSign 126 t) e w' := ris_any c X P w t r st 0 hpa 126 (by decide)
  simp only [decide_true, Bool.true_and] at h1
  clear hq ih hgt hgn hpa
  go_enter Tryz.func89, Tryz.ntmps89
  go_wp2_with fail
  refine h1.mono ?_
  rintro e w1 ⟨rfl, hB1⟩
  clear h1
  have h2 : Calls Tryz.prog 88 #[.pointer (some ⟨P, 0, none⟩), .string ⟨#[40]⟩] w1 fun e w' => AnsB w1 (decide (0 = 0) && tkSign 40 t) e w' := ris_any c X P w1 t r st 0 (HP.out.below hB1) 40 (by decide)
  simp only [decide_true, Bool.true_and] at h2
  go_wp2_with fail
  refine h2.mono ?_
  rintro e w2 ⟨rfl, hB2⟩
  clear h2
  have hB := below_after hB1 hB2
  have HP2 : Hid (Pa c X P w2 (t :: r) st 0) := HP.out.below hB
  have HF2 : Hid (Fr w.heap.size P w w2) := HP.out.fr hB
  have hPl := HP2.out.lt
  clear hB1 hB2 hB HP
  by_cases hb : b = 0
  · subst hb
    have hd2 : decide ((dp : Int) ≥ 20) = true := by simp; omega
    cases s126 : tkSign 126 t with
    | true =>
      have HE : Hid (q = .inl (t :: r, 3)) := by
        show _ = _
        rw [HQ.out]; unfold termG; simp only [hdT, s126, if_true]; rfl
      have h3 := fail_any c X P w2 st 0 HP2.out 3 (by decide)
      go_wp2_with fail
      refine h3.mono ?_
      rintro e w3 ⟨rfl, hp3, hf3⟩
      clear h3
      go_wp2
      go_ret
      exact ⟨_, [], t :: r, 3, rfl, GS.nil E, RngS.none, hp3, HF2.out.then hf3 HF2.out.size, .inl ⟨by decide, HE.out⟩⟩
    | false =>
      cases s40 : tkSign 40 t with
      | true =>
        have HE : Hid (q = .inl (t :: r, 3)) := by
          show _ = _
          rw [HQ.out]; unfold termG; simp only [hdT, s126, s40, if_true]; rfl
        have h3 := fail_any c X P w2 st 0 HP2.out 3 (by decide)
        go_wp2_with fail
        refine h3.mono ?_
        rintro e w3 ⟨rfl, hp3, hf3⟩
        clear h3
        go_wp2
        go_ret
        exact ⟨_, [], t :: r, 3, rfl, GS.nil E, RngS.none, hp3, HF2.out.then hf3 HF2.out.size, .inl ⟨by decide, HE.out⟩⟩
      | false =>
        have h3 := rset_any c X P w2 t r st 0 HP2.out
        have HE : Hid (q = match setM c.N t with | .inl e => .inl (t :: r, e) | .inr s => .inr (s, r)) := by
          show _ = _
          rw [HQ.out]; unfold termG; simp only [hdT, s126, s40, List.tail_cons]; rfl
        go_wp2_with fail
        refine h3.mono ?_
        rintro e w3 ⟨hf3, ⟨_, s, v, hes, hs, hr, rfl, hp3⟩ | ⟨rfl, x, hp3, hx⟩⟩
        · have HS : Hid (GS E s) := setM_gs HGT.out HGN.out hes
          have HE2 : Hid (q = .inr (s, r)) := by
            show _ = _
            rw [HE.out, hes]
          have HR : Hid (RngS (Im X w3 P) w3 v s) := hr
          obtain ⟨va, vc, rfl⟩ := hr.slice
          obtain ⟨kk, hkk, c1, f1, hp4⟩ := hp3.adv (setM_end hes)
          have HP4 : Hid (Pa c X P (w3.setCell ⟨P, 1, none⟩ (.int .i64 ((kk : Int) + 1))) r st 0) := hp4
          have hf4 : Fr w3.heap.size P w3 (w3.setCell ⟨P, 1, none⟩ (.int .i64 ((kk : Int) + 1))) := fr_own w3 1 (by decide) _
          have HR4 : Hid (RngS (Im X (w3.setCell ⟨P, 1, none⟩ (.int .i64 ((kk : Int) + 1))) P) (w3.setCell ⟨P, 1, none⟩ (.int .i64 ((kk : Int) + 1))) (.slice va s.length vc) s) := HR.out.fr hf4
          have HF4 : Hid (Fr w.heap.size P w (w3.setCell ⟨P, 1, none⟩ (.int .i64 ((kk : Int) + 1)))) := (HF2.out.then hf3 HF2.out.size).then hf4 (HF2.out.then hf3 HF2.out.size).size
          have hPl3 := hp3.lt
          clear h3 hr hes hs hf3 hf4 hp4 hp3
          go_wp2
          go_ret
          exact ⟨_, s, r, 0, rfl, HS.out, HR4.out, HP4.out, HF4.out, .inr ⟨rfl, HE2.out⟩⟩
        · have HXE : Hid ((if x = 0 then 6 else x) ≠ 0 ∧ q = .inl (t :: r, (((if x = 0 then 6 else x) : Nat) : Int))) := by
            rcases hx with ⟨h, _⟩ | ⟨_, rfl, h⟩ | ⟨_, rfl, h⟩
            · exact absurd rfl h
            · exact ⟨by decide, by rw [HE.out, h]; rfl⟩
            · exact ⟨by decide, by rw [HE.out, h]; rfl⟩
          have h4 := fail_any c X P w3 st x hp3 6 (by decide)
          obtain ⟨y, hy⟩ : ∃ y, y = (if x = 0 then 6 else x) := ⟨_, rfl⟩
          rw [← hy] at h4 HXE
          have HF3 : Hid (Fr w.heap.size P w w3) := HF2.out.then hf3 HF2.out.size
          clear hf3 hp3 h3 hx hy
          go_wp2_with fail
          refine h4.mono ?_
          rintro e w4 ⟨rfl, hp4, hf4⟩
          clear h4
          go_wp2
          go_ret
          exact ⟨_, [], t :: r, y, rfl, GS.nil E, RngS.none, hp4, HF3.out.then hf4 HF3.out.size, .inl HXE.out⟩
  · obtain ⟨m, rfl⟩ : ∃ m, b = m + 1 := ⟨b - 1, by omega⟩
    have hd2 : decide ((dp : Int) ≥ 20) = false := by simp; omega
    cases s126 : tkSign 126 t with
    | true =>
      have HE : Hid (q = notQ (termM c.N m r)) := by
        show _ = _
        rw [HQ.out]; unfold termG; simp only [hdT, s126, if_true, List.tail_cons]; rfl
      obtain ⟨kk, hkk, c1, f1, hp3⟩ := HP2.out.adv (sign_end s126)
      have hf3 : Fr w2.heap.size P w2 (w2.setCell ⟨P, 1, none⟩ (.int .i64 ((kk : Int) + 1))) := fr_own w2 1 (by decide) _
      have h4 : Calls Tryz.prog 89 #[.pointer (some ⟨P, 0, none⟩), .int .i64 ((dp : Int) + 1)] _ fun e w' => RQA c X P E st (termM c.N m r) _ e w' := HI.out m rfl c X P _ r st (dp + 1) E (by omega) hE HGR.out HGN.out hp3
      have HF3 : Hid (Fr w.heap.size P w (w2.setCell ⟨P, 1, none⟩ (.int .i64 ((kk : Int) + 1)))) := HF2.out.then hf3 HF2.out.size
      clear hf3 hp3
      go_wp2_with fail
      refine h4.mono ?_
      rintro e w4 ⟨v4, s4, r4, x4, rfl, hs4, hr4, hp4, hf4, hx4⟩
      have h5 := notR hE s4 v4 w4 hs4 (hr4.src (fun k hk => hk.1))
      obtain ⟨a4, c4, rfl⟩ := hr4.slice
      have HX4 : Hid ((x4 ≠ 0 ∧ termM c.N m r = .inl (r4, ((x4 : Nat) : Int))) ∨ (x4 = 0 ∧ termM c.N m r = .inr (s4, r4))) := hx4
      have HF4 : Hid (Fr w.heap.size P w w4) := HF3.out.then hf4 HF3.out.size
      clear h4 hx4 hf4 hs4 hr4 c1 f1
      go_wp2_with fail
      refine h5.mono ?_
      rintro e w5 ⟨v5, rfl, hs5, ho5, hB5⟩
      have hr5 := hp4.rngS hB5 ho5
      obtain ⟨a5, c5, rfl⟩ := hr5.slice
      clear h5 ho5
      go_wp2
      go_ret
      refine ⟨_, notS s4, r4, x4, rfl, hs5, hr5, hp4.below hB5, HF4.out.then (hp4.fr hB5) HF4.out.size, ?_⟩
      rw [HE.out]
      rcases HX4.out with ⟨e1, e2⟩ | ⟨e1, e2⟩
      · rw [e2]; exact .inl ⟨e1, rfl⟩
      · rw [e2]; exact .inr ⟨e1, rfl⟩
    | false =>
      cases s40 : tkSign 40 t with
      | true =>
        have HE : Hid (q = endQ 41 (sumM c.N m r)) := by
          show _ = _
          rw [HQ.out]; unfold termG; simp only [hdT, s126, s40, if_true, List.tail_cons]; rfl
        obtain ⟨kk, hkk, c1, f1, hp3⟩ := HP2.out.adv (sign_end s40)
        have hf3 : Fr w2.heap.size P w2 (w2.setCell ⟨P, 1, none⟩ (.int .i64 ((kk : Int) + 1))) := fr_own w2 1 (by decide) _
        have h4 : Calls Tryz.prog 49 #[.pointer (some ⟨P, 0, none⟩), .int .i64 ((dp : Int) + 1)] _ fun e w' => RQA c X P E st (sumM c.N m r) _ e w' := rsum_of m (HI.out m rfl) c X P _ r st (dp + 1) E (by omega) hE HGR.out HGN.out hp3
        have HF3 : Hid (Fr w.heap.size P w (w2.setCell ⟨P, 1, none⟩ (.int .i64 ((kk : Int) + 1)))) := HF2.out.then hf3 HF2.out.size
        clear hf3 hp3
        go_wp2_with fail
        refine h4.mono ?_
        rintro e w4 ⟨v4, s4, r4, x4, rfl, hs4, hr4, hp4, hf4, hx4⟩
        obtain ⟨t4, r4, rfl⟩ := hp4.ends.cons
        have h5 : Calls Tryz.prog 48 #[.pointer (some ⟨P, 0, none⟩), .string ⟨#[41]⟩] w4 fun e w' => e = .returned (.tuple #[]) ∧ Pa c X P w' (rtR 41 x4 t4 r4) st (rtD 41 x4 t4) ∧ Fr w4.heap.size P w4 w' := rtake_any c X P w4 t4 r4 st x4 hp4 41 (by decide)
        have HR4 : Hid (RngS (Im X w4 P) w4 v4 s4) := hr4
        obtain ⟨a4, c4, rfl⟩ := hr4.slice
        have HX4 : Hid ((x4 ≠ 0 ∧ sumM c.N m r = .inl (t4 :: r4, ((x4 : Nat) : Int))) ∨ (x4 = 0 ∧ sumM c.N m r = .inr (s4, t4 :: r4))) := hx4
        have HF4 : Hid (Fr w.heap.size P w w4) := HF3.out.then hf4 HF3.out.size
        clear h4 hx4 hf4 hr4 hp4 c1 f1
        go_wp2_with fail
        refine h5.mono ?_
        rintro e w5 ⟨rfl, hp5, hf5⟩
        clear h5
        go_wp2
        go_ret
        refine ⟨_, s4, _, _, rfl, hs4, HR4.out.fr hf5, hp5, HF4.out.then hf5 HF4.out.size, ?_⟩
        rw [HE.out]
        unfold rtR rtD
        rcases HX4.out with ⟨e1, e2⟩ | ⟨e1, e2⟩
        · rw [e2, if_neg e1, if_neg e1]; exact .inl ⟨e1, rfl⟩
        · rw [e2, if_pos e1, if_pos e1]
          cases q41 : tkSign 41 t4 with
          | true => exact .inr ⟨rfl, by simp [endQ, hdT, q41]⟩
          | false => exact .inl ⟨by simp, by simp [endQ, hdT, q41]⟩
      | false =>
        have h3 := rset_any c X P w2 t r st 0 HP2.out
        have HE : Hid (q = match setM c.N t with | .inl e => .inl (t :: r, e) | .inr s => .inr (s, r)) := by
          show _ = _
          rw [HQ.out]; unfold termG; simp only [hdT, s126, s40, List.tail_cons]; rfl
        go_wp2_with fail
        refine h3.mono ?_
        rintro e w3 ⟨hf3, ⟨_, s, v, hes, hs, hr, rfl, hp3⟩ | ⟨rfl, x, hp3, hx⟩⟩
        · have HS : Hid (GS E s) := setM_gs HGT.out HGN.out hes
          have HE2 : Hid (q = .inr (s, r)) := by
            show _ = _
            rw [HE.out, hes]
          have HR : Hid (RngS (Im X w3 P) w3 v s) := hr
          obtain ⟨va, vc, rfl⟩ := hr.slice
          obtain ⟨kk, hkk, c1, f1, hp4⟩ := hp3.adv (setM_end hes)
          have HP4 : Hid (Pa c X P (w3.setCell ⟨P, 1, none⟩ (.int .i64 ((kk : Int) + 1))) r st 0) := hp4
          have hf4 : Fr w3.heap.size P w3 (w3.setCell ⟨P, 1, none⟩ (.int .i64 ((kk : Int) + 1))) := fr_own w3 1 (by decide) _
          have HR4 : Hid (RngS (Im X (w3.setCell ⟨P, 1, none⟩ (.int .i64 ((kk : Int) + 1))) P) (w3.setCell ⟨P, 1, none⟩ (.int .i64 ((kk : Int) + 1))) (.slice va s.length vc) s) := HR.out.fr hf4
          have HF4 : Hid (Fr w.heap.size P w (w3.setCell ⟨P, 1, none⟩ (.int .i64 ((kk : Int) + 1)))) := (HF2.out.then hf3 HF2.out.size).then hf4 (HF2.out.then hf3 HF2.out.size).size
          have hPl3 := hp3.lt
          clear h3 hr hes hs hf3 hf4 hp4 hp3
          go_wp2
          go_ret
          exact ⟨_, s, r, 0, rfl, HS.out, HR4.out, HP4.out, HF4.out, .inr ⟨rfl, HE2.out⟩⟩
        · have HXE : Hid ((if x = 0 then 6 else x) ≠ 0 ∧ q = .inl (t :: r, (((if x = 0 then 6 else x) : Nat) : Int))) := by
            rcases hx with ⟨h, _⟩ | ⟨_, rfl, h⟩ | ⟨_, rfl, h⟩
            · exact absurd rfl h
            · exact ⟨by decide, by rw [HE.out, h]; rfl⟩
            · exact ⟨by decide, by rw [HE.out, h]; rfl⟩
          have h4 := fail_any c X P w3 st x hp3 6 (by decide)
          obtain ⟨y, hy⟩ : ∃ y, y = (if x = 0 then 6 else x) := ⟨_, rfl⟩
          rw [← hy] at h4 HXE
          have HF3 : Hid (Fr w.heap.size P w w3) := HF2.out.then hf3 HF2.out.size
          clear hf3 hp3 h3 hx hy
          go_wp2_with fail
          refine h4.mono ?_
          rintro e w4 ⟨rfl, hp4, hf4⟩
          clear h4
          go_wp2
          go_ret
          exact ⟨_, [], t :: r, y, rfl, GS.nil E, RngS.none, hp4, HF3.out.then hf4 HF3.out.size, .inl HXE.out⟩

theorem rterm_any : ∀ b, RTermC b
  | 0 => rterm_step 0 (fun m h => by omega)
  | b + 1 => rterm_step (b + 1) (fun m h => by
    have e : b = m := by omega
    exact e ▸ rterm_any b)
theorem rsum_any (b : Nat) : RSumC b := rsum_of b (rterm_any b)

set_option maxRecDepth 100000 in
set_option maxHeartbeats 4000000 in
/-- Behind an error a term is nothing. -/
theorem rterm_bad (c : Pc) (X : Nat → Prop) (P : Nat) (w : World) (ts : List Tok) (st : Sts) (d : Nat) (n : Int) (hd : d ≠ 0) (hpa : Pa c X P w ts st d) :
    Calls Tryz.prog 89 #[.pointer (some ⟨P, 0, none⟩), .int .i64 n] w fun e w' => e = .returned (.slice none 0 0) ∧ Pa c X P w' ts st d ∧ Fr w.heap.size P w w' := by
  obtain ⟨t, r, rfl⟩ := hpa.ends.cons
  have HP : Hid (Pa c X P w (t :: r) st d) := hpa
  have h1 : Calls Tryz.prog 88 #[.pointer (some ⟨P, 0, none⟩), .string ⟨#[126]⟩] w fun e w' => AnsB w (decide (d = 0) && tkSign 126 t) e w' := ris_any c X P w t r st d hpa 126 (by decide)
  have hd0 : decide (d = 0) = false := by simp [hd]
  rw [hd0, Bool.false_and] at h1
  clear hpa
  go_enter Tryz.func89, Tryz.ntmps89
  go_wp2_with fail
  refine h1.mono ?_
  rintro e w1 ⟨rfl, hB1⟩
  clear h1
  have h2 : Calls Tryz.prog 88 #[.pointer (some ⟨P, 0, none⟩), .string ⟨#[40]⟩] w1 fun e w' => AnsB w1 (decide (d = 0) && tkSign 40 t) e w' := ris_any c X P w1 t r st d (HP.out.below hB1) 40 (by decide)
  rw [hd0, Bool.false_and] at h2
  go_wp2_with fail
  refine h2.mono ?_
  rintro e w2 ⟨rfl, hB2⟩
  clear h2
  have hB := below_after hB1 hB2
  have HP2 : Hid (Pa c X P w2 (t :: r) st d) := HP.out.below hB
  have HF2 : Hid (Fr w.heap.size P w w2) := HP.out.fr hB
  have h3 := rset_any c X P w2 t r st d HP2.out
  have HD : Hid (d ≠ 0) := hd
  clear hB1 hB2 hB HP hd hd0
  go_wp2_with fail
  refine h3.mono ?_
  rintro e w3 ⟨hf3, ⟨rfl, _⟩ | ⟨rfl, x, hp3, hx⟩⟩
  · exact absurd rfl HD.out
  have HX : Hid (x = d) := by
    show _ = _
    rcases hx with ⟨_, h⟩ | ⟨h, _⟩ | ⟨h, _⟩
    · exact h
    · exact absurd h HD.out
    · exact absurd h HD.out
  obtain rfl := HX.out
  clear h3 hx
  have h4 := fail_any c X P w3 st x hp3 6 (by decide)
  rw [if_neg HD.out] at h4
  have HF3 : Hid (Fr w.heap.size P w w3) := HF2.out.then hf3 HF2.out.size
  clear hf3
  go_wp2_with fail
  refine h4.mono ?_
  rintro e w4 ⟨rfl, hp4, hf4⟩
  clear h4
  go_wp2
  go_ret
  exact ⟨rfl, hp4, HF3.out.then hf4 HF3.out.size⟩

set_option maxRecDepth 100000 in
set_option maxHeartbeats 4000000 in
theorem rsum_bad (c : Pc) (X : Nat → Prop) (P : Nat) (w : World) (ts : List Tok) (st : Sts) (d : Nat) (n : Int) (hd : d ≠ 0) (hpa : Pa c X P w ts st d) :
    Calls Tryz.prog 49 #[.pointer (some ⟨P, 0, none⟩), .int .i64 n] w fun e w' => e = .returned (.slice none 0 0) ∧ Pa c X P w' ts st d ∧ Fr w.heap.size P w w' := by
  have h1 := rterm_bad c X P w ts st d n hd hpa
  have hd' : ((d : Int) == 0) = false := by simp; omega
  clear hd hpa
  go_enter Tryz.func49, Tryz.ntmps49
  go_wp2_with fail
  refine h1.mono ?_
  rintro e w1 ⟨rfl, hp1, hf1⟩
  have hPl := hp1.lt
  obtain ⟨c5, _, _⟩ := hp1.dep
  clear h1
  go_wp2
  go_loopw [5] (fun v wr => wr = w1 ∧ v = .slice none 0 0) (fun _ wr => 0)
  case atStart => exact ⟨rfl, rfl⟩
  case round =>
    obtain ⟨rfl, rfl⟩ := hrel
    go_wp2
    go_ret
    exact ⟨rfl, hp1, hf1⟩
end Go.Proofs.YtfdjchnckjgapaaGreatDoor

namespace Go.Proofs.YtfdjchnckjgapaaGreatDoor
open Go.RowKit Go.Shelf S1
set_option linter.unusedVariables false

/-- What the document's place tells. -/
def RPlA (c : Pc) (X : Nat → Prop) (P : Nat) (ts : List Tok) (st : Sts) (o : Option (Nat × Sts)) (w : World) (e : Ending) (w' : World) : Prop :=
  Fr w.heap.size P w w' ∧ ((o = none ∧ e = .returned (.int .i64 0) ∧ Pa c X P w' ts st 3) ∨ ∃ i st', o = some (i, st') ∧ e = .returned (.int .i64 ((i : Nat) : Int)) ∧ Pa c X P w' ts st' 0)

set_option maxRecDepth 100000 in
set_option maxHeartbeats 8000000 in
theorem rplace_any (c : Pc) (X : Nat → Prop) (P : Nat) (w : World) (ts : List Tok) (st : Sts) (hpa : Pa c X P w ts st 0) (v : Value) (s : List Rg) (hv : RngS (Im X w P) w v s) (hs : IsSet s) :
    Calls Tryz.prog 151 #[.pointer (some ⟨P, 0, none⟩), v] w fun e w' => RPlA c X P ts st (placeM st s) w e w' := by
  obtain ⟨i0, hi0, hz0, hz1, hz2⟩ := info_parts Tryz.infoSet8
  obtain ⟨va, vc, rfl⟩ := hv.slice
  obtain ⟨o, ho⟩ : ∃ o, o = placeM st s := ⟨_, rfl⟩
  rw [← ho]
  have HO : Hid (o = placeM st s) := ho
  have HPA : Hid (Pa c X P w ts st 0) := hpa
  have HV : Hid (RngS (Im X w P) w (.slice va s.length vc) s) := hv
  have HS : Hid (IsSet s) := hs
  have HI0 : Hid (idxS s st = (idxS s (st.drop 0)).map (· + 0)) := by show _ = _; simp
  clear ho hpa hv hs
  go_enter Tryz.func151, Tryz.ntmps151
  go_wp2
  go_loopw [5] (fun i wr => ∃ k : Nat, k ≤ st.length ∧ i = .int .i64 k ∧ Hid (idxS s st = (idxS s (st.drop k)).map (· + k)) ∧ Below w.heap.size w wr) (fun i _ => st.length - (intOf i).toNat)
  case atStart => exact ⟨0, Nat.zero_le _, rfl, HI0, Below.refl _ _⟩
  case round =>
    obtain ⟨k, hk, rfl, HD, hB⟩ := hrel
    have HP1 : Hid (Pa c X P wr ts st 0) := HPA.out.below hB
    have HB : Hid (Below w.heap.size w wr) := hB
    have HV1 : Hid (RngS (Im X wr P) wr (.slice va s.length vc) s) := HV.out.fr (HPA.out.fr hB)
    obtain ⟨ad, cap, vs, c3, f3, hcp, hl60, hown, hss, hbP, hnP, hix⟩ := HP1.out.sets
    have hPl := HP1.out.lt
    by_cases hlt : k < st.length
    · obtain ⟨g, off, x, rfl, hg, hc, hx, hi⟩ := hix k hlt
      have h1 := sameG_any st[k] s (by have := hi.len; omega) x (.slice va s.length vc) wr hx (HV1.out.rng (fun k hk => hk.1))
      obtain ⟨xa, xc, rfl, _⟩ := hx
      have hk0 : (0 : Int) ≤ (k : Int) := by omega
      have hk1 : (k : Int) < (st.length : Int) := by omega
      have HD2 := idxS_drop (s := s) hlt
      have HD3 : Hid (idxS s (st.drop k) = if sameS st[k] s = true then some 0 else (idxS s (st.drop (k + 1))).map (· + 1)) := HD2
      clear HD2 hown hss hix hnP hbP hB
      cases hq : sameS st[k] s with
      | true =>
        rw [hq] at h1
        have HE : Hid (o = some (k, st)) := by
          show _ = _
          rw [HO.out]; unfold placeM; rw [HD.out, HD3.out, hq]; simp
        clear HD HD3
        go_wp2_with fail
        refine h1.mono ?_
        rintro e w1 ⟨rfl, hB1⟩
        clear h1
        go_wp2
        go_ret
        have hB2 := below_after HB.out hB1
        exact ⟨HPA.out.fr hB2, .inr ⟨k, st, HE.out, rfl, HPA.out.below hB2⟩⟩
      | false =>
        rw [hq] at h1
        have HE : Hid (idxS s st = (idxS s (st.drop (k + 1))).map (· + (k + 1))) := by
          show _ = _
          rw [HD.out, HD3.out, hq]
          simp only [Bool.false_eq_true, if_false, Option.map_map]
          congr 1
          funext j
          simp; omega
        clear HD HD3
        go_wp2_with fail
        refine h1.mono ?_
        rintro e w1 ⟨rfl, hB1⟩
        clear h1
        go_wp2
        go_roundw
        case rel => exact ⟨k + 1, by omega, by go_num, HE, below_after HB.out hB1⟩
        case measure => simp [intOf]; omega
    · obtain rfl : k = st.length := by omega
      have HIX : Hid (idxS s st = none) := by
        show _ = _
        rw [HD.out, List.drop_length]; rfl
      by_cases h60 : st.length = 60
      · have h60' : decide ((st.length : Int) ≥ 60) = true := by simp; omega
        have HE : Hid (o = none) := by
          show _ = _
          rw [HO.out]; unfold placeM; rw [HIX.out]; simp [h60]
        have h2 := fail_any c X P wr st 0 HP1.out 3 (by decide)
        clear hown hss hix h60 HD hB
        go_wp2_with fail
        refine h2.mono ?_
        rintro e w2 ⟨rfl, hp2, hf2⟩
        clear h2
        go_wp2
        go_ret
        have hfr := HPA.out.fr HB.out
        exact ⟨hfr.then hf2 hfr.size, .inl ⟨HE.out, rfl, hp2⟩⟩
      · have h60' : decide ((st.length : Int) ≥ 60) = false := by simp; omega
        have HE : Hid (o = some (st.length, st ++ [s])) := by
          show _ = _
          rw [HO.out]; unfold placeM; rw [HIX.out]; simp [h60]
        have HOW : Hid (wr.ownsRow c.base 43 1 (.slice ad st.length cap) st.length vs) := hown
        have HSS : Hid (SetsS (Im X wr P) wr vs st) := hss
        have HNP : Hid ((Value.slice ad st.length cap).ownBlock ≠ some P) := hnP
        have HLT : Hid (st.length < 60) := by show _ < _; omega
        clear hown hss hix h60 hnP HD hB
        have HC3 : Hid ((wr.alloc (.cells #[.slice va s.length vc] 43)).cell? ⟨P, 3, none⟩ = some (.slice ad st.length cap)) := ((below_alloc wr (.cells #[.slice va s.length vc] 43)).cell (p := ⟨P, 3, none⟩) hPl).trans c3
        have HF3 : Hid ((wr.alloc (.cells #[.slice va s.length vc] 43)).frozen? ⟨P, 3, none⟩ = false) := (World.frozen?_of_block (a := ⟨P, 3, none⟩) ((below_alloc wr (.cells #[.slice va s.length vc] 43)).block P hPl)).trans f3
        have HOW4 : Hid ((wr.alloc (.cells #[.slice va s.length vc] 43)).ownsRow c.base 43 1 (.slice ad st.length cap) st.length vs) := HOW.out.alloc _
        have HN4 : Hid ((wr.alloc (.cells #[.slice va s.length vc] 43)).heap[wr.heap.size]? = some (.cells #[.slice va s.length vc] 43 (0, 0))) := heap_new' _ _
        have hbs : c.base ≤ wr.heap.size := by omega
        go_wp2_with (at_builtin; go_must (refine wpList_append_lies _ rfl (.tmp 43) (.tmp 45) 24 rfl c.base 43 i0 (.slice none 0 0) 1 24 Tryz.underlying24 hi0 hz0 hz1 hz2 rfl (by decide) _ _ _ rfl HOW4.out ⟨wr.heap.size, 0, none⟩ 1 1 [.slice va s.length vc] rfl rfl (World.news_of_block HN4.out) (by simp [Value.oneCell']) (by omega) (by unfold maxLen; omega) (by omega) (by simp; omega) _ rfl ?_); intro g cap2 w2 hown2 hgrow2 hat2 hlt2; refine Hid.out ?_)
        refine Lib.hid ?_
        have c32 : w2.cell? ⟨P, 3, none⟩ = some (.slice ad st.length cap) := hgrow2.cell HC3.out (Ne.symm HNP.out)
        have f32 : w2.frozen? ⟨P, 3, none⟩ = false := (World.frozen?_of_block (a := ⟨P, 3, none⟩) (hgrow2.block P (by simp; omega) (Ne.symm HNP.out))).trans HF3.out
        have hsz2 := hgrow2.size
        rw [show (wr.alloc (.cells #[.slice va s.length vc] 43)).heap.size = wr.heap.size + 1 by simp] at hat2 hsz2
        have HFIN : Hid (Pa c X P (w2.setCell ⟨P, 3, none⟩ (.slice (some ⟨g, 0, none⟩) (st.length + 1) cap2)) ts (st ++ [s]) 0 ∧ Fr wr.heap.size P wr (w2.setCell ⟨P, 3, none⟩ (.slice (some ⟨g, 0, none⟩) (st.length + 1) cap2))) :=
          HP1.out.placed c3 HSS.out HLT.out HV1.out HS.out (by omega) hown2 (fun k hk hne => (hgrow2.block k (by simp; omega) (Ne.symm hne)).trans ((below_alloc wr _).block k hk)) (fun j hj => by
            obtain rfl : g = j := by simpa [Value.ownBlock] using hj
            rcases hat2 with q | q
            · exact .inl q
            · exact .inr (by omega)) hgrow2.os hgrow2.tape hgrow2.output
        have hPl2 : P < w2.heap.size := by omega
        clear hown2 hgrow2 hat2 HC3 HF3 HOW HOW4 HN4 c3 f3
        go_wp2
        go_ret
        have hfr := HPA.out.fr HB.out
        exact ⟨hfr.then HFIN.out.2 hfr.size, .inr ⟨st.length, st ++ [s], HE.out, by go_num, HFIN.out.1⟩⟩

theorem rsigned_any (n : Nd) (z : Value) (hz : ∃ a l c, z = .slice a l c) (w : World) : Calls Tryz.prog 68 #[ndV n z] w fun e w' => e = .returned (.bool (signK n.k)) ∧ Below w.heap.size w w' := by
  obtain ⟨za, zl, zc, rfl⟩ := hz
  unfold ndV
  have HB : Hid (Below w.heap.size w (w.alloc (.cells #[.int .i64 n.k, .int .i64 n.s, .slice za zl zc] 39))) := below_alloc _ _
  cases h3 : (n.k == 3) with
  | true =>
    have HE : Hid (signK n.k = true) := by show _ = _; simp [signK, h3]
    obtain ⟨b, hb⟩ : ∃ b, b = signK n.k := ⟨_, rfl⟩
    rw [← hb] at HE ⊢
    clear hb
    go_enter Tryz.func68, Tryz.ntmps68
    go_wp2
    go_ret
    exact ⟨by rw [HE.out]; rfl, HB.out⟩
  | false =>
    cases h4 : (n.k == 4) with
    | true =>
      have HE : Hid (signK n.k = true) := by show _ = _; simp [signK, h4]
      obtain ⟨b, hb⟩ : ∃ b, b = signK n.k := ⟨_, rfl⟩
      rw [← hb] at HE ⊢
      clear hb
      go_enter Tryz.func68, Tryz.ntmps68
      go_wp2
      go_ret
      exact ⟨by rw [HE.out]; rfl, HB.out⟩
    | false =>
      have HE : Hid (signK n.k = (n.k == 5)) := by show _ = _; simp [signK, h3, h4]
      obtain ⟨b, hb⟩ : ∃ b, b = signK n.k := ⟨_, rfl⟩
      rw [← hb] at HE ⊢
      clear hb
      go_enter Tryz.func68, Tryz.ntmps68
      go_wp2
      go_ret
      exact ⟨by rw [HE.out]; rfl, HB.out⟩

set_option maxRecDepth 100000 in
set_option maxHeartbeats 4000000 in
theorem rends_any (Q : Nat → Prop) (c : Nat) (hc3 : c ≤ 3) (n : Nd) (z : Value) (w : World) (hq : ∀ k, Q k → k < w.heap.size) (hz : KdX Q w z n.kids) (hc : Chain c n) :
    Calls Tryz.prog 152 #[ndV n z] w fun e w' => e = .returned (.int .i64 (c : Int)) ∧ Below w.heap.size w w' := by
  obtain ⟨za, zc, rfl, _⟩ := hz.slice
  unfold ndV
  have HB0 : Hid (Below w.heap.size w (w.alloc (.cells #[.int .i64 n.k, .int .i64 n.s, .slice za n.kids.length zc] 39))) := below_alloc _ _
  have HE0 : Hid ((w.alloc (.cells #[.int .i64 n.k, .int .i64 n.s, .slice za n.kids.length zc] 39)).heap[w.heap.size]? = some (.cells #[.int .i64 n.k, .int .i64 n.s, .slice za n.kids.length zc] 39 (0, 0))) := heap_new' _ _
  have HZ : Hid (KdX Q w (.slice za n.kids.length zc) n.kids) := hz
  have HQ : Hid (∀ k, Q k → k < w.heap.size) := hq
  have HC : Hid (Chain c n) := hc
  clear hz hq hc
  go_enter Tryz.func152, Tryz.ntmps152
  go_wp2
  go_loopw [3] (fun x wr => ∃ (j : Nat) (m : Nd) (a : Option Addr) (cp : Nat), j ≤ c ∧ x = .int .i64 (j : Int) ∧ Hid (Chain (c - j) m) ∧ wr.heap[w.heap.size]? = some (.cells #[.int .i64 m.k, .int .i64 m.s, .slice a m.kids.length cp] 39 (0, 0)) ∧ Hid (KdX Q w (.slice a m.kids.length cp) m.kids) ∧ Below w.heap.size w wr) (fun x _ => 4 - (intOf x).toNat)
  case atStart => exact ⟨0, n, za, zc, Nat.zero_le _, rfl, HC, HE0.out, HZ, HB0.out⟩
  case round =>
    obtain ⟨j, m, a, cp, hj, rfl, HCm, hE, HZm, hB⟩ := hrel
    have hlt : w.heap.size < wr.heap.size := (Array.getElem?_eq_some_iff.1 hE).1
    have d0 : wr.cell? ⟨w.heap.size, 0, none⟩ = some (.int .i64 m.k) := cell_of_row _ _ 0 _ _ _ hE
    have d1 : wr.cell? ⟨w.heap.size, 1, none⟩ = some (.int .i64 m.s) := cell_of_row _ _ 1 _ _ _ hE
    have d2 : wr.cell? ⟨w.heap.size, 2, none⟩ = some (.slice a m.kids.length cp) := cell_of_row _ _ 2 _ _ _ hE
    have h1 := rsigned_any m (.slice a m.kids.length cp) ⟨_, _, _, rfl⟩ wr
    unfold ndV at h1
    have HE : Hid (wr.heap[w.heap.size]? = some (.cells #[.int .i64 m.k, .int .i64 m.s, .slice a m.kids.length cp] 39 (0, 0))) := hE
    clear hE
    by_cases hjc : j = c
    · have hsk : signK m.k = false := by have := HCm.out; rw [hjc, Nat.sub_self] at this; exact this
      rw [hsk] at h1
      have HJ : Hid (j = c) := hjc
      clear hjc hsk
      go_wp2_with fail
      refine h1.mono ?_
      rintro e w1 ⟨rfl, hB1⟩
      clear h1
      go_wp2
      go_ret
      exact ⟨by rw [HJ.out]; rfl, below_after hB hB1⟩
    · obtain ⟨e, he⟩ : ∃ e, c - j = e + 1 := ⟨c - j - 1, by omega⟩
      have hch := HCm.out
      rw [he] at hch
      obtain ⟨hsk, x, hx, hcx⟩ := hch
      have HCX : Hid (Chain (c - (j + 1)) x) := by rw [show c - (j + 1) = e by omega]; exact hcx
      rw [hsk] at h1
      have hzz := HZm.out
      rw [hx] at hzz d2 h1
      obtain ⟨g, off, cap, z', e1, e2, e3, e4, e5, e6, e7⟩ := hzz.at 0 (by simp)
      simp only [List.getElem_cons_zero, Nat.zero_mul, Nat.add_zero] at e4 e5 e6 e7
      obtain ⟨rfl, _, rfl⟩ : a = some ⟨g, off, none⟩ ∧ [x].length = [x].length ∧ cp = cap := by simpa using e1
      obtain ⟨xa, xc, rfl, _⟩ := e7.slice
      have hgl := HQ.out g e3
      have hgne : g ≠ w.heap.size := by omega
      have HE7 : Hid (KdX Q w (.slice xa x.kids.length xc) x.kids) := e7
      have hHE := HE.out
      rw [hx] at hHE
      simp only [List.length_cons, List.length_nil, Nat.zero_add] at d2 h1 hHE
      have HE2 : Hid (wr.heap[w.heap.size]? = some (.cells #[.int .i64 m.k, .int .i64 m.s, .slice (some ⟨g, off, none⟩) 1 cp] 39 (0, 0))) := hHE
      have hcp : 1 ≤ cp := by simpa using e2
      clear hzz e1 e7 hcx hsk he hx HCm HZm HE hHE
      go_wp2_with fail
      refine h1.mono ?_
      rintro e w1 ⟨rfl, hB1⟩
      have hB01 := below_after hB hB1
      have hE1 := (hB1.block w.heap.size hlt).trans HE2.out
      have hlt1 : w.heap.size < w1.heap.size := Nat.lt_of_lt_of_le hlt hB1.size
      have e4' : w1.cell? ⟨g, off, none⟩ = some (.int .i64 x.k) := (hB01.cell (p := ⟨g, _, none⟩) hgl).trans e4
      have e5' : w1.cell? ⟨g, off + 1, none⟩ = some (.int .i64 x.s) := (hB01.cell (p := ⟨g, _, none⟩) hgl).trans e5
      have e6' : w1.cell? ⟨g, off + 2, none⟩ = some (.slice xa x.kids.length xc) := (hB01.cell (p := ⟨g, _, none⟩) hgl).trans e6
      clear d0 d1 d2
      have d0 : w1.cell? ⟨w.heap.size, 0, none⟩ = some (.int .i64 m.k) := cell_of_row _ _ 0 _ _ _ hE1
      have f0 : w1.frozen? ⟨w.heap.size, 0, none⟩ = false := frozen_of_row _ _ 0 _ _ hE1
      have d1 : w1.cell? ⟨w.heap.size, 1, none⟩ = some (.int .i64 m.s) := cell_of_row _ _ 1 _ _ _ hE1
      have f1 : w1.frozen? ⟨w.heap.size, 1, none⟩ = false := frozen_of_row _ _ 1 _ _ hE1
      have d2 : w1.cell? ⟨w.heap.size, 2, none⟩ = some (.slice (some ⟨g, off, none⟩) 1 cp) := cell_of_row _ _ 2 _ _ _ hE1
      have f2 : w1.frozen? ⟨w.heap.size, 2, none⟩ = false := frozen_of_row _ _ 2 _ _ hE1
      have HE1 : Hid (w1.heap[w.heap.size]? = some (.cells #[.int .i64 m.k, .int .i64 m.s, .slice (some ⟨g, off, none⟩) 1 cp] 39 (0, 0))) := hE1
      have HB01 : Hid (Below w.heap.size w w1) := hB01
      clear h1 hE1 hB1 hB01 e4 e5 e6
      go_wp2
      go_roundw
      case rel =>
        refine ⟨j + 1, x, xa, xc, by omega, by go_num, HCX, ?_, HE7, ?_⟩
        · exact heap_set (heap_set (heap_set HE1.out _) _) _
        · exact ((HB01.out.setCell (by simp) _).setCell (by simp) _).setCell (by simp) _
      case measure => simp [intOf]; omega
end Go.Proofs.YtfdjchnckjgapaaGreatDoor
