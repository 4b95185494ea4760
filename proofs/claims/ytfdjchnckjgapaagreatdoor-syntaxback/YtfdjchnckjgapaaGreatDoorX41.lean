/-
  What term and sum of the document's reader answer. Sets of a program, each as a slice that may be appended. What areSets answers.
-/
import Derived.Test.YtfdjchnckjgapaaGreatDoorX40
import Derived.Test.YtfdjchnckjgapaaGreatDoorX31
import Derived.Test.YtfdjchnckjgapaaGreatDoorX33
import Derived.Test.YtfdjchnckjgapaaGreatDoorX34
import Derived.Test.YtfdjchnckjgapaaGreatDoorX35
import Derived.Test.YtfdjchnckjgapaaGreatDoorX11
import Derived.Test.YtfdjchnckjgapaaGreatDoorX30
namespace Go.Proofs.YtfdjchnckjgapaaGreatDoor
open Go.RowKit Go.Shelf S1
set_option linter.unusedVariables false

theorem RngS.src {Q : Nat → Prop} {w : World} {v : Value} {l : List Rg} (h : RngS Q w v l) (hq : ∀ k, Q k → k < w.heap.size) : RngSrc w v l := by
  refine ⟨h.rng hq, ?_⟩
  obtain ⟨a, cap, rfl, hc, hn, hi⟩ := h
  match a, hn, hi with
  | none, hn, hi =>
    have h0 : l = [] := by
      match l, hi with
      | [], _ => rfl
      | r :: t, hi => obtain ⟨g, off, e, _⟩ := hi 0 (by simp); cases e
    subst h0
    obtain rfl := hn rfl
    exact .inl ⟨rfl, rfl, rfl⟩
  | some ad, hn, hi =>
    refine .inr ⟨ad, cap, rfl, by rw [cellsRs_length], fun j u hj => ?_, cellsRs_one l⟩
    have hlt : j < l.length * 2 := by rw [← cellsRs_length]; exact (List.getElem?_eq_some_iff.1 hj).1
    have hi2 : j / 2 < l.length := by omega
    obtain ⟨g, off, e, _, h0, h1⟩ := hi (j / 2) hi2
    injection e with e
    subst e
    have hadd : (⟨g, off, none⟩ : Addr).add j = ⟨g, off + j, none⟩ := addr_add g off j
    rw [hadd]
    rcases Nat.mod_two_eq_zero_or_one j with q | q
    · have ej : j = j / 2 * 2 + 0 := by omega
      rw [ej, cellsRs_at l (j / 2) 0 hi2 (by omega)] at hj
      have : u = .int .i64 l[j / 2].lo := by simpa [cellsR] using hj.symm
      rw [this, show off + j = off + j / 2 * 2 by omega]; exact h0
    · have ej : j = j / 2 * 2 + 1 := by omega
      rw [ej, cellsRs_at l (j / 2) 1 hi2 (by omega)] at hj
      have : u = .int .i64 l[j / 2].hi := by simpa [cellsR] using hj.symm
      rw [this, show off + j = off + j / 2 * 2 + 1 by omega]; exact h1
/-- The tokens' sets, and what names tell, have these edges. -/
def GT (E : List Int) (ts : List Tok) : Prop := ∀ t ∈ ts, GS E t.s
def GN (E : List Int) (N : Nms) : Prop := ∀ x s, N x = some s → GS E s
theorem GT.left {E : List Int} {ts r : List Tok} (h : GT E ts) (hl : Left ts r) : GT E r := fun t ht => h t (hl.2.2 t ht)
theorem setM_gs {E : List Int} {N : Nms} {t : Tok} {s : List Rg} (ht : GS E t.s) (hN : GN E N) (h : setM N t = .inr s) : GS E s := by
  unfold setM at h
  split at h
  · cases h; exact ht
  · split at h
    · cases h; exact GS.all E
    · split at h
      · split at h
        · rename_i s' he; cases h; exact hN _ _ he
        · cases h
      · cases h
/-- What the document's reader tells of a set. -/
def RQA (c : Pc) (X : Nat → Prop) (P : Nat) (E : List Int) (st : Sts) (q : QR) (w : World) (e : Ending) (w' : World) : Prop :=
  ∃ v s r x, e = .returned v ∧ GS E s ∧ RngS (Im X w' P) w' v s ∧ Pa c X P w' r st x ∧ Fr w.heap.size P w w' ∧ ((x ≠ 0 ∧ q = .inl (r, ((x : Nat) : Int))) ∨ (x = 0 ∧ q = .inr (s, r)))
def RTermC (b : Nat) : Prop := ∀ (c : Pc) (X : Nat → Prop) (P : Nat) (w : World) (ts : List Tok) (st : Sts) (dp : Nat) (E : List Int), dp + b = 20 → E.length ≤ 10000 → GT E ts → GN E c.N → Pa c X P w ts st 0 → Calls Tryz.prog 89 #[.pointer (some ⟨P, 0, none⟩), .int .i64 (dp : Int)] w fun e w' => RQA c X P E st (termM c.N b ts) w e w'
def RSumC (b : Nat) : Prop := ∀ (c : Pc) (X : Nat → Prop) (P : Nat) (w : World) (ts : List Tok) (st : Sts) (dp : Nat) (E : List Int), dp + b = 20 → E.length ≤ 10000 → GT E ts → GN E c.N → Pa c X P w ts st 0 → Calls Tryz.prog 49 #[.pointer (some ⟨P, 0, none⟩), .int .i64 (dp : Int)] w fun e w' => RQA c X P E st (sumM c.N b ts) w e w'
/-- The document's joining of sets. -/
def JoinR (E : List Int) (g : Nat) (op : List Rg → List Rg → List Rg) : Prop := ∀ (a b : List Rg) (va vb : Value) (w : World), GS E a → GS E b → RngSrc w va a → RngSrc w vb b → Calls Tryz.prog g #[va, vb] w fun e w' => ∃ v, e = .returned v ∧ GS E (op a b) ∧ w'.ownsRow w.heap.size 94 2 v (op a b).length (cellsRs (op a b)) ∧ Below w.heap.size w w'
theorem joinROr {E : List Int} (hE : E.length ≤ 10000) : JoinR E 90 orS := fun a b va vb w ha hb hva hvb => (refOr_any a b ha.1 hb.1 (by have := stb_len ha.1 ha.2; omega) (by have := stb_len hb.1 hb.2; omega) va vb w hva hvb).mono (by
  rintro e w' ⟨l, v, rfl, hu, ho, hB⟩
  obtain rfl : l = orS a b := hu.unique (pickS_upto _ ha.1 hb.1)
  exact ⟨v, rfl, stb_pick ha hb, ho, hB⟩)
theorem joinRLess {E : List Int} (hE : E.length ≤ 10000) : JoinR E 91 lessS := fun a b va vb w ha hb hva hvb => (refLess_any a b ha.1 hb.1 (by have := stb_len ha.1 ha.2; omega) (by have := stb_len hb.1 hb.2; omega) va vb w hva hvb).mono (by
  rintro e w' ⟨l, v, rfl, hu, ho, hB⟩
  obtain rfl : l = lessS a b := hu.unique (pickS_upto _ ha.1 hb.1)
  exact ⟨v, rfl, stb_pick ha hb, ho, hB⟩)
theorem joinRAnd {E : List Int} (hE : E.length ≤ 10000) : JoinR E 92 andS := fun a b va vb w ha hb hva hvb => (refAnd_any a b ha.1 hb.1 (by have := stb_len ha.1 ha.2; omega) (by have := stb_len hb.1 hb.2; omega) va vb w hva hvb).mono (by
  rintro e w' ⟨l, v, rfl, hu, ho, hB⟩
  obtain rfl : l = andS a b := hu.unique (pickS_upto _ ha.1 hb.1)
  exact ⟨v, rfl, stb_pick ha hb, ho, hB⟩)
theorem sign_other {x y : Int} {t : Tok} (h : tkSign x t = true) (hne : x ≠ y) : tkSign y t = false := by
  obtain ⟨h1, h2⟩ := sign_k h
  unfold tkSign
  rw [h1, h2]
  simp [hne]
theorem Pa.adv {c : Pc} {X : Nat → Prop} {P : Nat} {w : World} {t : Tok} {r : List Tok} {st : Sts} {d : Nat} (h : Pa c X P w (t :: r) st d) (hk : t.k ≠ 4) : ∃ k : Nat, k ≤ 70000 ∧ w.cell? ⟨P, 1, none⟩ = some (.int .i64 (k : Int)) ∧ w.frozen? ⟨P, 1, none⟩ = false ∧ Pa c X P (w.setCell ⟨P, 1, none⟩ (.int .i64 ((k : Int) + 1))) r st d := by
  obtain ⟨k, v, hk1, hn, hc, c0, c1, f1, hg, t0, t1, t2, t3, hr, _, _, _, hnx⟩ := h.next
  exact ⟨k, by omega, c1, f1, hnx hk⟩

set_option maxRecDepth 100000 in
set_option maxHeartbeats 16000000 in
theorem rsum_of (b : Nat) (ht : RTermC b) : RSumC b := fun c X P w ts st dp E hdb hE hgt hgn hpa => by
  have h1 := ht c X P w ts st dp E hdb hE hgt hgn hpa
  obtain ⟨q, hq⟩ : ∃ q, q = sumM c.N b ts := ⟨_, rfl⟩
  rw [← hq]
  have HQ : Hid (q = sumG (termM c.N b) ts) := hq
  have HT : Hid (RTermC b) := ht
  have HGT : Hid (GT E ts) := hgt
  have HGN : Hid (GN E c.N) := hgn
  have hdp : (dp : Int) ≤ 20 := by omega
  clear hq hpa ht hgt hgn
  go_enter Tryz.func49, Tryz.ntmps49
  go_wp2_with fail
  refine h1.mono ?_
  rintro e w1 ⟨v, s, r, x, rfl, hs, hr, hp, hf, hx⟩
  have HX : Hid ((x ≠ 0 ∧ q = .inl (r, ((x : Nat) : Int))) ∨ (x = 0 ∧ ∃ k, r.length < k ∧ sumF (termM c.N b) k s r = q)) := by
    rcases hx with ⟨e1, e2⟩ | ⟨e1, e2⟩
    · refine .inl ⟨e1, ?_⟩
      rw [HQ.out]; unfold sumG; rw [e2]
    · refine .inr ⟨e1, r.length + 1, by omega, ?_⟩
      rw [HQ.out]; unfold sumG; rw [e2]
  have HGR : Hid (GT E r) := by
    have hL := termM_left c.N b ts
    rcases hx with ⟨e1, e2⟩ | ⟨e1, e2⟩
    · rw [e2] at hL; exact HGT.out.left hL
    · rw [e2] at hL; exact HGT.out.left (LeftS.left hL)
  obtain ⟨va, vc, rfl⟩ := hr.slice
  have HR : Hid (RngS (Im X w1 P) w1 (.slice va s.length vc) s) := hr
  clear h1 hx hr
  go_wp2
  go_loopw [5] (fun v wr => ∃ (a : Option Addr) (cp : Nat) (x : Nat) (s : List Rg) (r : List Tok), v = .slice a s.length cp ∧ GS E s ∧ RngS (Im X wr P) wr (.slice a s.length cp) s ∧ Pa c X P wr r st x ∧ Fr w.heap.size P w wr ∧ Hid (GT E r) ∧ Hid ((x ≠ 0 ∧ q = .inl (r, ((x : Nat) : Int))) ∨ (x = 0 ∧ ∃ k, r.length < k ∧ sumF (termM c.N b) k s r = q))) (fun _ wr => leftP c.n wr P)
  case atStart => exact ⟨va, vc, x, s, r, rfl, hs, HR.out, hp, hf, HGR, HX⟩
  case round =>
    obtain ⟨a, cp, x, s, r, rfl, hs, hr, hp, hf, HGR, hx⟩ := hrel
    have hl0 := hp.left
    have hPl := hp.lt
    obtain ⟨c5, _, _⟩ := hp.dep
    have HS : Hid (GS E s) := hs
    have HR : Hid (RngS (Im X wr P) wr (.slice a s.length cp) s) := hr
    have HF : Hid (Fr w.heap.size P w wr) := hf
    clear hs hr hf
    rcases hx.out with ⟨hx0, hxq⟩ | ⟨rfl, k, hk, hkq⟩
    · have hx' : ((x : Int) == 0) = false := by simp; omega
      have HE : Hid (x ≠ 0 ∧ q = .inl (r, ((x : Nat) : Int))) := ⟨hx0, hxq⟩
      clear hx0 hxq hx
      go_wp2
      go_ret
      exact ⟨_, s, r, x, rfl, HS.out, HR.out, hp, HF.out, .inl HE.out⟩
    · obtain ⟨t, r, rfl⟩ := hp.ends.cons
      obtain ⟨k, rfl⟩ : ∃ m, k = m + 1 := ⟨k - 1, by omega⟩
      have HKQ : Hid (sumF (termM c.N b) (k + 1) s (t :: r) = q) := hkq
      have HK : Hid ((t :: r).length < k + 1) := hk
      have HPR : Hid (Pa c X P wr (t :: r) st 0) := hp
      clear hx hkq hk hp
      have h2 : Calls Tryz.prog 88 #[.pointer (some ⟨P, 0, none⟩), .string ⟨#[43]⟩] wr fun e w' => AnsB wr (decide (0 = 0) && tkSign 43 t) e w' := ris_any c X P wr t r st 0 HPR.out 43 (by decide)
      simp only [decide_true, Bool.true_and] at h2
      go_wp2_with fail
      refine h2.mono ?_
      rintro e w2 ⟨rfl, hB2⟩
      clear h2
      have hp2 := HPR.out.below hB2
      have h3 : Calls Tryz.prog 88 #[.pointer (some ⟨P, 0, none⟩), .string ⟨#[45]⟩] w2 fun e w' => AnsB w2 (decide (0 = 0) && tkSign 45 t) e w' := ris_any c X P w2 t r st 0 hp2 45 (by decide)
      simp only [decide_true, Bool.true_and] at h3
      go_wp2_with fail
      refine h3.mono ?_
      rintro e w3 ⟨rfl, hB3⟩
      clear h3
      have hB23 := below_after hB2 hB3
      have hp3 := HPR.out.below hB23
      have h4 : Calls Tryz.prog 88 #[.pointer (some ⟨P, 0, none⟩), .string ⟨#[38]⟩] w3 fun e w' => AnsB w3 (decide (0 = 0) && tkSign 38 t) e w' := ris_any c X P w3 t r st 0 hp3 38 (by decide)
      simp only [decide_true, Bool.true_and] at h4
      go_wp2_with fail
      refine h4.mono ?_
      rintro e w4 ⟨rfl, hB4⟩
      clear h4
      have hB24 := below_after hB23 hB4
      have hp4 := HPR.out.below hB24
      have HF4 : Hid (Fr w.heap.size P w w4) := HF.out.then (HPR.out.fr hB24) HF.out.size
      have HR4 : Hid (RngS (Im X w4 P) w4 (.slice a s.length cp) s) := HR.out.fr (HPR.out.fr hB24)
      have HP4 : Hid (Pa c X P w4 (t :: r) st 0) := hp4
      have hPl4 := hp4.lt
      clear hB2 hB3 hB23 hB4 hB24 hp2 hp3 hp4 HF HR HPR c5
      have STEP : Hid (∀ op, opOf t = some op → ∀ (w5 : World) (v5 : Value) (s5 : List Rg) (r5 : List Tok) (x5 : Nat), ((x5 ≠ 0 ∧ termM c.N b r = .inl (r5, ((x5 : Nat) : Int))) ∨ (x5 = 0 ∧ termM c.N b r = .inr (s5, r5))) → r5.length ≤ r.length ∧ GT E r5 ∧ ((x5 ≠ 0 ∧ q = .inl (r5, ((x5 : Nat) : Int))) ∨ (x5 = 0 ∧ ∃ k, r5.length < k ∧ sumF (termM c.N b) k (op s s5) r5 = q))) := fun op ho w5 v5 s5 r5 x5 hx5 => by
        have hL := termM_left c.N b r
        have e0 := HKQ.out
        unfold sumF at e0
        simp only [hdT, ho, List.tail_cons] at e0
        have hkk := HK.out
        simp at hkk
        have hgr : GT E r := fun y hy => HGR.out y (by simp [hy])
        rcases hx5 with ⟨q1, q2⟩ | ⟨q1, q2⟩
        · rw [q2] at hL e0
          exact ⟨hL.1, hgr.left hL, .inl ⟨q1, e0.symm⟩⟩
        · rw [q2] at hL e0
          exact ⟨Nat.le_of_lt hL.1, hgr.left (LeftS.left hL), .inr ⟨q1, k, by have := hL.1; omega, e0⟩⟩
      cases s43 : tkSign 43 t with
      | true =>
        have s45 : tkSign 45 t = false := sign_other s43 (by decide)
        have s38 : tkSign 38 t = false := sign_other s43 (by decide)
        have HO : Hid (opOf t = some orS) := by
          show _ = _
          simp [opOf, s43]
        obtain ⟨kk, hkk, c1, f1, hp5⟩ := HP4.out.adv (sign_end s43)
        have hf5 : Fr w4.heap.size P w4 (w4.setCell ⟨P, 1, none⟩ (.int .i64 ((kk : Int) + 1))) := fr_own w4 1 (by decide) _
        have h5 := HT.out c X P _ r st dp E hdb hE (fun y hy => HGR.out y (by simp [hy])) HGN.out hp5
        have HF5 : Hid (Fr w.heap.size P w (w4.setCell ⟨P, 1, none⟩ (.int .i64 ((kk : Int) + 1)))) := HF4.out.then hf5 HF4.out.size
        have HR5 : Hid (RngS (Im X (w4.setCell ⟨P, 1, none⟩ (.int .i64 ((kk : Int) + 1))) P) (w4.setCell ⟨P, 1, none⟩ (.int .i64 ((kk : Int) + 1))) (.slice a s.length cp) s) := HR4.out.fr hf5
        clear hf5 hp5
        go_wp2_with fail
        refine h5.mono ?_
        rintro e w6 ⟨v6, s6, r6, x6, rfl, hs6, hr6, hp6, hf6, hx6⟩
        have hst := STEP.out _ HO.out w6 v6 s6 r6 x6 hx6
        have hF6 := HF5.out.then hf6 HF5.out.size
        have h7 := joinROr hE s s6 (.slice a s.length cp) v6 w6 HS.out hs6 ((HR5.out.fr hf6).src (fun k hk => hk.1)) (hr6.src (fun k hk => hk.1))
        obtain ⟨a6, c6, rfl⟩ := hr6.slice
        have HST : Hid (r6.length ≤ r.length ∧ GT E r6 ∧ ((x6 ≠ 0 ∧ q = .inl (r6, ((x6 : Nat) : Int))) ∨ (x6 = 0 ∧ ∃ k, r6.length < k ∧ sumF (termM c.N b) k (orS s s6) r6 = q))) := hst
        have HF6 : Hid (Fr w.heap.size P w w6) := hF6
        clear h5 hs6 hr6 hf6 hx6 hst hF6 c1 f1
        go_wp2_with fail
        refine h7.mono ?_
        rintro e w7 ⟨v7, rfl, hs7, ho7, hB7⟩
        have hr7 := hp6.rngS hB7 ho7
        have hp7 := hp6.below hB7
        have hf7 := HF6.out.then (hp6.fr hB7) HF6.out.size
        obtain ⟨a7, c7, rfl⟩ := hr7.slice
        clear h7 ho7
        go_wp2
        go_roundw
        case rel => exact ⟨a7, c7, x6, orS s s6, r6, rfl, hs7, hr7, hp7, hf7, HST.out.2.1, HST.out.2.2⟩
        case measure => rw [hp7.left, hl0]; have := HST.out.1; simp; omega
      | false =>
        cases s45 : tkSign 45 t with
        | true =>
          have s38 : tkSign 38 t = false := sign_other s45 (by decide)
          have HO : Hid (opOf t = some lessS) := by
            show _ = _
            simp [opOf, s43, s45]
          obtain ⟨kk, hkk, c1, f1, hp5⟩ := HP4.out.adv (sign_end s45)
          have hf5 : Fr w4.heap.size P w4 (w4.setCell ⟨P, 1, none⟩ (.int .i64 ((kk : Int) + 1))) := fr_own w4 1 (by decide) _
          have h5 := HT.out c X P _ r st dp E hdb hE (fun y hy => HGR.out y (by simp [hy])) HGN.out hp5
          have HF5 : Hid (Fr w.heap.size P w (w4.setCell ⟨P, 1, none⟩ (.int .i64 ((kk : Int) + 1)))) := HF4.out.then hf5 HF4.out.size
          have HR5 : Hid (RngS (Im X (w4.setCell ⟨P, 1, none⟩ (.int .i64 ((kk : Int) + 1))) P) (w4.setCell ⟨P, 1, none⟩ (.int .i64 ((kk : Int) + 1))) (.slice a s.length cp) s) := HR4.out.fr hf5
          clear hf5 hp5
          go_wp2_with fail
          refine h5.mono ?_
          rintro e w6 ⟨v6, s6, r6, x6, rfl, hs6, hr6, hp6, hf6, hx6⟩
          have hst := STEP.out _ HO.out w6 v6 s6 r6 x6 hx6
          have hF6 := HF5.out.then hf6 HF5.out.size
          have h7 := joinRLess hE s s6 (.slice a s.length cp) v6 w6 HS.out hs6 ((HR5.out.fr hf6).src (fun k hk => hk.1)) (hr6.src (fun k hk => hk.1))
          obtain ⟨a6, c6, rfl⟩ := hr6.slice
          have HST : Hid (r6.length ≤ r.length ∧ GT E r6 ∧ ((x6 ≠ 0 ∧ q = .inl (r6, ((x6 : Nat) : Int))) ∨ (x6 = 0 ∧ ∃ k, r6.length < k ∧ sumF (termM c.N b) k (lessS s s6) r6 = q))) := hst
          have HF6 : Hid (Fr w.heap.size P w w6) := hF6
          clear h5 hs6 hr6 hf6 hx6 hst hF6 c1 f1
          go_wp2_with fail
          refine h7.mono ?_
          rintro e w7 ⟨v7, rfl, hs7, ho7, hB7⟩
          have hr7 := hp6.rngS hB7 ho7
          have hp7 := hp6.below hB7
          have hf7 := HF6.out.then (hp6.fr hB7) HF6.out.size
          obtain ⟨a7, c7, rfl⟩ := hr7.slice
          clear h7 ho7
          go_wp2
          go_roundw
          case rel => exact ⟨a7, c7, x6, lessS s s6, r6, rfl, hs7, hr7, hp7, hf7, HST.out.2.1, HST.out.2.2⟩
          case measure => rw [hp7.left, hl0]; have := HST.out.1; simp; omega
        | false =>
          cases s38 : tkSign 38 t with
          | true =>
            have HO : Hid (opOf t = some andS) := by
              show _ = _
              simp [opOf, s43, s45, s38]
            obtain ⟨kk, hkk, c1, f1, hp5⟩ := HP4.out.adv (sign_end s38)
            have hf5 : Fr w4.heap.size P w4 (w4.setCell ⟨P, 1, none⟩ (.int .i64 ((kk : Int) + 1))) := fr_own w4 1 (by decide) _
            have h5 := HT.out c X P _ r st dp E hdb hE (fun y hy => HGR.out y (by simp [hy])) HGN.out hp5
            have HF5 : Hid (Fr w.heap.size P w (w4.setCell ⟨P, 1, none⟩ (.int .i64 ((kk : Int) + 1)))) := HF4.out.then hf5 HF4.out.size
            have HR5 : Hid (RngS (Im X (w4.setCell ⟨P, 1, none⟩ (.int .i64 ((kk : Int) + 1))) P) (w4.setCell ⟨P, 1, none⟩ (.int .i64 ((kk : Int) + 1))) (.slice a s.length cp) s) := HR4.out.fr hf5
            clear hf5 hp5
            go_wp2_with fail
            refine h5.mono ?_
            rintro e w6 ⟨v6, s6, r6, x6, rfl, hs6, hr6, hp6, hf6, hx6⟩
            have hst := STEP.out _ HO.out w6 v6 s6 r6 x6 hx6
            have hF6 := HF5.out.then hf6 HF5.out.size
            have h7 := joinRAnd hE s s6 (.slice a s.length cp) v6 w6 HS.out hs6 ((HR5.out.fr hf6).src (fun k hk => hk.1)) (hr6.src (fun k hk => hk.1))
            obtain ⟨a6, c6, rfl⟩ := hr6.slice
            have HST : Hid (r6.length ≤ r.length ∧ GT E r6 ∧ ((x6 ≠ 0 ∧ q = .inl (r6, ((x6 : Nat) : Int))) ∨ (x6 = 0 ∧ ∃ k, r6.length < k ∧ sumF (termM c.N b) k (andS s s6) r6 = q))) := hst
            have HF6 : Hid (Fr w.heap.size P w w6) := hF6
            clear h5 hs6 hr6 hf6 hx6 hst hF6 c1 f1
            go_wp2_with fail
            refine h7.mono ?_
            rintro e w7 ⟨v7, rfl, hs7, ho7, hB7⟩
            have hr7 := hp6.rngS hB7 ho7
            have hp7 := hp6.below hB7
            have hf7 := HF6.out.then (hp6.fr hB7) HF6.out.size
            obtain ⟨a7, c7, rfl⟩ := hr7.slice
            clear h7 ho7
            go_wp2
            go_roundw
            case rel => exact ⟨a7, c7, x6, andS s s6, r6, rfl, hs7, hr7, hp7, hf7, HST.out.2.1, HST.out.2.2⟩
            case measure => rw [hp7.left, hl0]; have := HST.out.1; simp; omega
          | false =>
            have HE : Hid (q = .inr (s, t :: r)) := by
              show _ = _
              have ho : opOf t = none := by simp [opOf, s43, s45, s38]
              rw [← HKQ.out]; unfold sumF; simp only [hdT, ho]
            go_wp2
            go_ret
            exact ⟨_, s, t :: r, 0, rfl, HS.out, HR4.out, HP4.out, HF4.out, .inr ⟨rfl, HE.out⟩⟩
end Go.Proofs.YtfdjchnckjgapaaGreatDoor

namespace Go.Proofs.YtfdjchnckjgapaaGreatDoor
open Go.RowKit Go.Shelf S1
set_option linter.unusedVariables false

/-- The slice value sv holds the slices of the sets st. -/
def SetSrc (w : World) (sv : Value) (st : Sts) : Prop :=
  ∃ a cap, sv = .slice a st.length cap ∧ st.length ≤ cap ∧ ∀ i, (h : i < st.length) → ∃ g off x, a = some ⟨g, off, none⟩ ∧ g < w.heap.size ∧ w.cell? ⟨g, off + i, none⟩ = some x ∧ RngSrc w x st[i]
theorem SetSrc.in {w : World} {sv : Value} {st : Sts} (h : SetSrc w sv st) : SetIn w sv st := by
  obtain ⟨a, cap, e, hc, hi⟩ := h
  refine ⟨a, cap, e, hc, fun i hlt => ?_⟩
  obtain ⟨g, off, x, h1, h2, h3, h4⟩ := hi i hlt
  exact ⟨g, off, x, h1, h2, h3, h4.1⟩
theorem SetSrc.below {w w' : World} {v : Value} {st : Sts} (h : SetSrc w v st) (hb : Below w.heap.size w w') : SetSrc w' v st := by
  obtain ⟨a, cap, rfl, hc, hi⟩ := h
  refine ⟨a, cap, rfl, hc, fun i hlt => ?_⟩
  obtain ⟨g, off, x, rfl, hg, h0, h1⟩ := hi i hlt
  exact ⟨g, off, x, rfl, Nat.lt_of_lt_of_le hg hb.size, (hb.cell (p := ⟨g, _, none⟩) hg).trans h0, h1.below hb⟩
theorem PrgAt.src {base : Nat} {w : World} {sv rv : Value} {rs : List RlV} {st : Sts} (h : PrgAt base w sv rv rs st) : SetSrc w sv st := by
  obtain ⟨⟨vs, e6, e6'⟩, _⟩ := h
  have e6'' := e6
  rcases e6.2 with ⟨rfl, h0⟩ | ⟨g, cap, cur, rfl, hb, hg, hc2, hm, hs, ht⟩
  · obtain rfl : st = [] := List.length_eq_zero_iff.1 h0
    exact ⟨none, 0, rfl, by simp, fun i hi => (by cases hi)⟩
  · refine ⟨_, cap, rfl, hc2, fun i hi => ?_⟩
    obtain ⟨x, q1, q2, q3⟩ := e6'.2 i hi
    have := e6''.cells (g := g) rfl i x q1
    rw [add_lit'] at this
    exact ⟨g, 0, x, rfl, (Array.getElem?_eq_some_iff.1 hg).1, this, q2.src (fun k hk => hk)⟩
end Go.Proofs.YtfdjchnckjgapaaGreatDoor

namespace Go.Proofs.YtfdjchnckjgapaaGreatDoor
open Go.RowKit Go.Shelf S1
set_option linter.unusedVariables false

theorem fits_iff {s : List Rg} : (s.all fun r => decide (0 ≤ r.lo ∧ r.lo ≤ r.hi ∧ r.hi < 1114112)) = true ↔ Fits s := by
  simp only [List.all_eq_true, decide_eq_true_eq, Fits]
  constructor
  · intro h r hr; have := h r hr; omega
  · intro h r hr; have := h r hr; omega
theorem isSetB_bad {s : List Rg} (h : ¬ Fits s) : isSetB s = false := by
  unfold isSetB
  cases q : (s.all fun r => decide (0 ≤ r.lo ∧ r.lo ≤ r.hi ∧ r.hi < 1114112)) with
  | false => rfl
  | true => exact absurd (fits_iff.1 q) h
theorem isSetB_fit {s : List Rg} (h : Fits s) : isSetB s = sameS (mkS s) s := by
  unfold isSetB
  rw [fits_iff.2 h, Bool.true_and]
theorem setsF_false {k : Nat} {st : Sts} (h : setsF k st = false) : ∀ n, setsF (k + n) st = false
  | 0 => h
  | n + 1 => by
    show (setsF (k + n) st && _) = false
    rw [setsF_false h n]; rfl
theorem setsF_at {k : Nat} {st : Sts} (hk : k < st.length) (h : setsF k st = true) : setsF (k + 1) st = (isSetB st[k] && !((st.take k).any fun x => sameS x st[k])) := by
  show (setsF k st && _) = _
  rw [h, Bool.true_and, List.getElem?_eq_getElem hk]
theorem setsF_end {k : Nat} {st : Sts} (hk : k < st.length) (h : setsF (k + 1) st = false) : setsF st.length st = false := by
  have := setsF_false h (st.length - (k + 1))
  rw [show k + 1 + (st.length - (k + 1)) = st.length by omega] at this
  exact this
theorem idxS_any {s : List Rg} : ∀ {st : Sts}, (idxS s st).isSome = st.any fun x => sameS x s
  | [] => rfl
  | x :: l => by
    unfold idxS
    simp only [List.any_cons]
    cases h : sameS x s with
    | true => simp
    | false =>
      simp only [Bool.false_eq_true, if_false, Option.isSome_map, Bool.false_or]
      exact idxS_any

theorem areSets1_any (s x : List Rg) (hlen : x.length ≤ 600000) (v xv : Value) (B : Nat) (w : World) (hb : w.cell? ⟨B, 0, none⟩ = some v) (hv : RngIn w v s) (hx : RngIn w xv x) :
    Calls Tryz.prog 62 #[xv, .pointer (some ⟨B, 0, none⟩)] w fun e w' => e = .returned (.bool (sameS x s)) ∧ Below w.heap.size w w' := by
  have h1 := equal_any x s hlen xv v w hx hv
  obtain ⟨va, vc, rfl, _⟩ := hv
  obtain ⟨xa, xc, rfl, _⟩ := hx
  go_enter Tryz.func62, Tryz.ntmps62
  go_wp2_with fail
  refine h1.mono ?_
  rintro e w1 ⟨rfl, hB⟩
  clear h1
  go_wp2
  go_ret
  exact ⟨rfl, hB⟩

set_option maxRecDepth 100000 in
set_option maxHeartbeats 4000000 in
theorem indexA_any (s : List Rg) (st : Sts) (hst : st.length ≤ 100) (v : Value) (B : Nat) (ad : Option Addr) (cap : Nat) (hcap : st.length ≤ cap) (w : World) (hb : w.cell? ⟨B, 0, none⟩ = some v) (hv : RngIn w v s)
    (hs : ∀ i, (h : i < st.length) → ∃ g off x, ad = some ⟨g, off, none⟩ ∧ g < w.heap.size ∧ w.cell? ⟨g, off + i, none⟩ = some x ∧ RngIn w x st[i] ∧ st[i].length ≤ 600000) :
    Calls Tryz.prog 104 #[.slice ad st.length cap, .func (.func 62) #[] #[.pointer (some ⟨B, 0, none⟩)]] w fun e w' => e = .returned (.int .i64 (idxV (idxS s st))) ∧ Below w.heap.size w w' := by
  obtain ⟨o, ho⟩ : ∃ o, o = idxV (idxS s st) := ⟨_, rfl⟩
  rw [← ho]
  have HO : Hid (o = idxV ((idxS s (st.drop 0)).map (· + 0))) := by show _ = _; rw [ho]; simp
  have HS : Hid (∀ i, (h : i < st.length) → ∃ g off x, ad = some ⟨g, off, none⟩ ∧ g < w.heap.size ∧ w.cell? ⟨g, off + i, none⟩ = some x ∧ RngIn w x st[i] ∧ st[i].length ≤ 600000) := hs
  have HV : Hid (RngIn w v s) := hv
  have hBl : B < w.heap.size := World.block_lt_of_cell? w ⟨B, 0, none⟩ hb
  clear ho hs hv
  go_enter Tryz.func104, Tryz.ntmps104
  go_wp2
  go_loopw [8] (fun i wr => ∃ k : Nat, k ≤ st.length ∧ i = .int .i64 k ∧ Hid (o = idxV ((idxS s (st.drop k)).map (· + k))) ∧ Below w.heap.size w wr) (fun i _ => st.length - (intOf i).toNat)
  case atStart => exact ⟨0, Nat.zero_le _, rfl, HO, Below.refl _ _⟩
  case round =>
    obtain ⟨k, hk, rfl, HD, hB⟩ := hrel
    by_cases hlt : k < st.length
    · obtain ⟨g, off, x, rfl, hg, hc, hx, hi⟩ := HS.out k hlt
      have hc' : wr.cell? ⟨g, off + k, none⟩ = some x := (hB.cell (p := ⟨g, _, none⟩) hg).trans hc
      have h1 := areSets1_any s st[k] hi v x B wr ((hB.cell (p := ⟨B, 0, none⟩) hBl).trans hb) (HV.out.below hB) (hx.below hB)
      obtain ⟨xa, xc, rfl, _⟩ := hx
      have hk0 : (0 : Int) ≤ (k : Int) := by omega
      have hk1 : (k : Int) < (st.length : Int) := by omega
      have HD2 := idxS_drop (s := s) hlt
      have HD3 : Hid (idxS s (st.drop k) = if sameS st[k] s = true then some 0 else (idxS s (st.drop (k + 1))).map (· + 1)) := HD2
      clear HD2 hc
      cases hq : sameS st[k] s with
      | true =>
        rw [hq] at h1
        have HE : Hid (o = (k : Int)) := by
          show _ = _
          rw [HD.out, HD3.out, hq]; simp [idxV]
        clear HD HD3
        go_wp2_with fail
        refine h1.mono ?_
        rintro e w1 ⟨rfl, hB1⟩
        clear h1
        go_wp2
        go_ret
        exact ⟨by rw [HE.out]; rfl, below_after hB (hB1)⟩
      | false =>
        rw [hq] at h1
        have HE : Hid (o = idxV ((idxS s (st.drop (k + 1))).map (· + (k + 1)))) := by
          show _ = _
          rw [HD.out, HD3.out, hq]
          simp only [Bool.false_eq_true, if_false, Option.map_map]
          congr 2
          funext j
          simp; omega
        clear HD HD3
        go_wp2_with fail
        refine h1.mono ?_
        rintro e w1 ⟨rfl, hB1⟩
        clear h1
        go_wp2
        go_roundw
        case rel => exact ⟨k + 1, by omega, by go_num, HE, below_after hB hB1⟩
        case measure => simp [intOf]; omega
    · obtain rfl : k = st.length := by omega
      have HE : Hid (o = -1) := by
        show _ = _
        rw [HD.out, List.drop_length]; rfl
      go_wp2
      go_ret
      exact ⟨by rw [HE.out]; rfl, hB⟩
theorem idxV_ge (o : Option Nat) : decide (idxV o ≥ 0) = o.isSome := by
  cases o with
  | none => simp [idxV]
  | some i => simp [idxV]
theorem containsA_any (s : List Rg) (st : Sts) (hst : st.length ≤ 100) (v : Value) (B : Nat) (ad : Option Addr) (cap : Nat) (hcap : st.length ≤ cap) (w : World) (hb : w.cell? ⟨B, 0, none⟩ = some v) (hv : RngIn w v s)
    (hs : ∀ i, (h : i < st.length) → ∃ g off x, ad = some ⟨g, off, none⟩ ∧ g < w.heap.size ∧ w.cell? ⟨g, off + i, none⟩ = some x ∧ RngIn w x st[i] ∧ st[i].length ≤ 600000) :
    Calls Tryz.prog 61 #[.slice ad st.length cap, .func (.func 62) #[] #[.pointer (some ⟨B, 0, none⟩)]] w fun e w' => e = .returned (.bool (st.any fun x => sameS x s)) ∧ Below w.heap.size w w' := by
  have h1 := indexA_any s st hst v B ad cap hcap w hb hv hs
  have h2 := idxV_ge (idxS s st)
  rw [idxS_any] at h2
  obtain ⟨o, ho⟩ : ∃ o, o = idxV (idxS s st) := ⟨_, rfl⟩
  rw [← ho] at h1 h2
  obtain ⟨b, hbb⟩ : ∃ b, b = st.any fun x => sameS x s := ⟨_, rfl⟩
  rw [← hbb] at h2 ⊢
  clear ho hbb hs hv
  go_enter Tryz.func61, Tryz.ntmps61
  go_wp2_with fail
  refine h1.mono ?_
  rintro e w1 ⟨rfl, hB⟩
  clear h1
  go_wp2
  go_ret
  exact ⟨by first | rfl | rw [h2], hB⟩

end Go.Proofs.YtfdjchnckjgapaaGreatDoor
