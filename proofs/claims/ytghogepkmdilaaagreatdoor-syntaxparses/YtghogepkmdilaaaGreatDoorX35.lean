/-
  The document's Or, And, Less, Not and Same, at sets. What term and sum of the document's reader answer.
-/
import Derived.Test.YtghogepkmdilaaaGreatDoorX34
import Derived.Test.YtghogepkmdilaaaGreatDoorX13
import Derived.BigQuiet
import Derived.Test.YtghogepkmdilaaaGreatDoorX32
namespace Go.Proofs.YtghogepkmdilaaaGreatDoor
open Go.RowKit Go.Shelf S1
set_option linter.unusedVariables false

theorem refOr_any (a b : List Rg) (ha : IsSet a) (hb : IsSet b) (la : a.length ≤ 20000) (lb : b.length ≤ 20000) (va vb : Value) (w : World) (hva : RngSrc w va a) (hvb : RngSrc w vb b) :
    Calls Tryz.prog 94 #[va, vb] w fun e w' => Makes w (fun x => hasR a x || hasR b x) e w' := by
  have HC := pick_any 0 (fun x y => x || y) (.inl ⟨rfl, rfl⟩) a b la lb ha.upto.fits hb.upto.fits va vb w hva hvb
  obtain ⟨ada, ca, rfl, _, _⟩ := hva.1
  obtain ⟨adb, cb, rfl, _, _⟩ := hvb.1
  go_enter Tryz.func94, Tryz.ntmps94
  go_wp2_with fail
  refine HC.mono ?_
  rintro e w1 ⟨l, v, rfl, hu, ho, hB⟩
  have HO : Hid _ := ho
  have HU : Hid _ := hu
  clear ho hu HC
  go_wp2
  go_ret
  exact ⟨l, v, rfl, HU.out, HO.out, hB⟩
theorem refAnd_any (a b : List Rg) (ha : IsSet a) (hb : IsSet b) (la : a.length ≤ 20000) (lb : b.length ≤ 20000) (va vb : Value) (w : World) (hva : RngSrc w va a) (hvb : RngSrc w vb b) :
    Calls Tryz.prog 96 #[va, vb] w fun e w' => Makes w (fun x => hasR a x && hasR b x) e w' := by
  have HC := pick_any 1 (fun x y => x && y) (.inr (.inl ⟨rfl, rfl⟩)) a b la lb ha.upto.fits hb.upto.fits va vb w hva hvb
  obtain ⟨ada, ca, rfl, _, _⟩ := hva.1
  obtain ⟨adb, cb, rfl, _, _⟩ := hvb.1
  go_enter Tryz.func96, Tryz.ntmps96
  go_wp2_with fail
  refine HC.mono ?_
  rintro e w1 ⟨l, v, rfl, hu, ho, hB⟩
  have HO : Hid _ := ho
  have HU : Hid _ := hu
  clear ho hu HC
  go_wp2
  go_ret
  exact ⟨l, v, rfl, HU.out, HO.out, hB⟩
theorem refLess_any (a b : List Rg) (ha : IsSet a) (hb : IsSet b) (la : a.length ≤ 20000) (lb : b.length ≤ 20000) (va vb : Value) (w : World) (hva : RngSrc w va a) (hvb : RngSrc w vb b) :
    Calls Tryz.prog 95 #[va, vb] w fun e w' => Makes w (fun x => hasR a x && !hasR b x) e w' := by
  have HC := pick_any 2 (fun x y => x && !y) (.inr (.inr (.inl ⟨rfl, rfl⟩))) a b la lb ha.upto.fits hb.upto.fits va vb w hva hvb
  obtain ⟨ada, ca, rfl, _, _⟩ := hva.1
  obtain ⟨adb, cb, rfl, _, _⟩ := hvb.1
  go_enter Tryz.func95, Tryz.ntmps95
  go_wp2_with fail
  refine HC.mono ?_
  rintro e w1 ⟨l, v, rfl, hu, ho, hB⟩
  have HO : Hid _ := ho
  have HU : Hid _ := hu
  clear ho hu HC
  go_wp2
  go_ret
  exact ⟨l, v, rfl, HU.out, HO.out, hB⟩
theorem refNot_any (a : List Rg) (ha : IsSet a) (la : a.length ≤ 20000) (va : Value) (w : World) (hva : RngSrc w va a) :
    Calls Tryz.prog 130 #[va] w fun e w' => Makes w (fun x => !hasR a x) e w' := by
  have HC := pick_any 3 (fun x y => !x && !y) (.inr (.inr (.inr ⟨rfl, rfl⟩))) a [] la (by simp) ha.upto.fits (fun r hr => by cases hr) va _ w hva (RngSrc.nil _)
  obtain ⟨ada, ca, rfl, _, _⟩ := hva.1
  go_enter Tryz.func130, Tryz.ntmps130
  go_wp2_with fail
  refine HC.mono ?_
  rintro e w1 ⟨l, v, rfl, hu, ho, hB⟩
  have HO : Hid _ := ho
  have HU : Hid (Upto (fun x => !hasR a x) l 1114112) := hu.congr (fun x _ _ => by simp [show hasR [] x = false from rfl])
  clear ho hu HC
  go_wp2
  go_ret
  exact ⟨l, v, rfl, HU.out, HO.out, hB⟩

set_option maxRecDepth 100000 in
set_option maxHeartbeats 4000000 in
theorem sameG_any (us vs : List Rg) (hlen : us.length ≤ 600000) (va vb : Value) (w : World) (ha : RngIn w va us) (hb : RngIn w vb vs) :
    Calls Tryz.prog 26 #[va, vb] w fun e w' => e = .returned (.bool (sameS us vs)) ∧ Below w.heap.size w w' := by
  obtain ⟨a, ca, rfl, hca, hia⟩ := ha
  obtain ⟨b, cb, rfl, hcb, hib⟩ := hb
  obtain ⟨q, hq⟩ : ∃ q, q = sameS us vs := ⟨_, rfl⟩
  rw [← hq]
  have HQ : Hid (q = sameS us vs) := hq
  clear hq
  by_cases hl : us.length = vs.length
  · have HA : Hid (∀ i, (h : i < us.length) → ∃ g off, a = some ⟨g, off, none⟩ ∧ g < w.heap.size ∧ w.cell? ⟨g, off + i * 2, none⟩ = some (.int .i64 us[i].lo) ∧ w.cell? ⟨g, off + i * 2 + 1, none⟩ = some (.int .i64 us[i].hi)) := hia
    have HB : Hid (∀ i, (h : i < vs.length) → ∃ g off, b = some ⟨g, off, none⟩ ∧ g < w.heap.size ∧ w.cell? ⟨g, off + i * 2, none⟩ = some (.int .i64 vs[i].lo) ∧ w.cell? ⟨g, off + i * 2 + 1, none⟩ = some (.int .i64 vs[i].hi)) := hib
    have HL : Hid (us.length = vs.length) := hl
    rw [← hl] at hcb ⊢
    clear hia hib hl
    have hneq : ((us.length : Int) != (us.length : Int)) = false := by simp
    go_enter Tryz.func26, Tryz.ntmps26
    go_wp2
    go_loopw [5] (fun i wr => ∃ k : Nat, k ≤ us.length ∧ i = .int .i64 k ∧ Hid (q = sameS (us.drop k) (vs.drop k)) ∧ ∃ nd, wr = w.drewN nd) (fun i _ => us.length - (intOf i).toNat)
    case atStart => exact ⟨0, Nat.zero_le _, rfl, HQ.out, 0, rfl⟩
    case round =>
      obtain ⟨k, hk, rfl, HD, nd, rfl⟩ := hrel
      by_cases hlt : k < us.length
      · have hlt2 : k < vs.length := by have := HL.out; omega
        obtain ⟨ga, oa, rfl, hga, a0, a1⟩ := HA.out k hlt
        obtain ⟨gb, ob, rfl, hgb, b0, b1⟩ := HB.out k hlt2
        obtain ⟨xl, hxl⟩ : ∃ x, x = us[k].lo := ⟨_, rfl⟩
        obtain ⟨xh, hxh⟩ : ∃ x, x = us[k].hi := ⟨_, rfl⟩
        obtain ⟨yl, hyl⟩ : ∃ x, x = vs[k].lo := ⟨_, rfl⟩
        obtain ⟨yh, hyh⟩ : ∃ x, x = vs[k].hi := ⟨_, rfl⟩
        have HD2 : Hid (q = ((xl == yl && xh == yh) && sameS (us.drop (k + 1)) (vs.drop (k + 1)))) := by
          show _ = _
          rw [hxl, hxh, hyl, hyh, ← sameS_drop hlt hlt2]; exact HD.out
        rw [← hxl] at a0
        rw [← hxh] at a1
        rw [← hyl] at b0
        rw [← hyh] at b1
        clear hxl hxh hyl hyh hlt2
        have hk0 : (0 : Int) ≤ (k : Int) := by omega
        have hk1 : (k : Int) < (us.length : Int) := by omega
        cases h1 : (xl == yl) with
        | false =>
          have h1' : (xl != yl) = true := by simp only [bne, h1]; rfl
          have HD3 : Hid (q = false) := by
            show _ = _
            rw [HD2.out, h1]; rfl
          clear HD HD2
          go_wp2
          go_quiet (fail)
          go_wp2
          go_ret
          refine ⟨by rw [HD3.out]; rfl, ?_⟩
          first | exact below_drewN' (below_drewN' (Below.refl _ _) _) _ | exact below_drewN' (Below.refl _ _) _
        | true =>
          have h1' : (xl != yl) = false := by simp only [bne, h1]; rfl
          cases h2 : (xh == yh) with
          | false =>
            have h2' : (xh != yh) = true := by simp only [bne, h2]; rfl
            have HD3 : Hid (q = false) := by
              show _ = _
              rw [HD2.out, h1, h2]; rfl
            clear HD HD2
            go_wp2
            go_quiet (fail)
            go_wp2
            go_ret
            refine ⟨by rw [HD3.out]; rfl, ?_⟩
            first | exact below_drewN' (below_drewN' (Below.refl _ _) _) _ | exact below_drewN' (Below.refl _ _) _
          | true =>
            have h2' : (xh != yh) = false := by simp only [bne, h2]; rfl
            have HD3 : Hid (q = sameS (us.drop (k + 1)) (vs.drop (k + 1))) := by
              show _ = _
              rw [HD2.out, h1, h2]; rfl
            clear HD HD2
            go_wp2
            go_quiet (fail)
            go_wp2
            go_roundw
            case rel => exact ⟨k + 1, by omega, by go_num, HD3, _, rfl⟩
            case measure => simp [intOf]; omega
      · obtain rfl : k = us.length := by omega
        have HD3 : Hid (q = true) := by
          show _ = _
          rw [HD.out, List.drop_length, HL.out, List.drop_length]; rfl
        go_wp2
        go_ret
        exact ⟨by rw [HD3.out]; rfl, below_drewN' (Below.refl _ _) _⟩
  · have hneq : ((us.length : Int) != (vs.length : Int)) = true := by simp; omega
    have HE : Hid (q = false) := HQ.out.trans (sameS_len hl)
    clear hia hib hl
    go_enter Tryz.func26, Tryz.ntmps26
    go_wp2
    go_ret
    exact ⟨by rw [HE.out]; rfl, Below.refl _ _⟩
end Go.Proofs.YtghogepkmdilaaaGreatDoor

namespace Go.Proofs.YtghogepkmdilaaaGreatDoor
open Go.RowKit Go.Shelf S1
set_option linter.unusedVariables false

theorem RngS.src {Q : Nat → Prop} {w : World} {v : Value} {l : List Rg} (h : RngS Q w v l) (hq : ∀ k, Q k → k < w.heap.size) : RngSrc w v l := by
  refine ⟨h.rng hq, ?_⟩
  obtain ⟨a, cap, rfl, hc, hn, hi⟩ := h
  match a, hn, hi with
  | none, hn, hi =>
    have h0 : l = [] := by
      match l, hi with
      | [], _ => rfl
      | r :: t, hi => obtain ⟨g, off, e, _⟩ := hi 0 (by simp); cases e
    subst h0
    obtain rfl := hn rfl
    exact .inl ⟨rfl, rfl, rfl⟩
  | some ad, hn, hi =>
    refine .inr ⟨ad, cap, rfl, by rw [cellsRs_length], fun j u hj => ?_, cellsRs_one l⟩
    have hlt : j < l.length * 2 := by rw [← cellsRs_length]; exact (List.getElem?_eq_some_iff.1 hj).1
    have hi2 : j / 2 < l.length := by omega
    obtain ⟨g, off, e, _, h0, h1⟩ := hi (j / 2) hi2
    injection e with e
    subst e
    have hadd : (⟨g, off, none⟩ : Addr).add j = ⟨g, off + j, none⟩ := addr_add g off j
    rw [hadd]
    rcases Nat.mod_two_eq_zero_or_one j with q | q
    · have ej : j = j / 2 * 2 + 0 := by omega
      rw [ej, cellsRs_at l (j / 2) 0 hi2 (by omega)] at hj
      have : u = .int .i64 l[j / 2].lo := by simpa [cellsR] using hj.symm
      rw [this, show off + j = off + j / 2 * 2 by omega]; exact h0
    · have ej : j = j / 2 * 2 + 1 := by omega
      rw [ej, cellsRs_at l (j / 2) 1 hi2 (by omega)] at hj
      have : u = .int .i64 l[j / 2].hi := by simpa [cellsR] using hj.symm
      rw [this, show off + j = off + j / 2 * 2 + 1 by omega]; exact h1
/-- The tokens' sets, and what names tell, have these edges. -/
def GT (E : List Int) (ts : List Tok) : Prop := ∀ t ∈ ts, GS E t.s
def GN (E : List Int) (N : Nms) : Prop := ∀ x s, N x = some s → GS E s
theorem GT.left {E : List Int} {ts r : List Tok} (h : GT E ts) (hl : Left ts r) : GT E r := fun t ht => h t (hl.2.2 t ht)
theorem setM_gs {E : List Int} {N : Nms} {t : Tok} {s : List Rg} (ht : GS E t.s) (hN : GN E N) (h : setM N t = .inr s) : GS E s := by
  unfold setM at h
  split at h
  · cases h; exact ht
  · split at h
    · cases h; exact GS.all E
    · split at h
      · split at h
        · rename_i s' he; cases h; exact hN _ _ he
        · cases h
      · cases h
/-- What the document's reader tells of a set. -/
def RQA (c : Pc) (X : Nat → Prop) (P : Nat) (E : List Int) (st : Sts) (q : QR) (w : World) (e : Ending) (w' : World) : Prop :=
  ∃ v s r x, e = .returned v ∧ GS E s ∧ RngS (Im X w' P) w' v s ∧ Pa c X P w' r st x ∧ Fr w.heap.size P w w' ∧ ((x ≠ 0 ∧ q = .inl (r, ((x : Nat) : Int))) ∨ (x = 0 ∧ q = .inr (s, r)))
def RTermC (b : Nat) : Prop := ∀ (c : Pc) (X : Nat → Prop) (P : Nat) (w : World) (ts : List Tok) (st : Sts) (dp : Nat) (E : List Int), dp + b = 20 → E.length ≤ 10000 → GT E ts → GN E c.N → Pa c X P w ts st 0 → Calls Tryz.prog 93 #[.pointer (some ⟨P, 0, none⟩), .int .i64 (dp : Int)] w fun e w' => RQA c X P E st (termM c.N b ts) w e w'
def RSumC (b : Nat) : Prop := ∀ (c : Pc) (X : Nat → Prop) (P : Nat) (w : World) (ts : List Tok) (st : Sts) (dp : Nat) (E : List Int), dp + b = 20 → E.length ≤ 10000 → GT E ts → GN E c.N → Pa c X P w ts st 0 → Calls Tryz.prog 54 #[.pointer (some ⟨P, 0, none⟩), .int .i64 (dp : Int)] w fun e w' => RQA c X P E st (sumM c.N b ts) w e w'
/-- The document's joining of sets. -/
def JoinR (E : List Int) (g : Nat) (op : List Rg → List Rg → List Rg) : Prop := ∀ (a b : List Rg) (va vb : Value) (w : World), GS E a → GS E b → RngSrc w va a → RngSrc w vb b → Calls Tryz.prog g #[va, vb] w fun e w' => ∃ v, e = .returned v ∧ GS E (op a b) ∧ w'.ownsRow w.heap.size 80 2 v (op a b).length (cellsRs (op a b)) ∧ Below w.heap.size w w'
theorem joinROr {E : List Int} (hE : E.length ≤ 10000) : JoinR E 94 orS := fun a b va vb w ha hb hva hvb => (refOr_any a b ha.1 hb.1 (by have := stb_len ha.1 ha.2; omega) (by have := stb_len hb.1 hb.2; omega) va vb w hva hvb).mono (by
  rintro e w' ⟨l, v, rfl, hu, ho, hB⟩
  obtain rfl : l = orS a b := hu.unique (pickS_upto _ ha.1 hb.1)
  exact ⟨v, rfl, stb_pick ha hb, ho, hB⟩)
theorem joinRLess {E : List Int} (hE : E.length ≤ 10000) : JoinR E 95 lessS := fun a b va vb w ha hb hva hvb => (refLess_any a b ha.1 hb.1 (by have := stb_len ha.1 ha.2; omega) (by have := stb_len hb.1 hb.2; omega) va vb w hva hvb).mono (by
  rintro e w' ⟨l, v, rfl, hu, ho, hB⟩
  obtain rfl : l = lessS a b := hu.unique (pickS_upto _ ha.1 hb.1)
  exact ⟨v, rfl, stb_pick ha hb, ho, hB⟩)
theorem joinRAnd {E : List Int} (hE : E.length ≤ 10000) : JoinR E 96 andS := fun a b va vb w ha hb hva hvb => (refAnd_any a b ha.1 hb.1 (by have := stb_len ha.1 ha.2; omega) (by have := stb_len hb.1 hb.2; omega) va vb w hva hvb).mono (by
  rintro e w' ⟨l, v, rfl, hu, ho, hB⟩
  obtain rfl : l = andS a b := hu.unique (pickS_upto _ ha.1 hb.1)
  exact ⟨v, rfl, stb_pick ha hb, ho, hB⟩)
theorem sign_other {x y : Int} {t : Tok} (h : tkSign x t = true) (hne : x ≠ y) : tkSign y t = false := by
  obtain ⟨h1, h2⟩ := sign_k h
  unfold tkSign
  rw [h1, h2]
  simp [hne]
theorem Pa.adv {c : Pc} {X : Nat → Prop} {P : Nat} {w : World} {t : Tok} {r : List Tok} {st : Sts} {d : Nat} (h : Pa c X P w (t :: r) st d) (hk : t.k ≠ 4) : ∃ k : Nat, k ≤ 70000 ∧ w.cell? ⟨P, 1, none⟩ = some (.int .i64 (k : Int)) ∧ w.frozen? ⟨P, 1, none⟩ = false ∧ Pa c X P (w.setCell ⟨P, 1, none⟩ (.int .i64 ((k : Int) + 1))) r st d := by
  obtain ⟨k, v, hk1, hn, hc, c0, c1, f1, hg, t0, t1, t2, t3, hr, _, _, _, hnx⟩ := h.next
  exact ⟨k, by omega, c1, f1, hnx hk⟩

set_option maxRecDepth 100000 in
set_option maxHeartbeats 16000000 in
theorem rsum_of (b : Nat) (ht : RTermC b) : RSumC b := fun c X P w ts st dp E hdb hE hgt hgn hpa => by
  have h1 := ht c X P w ts st dp E hdb hE hgt hgn hpa
  obtain ⟨q, hq⟩ : ∃ q, q = sumM c.N b ts := ⟨_, rfl⟩
  rw [← hq]
  have HQ : Hid (q = sumG (termM c.N b) ts) := hq
  have HT : Hid (RTermC b) := ht
  have HGT : Hid (GT E ts) := hgt
  have HGN : Hid (GN E c.N) := hgn
  have hdp : (dp : Int) ≤ 20 := by omega
  clear hq hpa ht hgt hgn
  go_enter Tryz.func54, Tryz.ntmps54
  go_wp2_with fail
  refine h1.mono ?_
  rintro e w1 ⟨v, s, r, x, rfl, hs, hr, hp, hf, hx⟩
  have HX : Hid ((x ≠ 0 ∧ q = .inl (r, ((x : Nat) : Int))) ∨ (x = 0 ∧ ∃ k, r.length < k ∧ sumF (termM c.N b) k s r = q)) := by
    rcases hx with ⟨e1, e2⟩ | ⟨e1, e2⟩
    · refine .inl ⟨e1, ?_⟩
      rw [HQ.out]; unfold sumG; rw [e2]
    · refine .inr ⟨e1, r.length + 1, by omega, ?_⟩
      rw [HQ.out]; unfold sumG; rw [e2]
  have HGR : Hid (GT E r) := by
    have hL := termM_left c.N b ts
    rcases hx with ⟨e1, e2⟩ | ⟨e1, e2⟩
    · rw [e2] at hL; exact HGT.out.left hL
    · rw [e2] at hL; exact HGT.out.left (LeftS.left hL)
  obtain ⟨va, vc, rfl⟩ := hr.slice
  have HR : Hid (RngS (Im X w1 P) w1 (.slice va s.length vc) s) := hr
  clear h1 hx hr
  go_wp2
  go_loopw [5] (fun v wr => ∃ (a : Option Addr) (cp : Nat) (x : Nat) (s : List Rg) (r : List Tok), v = .slice a s.length cp ∧ GS E s ∧ RngS (Im X wr P) wr (.slice a s.length cp) s ∧ Pa c X P wr r st x ∧ Fr w.heap.size P w wr ∧ Hid (GT E r) ∧ Hid ((x ≠ 0 ∧ q = .inl (r, ((x : Nat) : Int))) ∨ (x = 0 ∧ ∃ k, r.length < k ∧ sumF (termM c.N b) k s r = q))) (fun _ wr => leftP c.n wr P)
  case atStart => exact ⟨va, vc, x, s, r, rfl, hs, HR.out, hp, hf, HGR, HX⟩
  case round =>
    obtain ⟨a, cp, x, s, r, rfl, hs, hr, hp, hf, HGR, hx⟩ := hrel
    have hl0 := hp.left
    have hPl := hp.lt
    obtain ⟨c5, _, _⟩ := hp.dep
    have HS : Hid (GS E s) := hs
    have HR : Hid (RngS (Im X wr P) wr (.slice a s.length cp) s) := hr
    have HF : Hid (Fr w.heap.size P w wr) := hf
    clear hs hr hf
    rcases hx.out with ⟨hx0, hxq⟩ | ⟨rfl, k, hk, hkq⟩
    · have hx' : ((x : Int) == 0) = false := by simp; omega
      have HE : Hid (x ≠ 0 ∧ q = .inl (r, ((x : Nat) : Int))) := ⟨hx0, hxq⟩
      clear hx0 hxq hx
      go_wp2
      go_ret
      exact ⟨_, s, r, x, rfl, HS.out, HR.out, hp, HF.out, .inl HE.out⟩
    · obtain ⟨t, r, rfl⟩ := hp.ends.cons
      obtain ⟨k, rfl⟩ : ∃ m, k = m + 1 := ⟨k - 1, by omega⟩
      have HKQ : Hid (sumF (termM c.N b) (k + 1) s (t :: r) = q) := hkq
      have HK : Hid ((t :: r).length < k + 1) := hk
      have HPR : Hid (Pa c X P wr (t :: r) st 0) := hp
      clear hx hkq hk hp
      have h2 : Calls Tryz.prog 92 #[.pointer (some ⟨P, 0, none⟩), .string ⟨#[43]⟩] wr fun e w' => AnsB wr (decide (0 = 0) && tkSign 43 t) e w' := ris_any c X P wr t r st 0 HPR.out 43 (by decide)
      simp only [decide_true, Bool.true_and] at h2
      go_wp2_with fail
      refine h2.mono ?_
      rintro e w2 ⟨rfl, hB2⟩
      clear h2
      have hp2 := HPR.out.below hB2
      have h3 : Calls Tryz.prog 92 #[.pointer (some ⟨P, 0, none⟩), .string ⟨#[45]⟩] w2 fun e w' => AnsB w2 (decide (0 = 0) && tkSign 45 t) e w' := ris_any c X P w2 t r st 0 hp2 45 (by decide)
      simp only [decide_true, Bool.true_and] at h3
      go_wp2_with fail
      refine h3.mono ?_
      rintro e w3 ⟨rfl, hB3⟩
      clear h3
      have hB23 := below_after hB2 hB3
      have hp3 := HPR.out.below hB23
      have h4 : Calls Tryz.prog 92 #[.pointer (some ⟨P, 0, none⟩), .string ⟨#[38]⟩] w3 fun e w' => AnsB w3 (decide (0 = 0) && tkSign 38 t) e w' := ris_any c X P w3 t r st 0 hp3 38 (by decide)
      simp only [decide_true, Bool.true_and] at h4
      go_wp2_with fail
      refine h4.mono ?_
      rintro e w4 ⟨rfl, hB4⟩
      clear h4
      have hB24 := below_after hB23 hB4
      have hp4 := HPR.out.below hB24
      have HF4 : Hid (Fr w.heap.size P w w4) := HF.out.then (HPR.out.fr hB24) HF.out.size
      have HR4 : Hid (RngS (Im X w4 P) w4 (.slice a s.length cp) s) := HR.out.fr (HPR.out.fr hB24)
      have HP4 : Hid (Pa c X P w4 (t :: r) st 0) := hp4
      have hPl4 := hp4.lt
      clear hB2 hB3 hB23 hB4 hB24 hp2 hp3 hp4 HF HR HPR c5
      have STEP : Hid (∀ op, opOf t = some op → ∀ (w5 : World) (v5 : Value) (s5 : List Rg) (r5 : List Tok) (x5 : Nat), ((x5 ≠ 0 ∧ termM c.N b r = .inl (r5, ((x5 : Nat) : Int))) ∨ (x5 = 0 ∧ termM c.N b r = .inr (s5, r5))) → r5.length ≤ r.length ∧ GT E r5 ∧ ((x5 ≠ 0 ∧ q = .inl (r5, ((x5 : Nat) : Int))) ∨ (x5 = 0 ∧ ∃ k, r5.length < k ∧ sumF (termM c.N b) k (op s s5) r5 = q))) := fun op ho w5 v5 s5 r5 x5 hx5 => by
        have hL := termM_left c.N b r
        have e0 := HKQ.out
        unfold sumF at e0
        simp only [hdT, ho, List.tail_cons] at e0
        have hkk := HK.out
        simp at hkk
        have hgr : GT E r := fun y hy => HGR.out y (by simp [hy])
        rcases hx5 with ⟨q1, q2⟩ | ⟨q1, q2⟩
        · rw [q2] at hL e0
          exact ⟨hL.1, hgr.left hL, .inl ⟨q1, e0.symm⟩⟩
        · rw [q2] at hL e0
          exact ⟨Nat.le_of_lt hL.1, hgr.left (LeftS.left hL), .inr ⟨q1, k, by have := hL.1; omega, e0⟩⟩
      cases s43 : tkSign 43 t with
      | true =>
        have s45 : tkSign 45 t = false := sign_other s43 (by decide)
        have s38 : tkSign 38 t = false := sign_other s43 (by decide)
        have HO : Hid (opOf t = some orS) := by
          show _ = _
          simp [opOf, s43]
        obtain ⟨kk, hkk, c1, f1, hp5⟩ := HP4.out.adv (sign_end s43)
        have hf5 : Fr w4.heap.size P w4 (w4.setCell ⟨P, 1, none⟩ (.int .i64 ((kk : Int) + 1))) := fr_own w4 1 (by decide) _
        have h5 := HT.out c X P _ r st dp E hdb hE (fun y hy => HGR.out y (by simp [hy])) HGN.out hp5
        have HF5 : Hid (Fr w.heap.size P w (w4.setCell ⟨P, 1, none⟩ (.int .i64 ((kk : Int) + 1)))) := HF4.out.then hf5 HF4.out.size
        have HR5 : Hid (RngS (Im X (w4.setCell ⟨P, 1, none⟩ (.int .i64 ((kk : Int) + 1))) P) (w4.setCell ⟨P, 1, none⟩ (.int .i64 ((kk : Int) + 1))) (.slice a s.length cp) s) := HR4.out.fr hf5
        clear hf5 hp5
        go_wp2_with fail
        refine h5.mono ?_
        rintro e w6 ⟨v6, s6, r6, x6, rfl, hs6, hr6, hp6, hf6, hx6⟩
        have hst := STEP.out _ HO.out w6 v6 s6 r6 x6 hx6
        have hF6 := HF5.out.then hf6 HF5.out.size
        have h7 := joinROr hE s s6 (.slice a s.length cp) v6 w6 HS.out hs6 ((HR5.out.fr hf6).src (fun k hk => hk.1)) (hr6.src (fun k hk => hk.1))
        obtain ⟨a6, c6, rfl⟩ := hr6.slice
        have HST : Hid (r6.length ≤ r.length ∧ GT E r6 ∧ ((x6 ≠ 0 ∧ q = .inl (r6, ((x6 : Nat) : Int))) ∨ (x6 = 0 ∧ ∃ k, r6.length < k ∧ sumF (termM c.N b) k (orS s s6) r6 = q))) := hst
        have HF6 : Hid (Fr w.heap.size P w w6) := hF6
        clear h5 hs6 hr6 hf6 hx6 hst hF6 c1 f1
        go_wp2_with fail
        refine h7.mono ?_
        rintro e w7 ⟨v7, rfl, hs7, ho7, hB7⟩
        have hr7 := hp6.rngS hB7 ho7
        have hp7 := hp6.below hB7
        have hf7 := HF6.out.then (hp6.fr hB7) HF6.out.size
        obtain ⟨a7, c7, rfl⟩ := hr7.slice
        clear h7 ho7
        go_wp2
        go_roundw
        case rel => exact ⟨a7, c7, x6, orS s s6, r6, rfl, hs7, hr7, hp7, hf7, HST.out.2.1, HST.out.2.2⟩
        case measure => rw [hp7.left, hl0]; have := HST.out.1; simp; omega
      | false =>
        cases s45 : tkSign 45 t with
        | true =>
          have s38 : tkSign 38 t = false := sign_other s45 (by decide)
          have HO : Hid (opOf t = some lessS) := by
            show _ = _
            simp [opOf, s43, s45]
          obtain ⟨kk, hkk, c1, f1, hp5⟩ := HP4.out.adv (sign_end s45)
          have hf5 : Fr w4.heap.size P w4 (w4.setCell ⟨P, 1, none⟩ (.int .i64 ((kk : Int) + 1))) := fr_own w4 1 (by decide) _
          have h5 := HT.out c X P _ r st dp E hdb hE (fun y hy => HGR.out y (by simp [hy])) HGN.out hp5
          have HF5 : Hid (Fr w.heap.size P w (w4.setCell ⟨P, 1, none⟩ (.int .i64 ((kk : Int) + 1)))) := HF4.out.then hf5 HF4.out.size
          have HR5 : Hid (RngS (Im X (w4.setCell ⟨P, 1, none⟩ (.int .i64 ((kk : Int) + 1))) P) (w4.setCell ⟨P, 1, none⟩ (.int .i64 ((kk : Int) + 1))) (.slice a s.length cp) s) := HR4.out.fr hf5
          clear hf5 hp5
          go_wp2_with fail
          refine h5.mono ?_
          rintro e w6 ⟨v6, s6, r6, x6, rfl, hs6, hr6, hp6, hf6, hx6⟩
          have hst := STEP.out _ HO.out w6 v6 s6 r6 x6 hx6
          have hF6 := HF5.out.then hf6 HF5.out.size
          have h7 := joinRLess hE s s6 (.slice a s.length cp) v6 w6 HS.out hs6 ((HR5.out.fr hf6).src (fun k hk => hk.1)) (hr6.src (fun k hk => hk.1))
          obtain ⟨a6, c6, rfl⟩ := hr6.slice
          have HST : Hid (r6.length ≤ r.length ∧ GT E r6 ∧ ((x6 ≠ 0 ∧ q = .inl (r6, ((x6 : Nat) : Int))) ∨ (x6 = 0 ∧ ∃ k, r6.length < k ∧ sumF (termM c.N b) k (lessS s s6) r6 = q))) := hst
          have HF6 : Hid (Fr w.heap.size P w w6) := hF6
          clear h5 hs6 hr6 hf6 hx6 hst hF6 c1 f1
          go_wp2_with fail
          refine h7.mono ?_
          rintro e w7 ⟨v7, rfl, hs7, ho7, hB7⟩
          have hr7 := hp6.rngS hB7 ho7
          have hp7 := hp6.below hB7
          have hf7 := HF6.out.then (hp6.fr hB7) HF6.out.size
          obtain ⟨a7, c7, rfl⟩ := hr7.slice
          clear h7 ho7
          go_wp2
          go_roundw
          case rel => exact ⟨a7, c7, x6, lessS s s6, r6, rfl, hs7, hr7, hp7, hf7, HST.out.2.1, HST.out.2.2⟩
          case measure => rw [hp7.left, hl0]; have := HST.out.1; simp; omega
        | false =>
          cases s38 : tkSign 38 t with
          | true =>
            have HO : Hid (opOf t = some andS) := by
              show _ = _
              simp [opOf, s43, s45, s38]
            obtain ⟨kk, hkk, c1, f1, hp5⟩ := HP4.out.adv (sign_end s38)
            have hf5 : Fr w4.heap.size P w4 (w4.setCell ⟨P, 1, none⟩ (.int .i64 ((kk : Int) + 1))) := fr_own w4 1 (by decide) _
            have h5 := HT.out c X P _ r st dp E hdb hE (fun y hy => HGR.out y (by simp [hy])) HGN.out hp5
            have HF5 : Hid (Fr w.heap.size P w (w4.setCell ⟨P, 1, none⟩ (.int .i64 ((kk : Int) + 1)))) := HF4.out.then hf5 HF4.out.size
            have HR5 : Hid (RngS (Im X (w4.setCell ⟨P, 1, none⟩ (.int .i64 ((kk : Int) + 1))) P) (w4.setCell ⟨P, 1, none⟩ (.int .i64 ((kk : Int) + 1))) (.slice a s.length cp) s) := HR4.out.fr hf5
            clear hf5 hp5
            go_wp2_with fail
            refine h5.mono ?_
            rintro e w6 ⟨v6, s6, r6, x6, rfl, hs6, hr6, hp6, hf6, hx6⟩
            have hst := STEP.out _ HO.out w6 v6 s6 r6 x6 hx6
            have hF6 := HF5.out.then hf6 HF5.out.size
            have h7 := joinRAnd hE s s6 (.slice a s.length cp) v6 w6 HS.out hs6 ((HR5.out.fr hf6).src (fun k hk => hk.1)) (hr6.src (fun k hk => hk.1))
            obtain ⟨a6, c6, rfl⟩ := hr6.slice
            have HST : Hid (r6.length ≤ r.length ∧ GT E r6 ∧ ((x6 ≠ 0 ∧ q = .inl (r6, ((x6 : Nat) : Int))) ∨ (x6 = 0 ∧ ∃ k, r6.length < k ∧ sumF (termM c.N b) k (andS s s6) r6 = q))) := hst
            have HF6 : Hid (Fr w.heap.size P w w6) := hF6
            clear h5 hs6 hr6 hf6 hx6 hst hF6 c1 f1
            go_wp2_with fail
            refine h7.mono ?_
            rintro e w7 ⟨v7, rfl, hs7, ho7, hB7⟩
            have hr7 := hp6.rngS hB7 ho7
            have hp7 := hp6.below hB7
            have hf7 := HF6.out.then (hp6.fr hB7) HF6.out.size
            obtain ⟨a7, c7, rfl⟩ := hr7.slice
            clear h7 ho7
            go_wp2
            go_roundw
            case rel => exact ⟨a7, c7, x6, andS s s6, r6, rfl, hs7, hr7, hp7, hf7, HST.out.2.1, HST.out.2.2⟩
            case measure => rw [hp7.left, hl0]; have := HST.out.1; simp; omega
          | false =>
            have HE : Hid (q = .inr (s, t :: r)) := by
              show _ = _
              have ho : opOf t = none := by simp [opOf, s43, s45, s38]
              rw [← HKQ.out]; unfold sumF; simp only [hdT, ho]
            go_wp2
            go_ret
            exact ⟨_, s, t :: r, 0, rfl, HS.out, HR4.out, HP4.out, HF4.out, .inr ⟨rfl, HE.out⟩⟩
end Go.Proofs.YtghogepkmdilaaaGreatDoor
