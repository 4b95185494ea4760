/-
  SgnP
-/
import Derived.Test.YtfdjchnckjgapaaGreatDoorX24
namespace Go.Proofs.YtfdjchnckjgapaaGreatDoor
open Go.RowKit Go.Shelf S1
set_option linter.unusedVariables false
def sgM : NR Nd → NR Nd
  | .inl e => .inl e
  | .inr (n, r, st) => signF 4 (cntN 4 n) n r st
theorem signedM_eq (p : List Tok → Sts → NR Nd) (ts : List Tok) (st : Sts) : signedM p ts st = sgM (p ts st) := by
  unfold signedM
  cases h : p ts st with
  | inl e => rfl
  | inr x => rfl
theorem signF_on {f c : Nat} {n : Nd} {ts : List Tok} {st : Sts} (h : ¬ kindT (hdT ts) = 0) (h3 : ¬ c = 3) : signF (f + 1) c n ts st = signF f (c + 1) ⟨kindT (hdT ts), 0, [n]⟩ ts.tail st := by
  rw [signF, if_neg h, if_neg h3]
theorem KdX.one {Q : Nat → Prop} {w : World} {n : Nd} {z : Value} {S : Nat} (hS : w.heap[S]? = some (.cells #[.int .i64 n.k, .int .i64 n.s, z] 39 (0, 0))) (hq : Q S) (h : KdX Q w z n.kids) : KdX Q w (.slice (some ⟨S, 0, none⟩) 1 1) [n] := by
  obtain ⟨f, h⟩ := h
  refine ⟨f + 1, some ⟨S, 0, none⟩, 1, rfl, Nat.le_refl _, fun i hi => ?_⟩
  obtain rfl : i = 0 := by simp at hi; omega
  exact ⟨S, 0, z, rfl, hq, cell_of_row _ _ 0 _ _ _ hS, cell_of_row _ _ 1 _ _ _ hS, cell_of_row _ _ 2 _ _ _ hS, h⟩
set_option maxRecDepth 100000 in
set_option maxHeartbeats 16000000 in
theorem signed_any (c : Pc) (P : Nat) (ts : List Tok) (st : Sts) (d : Nat) (q0 : NR Nd) (hpart : NFn 210 c P ts st d q0) (hok : ∀ n r st', q0 = .inr (n, r, st') → SgOk n) : NFn 186 c P ts st d (sgM q0) := fun X w hpa => by
  have hPl := hpa.lt
  have h1 := hpart _ _ (hpa.alloc (.cells #[.int .i64 0, .int .i64 0, .slice none 0 0] 39))
  obtain ⟨q, hq⟩ : ∃ q, q = sgM q0 := ⟨_, rfl⟩
  have HQ : Hid (q = sgM q0) := hq
  have HOK : Hid (∀ n r st', q0 = .inr (n, r, st') → SgOk n) := hok
  rw [← hq]
  have HIR : Hid (Im NoX (ndW w) P w.heap.size) := hpa.im_new _
  have HE0 : Hid ((ndW w).heap[w.heap.size]? = some (.cells #[.int .i64 0, .int .i64 0, .slice none 0 0] 39 (0, 0))) := heap_new' _ _
  have HF0 : Hid (Fr w.heap.size P w (ndW w)) := hpa.fr (below_alloc _ _)
  have HSZ : Hid ((ndW w).heap.size = w.heap.size + 1) := by show _ = _; simp
  have FIN : Hid (∀ (w2 : World) (n : Nd) (z : Value) (y : Int) (r2 : List Tok) (st2 : Sts) (lo : Nat), Pa c (fun k => X k ∨ k = w.heap.size) P w2 r2 st2 d → Fr (ndW w).heap.size P (ndW w) w2 → w.heap.size ≤ lo → KdX (fun k => lo ≤ k ∧ Im (fun k => X k ∨ k = w.heap.size) w2 P k) w2 z n.kids → ((y ≠ 0 ∧ q = .inl (r2, y)) ∨ (y = 0 ∧ q = .inr (n, r2, st2))) →
      NA c X P d q w (.returned (.tuple #[.agg #[.int .i64 n.k, .int .i64 n.s, z], .int .i64 y])) (set3 w2 w.heap.size (.int .i64 n.k) (.int .i64 n.s) z)) := fun w2 n z y r2 st2 lo hp2 hf2 hlo hk hq2 => by
    obtain ⟨g1, g2, g3⟩ := fin3 hp2 (hf2.keep _ (by rw [HSZ.out]; omega) HIR.out).2 (HF0.out.then hf2 (by rw [HSZ.out]; omega)) (Nat.le_refl _) hk hlo (.int .i64 n.k) (.int .i64 n.s) z
    exact ⟨n, z, y, r2, st2, rfl, g3, g1, g2, hq2⟩
  have ROW : Hid (∀ (w2 : World), Fr (ndW w).heap.size P (ndW w) w2 → w2.heap[w.heap.size]? = some (.cells #[.int .i64 0, .int .i64 0, .slice none 0 0] 39 (0, 0)) ∧ w.heap.size < w2.heap.size) := fun w2 hf2 => by
    obtain ⟨g1, g2⟩ := hf2.keep _ (by rw [HSZ.out]; omega) HIR.out
    exact ⟨g1.trans HE0.out, g2.1⟩
  clear hq hpa hpart hok HIR HE0 HF0
  go_enter Tryz.func186, Tryz.ntmps186
  go_wp2_with fail
  refine h1.mono ?_
  rintro e w1 ⟨n, z, y, r, st1, rfl, hz, hp, hf, hq⟩
  obtain ⟨za, zc, rfl, _⟩ := hz.slice
  unfold ndV
  have hlo : w.heap.size < w1.heap.size := (ROW.out w1 hf).2
  rcases hq with ⟨hy, rfl⟩ | ⟨rfl, rfl⟩
  · have hy' : (y != 0) = true := by simpa using hy
    have hB1 := below_alloc w1 (.cells #[.int .i64 n.k, .int .i64 n.s, .slice za n.kids.length zc] 39)
    have hf1 := hf.then (hp.fr hB1) hf.size
    obtain ⟨hR, _⟩ := ROW.out w1 hf
    obtain ⟨hRa, _⟩ := ROW.out _ hf1
    have HRa : Hid ((w1.alloc (.cells #[.int .i64 n.k, .int .i64 n.s, .slice za n.kids.length zc] 39)).heap[w.heap.size]? = some (.cells #[.int .i64 0, .int .i64 0, .slice none 0 0] 39 (0, 0))) := hRa
    have HFN : Hid _ := FIN.out _ ⟨0, 0, []⟩ (.slice none 0 0) y r st1 w.heap.size (hp.below hB1) hf1 (Nat.le_refl _) (KdX.nil _ _) (.inl ⟨hy, HQ.out⟩)
    have d0 : w1.cell? ⟨w.heap.size, 0, none⟩ = some (.int .i64 0) := cell_of_row _ _ 0 _ _ _ hR
    have df0 : w1.frozen? ⟨w.heap.size, 0, none⟩ = false := frozen_of_row _ _ 0 _ _ hR
    have d1 : w1.cell? ⟨w.heap.size, 1, none⟩ = some (.int .i64 0) := cell_of_row _ _ 1 _ _ _ hR
    have df1 : w1.frozen? ⟨w.heap.size, 1, none⟩ = false := frozen_of_row _ _ 1 _ _ hR
    have d2 : w1.cell? ⟨w.heap.size, 2, none⟩ = some (.slice none 0 0) := cell_of_row _ _ 2 _ _ _ hR
    have df2 : w1.frozen? ⟨w.heap.size, 2, none⟩ = false := frozen_of_row _ _ 2 _ _ hR
    clear h1 hp hf hz hR hRa hf1 hB1 hy
    go_wp2
    refine bodyPost_ret (results_row_tmp rfl _ _ w.heap.size 39 #[.int .i64 0, .int .i64 0, .slice none 0 0] (0, 0) _ rfl ?_ Tryz.underlying39 rfl (by kernel_rfl)) rfl ?_
    · rw [set3_alloc w1 w.heap.size _ _ _ _ hlo]; exact set3_row HRa.out _ _ _
    rw [set3_alloc w1 w.heap.size _ _ _ _ hlo]
    exact HFN.out
  · obtain ⟨cc, hc3, hch⟩ := HOK.out n r st1 rfl
    have hcnt := hch.cnt 4 (by omega)
    have HEQ : Hid (q = signF 4 cc n r st1) := by
      show _ = _
      rw [HQ.out, ← hcnt]; rfl
    have hB1 := below_alloc w1 (.cells #[.int .i64 n.k, .int .i64 n.s, .slice za n.kids.length zc] 39)
    have hpT := hp.alloc (.cells #[.int .i64 n.k, .int .i64 n.s, .slice za n.kids.length zc] 39)
    have hIT := hp.im_new (.cells #[.int .i64 n.k, .int .i64 n.s, .slice za n.kids.length zc] 39)
    have hET := heap_new' w1 (.cells #[.int .i64 n.k, .int .i64 n.s, .slice za n.kids.length zc] 39)
    have hf1 := hf.then (hp.fr hB1) hf.size
    have hzT : KdX (fun k => (ndW w).heap.size ≤ k ∧ Im (fun k => (X k ∨ k = w.heap.size) ∨ k = w1.heap.size) (w1.alloc (.cells #[.int .i64 n.k, .int .i64 n.s, .slice za n.kids.length zc] 39)) P k) (w1.alloc (.cells #[.int .i64 n.k, .int .i64 n.s, .slice za n.kids.length zc] 39)) (.slice za n.kids.length zc) n.kids := hz.to (fun k hk => by
      obtain ⟨g1, g2⟩ := (hp.fr hB1).all k hk.2
      exact ⟨g1, hk.1, g2.no.with (fun q => q.elim g2.2.2.2 (fun q => by have := hk.2.1; omega))⟩)
    have h2 := signs_any _ cc hc3 n (.slice za n.kids.length zc) _ (fun k hk => hk.2.1) hzT hch
    unfold ndV at h2
    have HPT : Hid (Pa c (fun k => (X k ∨ k = w.heap.size) ∨ k = w1.heap.size) P (w1.alloc (.cells #[.int .i64 n.k, .int .i64 n.s, .slice za n.kids.length zc] 39)) r st1 d) := hpT
    have HIT : Hid (Im NoX (w1.alloc (.cells #[.int .i64 n.k, .int .i64 n.s, .slice za n.kids.length zc] 39)) P w1.heap.size) := hIT
    have HET : Hid ((w1.alloc (.cells #[.int .i64 n.k, .int .i64 n.s, .slice za n.kids.length zc] 39)).heap[w1.heap.size]? = some (.cells #[.int .i64 n.k, .int .i64 n.s, .slice za n.kids.length zc] 39 (0, 0))) := hET
    have HF1 : Hid (Fr (ndW w).heap.size P (ndW w) (w1.alloc (.cells #[.int .i64 n.k, .int .i64 n.s, .slice za n.kids.length zc] 39))) := hf1
    have HZT : Hid (KdX (fun k => (ndW w).heap.size ≤ k ∧ Im (fun k => (X k ∨ k = w.heap.size) ∨ k = w1.heap.size) (w1.alloc (.cells #[.int .i64 n.k, .int .i64 n.s, .slice za n.kids.length zc] 39)) P k) (w1.alloc (.cells #[.int .i64 n.k, .int .i64 n.s, .slice za n.kids.length zc] 39)) (.slice za n.kids.length zc) n.kids) := hzT
    clear h1 hp hf hz hB1 hpT hIT hET hf1 hzT hcnt hch HOK HQ
    go_wp2_with fail
    refine h2.mono ?_
    rintro e w2 ⟨rfl, hB2⟩
    have hp2 := HPT.out.below hB2
    have hf2 := HF1.out.then (HPT.out.fr hB2) HF1.out.size
    obtain ⟨hET2, hIT2⟩ := (HPT.out.fr hB2).keep w1.heap.size HIT.out.1 HIT.out
    have hz2 := HZT.out.fr (HPT.out.fr hB2)
    have hET3 := hET2.trans HET.out
    clear h2 HPT HIT HET HF1 HZT hB2 hET2
    go_wp2
    go_loopw [6] (fun x wr => ∃ (j f : Nat) (n : Nd) (a : Option Addr) (cp : Nat) (r : List Tok), x = .int .i64 (j : Int) ∧ j ≤ 3 ∧ 4 ≤ f + j ∧ Hid (q = signF f j n r st1) ∧ wr.heap[w1.heap.size]? = some (.cells #[.int .i64 n.k, .int .i64 n.s, .slice a n.kids.length cp] 39 (0, 0)) ∧ Im NoX wr P w1.heap.size ∧
      KdX (fun k => (ndW w).heap.size ≤ k ∧ Im (fun k => (X k ∨ k = w.heap.size) ∨ k = w1.heap.size) wr P k) wr (.slice a n.kids.length cp) n.kids ∧ Pa c (fun k => (X k ∨ k = w.heap.size) ∨ k = w1.heap.size) P wr r st1 d ∧ Fr (ndW w).heap.size P (ndW w) wr) (fun x _ => 4 - (intOf x).toNat)
    case atStart => exact ⟨cc, 4, n, za, zc, r, rfl, hc3, by omega, HEQ, hET3, hIT2, hz2, hp2, hf2⟩
    case round =>
      obtain ⟨j, f, n, a, cp, r, rfl, hj3, hfj, HEQ, hET, hIT, hz, hp, hf⟩ := hrel
      obtain ⟨f, rfl⟩ : ∃ m, f = m + 1 := ⟨f - 1, by omega⟩
      obtain ⟨t, r', rfl⟩ := hp.ends.cons
      have h3 := next_any c _ P wr t r' st1 d hp
      obtain ⟨_, _, _, _, _, _, _, _, _, _, _, _, _, _, _, hby, _, _⟩ := hp.next
      have HPR : Hid (Pa c (fun k => (X k ∨ k = w.heap.size) ∨ k = w1.heap.size) P wr (t :: r') st1 d) := hp
      have HZR : Hid (KdX (fun k => (ndW w).heap.size ≤ k ∧ Im (fun k => (X k ∨ k = w.heap.size) ∨ k = w1.heap.size) wr P k) wr (.slice a n.kids.length cp) n.kids) := hz
      have HFR : Hid (Fr (ndW w).heap.size P (ndW w) wr) := hf
      have HTR : Hid (wr.heap[w1.heap.size]? = some (.cells #[.int .i64 n.k, .int .i64 n.s, .slice a n.kids.length cp] 39 (0, 0)) ∧ Im NoX wr P w1.heap.size) := ⟨hET, hIT⟩
      have HFJ : Hid (j ≤ 3 ∧ 4 ≤ f + 1 + j) := ⟨hj3, hfj⟩
      clear hz hp hf hET hIT
      go_wp2_with fail
      refine h3.mono ?_
      rintro e w3 ⟨v, rfl, hrv, hB3⟩
      have h4 := kindOf_any t v (by obtain ⟨va, vc, e⟩ := hrv.slice; exact ⟨va, _, vc, e⟩) hby w3
      obtain ⟨va, vc, rfl⟩ := hrv.slice
      clear h3 hrv
      unfold tokV at h4 ⊢
      obtain ⟨kk, hkk⟩ : ∃ kk, kk = kindT t := ⟨_, rfl⟩
      rw [← hkk] at h4
      have HKK : Hid (kk = kindT t) := hkk
      clear hkk hby
      go_wp2_with fail
      refine h4.mono ?_
      rintro e w4 ⟨rfl, hB4⟩
      have hB34 := below_after hB3 hB4
      have hf34 := HPR.out.fr hB34
      have hp4 := HPR.out.below hB34
      obtain ⟨hET4, hIT4⟩ := hf34.keep w1.heap.size HTR.out.2.1 HTR.out.2
      have hET4' := hET4.trans HTR.out.1
      have hf4 := HFR.out.then hf34 HFR.out.size
      obtain ⟨hR4, hlw4⟩ := ROW.out w4 hf4
      have HR4 : Hid (w4.heap[w.heap.size]? = some (.cells #[.int .i64 0, .int .i64 0, .slice none 0 0] 39 (0, 0))) := hR4
      have HP4 : Hid (Pa c (fun k => (X k ∨ k = w.heap.size) ∨ k = w1.heap.size) P w4 (t :: r') st1 d) := hp4
      have HZ4 : Hid (KdX (fun k => (ndW w).heap.size ≤ k ∧ Im (fun k => (X k ∨ k = w.heap.size) ∨ k = w1.heap.size) w4 P k) w4 (.slice a n.kids.length cp) n.kids) := HZR.out.fr hf34
      have HF4 : Hid (Fr (ndW w).heap.size P (ndW w) w4) := hf4
      have HT4 : Hid (w4.heap[w1.heap.size]? = some (.cells #[.int .i64 n.k, .int .i64 n.s, .slice a n.kids.length cp] 39 (0, 0)) ∧ Im NoX w4 P w1.heap.size) := ⟨hET4', hIT4⟩
      have d0 : w4.cell? ⟨w.heap.size, 0, none⟩ = some (.int .i64 0) := cell_of_row _ _ 0 _ _ _ hR4
      have df0 : w4.frozen? ⟨w.heap.size, 0, none⟩ = false := frozen_of_row _ _ 0 _ _ hR4
      have d1 : w4.cell? ⟨w.heap.size, 1, none⟩ = some (.int .i64 0) := cell_of_row _ _ 1 _ _ _ hR4
      have df1 : w4.frozen? ⟨w.heap.size, 1, none⟩ = false := frozen_of_row _ _ 1 _ _ hR4
      have d2 : w4.cell? ⟨w.heap.size, 2, none⟩ = some (.slice none 0 0) := cell_of_row _ _ 2 _ _ _ hR4
      have df2 : w4.frozen? ⟨w.heap.size, 2, none⟩ = false := frozen_of_row _ _ 2 _ _ hR4
      have t0 : w4.cell? ⟨w1.heap.size, 0, none⟩ = some (.int .i64 n.k) := cell_of_row _ _ 0 _ _ _ hET4'
      have tf0 : w4.frozen? ⟨w1.heap.size, 0, none⟩ = false := frozen_of_row _ _ 0 _ _ hET4'
      have t1 : w4.cell? ⟨w1.heap.size, 1, none⟩ = some (.int .i64 n.s) := cell_of_row _ _ 1 _ _ _ hET4'
      have tf1 : w4.frozen? ⟨w1.heap.size, 1, none⟩ = false := frozen_of_row _ _ 1 _ _ hET4'
      have t2 : w4.cell? ⟨w1.heap.size, 2, none⟩ = some (.slice a n.kids.length cp) := cell_of_row _ _ 2 _ _ _ hET4'
      have tf2 : w4.frozen? ⟨w1.heap.size, 2, none⟩ = false := frozen_of_row _ _ 2 _ _ hET4'
      have hlT : w1.heap.size < w4.heap.size := hIT4.1
      have hne : w.heap.size ≠ w1.heap.size := by omega
      clear h4 hB34 hf34 hp4 hET4 hIT4 hET4' hf4 hR4 HPR HZR HFR HTR hB3 hB4
      by_cases hk0 : kk = 0
      · have HE : Hid (q = .inr (n, t :: r', st1)) := by
          show _ = _
          rw [HEQ.out]; unfold signF; rw [if_pos (show kindT (hdT (t :: r')) = 0 by rw [← hk0, HKK.out]; rfl)]
        have hk0' : (kk != 0) = false := by simpa using hk0
        have HFN : Hid _ := FIN.out w4 n (.slice a n.kids.length cp) 0 (t :: r') st1 (ndW w).heap.size (HP4.out.less (fun k hk => .inl hk)) HF4.out (by rw [HSZ.out]; omega) (HZ4.out.to (fun k hk => ⟨rfl, hk.1, hk.2.less (fun q => .inl q)⟩)) (.inr ⟨rfl, HE.out⟩)
        clear hk0
        go_wp2
        refine bodyPost_ret (results_row_tmp rfl _ _ w.heap.size 39 #[.int .i64 n.k, .int .i64 n.s, .slice a n.kids.length cp] (0, 0) _ rfl ?_ Tryz.underlying39 rfl (by kernel_rfl)) rfl ?_
        · exact set3_row HR4.out _ _ _
        exact HFN.out
      · have hk0' : (kk != 0) = true := by simpa using hk0
        have hkt : ¬ kindT (hdT (t :: r')) = 0 := by rw [show kindT (hdT (t :: r')) = kk by rw [HKK.out]; rfl]; exact hk0
        by_cases h3 : j = 3
        · have HE : Hid (q = .inl (t :: r', 3)) := by
            show _ = _
            rw [HEQ.out]; unfold signF; rw [if_neg hkt, if_pos h3]
          have h3' : ((j : Int) == 3) = true := by simp; omega
          have HFN : Hid _ := FIN.out w4 ⟨0, 0, []⟩ (.slice none 0 0) 3 (t :: r') st1 w.heap.size (HP4.out.less (fun k hk => .inl hk)) HF4.out (Nat.le_refl _) (KdX.nil _ _) (.inl ⟨by decide, HE.out⟩)
          clear hk0 hkt h3
          go_wp2
          refine bodyPost_ret (results_row_tmp rfl _ _ w.heap.size 39 #[.int .i64 0, .int .i64 0, .slice none 0 0] (0, 0) _ rfl ?_ Tryz.underlying39 rfl (by kernel_rfl)) rfl ?_
          · exact set3_row HR4.out _ _ _
          exact HFN.out
        · have HE : Hid (q = signF f (j + 1) ⟨kk, 0, [n]⟩ r' st1) := by
            show _ = _
            rw [HEQ.out, signF_on hkt h3, HKK.out]; rfl
          have h3' : ((j : Int) == 3) = false := by simp; omega
          have hk4 : t.k ≠ 4 := kindT_end (t := t) (by rw [← HKK.out]; exact hk0)
          have hj2 : j ≤ 2 := by omega
          have h5 := take_any c _ P w4 t r' st1 d HP4.out hk4
          clear hk0 hkt h3 hk4 d0 d1 d2 df0 df1 df2 t0 t1 t2 tf0 tf1 tf2
          go_wp2_with fail
          refine h5.mono ?_
          rintro e w5 ⟨rfl, hp5, hf5, hs5⟩
          clear hs5
          obtain ⟨hT5, hI5⟩ := hf5.keep w1.heap.size HT4.out.2.1 HT4.out.2
          have hT5' := hT5.trans HT4.out.1
          have HT5 : Hid (w5.heap[w1.heap.size]? = some (.cells #[.int .i64 n.k, .int .i64 n.s, .slice a n.kids.length cp] 39 (0, 0)) ∧ Im NoX w5 P w1.heap.size) := ⟨hT5', hI5⟩
          have t0 : w5.cell? ⟨w1.heap.size, 0, none⟩ = some (.int .i64 n.k) := cell_of_row _ _ 0 _ _ _ hT5'
          have tf0 : w5.frozen? ⟨w1.heap.size, 0, none⟩ = false := frozen_of_row _ _ 0 _ _ hT5'
          have t1 : w5.cell? ⟨w1.heap.size, 1, none⟩ = some (.int .i64 n.s) := cell_of_row _ _ 1 _ _ _ hT5'
          have tf1 : w5.frozen? ⟨w1.heap.size, 1, none⟩ = false := frozen_of_row _ _ 1 _ _ hT5'
          have t2 : w5.cell? ⟨w1.heap.size, 2, none⟩ = some (.slice a n.kids.length cp) := cell_of_row _ _ 2 _ _ _ hT5'
          have tf2 : w5.frozen? ⟨w1.heap.size, 2, none⟩ = false := frozen_of_row _ _ 2 _ _ hT5'
          have hlT5 : w1.heap.size < w5.heap.size := hI5.1
          have HP5 : Hid (Pa c (fun k => (X k ∨ k = w.heap.size) ∨ k = w1.heap.size) P w5 r' st1 d) := hp5
          have HZ5 : Hid (KdX (fun k => (ndW w).heap.size ≤ k ∧ Im (fun k => (X k ∨ k = w.heap.size) ∨ k = w1.heap.size) w5 P k) w5 (.slice a n.kids.length cp) n.kids) := HZ4.out.fr hf5
          have HF5 : Hid (Fr (ndW w).heap.size P (ndW w) w5) := HF4.out.then hf5 HF4.out.size
          clear h5 hp5 hf5 hT5 hT5' hI5
          go_wp2
          go_roundw
          case rel =>
            have hB6 := below_alloc w5 (.cells #[.int .i64 n.k, .int .i64 n.s, .slice a n.kids.length cp] 39)
            have hf6 := HP5.out.fr hB6
            have hp6 := HP5.out.below hB6
            obtain ⟨hT6, hI6⟩ := hf6.keep w1.heap.size hlT5 HT5.out.2
            have hS6 := heap_new' w5 (.cells #[.int .i64 n.k, .int .i64 n.s, .slice a n.kids.length cp] 39)
            have hIS := HP5.out.fresh hB6 w5.heap.size (Nat.le_refl _) (by simp)
            have hne6 : P ≠ w1.heap.size := Ne.symm hI6.2.1
            have hSne : w5.heap.size ≠ w1.heap.size := by omega
            refine ⟨j + 1, f, ⟨kk, 0, [n]⟩, some ⟨w5.heap.size, 0, none⟩, 1, r', by go_num, by omega, by have := HFJ.out.2; omega, HE, ?_, ?_, ?_, ?_, ?_⟩
            · rw [set3_alloc w5 w1.heap.size _ _ _ _ hlT5]; exact set3_row (hT6.trans HT5.out.1) _ _ _
            · rw [set3_alloc w5 w1.heap.size _ _ _ _ hlT5]; exact set3_im hne6 _ _ _ hI6
            · rw [set3_alloc w5 w1.heap.size _ _ _ _ hlT5]
              refine KdX.one (z := .slice a n.kids.length cp) ((set3_block _ _ _ _ _ _ hSne).trans hS6) ⟨by have := HF5.out.size; omega, set3_im hne6 _ _ _ hIS⟩ ?_
              exact (HZ5.out.fr hf6).to (fun k hk => ⟨set3_block _ _ _ _ _ k (fun q => hk.2.2.2.2 (.inr q)), hk.1, set3_im hne6 _ _ _ hk.2⟩)
            · rw [set3_alloc w5 w1.heap.size _ _ _ _ hlT5]; exact hp6.set3 (.inr rfl) hI6 _ _ _
            · rw [set3_alloc w5 w1.heap.size _ _ _ _ hlT5]
              have hf56 := HF5.out.then hf6 HF5.out.size
              exact hf56.trans (set3_fr _ (by rw [HSZ.out]; omega) hne6 _ _ _)
          case measure => simp [intOf]; omega
end Go.Proofs.YtfdjchnckjgapaaGreatDoor
