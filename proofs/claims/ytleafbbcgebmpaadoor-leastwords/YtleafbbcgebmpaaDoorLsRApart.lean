/-
  scansionref13.Apart.
-/
import Derived.Test.YtleafbbcgebmpaaDoorLsStep
import Derived.Deep.RegionLaw
import Derived.Deep.CutRange
import Derived.Deep.AppendLies
namespace Go.Proofs.YtleafbbcgebmpaaDoor
open Go.RowKit Go.Shelf
set_option linter.unusedVariables false

theorem Tryd.infoStep13 : (Tryd.prog.info? 51).map (fun i => (i.zero, i.size, i.bytes)) = some (some (.agg #[.int .i64 0, .int .i64 0, .int .i64 0, .int .i64 0]), 4, 32) := by kernel_rfl
/-- Steps that are the pairs that were met. -/
def RelS (T : List St) (Q : List Ent) : Prop := T.length = Q.length ∧ ∀ i, (h1 : i < T.length) → (h2 : i < Q.length) → T[i].a = Q[i].a ∧ T[i].b = Q[i].b ∧ ((T[i].fr = -1 ∧ Q[i].w = []) ∨ ∃ p : Nat, ∃ hp : p < Q.length, p < i ∧ T[i].fr = (p : Int) ∧ Q[i].w = Q[p].w ++ [T[i].c])
theorem RelS.one : RelS [⟨0, 0, -1, 0⟩] [⟨0, 0, []⟩] := ⟨rfl, fun i h1 h2 => by
  have : i = 0 := by simpa using h1
  subst this
  exact ⟨rfl, rfl, .inl ⟨rfl, rfl⟩⟩⟩
theorem RelS.snoc {T : List St} {Q : List Ent} (h : RelS T Q) {j : Nat} (hj : j < Q.length) (a b c : Nat) : RelS (T ++ [⟨a, b, (j : Int), c⟩]) (Q ++ [⟨a, b, Q[j].w ++ [c]⟩]) := by
  refine ⟨by simp [h.1], fun i h1 h2 => ?_⟩
  by_cases e : i < T.length
  · have e2 : i < Q.length := by rw [← h.1]; exact e
    rw [List.getElem_append_left e, List.getElem_append_left e2]
    obtain ⟨p1, p2, p3⟩ := h.2 i e e2
    refine ⟨p1, p2, ?_⟩
    rcases p3 with p3 | ⟨p, hp, q1, q2, q3⟩
    · exact .inl p3
    · refine .inr ⟨p, by simp; omega, q1, q2, ?_⟩
      rw [List.getElem_append_left hp]
      exact q3
  · have e3 : i = T.length := by simp at h1; omega
    have e4 : i = Q.length := by rw [e3, h.1]
    have x1 : (T ++ [(⟨a, b, (j : Int), c⟩ : St)])[i] = ⟨a, b, (j : Int), c⟩ := by
      subst e3
      simp
    have x2 : (Q ++ [(⟨a, b, Q[j].w ++ [c]⟩ : Ent)])[i] = ⟨a, b, Q[j].w ++ [c]⟩ := by
      subst e4
      simp
    rw [x1, x2]
    refine ⟨rfl, rfl, .inr ⟨j, by simp; omega, by omega, rfl, ?_⟩⟩
    rw [List.getElem_append_left hj]
theorem RelS.met {T : List St} {Q : List Ent} (h : RelS T Q) (a b : Nat) : metS T a b = metE Q a b := by
  rw [Bool.eq_iff_iff, metE_iff]
  unfold metS
  rw [List.any_eq_true]
  constructor
  · rintro ⟨x, hx, hq⟩
    obtain ⟨i, hi, rfl⟩ := List.mem_iff_getElem.1 hx
    have hi2 : i < Q.length := by rw [← h.1]; exact hi
    obtain ⟨p1, p2, _⟩ := h.2 i hi hi2
    have : T[i].a = a ∧ T[i].b = b := by simpa using hq
    exact ⟨Q[i], List.getElem_mem hi2, by rw [← p1]; exact this.1, by rw [← p2]; exact this.2⟩
  · rintro ⟨x, hx, q1, q2⟩
    obtain ⟨i, hi2, rfl⟩ := List.mem_iff_getElem.1 hx
    have hi : i < T.length := by rw [h.1]; exact hi2
    obtain ⟨p1, p2, _⟩ := h.2 i hi hi2
    exact ⟨T[i], List.getElem_mem hi, by simp [p1, p2, q1, q2]⟩
theorem st_shape {w : World} {base : Nat} {v : Value} {T : List St} (h : w.ownsRow base 51 4 v T.length (stCs T)) : ∃ a c, v = .slice a T.length c := by
  rcases h.2 with ⟨rfl, h0⟩ | ⟨g, cap, cur, rfl, _⟩
  · exact ⟨none, 0, by rw [h0]⟩
  · exact ⟨_, _, rfl⟩
theorem rowE_le (M1 M2 : Mach) (x : Ent) (Q : List Ent) : ∀ i, (rowE M1 M2 x Q i).length ≤ Q.length + i
  | 0 => Nat.le_refl _
  | i + 1 => by
    have h := rowE_le M1 M2 x Q i
    show (addE M1 M2 x (rowE M1 M2 x Q i) i).length ≤ _
    unfold addE
    split
    · omega
    · rw [List.length_append]
      simp
      omega
theorem rowE_at (M1 M2 : Mach) (x : Ent) (Q : List Ent) (i : Nat) {j : Nat} (hj : j < Q.length) : ∃ h : j < (rowE M1 M2 x Q i).length, (rowE M1 M2 x Q i)[j] = Q[j] := by
  obtain ⟨T, hT⟩ := rowE_pre (M1 := M1) (M2 := M2) x Q i
  refine ⟨by rw [hT, List.length_append]; omega, ?_⟩
  have : (rowE M1 M2 x Q i)[j]? = some Q[j] := by rw [hT, List.getElem?_append_left hj, List.getElem?_eq_getElem hj]
  exact (List.getElem?_eq_some_iff.1 this).2
def apE (N : List (List Int)) (F : List Bool) (N' : List (List Int)) (F' : List Bool) : Int := if bothB N F N' F' = true then 0 else 1
def apO (N : List (List Int)) (F : List Bool) (N' : List (List Int)) (F' : List Bool) : Option (List Nat) := if bothB N F N' F' = true then apD (mch N F) (mch N' F') else none
/-- What Apart answers. -/
def ApA (N : List (List Int)) (F : List Bool) (N' : List (List Int)) (F' : List Bool) (w : World) (e : Ending) (w' : World) : Prop := ∃ v, e = .returned (.tuple #[v, .bool (apO N F N' F').isSome, .int .i64 (apE N F N' F')]) ∧ IntsAt w' v (upI ((apO N F N' F').getD [])) ∧ Below w.heap.size w w'
/-- A step in a variable. -/
def SBox (w : World) (b : Nat) (x : St) : Prop := w.heap[b]? = some (.cells #[.int .i64 (x.a : Int), .int .i64 (x.b : Int), .int .i64 x.fr, .int .i64 (x.c : Int)] 51 (0, 0))
theorem SBox.below {w w' : World} {b : Nat} {x : St} (h : SBox w b x) (hb : Below w.heap.size w w') : SBox w' b x := (hb.block b (lt_of_heap h)).trans h
theorem both_parts {N : List (List Int)} {F : List Bool} {N' : List (List Int)} {F' : List Bool} (h : bothB N F N' F' = true) : rightD N F = true ∧ rightD N' F' = true ∧ (N.getD 0 []).length = (N'.getD 0 []).length := by
  unfold bothB at h
  simp only [Bool.and_eq_true, decide_eq_true_eq] at h
  exact ⟨h.1.1, h.1.2, h.2⟩
/-- Where classes lead, and what is final, of states in memory. -/
def AtD (w : World) (na fa : Option Addr) (n : Nat) (C : Nat) (M : Mach) : Prop := (∀ a c, a < n → c < C → ∃ g off y yc g2 o2, na = some ⟨g, off, none⟩ ∧ g < w.heap.size ∧ w.cell? ⟨g, off + a, none⟩ = some (.slice y C yc) ∧ y = some ⟨g2, o2, none⟩ ∧ g2 < w.heap.size ∧ w.cell? ⟨g2, o2 + c, none⟩ = some (.int .i64 ((M.d a c : Nat) : Int)) ∧ M.d a c < n) ∧ ∀ a, a < n → ∃ g off, fa = some ⟨g, off, none⟩ ∧ g < w.heap.size ∧ w.cell? ⟨g, off + a, none⟩ = some (.bool (M.f a))
theorem at_of {w : World} {na fa : Option Addr} {nc fc : Nat} {N : List (List Int)} {F : List Bool} (hd : DfaAt w (.agg #[.slice na N.length nc, .slice fa F.length fc]) N F) (hr : rightD N F = true) : AtD w na fa N.length (N.getD 0 []).length (mch N F) := by
  obtain ⟨na', nc', fa', fc', e, _, _, hx', hfx'⟩ := dfa_parts hd
  obtain ⟨rfl, rfl⟩ : na = na' ∧ fa = fa' := by
    injection e with e
    have e1 := congrArg (fun z : Array Value => z.getD 0 (.bool false)) e
    have e2 := congrArg (fun z : Array Value => z.getD 1 (.bool false)) e
    simp at e1 e2
    exact ⟨e1.1, e2.1⟩
  have hri := rightD_iff.1 hr
  refine ⟨fun a c haN hc => ?_, fun a ha => ?_⟩
  · obtain ⟨g, off, x, h1, h2, h3, h4⟩ := hx' a haN
    obtain ⟨y, yc, rfl, hyc⟩ := h4.slice
    have hl : N[a].length = (N.getD 0 []).length := (hri.2.2.2.2.2 a haN).1
    have hcN : c < N[a].length := by omega
    obtain ⟨g2, o2, k1, k2, k3⟩ := h4.at hcN
    obtain ⟨q, q1, q2, q3⟩ := mch_ent hr haN (c := c) (by omega)
    have e2 : (N.getD a []).getD c 0 = N[a][c] := by
      have eN : N.getD a [] = N[a] := by rw [List.getD_eq_getElem?_getD, List.getElem?_eq_getElem haN]; rfl
      rw [eN, List.getD_eq_getElem?_getD, List.getElem?_eq_getElem hcN]
      rfl
    rw [q2] at e2
    rw [hl] at h3
    refine ⟨g, off, y, yc, g2, o2, h1, h2, h3, k1, k2, ?_, by rw [q3]; omega⟩
    rw [k3, ← e2, q3]
  · have haF : a < F.length := by omega
    obtain ⟨g, off, h1, h2, h3⟩ := hfx' a haF
    refine ⟨g, off, h1, h2, h3.trans ?_⟩
    show _ = some (Value.bool (F.getD a false))
    rw [List.getD_eq_getElem?_getD, List.getElem?_eq_getElem haF]
    rfl

set_option maxRecDepth 100000 in
set_option maxHeartbeats 32000000 in
theorem rapart_any (N : List (List Int)) (F : List Bool) (dv : Value) (N' : List (List Int)) (F' : List Bool) (dv' : Value) (w : World) (hd : DfaAt w dv N F) (hd' : DfaAt w dv' N' F') (hbig : N.length * N'.length ≤ 100000) : Calls Tryd.prog 15 #[dv, dv'] w (ApA N F N' F' w) := by
  obtain ⟨i0, hi0, hz0, hz1, hz2⟩ := info_parts Tryd.infoInt
  obtain ⟨iS, hiS, hzS0, hzS1, hzS2⟩ := info_parts Tryd.infoStep13
  have HD : Hid (DfaAt w dv N F) := hd
  have HD' : Hid (DfaAt w dv' N' F') := hd'
  obtain ⟨na, nc, fa, fc, rfl, hnc, hfc, hx, hfx⟩ := dfa_parts hd
  obtain ⟨na', nc', fa', fc', rfl, hnc', hfc', hx', hfx'⟩ := dfa_parts hd'
  obtain ⟨W0, hW0⟩ : ∃ W, W = (w.alloc (.cells #[.slice na N.length nc, .slice fa F.length fc] 25)).alloc (.cells #[.slice na' N'.length nc', .slice fa' F'.length fc'] 25) := ⟨_, rfl⟩
  obtain ⟨h0, h1, hB0, hs0⟩ := alloc2 hW0
  have hbt := rboth_any N F _ N' F' _ W0 (hd.below hB0) (hd'.below hB0)
  have HAT : Hid (∀ W, rightD N F = true → Below w.heap.size w W → AtD W na fa N.length (N.getD 0 []).length (mch N F)) := fun W hr hb => at_of (hd.below hb) hr
  have HAT' : Hid (∀ W, rightD N' F' = true → Below w.heap.size w W → AtD W na' fa' N'.length (N'.getD 0 []).length (mch N' F')) := fun W hr hb => at_of (hd'.below hb) hr
  obtain ⟨n, hn⟩ : ∃ x, x = N.length := ⟨_, rfl⟩
  obtain ⟨n', hn'⟩ : ∃ x, x = N'.length := ⟨_, rfl⟩
  obtain ⟨m, hm⟩ : ∃ x, x = F.length := ⟨_, rfl⟩
  obtain ⟨m', hm'⟩ : ∃ x, x = F'.length := ⟨_, rfl⟩
  have HN : Hid (n = N.length ∧ n' = N'.length ∧ m = F.length ∧ m' = F'.length) := ⟨hn, hn', hm, hm'⟩
  rw [← hn] at h0 HAT
  rw [← hn'] at h1 HAT'
  rw [← hm] at h0
  rw [← hm'] at h1
  rw [← hn, ← hn', ← hm, ← hm'] at hbt hW0 ⊢
  have HBIG : Hid (n * n' ≤ 100000) := by rw [hn, hn']; exact hbig
  have HA0 : Hid (DBox W0 w.heap.size (.slice na n nc) (.slice fa m fc)) := h0
  have HA1 : Hid (DBox W0 (w.heap.size + 1) (.slice na' n' nc') (.slice fa' m' fc')) := h1
  have HB0 : Hid (Below w.heap.size w W0) := hB0
  have HW0 : Hid (W0 = _) := hW0
  obtain ⟨R, hR⟩ : ∃ R, R = bothB N F N' F' := ⟨_, rfl⟩
  have HR : Hid (R = bothB N F N' F') := hR
  rw [← hR] at hbt
  have a0 := HA0.out.c0
  have a1 := HA0.out.c1
  have al := HA0.out.lt
  have b0 := HA1.out.c0
  have b1 := HA1.out.c1
  have bl := HA1.out.lt
  clear hd hd' hx hfx hx' hfx' h0 h1 hB0 hs0 hW0 hn hn' hm hm' hR hbig hnc hfc hnc' hfc'
  go_enter Tryd.func15, Tryd.ntmps15
  go_upto_region 1 with fail
  rw [← HW0.out]
  go_wp2_with fail
  refine hbt.mono ?_
  rintro e wa ⟨rfl, hBa⟩
  have HBa : Hid (Below W0.heap.size W0 wa) := hBa
  have HBWa : Hid (Below w.heap.size w wa) := below_after HB0.out hBa
  clear hbt a0 a1 al b0 b1 bl hBa
  cases R with
  | false =>
    have HF : Hid (apO N F N' F' = none ∧ apE N F N' F' = 1) := by
      unfold apO apE
      rw [← HR.out]
      exact ⟨rfl, rfl⟩
    go_wp2
    go_ret3
    exact ⟨_, by rw [HF.out.1, HF.out.2]; rfl, by rw [HF.out.1]; exact IntsAt.nil _, HBWa.out⟩
  | true =>
  have HBP : Hid (rightD N F = true ∧ rightD N' F' = true ∧ (N.getD 0 []).length = (N'.getD 0 []).length) := both_parts HR.out.symm
  obtain ⟨C, hC⟩ : ∃ x, x = (N.getD 0 []).length := ⟨_, rfl⟩
  have HMO : Hid ((mch N F).Ok ∧ (mch N' F').Ok ∧ (mch N F).k = (mch N' F').k ∧ (mch N F).n = n ∧ (mch N' F').n = n' ∧ (mch N F).k = C) := ⟨mch_ok HBP.out.1, mch_ok HBP.out.2.1, HBP.out.2.2, HN.out.1.symm, HN.out.2.1.symm, hC.symm⟩
  have hCC : (N'.getD 0 []).length = C := by rw [hC]; exact HBP.out.2.2.symm
  rw [← hC] at HAT
  rw [hCC] at HAT'
  have HMF : Hid (m = n ∧ m' = n' ∧ 1 ≤ n ∧ 1 ≤ n' ∧ 1 ≤ C ∧ C ≤ 200) := by
    have h1 := rightD_iff.1 HBP.out.1
    have h2 := rightD_iff.1 HBP.out.2.1
    have h3 := HN.out
    refine ⟨by omega, by omega, by omega, by omega, by omega, by omega⟩
  have hC1 : 1 ≤ C := HMF.out.2.2.2.2.1
  have hC2 : C ≤ 200 := HMF.out.2.2.2.2.2
  have hn1 : 1 ≤ n := HMF.out.2.2.1
  have HAP : Hid (apO N F N' F' = apD (mch N F) (mch N' F') ∧ apE N F N' F' = 0) := by
    unfold apO apE
    rw [← HR.out]
    exact ⟨rfl, rfl⟩
  obtain ⟨W1, hW1⟩ : ∃ W, W = wa.alloc (.cells #[.int .i64 0, .int .i64 0, .int .i64 (-1), .int .i64 0] 51) := ⟨_, rfl⟩
  have HO1 : Hid (W1.ownsRow wa.heap.size 51 4 (.slice (some ⟨wa.heap.size, 0, none⟩) 1 1) ([⟨0, 0, -1, 0⟩] : List St).length (stCs [⟨0, 0, -1, 0⟩])) := by
    rw [hW1]
    exact World.ownsRow_lit (size := 4) wa #[.int .i64 0, .int .i64 0, .int .i64 (-1), .int .i64 0] 1 (Nat.le_refl _) (by unfold maxLen; omega) rfl
  have HB1 : Hid (Below wa.heap.size wa W1) := by rw [hW1]; exact below_alloc _ _
  have HW1 : Hid (W1 = _) := hW1
  have HREL : Hid (Vq (mch N F) (mch N' F') 0 ∧ Eq1 (mch N F) (mch N' F') 0 ∧ RelS [⟨0, 0, -1, 0⟩] (qE (mch N F) (mch N' F') 0)) := ⟨fun i h => absurd h (by omega), fun i h => absurd h (by omega), RelS.one⟩
  have HBX : Hid (∀ W, Below wa.heap.size wa W → W.cell? ⟨w.heap.size, 0, none⟩ = some (.slice na n nc) ∧ W.cell? ⟨w.heap.size, 1, none⟩ = some (.slice fa m fc) ∧ w.heap.size < W.heap.size ∧ W.cell? ⟨w.heap.size + 1, 0, none⟩ = some (.slice na' n' nc') ∧ W.cell? ⟨w.heap.size + 1, 1, none⟩ = some (.slice fa' m' fc') ∧ w.heap.size + 1 < W.heap.size) := fun W hb => by
    have h1 := HA0.out.below (below_after HBa.out hb)
    have h2 := HA1.out.below (below_after HBa.out hb)
    exact ⟨h1.c0, h1.c1, h1.lt, h2.c0, h2.c1, h2.lt⟩
  obtain ⟨NN, hNN⟩ : ∃ x, x = n * n' := ⟨_, rfl⟩
  have HNN : Hid (NN = n * n' ∧ NN ≤ 100000) := ⟨hNN, by rw [hNN]; exact HBIG.out⟩
  have hNN5 : NN ≤ 100000 := HNN.out.2
  have HLEN : Hid (∀ j, Vq (mch N F) (mch N' F') j → (qE (mch N F) (mch N' F') j).length ≤ NN) := fun j hv => by
    have := hv.bound HMO.out.1 HMO.out.2.1 HMO.out.2.2.1
    rw [HMO.out.2.2.2.1, HMO.out.2.2.2.2.1] at this
    rw [HNN.out.1]
    exact this
  clear hW1 hC hCC hNN
  go_upto_region 5 with fail
  rw [← HW1.out]
  go_wp2
  go_loopw [8, 9] (fun x8 x9 wr => ∃ (j : Nat) (sv : Value) (T : List St), j ≤ NN ∧ x8 = sv ∧ x9 = .int .i64 (j : Int) ∧ Hid (Vq (mch N F) (mch N' F') j ∧ Eq1 (mch N F) (mch N' F') j ∧ RelS T (qE (mch N F) (mch N' F') j)) ∧ Hid (wr.ownsRow wa.heap.size 51 4 sv T.length (stCs T)) ∧ Hid (Below wa.heap.size wa wr)) (fun _ x9 _ => NN + 1 - (intOf x9).toNat)
  case atStart => exact ⟨0, _, _, Nat.zero_le _, rfl, rfl, HREL, HO1, HB1⟩
  case round =>
    obtain ⟨j, sv, T, hjN, hx8, rfl, HV, HO, HB⟩ := hrel
    subst hx8
    obtain ⟨sa, sc, hse⟩ := st_shape HO.out
    obtain ⟨tl, htl⟩ : ∃ x, x = T.length := ⟨_, rfl⟩
    have HTL : Hid (tl = T.length) := htl
    rw [← htl] at hse
    subst hse
    have HQL : Hid (tl = (qE (mch N F) (mch N' F') j).length) := by show _ = _; rw [htl]; exact HV.out.2.2.1
    clear htl
    by_cases hjl : j < tl
    case neg =>
      have HF : Hid (apD (mch N F) (mch N' F') = none) := apD_through HMO.out.1 HMO.out.2.1 HMO.out.2.2.1 HV.out.1 HV.out.2.1 (by rw [← HQL.out]; exact hjl)
      have HBF : Hid (Below w.heap.size w wr) := below_after HBWa.out HB.out
      go_wp2
      go_ret3
      exact ⟨_, by rw [HAP.out.1, HAP.out.2, HF.out]; rfl, by rw [HAP.out.1, HF.out]; exact IntsAt.nil _, HBF.out⟩
    case pos =>
    have hjT : j < T.length := by rw [← HTL.out]; exact hjl
    have hjQ : j < (qE (mch N F) (mch N' F') j).length := by rw [← HQL.out]; exact hjl
    obtain ⟨sg, sc2, hs1, hs2, hs3, z0, z1, z2, z3⟩ := st_cells HO.out hjT
    rw [← HTL.out] at hs1 hs2
    obtain ⟨hsa, hsc⟩ : sa = some ⟨sg, 0, none⟩ ∧ sc = sc2 := by
      injection hs1 with h1 _ h3
      exact ⟨h1, h3⟩
    subst hsa hsc
    obtain ⟨p1, p2, p3⟩ := HV.out.2.2.2 j hjT hjQ
    obtain ⟨X, hX⟩ : ∃ x, x = T[j] := ⟨_, rfl⟩
    have hee : (qE (mch N F) (mch N' F') j).getD j ⟨0, 0, []⟩ = (qE (mch N F) (mch N' F') j)[j] := by rw [List.getD_eq_getElem?_getD, List.getElem?_eq_getElem hjQ]; rfl
    have HXQ : Hid (X.a = ((qE (mch N F) (mch N' F') j).getD j ⟨0, 0, []⟩).a ∧ X.b = ((qE (mch N F) (mch N' F') j).getD j ⟨0, 0, []⟩).b ∧ X.a < n ∧ X.b < n') := by
      have hg := (qE_ok HMO.out.1 HMO.out.2.1 HMO.out.2.2.1 j HV.out.1).1 _ (List.getElem_mem hjQ)
      refine ⟨by rw [hX, hee]; exact p1, by rw [hX, hee]; exact p2, ?_, ?_⟩
      · rw [hX, p1, ← HMO.out.2.2.2.1]; exact hg.2.2.2.1
      · rw [hX, p2, ← HMO.out.2.2.2.2.1]; exact hg.2.2.2.2
    rw [← hX] at z0 z1 z2 z3
    obtain ⟨xa, hxa⟩ : ∃ x, x = X.a := ⟨_, rfl⟩
    obtain ⟨xb, hxb⟩ : ∃ x, x = X.b := ⟨_, rfl⟩
    obtain ⟨xf, hxf⟩ : ∃ x, x = X.fr := ⟨_, rfl⟩
    obtain ⟨xc, hxc⟩ : ∃ x, x = X.c := ⟨_, rfl⟩
    have HXX : Hid (xa = X.a ∧ xb = X.b ∧ xf = X.fr ∧ xc = X.c) := ⟨hxa, hxb, hxf, hxc⟩
    rw [← hxa] at z0
    rw [← hxb] at z1
    rw [← hxf] at z2
    rw [← hxc] at z3
    obtain ⟨XB, hXB⟩ : ∃ x, x = wr.heap.size := ⟨_, rfl⟩
    have HXE0 : Hid (∀ k, (Value.slice (some ⟨sg, 0, none⟩) tl sc).ownBlock = some k → k ≠ XB) := fun k e => by
      have := (HO.out.lt k e).2
      omega
    obtain ⟨W2, hW2⟩ : ∃ W, W = wr.alloc (.cells #[.int .i64 (xa : Int), .int .i64 (xb : Int), .int .i64 xf, .int .i64 (xc : Int)] 51) := ⟨_, rfl⟩
    have hB2 : Below wr.heap.size wr W2 := by rw [hW2]; exact below_alloc _ _
    have hq2 : W2.heap[wr.heap.size]? = some (.cells #[.int .i64 (xa : Int), .int .i64 (xb : Int), .int .i64 xf, .int .i64 (xc : Int)] 51 (0, 0)) := by rw [hW2]; exact heap_new' _ _
    rw [← hXB] at hq2
    have HXQ2 : Hid (∀ W, Below W2.heap.size W2 W → W.heap[XB]? = some (.cells #[.int .i64 (xa : Int), .int .i64 (xb : Int), .int .i64 xf, .int .i64 (xc : Int)] 51 (0, 0))) := fun W hb => (hb.block _ (lt_of_heap hq2)).trans hq2
    have HXB : Hid (∀ W, Below W2.heap.size W2 W → W.cell? ⟨XB, 0, none⟩ = some (.int .i64 (xa : Int)) ∧ W.cell? ⟨XB, 1, none⟩ = some (.int .i64 (xb : Int)) ∧ XB < W.heap.size) := fun W hb => by
      have h := (hb.block _ (lt_of_heap hq2)).trans hq2
      exact ⟨cell_in h 0, cell_in h 1, lt_of_heap h⟩
    have HB2 : Hid (Below wa.heap.size wa W2) := below_after HB.out hB2
    have HO2 : Hid (W2.ownsRow wa.heap.size 51 4 (.slice (some ⟨sg, 0, none⟩) tl sc) T.length (stCs T)) := ownsRow_below HO.out hB2
    have HBW2 : Hid (Below w.heap.size w W2) := below_after HBWa.out HB2.out
    obtain ⟨gf, of, hfe, hgf, f0⟩ := (HAT.out W2 HBP.out.1 HBW2.out).2 xa (by rw [hxa]; exact HXQ.out.2.2.1)
    obtain ⟨gf', of', hfe', hgf', f0'⟩ := (HAT'.out W2 HBP.out.2.1 HBW2.out).2 xb (by rw [hxb]; exact HXQ.out.2.2.2)
    subst hfe hfe'
    obtain ⟨y0, y1, yl, y2, y3, yl'⟩ := HBX.out W2 HB2.out
    obtain ⟨v0, v1, vl⟩ := HXB.out W2 (Below.refl _ _)
    obtain ⟨u, hu⟩ : ∃ u, u = (mch N F).f xa := ⟨_, rfl⟩
    obtain ⟨u', hu'⟩ : ∃ u, u = (mch N' F').f xb := ⟨_, rfl⟩
    have HU : Hid (u = (mch N F).f ((qE (mch N F) (mch N' F') j).getD j ⟨0, 0, []⟩).a ∧ u' = (mch N' F').f ((qE (mch N F) (mch N' F') j).getD j ⟨0, 0, []⟩).b) := by
      show _ ∧ _
      rw [← HXQ.out.1, ← HXQ.out.2.1, hu, hu', hxa, hxb]
      exact ⟨rfl, rfl⟩
    rw [← hu] at f0
    rw [← hu'] at f0'
    have hxan : (xa : Int) < (m : Int) := by have h1 := HXQ.out.2.2.1; have h2 := HMF.out.1; have h3 := HXX.out.1; omega
    have hxbn : (xb : Int) < (m' : Int) := by have h1 := HXQ.out.2.2.2; have h2 := HMF.out.2.1; have h3 := HXX.out.2.1; omega
    have hxa0 : (0 : Int) ≤ (xa : Int) := by omega
    have hxb0 : (0 : Int) ≤ (xb : Int) := by omega
    have hj0 : (0 : Int) ≤ (j : Int) := by omega
    have hj1 : (j : Int) < (tl : Int) := by omega
    have HW2 : Hid (W2 = _) := hW2
    obtain ⟨ue, hue⟩ : ∃ b, b = (u == u') := ⟨_, rfl⟩
    have HUE : Hid (ue = (u == u')) := hue
    have hue' : (u == u') = ue := hue.symm
    clear hs1 p1 p2 p3 hX hee hxa hxb hxf hxc hW2 hB2 hq2 hu hu' hue hjT hjQ
    go_upto_region 9 with fail
    rw [← HW2.out, ← hXB]
    clear hXB
    obtain ⟨un, hun⟩ : ∃ b, b = !ue := ⟨_, rfl⟩
    have HUN : Hid (un = !ue) := hun
    clear hun
    go_cut [44] from 32 to 45 (fun s wx => s = .bool un ∧ Hid (Below W2.heap.size W2 wx))
    case first =>
      go_region
      all_goals (
        go_wp2
        go_meet
        exact ⟨by rw [HUN.out], by first | exact (Below.refl _ _).drew | exact below_drewN' (Below.refl _ _) _⟩)
    case rest =>
    obtain ⟨rfl, HBc⟩ := hcut
    have HUE : Hid (un = !(u == u')) := by have h1 := HUN.out; have h2 := HUE.out; rw [h2] at h1; exact h1
    obtain ⟨w3, hw3⟩ : ∃ W, W = wc := ⟨_, rfl⟩
    rw [← hw3] at HBc ⊢
    have HB3 : Hid (Below wa.heap.size wa w3) := below_after HB2.out HBc.out
    have HO3 : Hid (w3.ownsRow wa.heap.size 51 4 (.slice (some ⟨sg, 0, none⟩) tl sc) T.length (stCs T)) := ownsRow_below HO2.out HBc.out
    clear hw3 y0 y1 yl y2 y3 yl' v0 v1 vl f0 f0' z0 z1 z2 z3 hs2 hs3 hgf hgf' HO HO2
    clear hue' HUN
    cases un with
    | true =>
      have HFD : Hid (apD (mch N F) (mch N' F') = some ((qE (mch N F) (mch N' F') j).getD j ⟨0, 0, []⟩).w) := by
        refine apD_found HMO.out.1 HMO.out.2.1 HMO.out.2.2.1 HV.out.1 HV.out.2.1 (by rw [← HQL.out]; exact hjl) ?_
        rw [← HU.out.1, ← HU.out.2]
        have := HUE.out
        intro e
        rw [e] at this
        simp at this
      go_upto_region 11 with fail
      go_wp2
      go_loopw [11, 12] (fun x11 x12 wr => ∃ (k : Nat) (v : Value) (wd : List Nat), k < tl ∧ x11 = v ∧ x12 = .int .i64 (k : Int) ∧ Hid (((qE (mch N F) (mch N' F') j).getD j ⟨0, 0, []⟩).w = ((qE (mch N F) (mch N' F') j).getD k ⟨0, 0, []⟩).w ++ wd) ∧ Hid (wr.ownsRow w3.heap.size 3 1 v wd.length (cellP wd)) ∧ Hid (wd.length + k ≤ j) ∧ Hid (Below w3.heap.size w3 wr)) (fun _ x12 _ => (intOf x12).toNat)
      case atStart => exact ⟨j, _, [], hjl, rfl, rfl, by show _ = _; simp, World.ownsRow_nil _ _ _ _, by show [].length + j ≤ j; simp, Below.refl _ _⟩
      case round =>
        obtain ⟨k, v, wd, hk, hx11, rfl, HWD, HOW, HLK, HBr⟩ := hrel
        subst hx11
        have HOT : Hid (wr.ownsRow wa.heap.size 51 4 (.slice (some ⟨sg, 0, none⟩) tl sc) T.length (stCs T)) := ownsRow_below HO3.out HBr.out
        have hkT : k < T.length := by rw [← HTL.out]; exact hk
        have hkQ : k < (qE (mch N F) (mch N' F') j).length := by rw [← HQL.out]; exact hk
        obtain ⟨sg2, sc2, hs1, hs2, hs3, z0, z1, z2, z3⟩ := st_cells HOT.out hkT
        rw [← HTL.out] at hs1 hs2
        obtain ⟨hsa, hsc⟩ : sg = sg2 ∧ sc = sc2 := by
          injection hs1 with h1 _ h3
          injection h1 with h1
          injection h1 with h1 _ _
          exact ⟨h1, h3⟩
        subst hsa hsc
        obtain ⟨p1, p2, p3⟩ := HV.out.2.2.2 k hkT hkQ
        have e : (qE (mch N F) (mch N' F') j).getD k ⟨0, 0, []⟩ = (qE (mch N F) (mch N' F') j)[k] := by rw [List.getD_eq_getElem?_getD, List.getElem?_eq_getElem hkQ]; rfl
        obtain ⟨va, vn, vc, rfl⟩ := own_slice' HOW.out
        have hk0 : (0 : Int) ≤ (k : Int) := by omega
        have hk1 : (k : Int) < (tl : Int) := by omega
        have HBF : Hid (Below w.heap.size w wr) := below_after HBWa.out (below_after HB3.out HBr.out)
        rcases p3 with ⟨q1, q2⟩ | ⟨p, hp, q1, q2, q3⟩
        · rw [q1] at z2
          have HFIN : Hid (apO N F N' F' = some wd) := by
            have h1 := HWD.out
            rw [e, q2, List.nil_append] at h1
            show _ = _
            rw [HAP.out.1, HFD.out, h1]
          clear p1 p2 q1 q2 e hs1 z0 z1 z3 hkT hkQ
          go_wp2
          go_ret3
          exact ⟨_, by rw [HFIN.out, HAP.out.2]; rfl, by rw [HFIN.out]; exact (plc_of_row (b0 := 0) HOW.out (Nat.zero_le _)).ints, HBF.out⟩
        · rw [q2] at z2
          obtain ⟨cc, hcc⟩ : ∃ x, x = T[k].c := ⟨_, rfl⟩
          rw [← hcc] at z3 q3
          have HNX : Hid (((qE (mch N F) (mch N' F') j).getD j ⟨0, 0, []⟩).w = ((qE (mch N F) (mch N' F') j).getD p ⟨0, 0, []⟩).w ++ (cc :: wd)) := by
            have e2 : (qE (mch N F) (mch N' F') j).getD p ⟨0, 0, []⟩ = (qE (mch N F) (mch N' F') j)[p] := by rw [List.getD_eq_getElem?_getD, List.getElem?_eq_getElem hp]; rfl
            show _ = _
            rw [HWD.out, e, q3, e2, List.append_assoc]
            rfl
          have hp0 : decide ((p : Int) ≥ 0) = true := decide_eq_true (by omega)
          have hp0' : decide ((0 : Int) ≤ (p : Int)) = true := decide_eq_true (by omega)
          have HLK2 : Hid ((cc :: wd).length + p ≤ j) := by have := HLK.out; show (wd.length + 1) + p ≤ j; omega
          have hptl : p < tl := by omega
          have HPK : Hid (p < k) := q1
          have HSR : Hid (SrcIs (wr.alloc (.cells #[.int .i64 (cc : Int)] 3)) (.slice va vn vc) wd.length 1 (cellP wd)) := ((show PlcAt 0 0 wr (.slice va vn vc) wd from plc_of_row HOW.out (Nat.zero_le _)).below (below_alloc _ _)).src
          have HO9 : Hid ((wr.alloc (.cells #[.int .i64 (cc : Int)] 3)).ownsRow w3.heap.size 3 1 (.slice (some ⟨wr.heap.size, 0, none⟩) 1 1) 1 [.int .i64 (cc : Int)]) := World.ownsRow_lit wr #[.int .i64 (cc : Int)] 1 HBr.out.size (by unfold maxLen; omega) rfl
          have hsz8 : w3.heap.size ≤ wr.heap.size := HBr.out.size
          have hwdl : wd.length ≤ 100000 := by have := HLK.out; omega
          have HFR : Hid (∀ W, Below w3.heap.size w3 W → W.cell? ⟨sg, k * 4 + 2, none⟩ = some (.int .i64 (p : Int)) ∧ sg < W.heap.size) := fun W hb => by
            obtain ⟨sg3, sc3, h1, _, h3, _, _, h6, _⟩ := st_cells (ownsRow_below HO3.out hb) hkT
            rw [← HTL.out] at h1
            obtain rfl : sg = sg3 := by
              injection h1 with h1 _ _
              injection h1 with h1
              injection h1 with h1 _ _
            rw [q2] at h6
            exact ⟨h6, h3⟩
          clear p1 p2 q1 q2 q3 e hs1 z0 z1 hcc hkT hkQ hp
          go_wp2_with (at_builtin; go_must (refine wpList_append_src _ rfl _ _ 33 rfl w3.heap.size 3 i0 (.int .i64 0) 1 8 Tryd.underlying33 hi0 hz0 hz1 hz2 rfl (by decide) _ _ _ rfl HO9.out _ rfl wd.length (cellP wd) HSR.out (by unfold maxLen; omega) (by omega) (by simp; omega) ?_); intro v3 w4 ho3 hg3; have hB4 : Below w3.heap.size w3 w4 := (HBr.out.alloc hsz8 _).grown hg3 (by simp; omega) (fun z e => (HO9.out.lt z e).1); have HB4 : Hid (Below w3.heap.size w3 w4) := hB4; have HO4 : Hid (w4.ownsRow w3.heap.size 3 1 v3 (cc :: wd).length (cellP (cc :: wd))) := (by show World.ownsRow _ _ _ _ _ _ _; rw [List.length_cons, Nat.add_comm]; exact ho3); obtain ⟨k2, k3⟩ := HFR.out w4 hB4; clear ho3 hg3 hB4 z2 z3)
          go_wp2
          go_roundw
          case rel => first | exact ⟨p, _, cc :: wd, hptl, rfl, by go_num, HNX, HO4, HLK2, HB4⟩ | exact ⟨_, cc :: wd, p, hptl, rfl, HNX, HO4, HLK2, HB4⟩ | exact ⟨_, cc :: wd, hptl, rfl, HNX, HO4, HLK2, HB4⟩ | exact ⟨cc :: wd, hptl, HNX, HO4, HLK2, HB4⟩ | exact ⟨p, hptl, _, rfl, cc :: wd, rfl, HNX, HO4, HLK2, HB4⟩
          case measure => (have := HPK.out; simp [intOf]; omega)
    | false =>
      have HE1 : Hid (Eq1 (mch N F) (mch N' F') (j + 1)) := fun i hi => by
        by_cases e : i = j
        · subst e
          rw [← HU.out.1, ← HU.out.2]
          have := HUE.out
          simpa using this
        · exact HV.out.2.1 i (by omega)
      have HVQ : Hid (Vq (mch N F) (mch N' F') (j + 1)) := HV.out.1.succ (by rw [← HQL.out]; exact hjl)
      obtain ⟨xe, hxe⟩ : ∃ x, x = (qE (mch N F) (mch N' F') j).getD j ⟨0, 0, []⟩ := ⟨_, rfl⟩
      have HXE : Hid (xe = (qE (mch N F) (mch N' F') j).getD j ⟨0, 0, []⟩ ∧ xe.a = xa ∧ xe.b = xb) := by
        refine ⟨hxe, ?_, ?_⟩
        · rw [hxe, ← HXQ.out.1, HXX.out.1]
        · rw [hxe, ← HXQ.out.2.1, HXX.out.2.1]
      have HRL : Hid (RelS T (rowE (mch N F) (mch N' F') xe (qE (mch N F) (mch N' F') j) 0)) := HV.out.2.2
      clear hxe
      go_upto_region 16 with fail
      go_wp2
      go_loopw [8, 13] (fun x8 x13 wr => ∃ (i : Nat) (sv : Value) (T : List St), i ≤ C ∧ x8 = sv ∧ x13 = .int .i64 (i : Int) ∧ Hid (RelS T (rowE (mch N F) (mch N' F') xe (qE (mch N F) (mch N' F') j) i)) ∧ Hid (wr.ownsRow wa.heap.size 51 4 sv T.length (stCs T)) ∧ Hid (Below wa.heap.size wa wr ∧ wr.heap[XB]? = some (.cells #[.int .i64 (xa : Int), .int .i64 (xb : Int), .int .i64 xf, .int .i64 (xc : Int)] 51 (0, 0)) ∧ ∀ k, sv.ownBlock = some k → k ≠ XB)) (fun _ x13 _ => C - (intOf x13).toNat)
      case atStart => exact ⟨0, _, T, Nat.zero_le _, rfl, rfl, HRL, HO3, HB3.out, HXQ2.out w3 HBc.out, HXE0.out⟩
      case round =>
        obtain ⟨i, sv, T2, hi, hx8, rfl, HRI, HO, HB⟩ := hrel
        subst hx8
        obtain ⟨sa2, sc2, hse⟩ := st_shape HO.out
        obtain ⟨tl2, htl2⟩ : ∃ x, x = T2.length := ⟨_, rfl⟩
        have HTL2 : Hid (tl2 = T2.length) := htl2
        rw [← htl2] at hse
        subst hse
        have HBa3 : Hid (Below wa.heap.size wa wr) := HB.out.1
        have HBw3 : Hid (Below w.heap.size w wr) := below_after HBWa.out HBa3.out
        obtain ⟨y0, y1, yl, y2, y3, yl'⟩ := HBX.out wr HBa3.out
        have v0 := cell_in HB.out.2.1 0
        have v1 := cell_in HB.out.2.1 1
        have vl := lt_of_heap HB.out.2.1
        simp at v0 v1
        have hxan2 : (xa : Int) < (n : Int) := by have h1 := HMF.out.1; omega
        have hxbn2 : (xb : Int) < (n' : Int) := by have h1 := HMF.out.2.1; omega
        have hn0 : (0 : Int) < (n : Int) := by omega
        obtain ⟨gb, ob, yb, ycb, g3, o3, e3, l3, z3, e4, l4, _, _⟩ := (HAT.out wr HBP.out.1 HBw3.out).1 0 0 (by omega) (by omega)
        subst e3 e4
        rw [Nat.add_zero] at z3
        clear htl2
        by_cases hil : i < C
        case neg =>
          obtain rfl : i = C := by omega
          have HV1 : Hid (Vq (mch N F) (mch N' F') (j + 1) ∧ Eq1 (mch N F) (mch N' F') (j + 1) ∧ RelS T2 (qE (mch N F) (mch N' F') (j + 1))) := by
            refine ⟨HVQ.out, HE1.out, ?_⟩
            have := HRI.out
            rw [← HMO.out.2.2.2.2.2, HXE.out.1] at this
            exact this
          have hj1N : j + 1 ≤ NN := by
            have h1 := HLEN.out j HV.out.1
            have h2 := HQL.out
            omega
          go_wp2
          go_roundw
          case rel => exact ⟨j + 1, _, T2, hj1N, rfl, by go_num, HV1, HO, HBa3⟩
          case measure => simp [intOf]; omega
        case pos =>
        obtain ⟨g1, o1, ya1, yc1, g2, o2, e1, l1, z5, e2, l2, z6, hd1⟩ := (HAT.out wr HBP.out.1 HBw3.out).1 xa i (by omega) hil
        obtain ⟨g1', o1', ya1', yc1', g2', o2', e1', l1', z5', e2', l2', z6', hd1'⟩ := (HAT'.out wr HBP.out.2.1 HBw3.out).1 xb i (by omega) hil
        obtain ⟨rfl, rfl⟩ : gb = g1 ∧ ob = o1 := by
          injection e1 with e1
          injection e1 with h1 h2 _
          exact ⟨h1, h2⟩
        subst e2 e1' e2'
        obtain ⟨D1, hD1⟩ : ∃ x, x = (mch N F).d xa i := ⟨_, rfl⟩
        obtain ⟨D2, hD2⟩ : ∃ x, x = (mch N' F').d xb i := ⟨_, rfl⟩
        have HDD : Hid (D1 = (mch N F).d xe.a i ∧ D2 = (mch N' F').d xe.b i) := by show _ ∧ _; rw [HXE.out.2.1, HXE.out.2.2]; exact ⟨hD1, hD2⟩
        rw [← hD1] at z6
        rw [← hD2] at z6'
        have hi0 : (0 : Int) ≤ (i : Int) := by omega
        have hi1 : (i : Int) < (C : Int) := by omega
        have HT2L : Hid (T2.length ≤ NN + 200) := by
          have h1 := rowE_le (mch N F) (mch N' F') xe (qE (mch N F) (mch N' F') j) i
          have h2 := HRI.out.1
          have h3 := HLEN.out j HV.out.1
          show _ ≤ _
          omega
        have htl3 : tl2 ≤ 100200 := by have := HT2L.out; have := HTL2.out; omega
        clear hD1 hD2 e1 hd1 hd1'
        go_upto_region 19 with fail
        go_cut [14] from 75 to 96 (fun s wx => ∃ YB : Nat, s = .pointer (some ⟨YB, 0, none⟩) ∧ Hid (wx.heap[YB]? = some (.cells #[.int .i64 (D1 : Int), .int .i64 (D2 : Int), .int .i64 (j : Int), .int .i64 (i : Int)] 51 (0, 0)) ∧ Below wr.heap.size wr wx))
        case first =>
          go_region
          all_goals (
            go_wp2
            go_meet
            exact ⟨_, rfl, by exact heap_new' _ _, by first | exact (Below.refl _ _).drew.alloc (Nat.le_refl _) _ | exact (below_drewN' (Below.refl _ _) _).alloc (Nat.le_refl _) _ | exact below_alloc _ _⟩)
        case rest =>
        obtain ⟨YB, rfl, hY⟩ := hcut
        obtain ⟨w4, hw4⟩ : ∃ W, W = wc := ⟨_, rfl⟩
        rw [← hw4] at hY ⊢
        have HYB : Hid (w4.heap[YB]? = some (.cells #[.int .i64 (D1 : Int), .int .i64 (D2 : Int), .int .i64 (j : Int), .int .i64 (i : Int)] 51 (0, 0))) := hY.out.1
        have HB4 : Hid (Below wr.heap.size wr w4) := hY.out.2
        have HO4 : Hid (w4.ownsRow wa.heap.size 51 4 (.slice sa2 tl2 sc2) T2.length (stCs T2)) := ownsRow_below HO.out HB4.out
        have c0 := cell_in HYB.out 0
        have c1 := cell_in HYB.out 1
        have c2 := cell_in HYB.out 2
        have c3 := cell_in HYB.out 3
        have cl := lt_of_heap HYB.out
        simp at c0 c1 c2 c3
        have hmt := rmet_any T2 wa.heap.size (.slice sa2 tl2 sc2) D1 D2 w4 HO4.out (by have := HT2L.out; omega)
        obtain ⟨mb, hmb⟩ : ∃ b, b = metS T2 D1 D2 := ⟨_, rfl⟩
        have HMB : Hid (mb = metE (rowE (mch N F) (mch N' F') xe (qE (mch N F) (mch N' F') j) i) D1 D2) := by show _ = _; rw [hmb]; exact HRI.out.met D1 D2
        rw [← hmb] at hmt
        have HB5 : Hid (Below wa.heap.size wa w4 ∧ w4.heap[XB]? = some (.cells #[.int .i64 (xa : Int), .int .i64 (xb : Int), .int .i64 xf, .int .i64 (xc : Int)] 51 (0, 0)) ∧ ∀ k, (Value.slice sa2 tl2 sc2).ownBlock = some k → k ≠ XB) := ⟨below_after HBa3.out HB4.out, (HB4.out.block _ (lt_of_heap HB.out.2.1)).trans HB.out.2.1, HB.out.2.2⟩
        clear hY hw4 hmb z5 z6 z5' z6' z3 l1 l2 l1' l2' l3 l4 y0 y1 yl y2 y3 yl' v0 v1 vl
        go_wp2_with fail
        refine hmt.mono ?_
        rintro e w5 ⟨rfl, hw5⟩
        obtain rfl := hw5.symm
        clear hmt hw5
        cases mb with
        | true =>
          have HNX : Hid (RelS T2 (rowE (mch N F) (mch N' F') xe (qE (mch N F) (mch N' F') j) (i + 1))) := by
            have e : rowE (mch N F) (mch N' F') xe (qE (mch N F) (mch N' F') j) (i + 1) = rowE (mch N F) (mch N' F') xe (qE (mch N F) (mch N' F') j) i := by
              show addE (mch N F) (mch N' F') xe (rowE (mch N F) (mch N' F') xe (qE (mch N F) (mch N' F') j) i) i = _
              unfold addE
              rw [← HDD.out.1, ← HDD.out.2, if_pos HMB.out.symm]
            show RelS _ _
            rw [e]
            exact HRI.out
          go_wp2
          go_roundw
          case rel => exact ⟨i + 1, _, T2, by omega, rfl, by go_num, HNX, HO4, HB5⟩
          case measure => simp [intOf]; omega
        | false =>
          have HNX : Hid (RelS (T2 ++ [⟨D1, D2, (j : Int), i⟩]) (rowE (mch N F) (mch N' F') xe (qE (mch N F) (mch N' F') j) (i + 1))) := by
            have hjQ : j < (qE (mch N F) (mch N' F') j).length := by rw [← HQL.out]; exact hjl
            obtain ⟨hjR, hje⟩ := rowE_at (mch N F) (mch N' F') xe (qE (mch N F) (mch N' F') j) i hjQ
            have hxe2 : xe = (qE (mch N F) (mch N' F') j)[j] := by rw [HXE.out.1, List.getD_eq_getElem?_getD, List.getElem?_eq_getElem hjQ]; rfl
            have e : rowE (mch N F) (mch N' F') xe (qE (mch N F) (mch N' F') j) (i + 1) = rowE (mch N F) (mch N' F') xe (qE (mch N F) (mch N' F') j) i ++ [⟨D1, D2, (rowE (mch N F) (mch N' F') xe (qE (mch N F) (mch N' F') j) i)[j].w ++ [i]⟩] := by
              show addE (mch N F) (mch N' F') xe (rowE (mch N F) (mch N' F') xe (qE (mch N F) (mch N' F') j) i) i = _
              unfold addE
              rw [← HDD.out.1, ← HDD.out.2, if_neg (by rw [← HMB.out]; decide), hje, ← hxe2]
            show RelS _ _
            rw [e]
            exact HRI.out.snoc hjR D1 D2 i
          have HO6 : Hid ((w4.alloc (.cells #[.int .i64 (D1 : Int), .int .i64 (D2 : Int), .int .i64 (j : Int), .int .i64 (i : Int)] 51)).ownsRow wa.heap.size 51 4 (.slice sa2 tl2 sc2) tl2 (stCs T2)) := by
            have := ownsRow_below HO4.out (below_alloc w4 (.cells #[.int .i64 (D1 : Int), .int .i64 (D2 : Int), .int .i64 (j : Int), .int .i64 (i : Int)] 51))
            rw [← HTL2.out] at this
            exact this
          have hbs : wa.heap.size ≤ w4.heap.size := (below_after HBa3.out HB4.out).size
          have HFN : Hid (∀ w6 g6 cap, w6.ownsRow wa.heap.size 51 4 (.slice (some ⟨g6, 0, none⟩) (tl2 + 1) cap) (tl2 + 1) (stCs T2 ++ [.int .i64 (D1 : Int), .int .i64 (D2 : Int), .int .i64 (j : Int), .int .i64 (i : Int)]) → (w4.alloc (.cells #[.int .i64 (D1 : Int), .int .i64 (D2 : Int), .int .i64 (j : Int), .int .i64 (i : Int)] 51)).grownBy w6 (Value.slice sa2 tl2 sc2).ownBlock → ((Value.slice sa2 tl2 sc2).ownBlock = some g6 ∨ g6 = w4.heap.size + 1) → Hid (w6.ownsRow wa.heap.size 51 4 (.slice (some ⟨g6, 0, none⟩) (tl2 + 1) cap) (T2 ++ [(⟨D1, D2, (j : Int), i⟩ : St)]).length (stCs (T2 ++ [⟨D1, D2, (j : Int), i⟩]))) ∧ Hid (Below wa.heap.size wa w6 ∧ w6.heap[XB]? = some (.cells #[.int .i64 (xa : Int), .int .i64 (xb : Int), .int .i64 xf, .int .i64 (xc : Int)] 51 (0, 0)) ∧ ∀ k, (Value.slice (some ⟨g6, 0, none⟩) (tl2 + 1) cap).ownBlock = some k → k ≠ XB)) := fun w6 g6 cap ho hg hat => by
            have hxl := lt_of_heap HB5.out.2.1
            have hba := below_alloc w4 (.cells #[.int .i64 (D1 : Int), .int .i64 (D2 : Int), .int .i64 (j : Int), .int .i64 (i : Int)] 51)
            refine ⟨?_, (HB5.out.1.alloc hbs _).grown hg (by simp; omega) (fun k e => (HO6.out.lt k e).1), ?_, fun k e => ?_⟩
            · show World.ownsRow _ _ _ _ _ _ _
              rw [stCs_snoc, List.length_append, List.length_singleton, ← HTL2.out]
              exact ho
            · exact ((hg.block XB (by have := hba.size; omega) (fun q => HB5.out.2.2 XB q.symm rfl)).trans (hba.block XB hxl)).trans HB5.out.2.1
            · have e2 : g6 = k := by injection e
              subst e2
              rcases hat with q | q
              · exact HB5.out.2.2 _ q
              · omega
          have c0' := c0
          go_wp2_with (at_builtin; go_must (refine wpList_append_lies _ rfl _ _ 52 rfl wa.heap.size 51 iS (.agg #[.int .i64 0, .int .i64 0, .int .i64 0, .int .i64 0]) 4 32 Tryd.underlying52 hiS hzS0 hzS1 hzS2 rfl (by decide) _ _ _ rfl HO6.out ⟨w4.heap.size, 0, none⟩ 1 1 [.int .i64 (D1 : Int), .int .i64 (D2 : Int), .int .i64 (j : Int), .int .i64 (i : Int)] rfl rfl (World.news_of_block (by exact heap_new' _ _)) (by simp [Value.oneCell']) (by omega) (by unfold maxLen; omega) (by omega) (by simp; omega) (w4.heap.size + 1) (by simp) ?_); intro g6 cap w6 ho6 hg6 hat6 _; obtain ⟨HZ1, HZ2⟩ := HFN.out w6 g6 cap ho6 hg6 hat6; clear ho6 hg6 hat6 c0' c0 c1 c2 c3 cl)
          go_wp2
          go_roundw
          case rel => exact ⟨i + 1, _, T2 ++ [⟨D1, D2, (j : Int), i⟩], by omega, rfl, by go_num, HNX, HZ1, HZ2⟩
          case measure => simp [intOf]; omega
end Go.Proofs.YtleafbbcgebmpaaDoor
