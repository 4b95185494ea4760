/-
  scansionlaw09.AlphabetTurned walked: sets in another order make the same classes; a set more parts them, and joins none.
-/
import Derived.Test.YtmknifnhcgdkaaaX51
namespace Go.Proofs.Ytmknifnhcgdkaaa
open Go.RowKit Go.Shelf
set_option linter.unusedVariables false

theorem src_word {w w' : World} {v : Value} {T : List (List Rg)} (h : StsIn w v T) (hb : Below w.heap.size w w') : StsIn w' v T := h.below hb
/-- All sets but the first one. -/
theorem sts_tail {w : World} {g off cap : Nat} {t : List Rg} {V : List (List Rg)} (h : StsIn w (.slice (some ⟨g, off, none⟩) (V.length + 1) cap) (t :: V)) : StsIn w (.slice (if cap = 1 then some ⟨g, off, none⟩ else some ⟨g, off + 1, none⟩) V.length (cap - 1)) V := by
  obtain ⟨a, c, e, hc, hi⟩ := h
  obtain ⟨rfl, rfl⟩ : some ⟨g, off, none⟩ = a ∧ cap = c := by simpa using e
  by_cases q : cap = 1
  · have : V = [] := List.length_eq_zero_iff.1 (by simp at hc; omega)
    subst this
    exact ⟨_, _, rfl, Nat.zero_le _, fun i hi => (by cases hi)⟩
  · rw [if_neg q]
    refine ⟨_, _, rfl, by simp at hc; omega, fun i hlt => ?_⟩
    obtain ⟨g', off', x, e2, hg, h0, h1⟩ := hi (i + 1) (by simpa using hlt)
    obtain ⟨rfl, rfl⟩ : g = g' ∧ off = off' := by simpa using e2
    refine ⟨g, off + 1, x, rfl, hg, ?_, by simpa using h1⟩
    rw [Nat.add_assoc, Nat.add_comm 1 i]
    exact h0
/-- The sets in another order, as far as they are put in. -/
def BackAt (w3 w : World) (y : Value) (T : List (List Rg)) (j : Nat) : Prop :=
  ∃ xs, w.ownsRow w3.heap.size 46 1 y j xs ∧ ∀ i, (h : i < T.reverse.length) → i < j → ∃ x, xs[i]? = some x ∧ RngSrc w3 x T.reverse[i]
theorem BackAt.sts {w3 w : World} {y : Value} {T : List (List Rg)} (h : BackAt w3 w y T T.length) (hB : Below w3.heap.size w3 w) : StsIn w y T.reverse := by
  obtain ⟨xs, h1, h2⟩ := h
  have h1' := h1
  rcases h1.2 with ⟨rfl, h0⟩ | ⟨g, cap, cur, rfl, hb, hg, hc, hm, hs, ht⟩
  · exact ⟨none, 0, by rw [List.length_reverse, h0], by rw [List.length_reverse]; omega, fun i hi => by rw [List.length_reverse] at hi; omega⟩
  · refine ⟨_, cap, by rw [List.length_reverse], by rw [List.length_reverse]; exact hc, fun i hi => ?_⟩
    obtain ⟨x, hx, hr⟩ := h2 i hi (by rw [List.length_reverse] at hi; exact hi)
    have := h1'.cells (g := g) rfl i x hx
    rw [add_lit'] at this
    exact ⟨g, 0, x, rfl, S3.heap_lt hg, this, hr.below hB⟩

set_option maxRecDepth 100000 in
set_option maxHeartbeats 8000000 in
theorem turned_any (l : List (List Rg)) (v : Value) (x y : Int) (w : World) (hv : StsIn w v l) :
    Calls Try.prog 7 #[v, .int .i64 x, .int .i64 y] w fun e w' => e = .returned (.bool true) ∧ Below w.heap.size w w' := by
  have HV : Hid (StsIn w v l) := hv
  obtain ⟨a, cap, rfl, _, _⟩ := hv
  obtain ⟨iR, hiR, hzR0, hzR1, hzR2⟩ := info_parts Try.infoRs
  go_enter Try.func7, Try.ntmps7
  go_wp2_with fail
  refine (awake9_any w).mono ?_
  rintro e w1 ⟨rfl, hB1⟩
  have HB1 : Hid (Below w.heap.size w w1) := hB1
  have hs1 := hB1.size
  clear hB1
  go_wp2_with fail
  refine (few9_any l _ w1 (HV.out.below HB1.out)).mono ?_
  rintro e w2 ⟨b, rfl, hfew, rfl⟩
  cases b with
  | false =>
    clear hfew
    go_wp2
    go_ret
    exact ⟨rfl, HB1.out⟩
  | true =>
    have HF : Hid (FewS l) := hfew rfl
    clear hfew
    by_cases h20 : 20 < l.length
    · have h20' : (20 : Int) < (l.length : Int) := by omega
      go_wp2
      go_ret
      exact ⟨rfl, HB1.out⟩
    have h20' : ¬ ((20 : Int) < (l.length : Int)) := by omega
    go_wp2_with fail
    refine (sets9_any l _ w2 HF.out (HV.out.below HB1.out)).mono ?_
    rintro e w3 ⟨vT, T, rfl, hown, hmk, hB3⟩
    have hfl := hmk.flat HF.out
    obtain ⟨HT, HALL, HB3⟩ : Hid (StsIn w3 vT T) ∧ Hid (AllS T) ∧ Hid (Below w.heap.size w w3) := ⟨hown.sts, hmk.all, HB1.out.trans (hB3.mono hs1)⟩
    have hTl : T.length ≤ 20 := by rw [hmk.len]; omega
    have HT6 : Hid (∀ s ∈ T, s.length ≤ 601) := hfl.2.1
    have HTF : Hid (T.flatten.length ≤ 2501) := hfl.1
    have hs3 := HB3.out.size
    obtain ⟨xs, hrow, _⟩ := hown
    obtain ⟨aT, capT, rfl⟩ := S3.slice_of_row hrow
    clear hrow hmk hB3 hfl
    go_wp2
    go_loopw [10, 11] (fun b i wr => ∃ j : Nat, j ≤ T.length ∧ i = .int .i64 ((T.length : Int) - 1 - (j : Int)) ∧ BackAt w3 wr b T j ∧ Below w3.heap.size w3 wr) (fun _ i _ => (intOf i + 1).toNat)
    case atStart => exact ⟨0, Nat.zero_le _, by simp, ⟨[], World.ownsRow_nil _ _ _ _, (fun i h q => by omega)⟩, Below.refl _ _⟩
    case round =>
      obtain ⟨j, hj, rfl, hbk, hB⟩ := hrel
      have hbs := hB.size
      obtain ⟨HBK, HB⟩ : Hid (BackAt w3 wr _ T j) ∧ Hid (Below w3.heap.size w3 wr) := ⟨hbk, hB⟩
      obtain ⟨ys, hy1, hy2⟩ := hbk
      obtain ⟨ab, cb, rfl⟩ := S3.slice_of_row hy1
      by_cases hlt : j < T.length
      · obtain ⟨k, hk⟩ : ∃ k : Nat, k + j + 1 = T.length := ⟨T.length - 1 - j, by omega⟩
        have hki : (T.length : Int) - 1 - (j : Int) = (k : Int) := by omega
        rw [hki]
        obtain ⟨a', cap', e, _, hcell⟩ := HT.out
        obtain ⟨rfl, rfl⟩ : aT = a' ∧ capT = cap' := by simpa using e
        obtain ⟨gx, ox, z, rfl, hg, hcz, hrz⟩ := hcell k (by omega)
        have hcz2 : wr.cell? ⟨gx, ox + k, none⟩ = some z := (hB.cell (p := ⟨gx, _, none⟩) hg).trans hcz
        have hrv : T.reverse[j]'(by rw [List.length_reverse]; exact hlt) = T[k]'(by omega) := by
          rw [List.getElem_reverse]
          congr 1
          omega
        obtain ⟨az, cz, rfl, hj1, hj2⟩ := hrz.1
        have HRZ : Hid (RngSrc w3 (.slice az (T[k]'(by omega)).length cz) (T.reverse[j]'(by rw [List.length_reverse]; exact hlt))) := by rw [hrv]; exact hrz
        obtain ⟨n, hn⟩ : ∃ n, n = (T[k]'(by omega)).length := ⟨_, rfl⟩
        rw [← hn] at hcz2 HRZ
        have hyl : ys.length = j := by have := hy1.1; omega
        have hBa : Below wr.heap.size wr (wr.alloc (.cells #[.slice az n cz] 46)) := (Below.refl _ _).alloc (Nat.le_refl _) _
        have HY : Hid ((wr.alloc (.cells #[.slice az n cz] 46)).ownsRow w3.heap.size 46 1 (.slice ab j cb) j ys) := ownsRow_below hy1 hBa
        have HN : Hid ((wr.alloc (.cells #[.slice az n cz] 46)).heap[wr.heap.size]? = some (.cells #[.slice az n cz] 46 (0, 0))) := heap_new' wr _
        have HY2 : Hid (∀ i, (h : i < T.reverse.length) → i < j → ∃ x, ys[i]? = some x ∧ RngSrc w3 x T.reverse[i]) := hy2
        have HYL : Hid (ys.length = j) := hyl
        have HK : Hid (k + j + 1 = T.length) := hk
        have hkl : (k : Int) < (T.length : Int) := by omega
        have hj20 : j ≤ 20 := by omega
        have hk0 : (0 : Int) ≤ (k : Int) := by omega
        have HBA : Hid (Below w3.heap.size w3 (wr.alloc (.cells #[.slice az n cz] 46))) := hB.alloc hbs _
        clear hj1 hj2 hy1 hy2 hyl hn hrv hrz hcz hcell e hki hk HBK hB hBa
        go_wp2_with (first | (at_builtin; refine wpList_append_own _ rfl (.tmp 42) (.tmp 47) 22 rfl w3.heap.size 46 iR (.slice none 0 0) 1 24 Try.underlying22 hiR hzR0 hzR1 hzR2 rfl (by decide) _ _ _ rfl HY.out ⟨wr.heap.size, 0, none⟩ 1 1 [.slice az n cz] rfl rfl (World.news_of_block HN.out) (by simp [Value.oneCell']) (by unfold maxLen; omega) (by omega) (by simp; omega) ?_; intro v3 w5 ho3 hg3 _; obtain ⟨a3, cap3, rfl⟩ := S3.slice_of_row ho3; have HO3 : Hid (w5.ownsRow w3.heap.size 46 1 (.slice a3 (j + 1) cap3) (j + 1) (ys ++ [.slice az n cz])) := ho3; have HG3 : Hid ((wr.alloc (.cells #[.slice az n cz] 46)).grownBy w5 (Value.slice ab j cb).ownBlock) := hg3; clear ho3 hg3) | fail)
        go_roundw
        case rel =>
          refine ⟨j + 1, by omega, ?_, ⟨ys ++ [.slice az n cz], HO3.out, (fun i h q => ?_)⟩, HBA.out.grown HG3.out (by simp; omega) (fun b hb => (HY.out.lt b hb).1)⟩
          · have := HK.out
            congr 1
            omega
          · have hyl := HYL.out
            by_cases z : i < j
            · obtain ⟨y', hy', hr'⟩ := HY2.out i h z
              exact ⟨y', by rw [List.getElem?_append_left (by omega)]; exact hy', hr'⟩
            · obtain rfl : i = j := by omega
              exact ⟨.slice az n cz, by rw [List.getElem?_append_right (by omega), hyl]; simp, HRZ.out⟩
        case measure => simp [intOf]
      · obtain rfl : j = T.length := by omega
        have hki : (T.length : Int) - 1 - (T.length : Int) = -1 := by omega
        rw [hki]
        have HNa := new9_any T _ wr (by have := HTF.out; omega) (fun s hs => by have := HT6.out s hs; omega) (by omega) (HT.out.below HB.out)
        have hfr : T.reverse.flatten.length = T.flatten.length := by
          rw [List.length_flatten, List.length_flatten, List.map_reverse, List.sum_reverse]
        have HNb : Hid (∀ W, Below wr.heap.size wr W → Calls Try.prog 10 #[.slice ab T.length cb] W fun e w' => NewT T.reverse W e w') := fun W hW => new9_any T.reverse _ W (by rw [hfr]; have := HTF.out; omega) (fun s hs => by have := HT6.out s (by simpa using hs); omega) (by rw [List.length_reverse]; omega) ((HBK.out.sts HB.out).below hW)
        have herr := errN_all HALL.out
        have hrev := err_rev (T := T)
        have HBw : Hid (Below w.heap.size w wr) := HB3.out.trans (hB.mono hs3)
        have hbsw := HBw.out.size
        unfold NewT at HNa HNb
        rw [hrev] at HNb
        obtain ⟨er, her⟩ : ∃ er, er = errN T := ⟨_, rfl⟩
        rw [← her] at HNa HNb herr
        have HER : Hid (er = errN T) := her
        clear her hrev hfr hy1 hy2 hki hB HBK
        go_wp2_with fail
        refine HNa.mono ?_
        rintro e w5 ⟨pa, rfl, ha1, ha2, hB5⟩
        clear HNa
        have HNc := HNb.out w5 hB5
        have hs5 := hB5.size
        have HB5 : Hid (Below w.heap.size w w5) := HBw.out.trans (hB5.mono hbsw)
        clear HNb
        go_wp2_with fail
        refine HNc.mono ?_
        rintro e w6 ⟨pb, rfl, hb1, hb2, hB6⟩
        clear HNc
        have HB6 : Hid (Below w.heap.size w w6) := HB5.out.trans (hB6.mono HB5.out.size)
        have HT6' : Hid (StsIn w6 (.slice aT T.length capT) T) := (HT.out.below HB.out).below (hB5.trans (hB6.mono hs5))
        rcases herr with rfl | rfl
        · have hal := (ha2 rfl).below hB6
          have hbl := hb2 rfl
          have hokk := errN_ok HER.out.symm
          have hokr : OkA T.reverse := by
            refine ⟨all_rev hokk.1.1, by rw [len_rev]; exact hokk.1.2.1, by rw [ent_rev]; exact hokk.1.2.2⟩
          obtain ⟨ga, rfl⟩ := hal.ptr
          obtain ⟨gb, rfl⟩ := hbl.ptr
          have HCa : Hid (∀ W, Below w6.heap.size w6 W → Calls Try.prog 18 #[.pointer (some ⟨ga, 0, none⟩)] W fun e w' => e = .returned (.int .i64 ((clsS T).length : Int)) ∧ w' = W) := fun W hW => count9_any T _ W (hal.below hW)
          have HCb : Hid (∀ W, Below w6.heap.size w6 W → Calls Try.prog 18 #[.pointer (some ⟨gb, 0, none⟩)] W fun e w' => e = .returned (.int .i64 ((clsS T).length : Int)) ∧ w' = W) := fun W hW => by rw [← len_rev]; exact count9_any T.reverse _ W (hbl.below hW)
          have HOa : Hid (∀ W, Below w6.heap.size w6 W → ∀ r : Int, Calls Try.prog 12 #[.pointer (some ⟨ga, 0, none⟩), .int .i64 r] W fun e w' => e = .returned (.int .i64 (ofC T r)) ∧ Below w6.heap.size w6 w') := fun W hW r => (of9_any T _ r W hokk.1 (hal.below hW)).mono (fun e w' h => ⟨h.1, hW.trans (h.2.mono hW.size)⟩)
          have HOr : Hid (∀ W, Below w6.heap.size w6 W → ∀ r : Int, Calls Try.prog 12 #[.pointer (some ⟨ga, 0, none⟩), .int .i64 r] W fun e w' => e = .returned (.int .i64 (ofC T r)) ∧ Below W.heap.size W w') := fun W hW r => of9_any T _ r W hokk.1 (hal.below hW)
          have HOb : Hid (∀ W, Below w6.heap.size w6 W → ∀ r : Int, Calls Try.prog 12 #[.pointer (some ⟨gb, 0, none⟩), .int .i64 r] W fun e w' => e = .returned (.int .i64 (ofC T r)) ∧ Below w6.heap.size w6 w') := fun W hW r => by
            have := of9_any T.reverse _ r W hokr (hbl.below hW)
            rw [of_rev] at this
            exact this.mono (fun e w' h => ⟨h.1, hW.trans (h.2.mono hW.size)⟩)
          have HTL : Hid (∀ t V, T = t :: V → ofC T x = ofC T y → ofC V x = ofC V y) := fun t V e h => by subst e; exact of_tail HALL.out h
          have HTC : Hid (∀ t V, T = t :: V → (clsS V).length ≤ (clsS T).length) := fun t V e => by subst e; exact len_tail t V
          have HTE : Hid (∀ t V, T = t :: V → errN V = 0) := fun t V e => by subst e; exact err_tail HER.out.symm
          have HT0 : Hid (T = [] → (clsS T).length = 1) := fun e => by rw [e]; exact cls_nil
          have HBr : Hid (Below w6.heap.size w6 w6) := Below.refl _ _
          have hs6 := HB6.out.size
          obtain ⟨n, hn⟩ : ∃ n, n = (clsS T).length := ⟨_, rfl⟩
          obtain ⟨cx, hcx⟩ : ∃ c, c = ofC T x := ⟨_, rfl⟩
          obtain ⟨cy, hcy⟩ : ∃ c, c = ofC T y := ⟨_, rfl⟩
          have H1 := HCa.out w6 HBr.out
          have H2 := HCb.out w6 HBr.out
          have H3 := HOa.out w6 HBr.out x
          rw [← hn] at H1 H2 HTC HT0
          rw [← hcx] at H3 HTL
          rw [← hcy] at HTL
          obtain ⟨HNE, HCX, HCY⟩ : Hid (n = (clsS T).length) ∧ Hid (cx = ofC T x) ∧ Hid (cy = ofC T y) := ⟨hn, hcx, hcy⟩
          have hxy : ((cx == cy) != (cx == cy)) = false := by simp
          clear ha1 ha2 hb1 hb2 hal hbl hokk hokr hB5 hB6 hn hcx hcy
          go_wp2_with fail
          refine H1.mono ?_
          rintro e w7 ⟨rfl, rfl⟩
          clear H1
          go_wp2_with fail
          refine H2.mono ?_
          rintro e w8 ⟨rfl, rfl⟩
          clear H2
          obtain ⟨w6, rfl⟩ : ∃ w6, w6 = w8 := ⟨_, rfl⟩
          go_wp2_with fail
          refine H3.mono ?_
          rintro e w9 ⟨rfl, hB9⟩
          clear H3
          have H4 := HOa.out w9 hB9 y
          rw [← HCY.out] at H4
          clear hB9
          go_wp2_with fail
          refine H4.mono ?_
          rintro e w10 ⟨rfl, hB10⟩
          clear H4
          have H5 := HOb.out w10 hB10 x
          rw [← HCX.out] at H5
          clear hB10
          go_wp2_with fail
          refine H5.mono ?_
          rintro e w11 ⟨rfl, hB11⟩
          clear H5
          have H6 := HOb.out w11 hB11 y
          rw [← HCY.out] at H6
          clear hB11
          go_wp2_with fail
          refine H6.mono ?_
          rintro e w12 ⟨rfl, hB12⟩
          clear H6
          have HB12 : Hid (Below w6.heap.size w6 w12) := hB12
          have hs12 := hB12.size
          have HBw12 : Hid (Below w.heap.size w w12) := HB6.out.trans (hB12.mono hs6)
          clear hB12
          cases T with
          | nil =>
            have hn1 : n = 1 := HT0.out rfl
            subst hn1
            have H7 := HCa.out w12 HB12.out
            rw [← HNE.out] at H7
            go_wp2_with fail
            refine H7.mono ?_
            rintro e w13 ⟨rfl, rfl⟩
            clear H7
            go_wp2
            go_ret
            exact ⟨rfl, HBw12.out⟩
          | cons t V =>
            have hV : StsIn w12 (.slice aT (V.length + 1) capT) (t :: V) := HT6'.out.below HB12.out
            obtain ⟨a', cap', e, hcc, hcell⟩ := hV
            obtain ⟨rfl, rfl⟩ : aT = a' ∧ capT = cap' := by simpa using e
            obtain ⟨gx, ox, z, rfl, _, _, _⟩ := hcell 0 (by simp)
            have hV2 := sts_tail (HT6'.out.below HB12.out)
            have hfv : V.flatten.length ≤ 2501 := by have := HTF.out; rw [List.flatten_cons, List.length_append] at this; omega
            have H7 := new9_any V _ w12 (by omega) (fun s hs => by have := HT6.out s (by simp [hs]); omega) (by simp at hTl; omega) hV2
            have heV := HTE.out t V rfl
            have hnV := HTC.out t V rfl
            have hoV := HTL.out t V rfl
            unfold NewT at H7
            rw [heV] at H7
            have hokV := (errN_ok heV).1
            obtain ⟨m, hm⟩ : ∃ m, m = (clsS V).length := ⟨_, rfl⟩
            rw [← hm] at hnV
            have hmn : (m : Int) ≤ (n : Int) := by omega
            have hlen0 : ((V.length : Int) + 1 == 0) = false := by simp; omega
            obtain ⟨HOV, HOKV, HMV⟩ : Hid (cx = cy → ofC V x = ofC V y) ∧ Hid (OkA V) ∧ Hid (m = (clsS V).length) := ⟨hoV, hokV, hm⟩
            simp only [List.length_cons] at hcc
            clear hcell e hV2 hfv heV hnV hoV hokV hm HTE HTC HTL HT0 HOb HCb
            simp only [List.length_cons]
            by_cases hq1 : capT = 1
            · subst hq1
              obtain rfl : V = [] := List.length_eq_zero_iff.1 (by omega)
              rw [if_pos rfl] at H7
              simp only [List.length_nil, Nat.sub_self] at H7 hcc ⊢
              clear hlen0
              go_wp2_with fail
              refine H7.mono ?_
              rintro e w13 ⟨pc, rfl, _, hc2, hB13⟩
              clear H7
              have hcl : AlpAt w13 pc [] := by first | exact hc2 rfl | exact hc2 trivial
              clear hc2
              obtain ⟨gc, rfl⟩ := hcl.ptr
              have hB13' : Below w6.heap.size w6 w13 := HB12.out.trans (hB13.mono hs12)
              have hs13 := hB13'.size
              have H8 := count9_any [] _ w13 hcl
              rw [← HMV.out] at H8
              have H9 := HCa.out w13 hB13'
              rw [← HNE.out] at H9
              have H10 := HOr.out w13 hB13' x
              rw [← HCX.out] at H10
              have HOc : Hid (∀ W, Below w13.heap.size w13 W → ∀ r : Int, Calls Try.prog 12 #[.pointer (some ⟨gc, 0, none⟩), .int .i64 r] W fun e w' => e = .returned (.int .i64 (ofC [] r)) ∧ Below W.heap.size W w') := fun W hW r => of9_any [] _ r W HOKV.out (hcl.below hW)
              have HOy : Hid (∀ W, Below w13.heap.size w13 W → Calls Try.prog 12 #[.pointer (some ⟨ga, 0, none⟩), .int .i64 y] W fun e w' => e = .returned (.int .i64 cy) ∧ Below W.heap.size W w') := fun W hW => by rw [HCY.out]; exact HOr.out W (hB13'.trans (hW.mono hs13)) y
              have HB13 : Hid (Below w.heap.size w w13) := HB6.out.trans (hB13'.mono hs6)
              clear hcl hB13 hB13' HOr HOa HCa
              go_wp2_with fail
              refine H8.mono ?_
              rintro e w14 ⟨rfl, rfl⟩
              clear H8
              go_wp2_with fail
              refine H9.mono ?_
              rintro e w15 ⟨rfl, rfl⟩
              clear H9
              obtain ⟨w13, rfl⟩ : ∃ w13, w13 = w15 := ⟨_, rfl⟩
              go_wp2_with fail
              refine H10.mono ?_
              rintro e w16 ⟨rfl, hB16⟩
              clear H10
              have H11 := HOy.out w16 hB16
              have HB16 : Hid (Below w13.heap.size w13 w16) := hB16
              have hs16 := hB16.size
              clear hB16 HOy
              go_wp2_with fail
              refine H11.mono ?_
              rintro e w17 ⟨rfl, hB17⟩
              clear H11
              have hB17' : Below w13.heap.size w13 w17 := HB16.out.trans (hB17.mono hs16)
              have HB17 : Hid (Below w13.heap.size w13 w17) := hB17'
              have HBw17 : Hid (Below w.heap.size w w17) := HB13.out.trans (hB17'.mono HB13.out.size)
              have hs17 := hB17'.size
              by_cases hcc2 : cx = cy
              · have hne : (cx != cy) = false := by simp [hcc2]
                have hdd := HOV.out hcc2
                have H12 := HOc.out w17 hB17' x
                rw [hdd] at H12
                obtain ⟨d, hd⟩ : ∃ d, d = ofC [] y := ⟨_, rfl⟩
                rw [← hd] at H12
                have HOd : Hid (∀ W, Below w13.heap.size w13 W → Calls Try.prog 12 #[.pointer (some ⟨gc, 0, none⟩), .int .i64 y] W fun e w' => e = .returned (.int .i64 d) ∧ Below W.heap.size W w') := fun W hW => by rw [hd]; exact HOc.out W hW y
                clear hcc2 hdd hd hB17 hB17' HOc
                go_wp2_with fail
                refine H12.mono ?_
                rintro e w18 ⟨rfl, hB18⟩
                clear H12
                have hB18' : Below w13.heap.size w13 w18 := HB17.out.trans (hB18.mono hs17)
                have hs18 := hB18'.size
                have HB18 : Hid (Below w13.heap.size w13 w18) := hB18'
                have H13 := HOd.out w18 hB18'
                clear hB18 hB18'
                go_wp2_with fail
                refine H13.mono ?_
                rintro e w19 ⟨rfl, hB19⟩
                clear H13
                have HBw19 : Hid (Below w.heap.size w w19) := HB13.out.trans ((HB18.out.trans (hB19.mono hs18)).mono HB13.out.size)
                clear hB19
                go_wp2
                go_ret
                exact ⟨by simp, HBw19.out⟩
              · have hne : (cx != cy) = true := by simp [hcc2]
                clear hcc2 hB17 hB17' HOc
                go_wp2
                go_ret
                exact ⟨rfl, HBw17.out⟩
            · have hq2 : (capT == 1) = false := by simp [hq1]
              rw [if_neg hq1] at H7
              go_wp2_with fail
              refine H7.mono ?_
              rintro e w13 ⟨pc, rfl, _, hc2, hB13⟩
              clear H7
              have hcl : AlpAt w13 pc V := by first | exact hc2 rfl | exact hc2 trivial
              clear hc2
              obtain ⟨gc, rfl⟩ := hcl.ptr
              have hB13' : Below w6.heap.size w6 w13 := HB12.out.trans (hB13.mono hs12)
              have hs13 := hB13'.size
              have H8 := count9_any V _ w13 hcl
              rw [← HMV.out] at H8
              have H9 := HCa.out w13 hB13'
              rw [← HNE.out] at H9
              have H10 := HOr.out w13 hB13' x
              rw [← HCX.out] at H10
              have HOc : Hid (∀ W, Below w13.heap.size w13 W → ∀ r : Int, Calls Try.prog 12 #[.pointer (some ⟨gc, 0, none⟩), .int .i64 r] W fun e w' => e = .returned (.int .i64 (ofC V r)) ∧ Below W.heap.size W w') := fun W hW r => of9_any V _ r W HOKV.out (hcl.below hW)
              have HOy : Hid (∀ W, Below w13.heap.size w13 W → Calls Try.prog 12 #[.pointer (some ⟨ga, 0, none⟩), .int .i64 y] W fun e w' => e = .returned (.int .i64 cy) ∧ Below W.heap.size W w') := fun W hW => by rw [HCY.out]; exact HOr.out W (hB13'.trans (hW.mono hs13)) y
              have HB13 : Hid (Below w.heap.size w w13) := HB6.out.trans (hB13'.mono hs6)
              clear hcl hB13 hB13' HOr HOa HCa
              go_wp2_with fail
              refine H8.mono ?_
              rintro e w14 ⟨rfl, rfl⟩
              clear H8
              go_wp2_with fail
              refine H9.mono ?_
              rintro e w15 ⟨rfl, rfl⟩
              clear H9
              obtain ⟨w13, rfl⟩ : ∃ w13, w13 = w15 := ⟨_, rfl⟩
              go_wp2_with fail
              refine H10.mono ?_
              rintro e w16 ⟨rfl, hB16⟩
              clear H10
              have H11 := HOy.out w16 hB16
              have HB16 : Hid (Below w13.heap.size w13 w16) := hB16
              have hs16 := hB16.size
              clear hB16 HOy
              go_wp2_with fail
              refine H11.mono ?_
              rintro e w17 ⟨rfl, hB17⟩
              clear H11
              have hB17' : Below w13.heap.size w13 w17 := HB16.out.trans (hB17.mono hs16)
              have HB17 : Hid (Below w13.heap.size w13 w17) := hB17'
              have HBw17 : Hid (Below w.heap.size w w17) := HB13.out.trans (hB17'.mono HB13.out.size)
              have hs17 := hB17'.size
              by_cases hcc2 : cx = cy
              · have hne : (cx != cy) = false := by simp [hcc2]
                have hdd := HOV.out hcc2
                have H12 := HOc.out w17 hB17' x
                rw [hdd] at H12
                obtain ⟨d, hd⟩ : ∃ d, d = ofC V y := ⟨_, rfl⟩
                rw [← hd] at H12
                have HOd : Hid (∀ W, Below w13.heap.size w13 W → Calls Try.prog 12 #[.pointer (some ⟨gc, 0, none⟩), .int .i64 y] W fun e w' => e = .returned (.int .i64 d) ∧ Below W.heap.size W w') := fun W hW => by rw [hd]; exact HOc.out W hW y
                clear hcc2 hdd hd hB17 hB17' HOc
                go_wp2_with fail
                refine H12.mono ?_
                rintro e w18 ⟨rfl, hB18⟩
                clear H12
                have hB18' : Below w13.heap.size w13 w18 := HB17.out.trans (hB18.mono hs17)
                have hs18 := hB18'.size
                have HB18 : Hid (Below w13.heap.size w13 w18) := hB18'
                have H13 := HOd.out w18 hB18'
                clear hB18 hB18'
                go_wp2_with fail
                refine H13.mono ?_
                rintro e w19 ⟨rfl, hB19⟩
                clear H13
                have HBw19 : Hid (Below w.heap.size w w19) := HB13.out.trans ((HB18.out.trans (hB19.mono hs18)).mono HB13.out.size)
                clear hB19
                go_wp2
                go_ret
                exact ⟨by simp, HBw19.out⟩
              · have hne : (cx != cy) = true := by simp [hcc2]
                clear hcc2 hB17 hB17' HOc
                go_wp2
                go_ret
                exact ⟨rfl, HBw17.out⟩
        · obtain rfl := ha1 (by omega)
          obtain rfl := hb1 (by omega)
          clear ha1 ha2 hb1 hb2 hB5 hB6
          go_wp2
          go_ret
          exact ⟨rfl, HB6.out⟩
end Go.Proofs.Ytmknifnhcgdkaaa
