/-
  scansionlaw07.LexJoins, walked: it answers true.
-/
import Derived.Test.YtdjhgjnhfmggjaaDoorSame7
import Derived.Test.YtdjhgjnhfmggjaaDoorSrc7
import Derived.Test.YtdjhgjnhfmggjaaDoorJnMath2
import Derived.Test.YtdjhgjnhfmggjaaDoorPlMath
import Derived.BigQuiet
namespace Go.Proofs.YtdjhgjnhfmggjaaDoor
open Go.RowKit Go.Shelf S1
set_option linter.unusedVariables false

theorem joins_eq {a b : List Int} {us vs : List U} (ha : Run a 0 us a.length) (hb : Run b 0 vs b.length) {L M : List Tok} (hL : toksL a.length us = TR.good L) (hM : toksL b.length vs = TR.good M) :
    ∃ ws l, Run (a ++ 10 :: b) 0 ws (a ++ 10 :: b).length ∧ L = l ++ [⟨4, a.length, [], []⟩] ∧ toksL (a ++ 10 :: b).length ws = TR.good (l ++ M.map (shT (a.length + 1))) := by
  have hg : ∀ u ∈ us, u.bad = false := toksF_good hL
  have hrun := run_lines ha hg hb
  obtain ⟨l', e1, e2⟩ := toksF_lines (m := (a ++ 10 :: b).length) (p := a.length) (vs := vs.map (shU (a.length + 1))) (k := us.length + 1) (j := (us ++ lfU a.length :: vs.map (shU (a.length + 1))).length + 1) (by omega) (by omega) hL
  refine ⟨_, l', hrun, e1, ?_⟩
  have e3 := toksF_sh (a.length + 1) hM
  have e4 : b.length + (a.length + 1) = (a ++ 10 :: b).length := by simp; omega
  rw [e4] at e3
  rw [List.length_map] at e2
  rw [e3] at e2
  exact e2

theorem placed_le {zs : List Int} : ∀ {L : List Tok} {a : Nat}, Placed zs a L → ∀ t ∈ L, t.p ≤ zs.length
  | [], _, _, t, ht => by cases ht
  | x :: L, a, h, t, ht => by
    obtain ⟨h1, h2, h3, h4, h5⟩ := h
    rcases List.mem_cons.1 ht with rfl | ht
    · omega
    · rcases h5 with ⟨_, q, _⟩ | ⟨_, _, q⟩
      · rw [q] at ht; cases ht
      · exact placed_le q t ht

/-- A token as a block. -/
abbrev tokObj (x : Tok × Value) : Obj := .cells #[.int .i64 x.1.k, .int .i64 (x.1.p : Int), .string (strOfNums x.1.t), x.2] 30
theorem toks_one {w : World} {g : Nat} {x : Tok × Value} (hg : w.heap[g]? = some (tokObj x)) : ToksIn w (.slice (some ⟨g, 0, none⟩) 1 1) [x] :=
  toks_of_row (base := g) (l := [x]) ⟨rfl, .inr ⟨g, 1, _, rfl, Nat.le_refl _, hg, Nat.le_refl _, by unfold maxLen; omega, rfl, rfl⟩⟩
theorem SameT.below {w w' : World} {x y : Tok × Value} (h : SameT w x y) (hb : Below w.heap.size w w') : SameT w' x y := by
  obtain ⟨h1, h2, h3, s, h4, h5, h6⟩ := h
  exact ⟨h1, h2, h3, s, h4, h5.below hb, h6.below hb⟩
theorem heap_two (W : World) (o p : Obj) : ((W.alloc o).alloc p).heap[W.heap.size]? = some o ∧ ((W.alloc o).alloc p).heap[W.heap.size + 1]? = some p := by
  have h := heap_new' (W.alloc o) p
  rw [show (W.alloc o).heap.size = W.heap.size + 1 by simp] at h
  exact ⟨(((Below.refl (W.heap.size + 1) (W.alloc o)).alloc (by simp) p).block W.heap.size (by omega)).trans (heap_new' W o), h⟩
/-- Same, at two rows of one token each. -/
theorem same_gen {x y : Tok × Value} {kk PP : Int} {st : ByteArray} {v1 v2 : Value} {g h : Nat} {w : World} (he : kk = x.1.k ∧ PP = (x.1.p : Int) ∧ st = strOfNums x.1.t ∧ v1 = x.2 ∧ v2 = y.2) (hs : SameT w x y)
    (hg : w.heap[g]? = some (.cells #[.int .i64 kk, .int .i64 PP, .string st, v1] 30)) (hh : w.heap[h]? = some (.cells #[.int .i64 kk, .int .i64 PP, .string st, v2] 30)) :
    Calls Tryd.prog 12 #[.slice (some ⟨g, 0, none⟩) 1 1, .slice (some ⟨h, 0, none⟩) 1 1] w fun e w' => e = .returned (.bool true) ∧ ∃ nd, w' = w.drewN nd := by
  obtain ⟨rfl, rfl, rfl, rfl, rfl⟩ := he
  obtain ⟨h1, h2, h3, h4⟩ := id hs
  refine sameT_any [x] [y] (by simp) rfl _ _ _ (toks_one hg) (toks_one (by rw [hh, h1, h2, h3])) fun i h h' => ?_
  obtain rfl : i = 0 := by simp at h; omega
  exact hs

set_option maxRecDepth 100000 in
set_option maxHeartbeats 8000000 in
theorem lexJoins_any (za : List Int) (hba : Byt za) (aa : Option Addr) (ca : Nat) (zb : List Int) (hbb : Byt zb) (ab : Option Addr) (cb : Nat) (w : World) (hsv : SynV w) (hIa : BytesAt w.heap.size w (.slice aa za.length ca) za) (hIb : BytesAt w.heap.size w (.slice ab zb.length cb) zb)
    (hna : aa = none → ca = 0) (hnb : ab = none → cb = 0) :
    Calls Tryd.prog 6 #[.slice aa za.length ca, .slice ab zb.length cb] w fun e w' => e = .returned (.bool true) ∧ Below w.heap.size w w' := by
  have haw := awake_any w hsv
  by_cases hz : 500 < za.length
  · have hz' : decide (500 < (za.length : Int)) = true := by simp; omega
    go_enter Tryd.func6, Tryd.ntmps6
    go_wp2_with fail
    refine haw.mono ?_
    rintro e w1 ⟨rfl, hB1⟩
    go_wp2
    go_ret
    exact ⟨rfl, hB1⟩
  by_cases hy : 500 < zb.length
  · have hz' : decide (500 < (za.length : Int)) = false := by simp; omega
    have hy' : decide (500 < (zb.length : Int)) = true := by simp; omega
    go_enter Tryd.func6, Tryd.ntmps6
    go_wp2_with fail
    refine haw.mono ?_
    rintro e w1 ⟨rfl, hB1⟩
    go_wp2
    go_ret
    exact ⟨rfl, hB1⟩
  have hz' : decide (500 < (za.length : Int)) = false := by simp; omega
  have hy' : decide (500 < (zb.length : Int)) = false := by simp; omega
  obtain ⟨us, hus⟩ := Run.exists za za.length 0 (by omega) (Nat.zero_le _)
  obtain ⟨vs, hvs⟩ := Run.exists zb zb.length 0 (by omega) (Nat.zero_le _)
  have HUS : Hid (Run za 0 us za.length) := hus
  have HVS : Hid (Run zb 0 vs zb.length) := hvs
  have HIA : Hid (BytesAt w.heap.size w (.slice aa za.length ca) za) := hIa
  have HIB : Hid (BytesAt w.heap.size w (.slice ab zb.length cb) zb) := hIb
  have HSA : Hid (SrcIs w (.slice aa za.length ca) za.length (za.map (Value.int .u8))) := src_of_bytes hIa hna
  have HSB : Hid (SrcIs w (.slice ab zb.length cb) zb.length (zb.map (Value.int .u8))) := src_of_bytes hIb hnb
  have hzl : za.length ≤ 500 := by omega
  have hyl : zb.length ≤ 500 := by omega
  clear hus hvs hIa hIb hz hy hna hnb
  go_enter Tryd.func6, Tryd.ntmps6
  go_wp2_with fail
  refine haw.mono ?_
  rintro e w1 ⟨rfl, hB1⟩
  have hs1 := hB1.size
  clear haw
  go_wp2_with fail
  refine (tokens_any za hba (by omega) us HUS.out aa ca w1 (hsv.grown (grownR_below hB1 none) (by simp)) ((HIA.out.below hB1).mono hs1)).mono ?_
  rintro e w2 h2
  have hB2 : Below w1.heap.size w1 w2 := by rcases h2 with ⟨_, _, _, _, _, h⟩ | ⟨_, _, _, _, _, _, _, h⟩ <;> exact h
  have hB02 : Below w.heap.size w w2 := hB1.trans (hB2.mono hs1)
  have hs2 := hB02.size
  have hc2 := (tokens_any zb hbb (by omega) vs HVS.out ab cb w2 (hsv.grown (grownR_below hB02 none) (by simp)) ((HIB.out.below hB02).mono hs2))
  have HC2 : Hid (Calls Tryd.prog 8 #[.slice ab zb.length cb] w2 fun e w' => TksT w2 (toksL zb.length vs) e w') := hc2
  clear hc2
  rcases h2 with ⟨a, x, e0, rfl, hx, _⟩ | ⟨l, v, e0, hll, rfl, hown, hso, _⟩
  · have hx' : (x != 0) = true := by simpa using hx
    clear hx e0
    go_wp2_with fail
    refine HC2.out.mono ?_
    rintro e w3 (⟨a', x', e1, rfl, hx1, hB3⟩ | ⟨l1, v1, e1, hll1, rfl, hown1, hso1, hB3⟩)
    · go_wp2
      go_ret
      exact ⟨rfl, hB02.trans (hB3.mono hs2)⟩
    · go_wp2
      go_ret
      exact ⟨rfl, hB02.trans (hB3.mono hs2)⟩
  have HE0 : Hid (toksL za.length us = TR.good (l.map Prod.fst)) := e0
  have HOX : Hid (w2.ownsRow w1.heap.size 30 4 v l.length (cellsTs l)) := hown
  have HSX : Hid (SetsOwn w2 w1.heap.size l) := hso
  clear hown hso e0
  go_wp2_with fail
  refine HC2.out.mono ?_
  clear HC2
  rintro e w3 (⟨a', x', e1, rfl, hx1, hB3⟩ | ⟨m, v1, e1, hmm, rfl, hown1, hso1, hB3⟩)
  · have hx' : (x' != 0) = true := by simpa using hx1
    clear hx1 e1
    go_wp2
    go_ret
    exact ⟨rfl, hB02.trans (hB3.mono hs2)⟩
  have HE1 : Hid (toksL zb.length vs = TR.good (m.map Prod.fst)) := e1
  have HOY : Hid (w3.ownsRow w2.heap.size 30 4 v1 m.length (cellsTs m)) := hown1
  have HSY : Hid (SetsOwn w3 w2.heap.size m) := hso1
  have hB03 : Below w.heap.size w w3 := hB02.trans (hB3.mono hs2)
  have hs3 := hB3.size
  clear hown1 hso1 e1
  obtain ⟨iB, hiB, hzB0, hzB1, hzB2⟩ := info_parts Tryd.infoByte
  have hown0 := owns_empty w3 w3.heap.size 5 (Nat.le_refl _)
  have hsr0 := HSA.out.below (hB03.alloc (by omega) (.cells #[] 5))
  have HO0 : Hid ((w3.alloc (.cells #[] 5)).ownsRow w3.heap.size 5 1 (.slice (some ⟨w3.heap.size, 0, none⟩) 0 0) 0 []) := hown0
  clear hown0
  obtain ⟨ws, lz, hrun, hL, hZ⟩ := joins_eq HUS.out HVS.out HE0.out HE1.out
  have HRUN : Hid (Run (za ++ 10 :: zb) 0 ws (za ++ 10 :: zb).length) := hrun
  have HL : Hid (l.map Prod.fst = lz ++ [⟨4, za.length, [], []⟩]) := hL
  have HZ : Hid (toksL (za ++ 10 :: zb).length ws = TR.good (lz ++ (m.map Prod.fst).map (shT (za.length + 1)))) := hZ
  clear hrun hL hZ
  go_wp2_with (first
    | (at_builtin; refine wpList_append_src _ rfl (.tmp 51) (.tmp 52) 27 rfl w3.heap.size 5 iB (.int .u8 0) 1 Tryd.underlying27 hiB hzB0 hzB1 hzB2 rfl _ _ _ rfl HO0.out _ rfl za.length _ hsr0 (by unfold maxLen; omega) (by omega) (by simp) ?_; intro v4 w4 ho4 hg4; have hB4 : Below w3.heap.size w3 w4 := ((Below.refl _ _).alloc (Nat.le_refl _) _).grown hg4 (by simp) (fun j e => (World.ownsRow.lt HO0.out j e).1); have hs4 := hB4.size; have ho4' := World.ownsRow.alloc ho4 (.cells #[.int .u8 10] 5); have hsr1 := src_byte w4 10; have HO1 : Hid ((w4.alloc (.cells #[.int .u8 10] 5)).ownsRow w3.heap.size 5 1 v4 (0 + za.length) ([] ++ za.map (Value.int .u8))) := ho4'; clear ho4 ho4' hg4)
    | (at_builtin; refine wpList_append_src _ rfl (.tmp 53) (.tmp 54) 27 rfl w3.heap.size 5 iB (.int .u8 0) 1 Tryd.underlying27 hiB hzB0 hzB1 hzB2 rfl _ _ _ rfl HO1.out _ rfl 1 _ hsr1 (by unfold maxLen; omega) (by omega) (by simp; omega) ?_; intro v5 w5 ho5 hg5; have hB5 : Below w3.heap.size w3 w5 := (hB4.alloc hs4 _).grown hg5 (by simp; omega) (fun j e => (World.ownsRow.lt HO1.out j e).1); have hs5 := hB5.size; have hsr2 := HSB.out.below (hB03.trans (hB5.mono (by omega))); have HO2 : Hid (w5.ownsRow w3.heap.size 5 1 v5 (0 + za.length + 1) ([] ++ za.map (Value.int .u8) ++ [.int .u8 10])) := ho5; clear ho5 hg5 hsr1)
    | (at_builtin; refine wpList_append_src _ rfl (.tmp 55) (.tmp 56) 27 rfl w3.heap.size 5 iB (.int .u8 0) 1 Tryd.underlying27 hiB hzB0 hzB1 hzB2 rfl _ _ _ rfl HO2.out _ rfl zb.length _ hsr2 (by unfold maxLen; omega) (by omega) (by omega) ?_; intro v6 w6 ho6 hg6))
  have hB6 : Below w3.heap.size w3 w6 := hB5.grown (show w5.grownBy w6 v5.ownBlock from hg6) (by omega) (fun j e => (World.ownsRow.lt HO2.out j e).1)
  have hs6 := hB6.size
  have hB06 : Below w.heap.size w w6 := hB03.trans (hB6.mono (by omega))
  have hO6 : w6.ownsRow w3.heap.size 5 1 v6 (za ++ 10 :: zb).length ((za ++ 10 :: zb).map (Value.int .u8)) := by
    have e : (za ++ 10 :: zb).length = 0 + za.length + 1 + zb.length := by simp; omega
    have : w6.ownsRow w3.heap.size 5 1 v6 (0 + za.length + 1 + zb.length) ([] ++ za.map (Value.int .u8) ++ [.int .u8 10] ++ zb.map (Value.int .u8)) := ho6
    rw [e]
    simpa using this
  obtain ⟨a6, c6, rfl, hI6⟩ := bytes_of_row hO6
  have hby6 : Byt (za ++ 10 :: zb) := fun c hc => (List.mem_append.1 hc).elim (hba c) (fun h => (List.mem_cons.1 h).elim (fun h => by subst h; decide) (hbb c))
  have hle6 : (za ++ 10 :: zb).length ≤ 10000 := by rw [List.length_append, List.length_cons]; omega
  have htz := tokens_any (za ++ 10 :: zb) hby6 hle6 ws HRUN.out a6 c6 w6 (hsv.grown (grownR_below hB06 none) (by simp)) hI6
  rw [HZ.out] at htz
  clear hO6 ho6 hg6 hI6 hby6 hsr2 hB4 hs4 HO0 HO1 HO2 hsr0
  refine htz.mono ?_
  clear htz
  rintro e w7 (⟨a', x', e1, rfl, hx1, hB7⟩ | ⟨n, v7, e1, hnn, rfl, hown7, hso7, hB7⟩)
  · cases e1
  have HE7 : Hid (n.map Prod.fst = lz ++ (m.map Prod.fst).map (shT (za.length + 1))) := ((Sum.inr.inj e1)).symm
  clear e1
  have hs7 := hB7.size
  have hB07 : Below w.heap.size w w7 := hB06.trans (hB7.mono (by omega))
  have hB27 : Below w2.heap.size w2 w7 := hB3.trans ((hB6.trans (hB7.mono (by omega))).mono (by omega))
  have hB37 : Below w3.heap.size w3 w7 := hB6.trans (hB7.mono (by omega))
  have HX : Hid (ToksIn w7 v l) := (toks_of_row HOX.out).below hB27
  have HY : Hid (ToksIn w7 v1 m) := (toks_of_row HOY.out).below hB37
  have HW : Hid (ToksIn w7 v7 n) := toks_of_row hown7
  have HXS : Hid (∀ i, (h : i < l.length) → ∃ s, Upto (hasR l[i].1.s) s 1114112 ∧ s.length ≤ 10000 ∧ RngIn w7 l[i].2 s) := fun i h => by
    obtain ⟨s, h1, h2, h3⟩ := HSX.out.at i h
    exact ⟨s, h1, h2, h3.below hB27⟩
  have HYS : Hid (∀ i, (h : i < m.length) → ∃ s, Upto (hasR m[i].1.s) s 1114112 ∧ s.length ≤ 10000 ∧ RngIn w7 m[i].2 s) := fun i h => by
    obtain ⟨s, h1, h2, h3⟩ := HSY.out.at i h
    exact ⟨s, h1, h2, h3.below hB37⟩
  have HZS : Hid (∀ i, (h : i < n.length) → ∃ s, Upto (hasR n[i].1.s) s 1114112 ∧ s.length ≤ 10000 ∧ RngIn w7 n[i].2 s) := fun i h => hso7.at i h
  have hnx : l.length = lz.length + 1 := by have := congrArg List.length HL.out; simpa using this
  have hnz : n.length = lz.length + m.length := by have := congrArg List.length HE7.out; simpa using this
  have HN1 : Hid (∀ i, (h : i < lz.length) → (h1 : i < l.length) → (h2 : i < n.length) → n[i].1 = l[i].1) := fun i h h1 h2 => by
    have e1 := congrArg (·[i]?) HL.out
    have e2 := congrArg (·[i]?) HE7.out
    simp [h1, h2, h, List.getElem?_append_left] at e1 e2
    rw [e2, e1]
  have HN2 : Hid (∀ i k, (h : i < m.length) → (h2 : k < n.length) → k = lz.length + i → n[k].1 = shT (za.length + 1) m[i].1) := fun i k h h2 hk => by
    subst hk
    have e2 := congrArg (·[lz.length + i]?) HE7.out
    simp [h, h2] at e2
    rw [e2]
  have HPL : Hid (∀ i, (h : i < m.length) → m[i].1.p ≤ zb.length) := fun i h => placed_le (toksF_placed (k := vs.length + 1) ⟨0, HVS.out⟩ (Nat.zero_le _) HE1.out) _ (List.mem_map.2 ⟨_, List.getElem_mem h, rfl⟩)
  obtain ⟨xa, xc, rfl, hxc, _⟩ := HX.out
  obtain ⟨ya, yc, rfl, hyc, _⟩ := HY.out
  obtain ⟨wa, wc, rfl, hwc, _⟩ := HW.out
  obtain ⟨X, hX⟩ : ∃ X, l.length = X := ⟨_, rfl⟩
  obtain ⟨Y, hY⟩ : ∃ Y, m.length = Y := ⟨_, rfl⟩
  obtain ⟨Z, hZ⟩ : ∃ Z, n.length = Z := ⟨_, rfl⟩
  have HNX : Hid (l.length = X) := hX
  have HNY : Hid (m.length = Y) := hY
  have HNZ : Hid (n.length = Z) := hZ
  have HX1 : Hid (lz.length + 1 = X) := by show _ = _; omega
  have HZ1 : Hid (Z = lz.length + Y) := by show _ = _; omega
  have HXZ : Hid (Z + 1 = X + Y ∧ 1 ≤ X) := by show _ ∧ _; omega
  have hb1 : X ≤ 10001 := by omega
  have hb2 : Y ≤ 10001 := by omega
  have hb3 : Z ≤ 10001 := by omega
  have hlen : ((Z : Int) != (X : Int) + (Y : Int) - 1) = false := by have := HXZ.out; simp; omega
  rw [hX, hY, hZ]
  clear hown7 hso7 hxc hyc hwc hnx hnz hll hmm hnn hX hY hZ HOX HOY HSX HSY HE0 HE1 HE7 HL HZ HRUN HUS HVS HIA HIB HSA HSB
  go_wp2
  go_loopw [16] (fun xi wr => ∃ k : Nat, k ≤ Z ∧ xi = .int .i64 k ∧ Below w7.heap.size w7 wr) (fun xi _ => Z - (intOf xi).toNat)
  case atStart => exact ⟨0, Nat.zero_le _, rfl, Below.refl _ _⟩
  case round =>
    obtain ⟨k, hk, rfl, hBr⟩ := hrel
    have hbs := hBr.size
    by_cases hlt : k < Z
    · have hkn : k < n.length := by rw [HNZ.out]; exact hlt
      obtain ⟨ad, cp, e, _, hcell⟩ := HW.out
      obtain ⟨rfl, rfl⟩ : wa = ad ∧ wc = cp := by rw [HNZ.out] at e; simp at e; exact e
      obtain ⟨gw, ow, rfl, hgw, d0, d1, d2, d3⟩ := hcell k hkn
      obtain ⟨s, hup, hsl, hrz⟩ := HZS.out k hkn
      have hk0 : (0 : Int) ≤ (k : Int) := by omega
      have hk1 : (k : Int) < (Z : Int) := by omega
      by_cases hlx : k + 1 < X
      · have hkl : k < l.length := by rw [HNX.out]; omega
        have hkz : k < lz.length := by have := HX1.out; omega
        have htk := HN1.out k hkz hkl hkn
        obtain ⟨ad, cp, e, _, hcell⟩ := HX.out
        obtain ⟨rfl, rfl⟩ : xa = ad ∧ xc = cp := by rw [HNX.out] at e; simp at e; exact e
        obtain ⟨ga, oa, rfl, hga, c0, c1, c2, c3⟩ := hcell k hkl
        obtain ⟨s', hup', _, hrx⟩ := HXS.out k hkl
        rw [htk] at hup d0 d1 d2
        obtain rfl : s' = s := Upto.unique hup' hup
        obtain ⟨x, hx⟩ : ∃ x, x = l[k] := ⟨_, rfl⟩
        obtain ⟨y, hy⟩ : ∃ y, y = n[k] := ⟨_, rfl⟩
        rw [← hx] at c0 c1 c2 c3 d0 d1 d2 hrx htk
        rw [← hy] at d3 hrz htk
        clear hx hy hup hup' hcell
        have HSM : Hid (SameT w7 x y) := ⟨by rw [htk], by rw [htk], by rw [htk], s', by omega, hrx, hrz⟩
        obtain ⟨⟨kk, pp, tx, en⟩, vx⟩ := x
        obtain ⟨ty, vy⟩ := y
        simp only at htk c0 c1 c2 c3 d0 d1 d2 d3 hrx hrz
        subst htk
        obtain ⟨x1, x2, rfl, _, _⟩ := hrx
        obtain ⟨y1, y2, rfl, _, _⟩ := hrz
        have e0 : wr.cell? ⟨ga, oa + k * 4, none⟩ = some (.int .i64 kk) := (hBr.cell (p := ⟨ga, _, none⟩) hga).trans c0
        have e1 : wr.cell? ⟨ga, oa + k * 4 + 1, none⟩ = some (.int .i64 (pp : Int)) := (hBr.cell (p := ⟨ga, _, none⟩) hga).trans c1
        have e2 : wr.cell? ⟨ga, oa + k * 4 + 2, none⟩ = some (.string (strOfNums tx)) := (hBr.cell (p := ⟨ga, _, none⟩) hga).trans c2
        have e3 : wr.cell? ⟨ga, oa + k * 4 + 3, none⟩ = some (.slice x1 s'.length x2) := (hBr.cell (p := ⟨ga, _, none⟩) hga).trans c3
        have f0 : wr.cell? ⟨gw, ow + k * 4, none⟩ = some (.int .i64 kk) := (hBr.cell (p := ⟨gw, _, none⟩) hgw).trans d0
        have f1 : wr.cell? ⟨gw, ow + k * 4 + 1, none⟩ = some (.int .i64 (pp : Int)) := (hBr.cell (p := ⟨gw, _, none⟩) hgw).trans d1
        have f2 : wr.cell? ⟨gw, ow + k * 4 + 2, none⟩ = some (.string (strOfNums tx)) := (hBr.cell (p := ⟨gw, _, none⟩) hgw).trans d2
        have f3 : wr.cell? ⟨gw, ow + k * 4 + 3, none⟩ = some (.slice y1 s'.length y2) := (hBr.cell (p := ⟨gw, _, none⟩) hgw).trans d3
        have hga' : ga < wr.heap.size := by omega
        have hgw' : gw < wr.heap.size := by omega
        have i1 : (k : Int) < (X : Int) := by omega
        have hd : decide ((k : Int) < (X : Int) - 1) = true := by simp; omega
        have HBt : Hid (∀ o, Below w7.heap.size w7 ((wr.alloc o).drew)) := fun o => (hBr.alloc hbs _).drew
        clear c0 c1 c2 c3 d0 d1 d2 d3
        go_wp2
        have hc := heap_new' wr (.cells #[.int .i64 kk, .int .i64 (pp : Int), .string (strOfNums tx), .slice x1 s'.length x2] 30)
        have hBW : Below w7.heap.size w7 (wr.alloc (.cells #[.int .i64 kk, .int .i64 (pp : Int), .string (strOfNums tx), .slice x1 s'.length x2] 30)) := hBr.alloc hbs _
        have hBx : Below wr.heap.size wr (wr.alloc (.cells #[.int .i64 kk, .int .i64 (pp : Int), .string (strOfNums tx), .slice x1 s'.length x2] 30)) := (Below.refl _ _).alloc (Nat.le_refl _) _
        generalize hW : wr.alloc (.cells #[.int .i64 kk, .int .i64 (pp : Int), .string (strOfNums tx), .slice x1 s'.length x2] 30) = W at hc hBW hBx ⊢
        have g0 : W.cell? ⟨wr.heap.size, 0, none⟩ = some (.int .i64 kk) := by rw [← hW]; exact World.news_of_block (heap_new' wr _) 0 _ rfl
        have g1 : W.cell? ⟨wr.heap.size, 1, none⟩ = some (.int .i64 (pp : Int)) := by rw [← hW]; exact World.news_of_block (heap_new' wr _) 1 _ rfl
        have g2 : W.cell? ⟨wr.heap.size, 2, none⟩ = some (.string (strOfNums tx)) := by rw [← hW]; exact World.news_of_block (heap_new' wr _) 2 _ rfl
        have g3 : W.cell? ⟨wr.heap.size, 3, none⟩ = some (.slice x1 s'.length x2) := by rw [← hW]; exact World.news_of_block (heap_new' wr _) 3 _ rfl
        replace f0 := (hBx.cell (p := ⟨gw, _, none⟩) hgw').trans f0
        replace f1 := (hBx.cell (p := ⟨gw, _, none⟩) hgw').trans f1
        replace f2 := (hBx.cell (p := ⟨gw, _, none⟩) hgw').trans f2
        replace f3 := (hBx.cell (p := ⟨gw, _, none⟩) hgw').trans f3
        have hbW := hBW.size
        have HS1 : Hid (∀ A B, SameT ((W.drew.alloc A).alloc B) (⟨kk, pp, tx, en⟩, .slice x1 s'.length x2) (⟨kk, pp, tx, en⟩, .slice y1 s'.length y2)) := fun A B => HSM.out.below (((hBW.drew).alloc (by simpa using hbW) _).alloc (by simp; omega) _)
        have HG1 : Hid (∀ A B, ((W.drew.alloc A).alloc B).heap[W.heap.size]? = some A) := fun A B => (heap_two W.drew A B).1
        have HG2 : Hid (∀ A B, ((W.drew.alloc A).alloc B).heap[W.heap.size + 1]? = some B) := fun A B => (heap_two W.drew A B).2
        have HBn : Hid (∀ A B n, Below w7.heap.size w7 (((W.alloc A).alloc B).drewN n)) := fun A B n => below_drewN' ((hBW.alloc hbW _).alloc (by simp; omega) _) n
        obtain ⟨st, hst⟩ : ∃ st, st = strOfNums tx := ⟨_, rfl⟩
        obtain ⟨PP, hPP⟩ : ∃ PP, PP = (pp : Int) := ⟨_, rfl⟩
        have HEQ : Hid (kk = kk ∧ PP = (pp : Int) ∧ st = strOfNums tx ∧ (Value.slice x1 s'.length x2) = .slice x1 s'.length x2 ∧ (Value.slice y1 s'.length y2) = .slice y1 s'.length y2) := ⟨rfl, hPP, hst, rfl, rfl⟩
        rw [← hst] at g2 f2
        rw [← hPP] at g1 f1
        generalize wr.heap.size = b at g0 g1 g2 g3 ⊢
        clear hPP hst hc hBx hW e0 e1 e2 e3 HSM HBt hga hgw hga' hgw'
        go_region_held3 (fun w' => w'.cell? ⟨b, 0, none⟩ = some (.int .i64 kk) ∧ w'.cell? ⟨b, 1, none⟩ = some (.int .i64 PP) ∧ w'.cell? ⟨b, 2, none⟩ = some (.string st) ∧ w'.cell? ⟨b, 3, none⟩ = some (.slice x1 s'.length x2) ∧ w'.cell? ⟨gw, ow + k * 4, none⟩ = some (.int .i64 kk) ∧ w'.cell? ⟨gw, ow + k * 4 + 1, none⟩ = some (.int .i64 PP) ∧ w'.cell? ⟨gw, ow + k * 4 + 2, none⟩ = some (.string st) ∧ w'.cell? ⟨gw, ow + k * 4 + 3, none⟩ = some (.slice y1 s'.length y2)) (go_keep) ((go_at_call 12; refine (same_gen HEQ.out (HS1.out _ _) (by first | exact HG1.out _ _ | exact HG2.out _ _) (by first | exact HG1.out _ _ | exact HG2.out _ _)).mono ?_; rintro e w' ⟨rfl, nd, rfl⟩))
        all_goals go_wp2
        all_goals go_roundw
        all_goals first | exact ⟨k + 1, by omega, by go_num, HBn.out _ _ _⟩ | (simp [intOf]; omega)
      · have hxz := HXZ.out
        obtain ⟨j, hj⟩ : ∃ j, k + 1 = X + j := ⟨k + 1 - X, by omega⟩
        have hjY : j < Y := by omega
        have hjm : j < m.length := by rw [HNY.out]; exact hjY
        have hkz : k = lz.length + j := by have := HX1.out; omega
        have htk := HN2.out j k hjm hkn hkz
        have hpb := HPL.out j hjm
        obtain ⟨ad, cp, e, _, hcell⟩ := HY.out
        obtain ⟨rfl, rfl⟩ : ya = ad ∧ yc = cp := by rw [HNY.out] at e; simp at e; exact e
        obtain ⟨ga, oa, rfl, hga, c0, c1, c2, c3⟩ := hcell j hjm
        obtain ⟨s', hup', _, hrx⟩ := HYS.out j hjm
        have hidx : (k : Int) - (X : Int) + 1 = (j : Int) := by omega
        have hd : decide ((k : Int) < (X : Int) - 1) = false := by simp; omega
        have hd0 : decide (0 ≤ (k : Int) - (X : Int) + 1) = true := by simp; omega
        rw [htk] at hup d0 d1 d2
        obtain rfl : s' = s := Upto.unique hup' hup
        obtain ⟨x, hx⟩ : ∃ x, x = m[j] := ⟨_, rfl⟩
        obtain ⟨y, hy⟩ : ∃ y, y = n[k] := ⟨_, rfl⟩
        rw [← hx] at c0 c1 c2 c3 d0 d1 d2 hrx htk hpb
        rw [← hy] at d3 hrz htk
        clear hx hy hup hup' hcell
        clear hkz hj hxz
        obtain ⟨⟨kk, pp, tx, en⟩, vx⟩ := x
        obtain ⟨ty, vy⟩ := y
        simp only [shT] at htk c0 c1 c2 c3 d0 d1 d2 d3 hrx hrz hpb
        subst htk
        have HSM : Hid (SameT w7 (⟨kk, pp + (za.length + 1), tx, en⟩, vx) (⟨kk, pp + (za.length + 1), tx, en⟩, vy)) := ⟨rfl, rfl, rfl, s', by omega, hrx, hrz⟩
        obtain ⟨x1, x2, rfl, _, _⟩ := hrx
        obtain ⟨y1, y2, rfl, _, _⟩ := hrz
        have hpc : ((pp + (za.length + 1) : Nat) : Int) = (pp : Int) + (za.length : Int) + 1 := by omega
        rw [hpc] at d1
        have HPC : Hid ((pp : Int) + (za.length : Int) + 1 = ((pp + (za.length + 1) : Nat) : Int)) := hpc.symm
        clear hpc
        have e0 : wr.cell? ⟨ga, oa + j * 4, none⟩ = some (.int .i64 kk) := (hBr.cell (p := ⟨ga, _, none⟩) hga).trans c0
        have e1 : wr.cell? ⟨ga, oa + j * 4 + 1, none⟩ = some (.int .i64 (pp : Int)) := (hBr.cell (p := ⟨ga, _, none⟩) hga).trans c1
        have e2 : wr.cell? ⟨ga, oa + j * 4 + 2, none⟩ = some (.string (strOfNums tx)) := (hBr.cell (p := ⟨ga, _, none⟩) hga).trans c2
        have e3 : wr.cell? ⟨ga, oa + j * 4 + 3, none⟩ = some (.slice x1 s'.length x2) := (hBr.cell (p := ⟨ga, _, none⟩) hga).trans c3
        have f0 : wr.cell? ⟨gw, ow + k * 4, none⟩ = some (.int .i64 kk) := (hBr.cell (p := ⟨gw, _, none⟩) hgw).trans d0
        have f1 : wr.cell? ⟨gw, ow + k * 4 + 1, none⟩ = some (.int .i64 ((pp : Int) + (za.length : Int) + 1)) := (hBr.cell (p := ⟨gw, _, none⟩) hgw).trans d1
        have f2 : wr.cell? ⟨gw, ow + k * 4 + 2, none⟩ = some (.string (strOfNums tx)) := (hBr.cell (p := ⟨gw, _, none⟩) hgw).trans d2
        have f3 : wr.cell? ⟨gw, ow + k * 4 + 3, none⟩ = some (.slice y1 s'.length y2) := (hBr.cell (p := ⟨gw, _, none⟩) hgw).trans d3
        have hga' : ga < wr.heap.size := by omega
        have hgw' : gw < wr.heap.size := by omega
        have i0 : (0 : Int) ≤ (j : Int) := by omega
        have i1 : (j : Int) < (Y : Int) := by omega
        have hpb' : pp ≤ 500 := by omega
        have HBt : Hid (∀ o, Below w7.heap.size w7 ((wr.alloc o).drew)) := fun o => (hBr.alloc hbs _).drew
        clear c0 c1 c2 c3 d0 d1 d2 d3
        go_wp2
        have hc := heap_new' wr (.cells #[.int .i64 kk, .int .i64 ((pp : Int) + (za.length : Int) + 1), .string (strOfNums tx), .slice x1 s'.length x2] 30)
        have hBW : Below w7.heap.size w7 (wr.alloc (.cells #[.int .i64 kk, .int .i64 ((pp : Int) + (za.length : Int) + 1), .string (strOfNums tx), .slice x1 s'.length x2] 30)) := hBr.alloc hbs _
        have hBx : Below wr.heap.size wr (wr.alloc (.cells #[.int .i64 kk, .int .i64 ((pp : Int) + (za.length : Int) + 1), .string (strOfNums tx), .slice x1 s'.length x2] 30)) := (Below.refl _ _).alloc (Nat.le_refl _) _
        generalize hW : wr.alloc (.cells #[.int .i64 kk, .int .i64 ((pp : Int) + (za.length : Int) + 1), .string (strOfNums tx), .slice x1 s'.length x2] 30) = W at hc hBW hBx ⊢
        have g0 : W.cell? ⟨wr.heap.size, 0, none⟩ = some (.int .i64 kk) := by rw [← hW]; exact World.news_of_block (heap_new' wr _) 0 _ rfl
        have g1 : W.cell? ⟨wr.heap.size, 1, none⟩ = some (.int .i64 ((pp : Int) + (za.length : Int) + 1)) := by rw [← hW]; exact World.news_of_block (heap_new' wr _) 1 _ rfl
        have g2 : W.cell? ⟨wr.heap.size, 2, none⟩ = some (.string (strOfNums tx)) := by rw [← hW]; exact World.news_of_block (heap_new' wr _) 2 _ rfl
        have g3 : W.cell? ⟨wr.heap.size, 3, none⟩ = some (.slice x1 s'.length x2) := by rw [← hW]; exact World.news_of_block (heap_new' wr _) 3 _ rfl
        replace f0 := (hBx.cell (p := ⟨gw, _, none⟩) hgw').trans f0
        replace f1 := (hBx.cell (p := ⟨gw, _, none⟩) hgw').trans f1
        replace f2 := (hBx.cell (p := ⟨gw, _, none⟩) hgw').trans f2
        replace f3 := (hBx.cell (p := ⟨gw, _, none⟩) hgw').trans f3
        have hbW := hBW.size
        have HS1 : Hid (∀ A B, SameT ((W.drew.alloc A).alloc B) (⟨kk, pp + (za.length + 1), tx, en⟩, .slice x1 s'.length x2) (⟨kk, pp + (za.length + 1), tx, en⟩, .slice y1 s'.length y2)) := fun A B => HSM.out.below (((hBW.drew).alloc (by simpa using hbW) _).alloc (by simp; omega) _)
        have HG1 : Hid (∀ A B, ((W.drew.alloc A).alloc B).heap[W.heap.size]? = some A) := fun A B => (heap_two W.drew A B).1
        have HG2 : Hid (∀ A B, ((W.drew.alloc A).alloc B).heap[W.heap.size + 1]? = some B) := fun A B => (heap_two W.drew A B).2
        have HBn : Hid (∀ A B n, Below w7.heap.size w7 (((W.alloc A).alloc B).drewN n)) := fun A B n => below_drewN' ((hBW.alloc hbW _).alloc (by simp; omega) _) n
        obtain ⟨st, hst⟩ : ∃ st, st = strOfNums tx := ⟨_, rfl⟩
        obtain ⟨PP, hPP⟩ : ∃ PP, PP = (pp : Int) + (za.length : Int) + 1 := ⟨_, rfl⟩
        have HEQ : Hid (kk = kk ∧ PP = ((pp + (za.length + 1) : Nat) : Int) ∧ st = strOfNums tx ∧ (Value.slice x1 s'.length x2) = .slice x1 s'.length x2 ∧ (Value.slice y1 s'.length y2) = .slice y1 s'.length y2) := ⟨rfl, hPP.trans HPC.out, hst, rfl, rfl⟩
        rw [← hst] at g2 f2
        rw [← hPP] at g1 f1
        generalize wr.heap.size = b at g0 g1 g2 g3 ⊢
        clear hPP hst hc hBx hW e0 e1 e2 e3 HSM HBt hga hgw hga' hgw'
        go_region_held3 (fun w' => w'.cell? ⟨b, 0, none⟩ = some (.int .i64 kk) ∧ w'.cell? ⟨b, 1, none⟩ = some (.int .i64 PP) ∧ w'.cell? ⟨b, 2, none⟩ = some (.string st) ∧ w'.cell? ⟨b, 3, none⟩ = some (.slice x1 s'.length x2) ∧ w'.cell? ⟨gw, ow + k * 4, none⟩ = some (.int .i64 kk) ∧ w'.cell? ⟨gw, ow + k * 4 + 1, none⟩ = some (.int .i64 PP) ∧ w'.cell? ⟨gw, ow + k * 4 + 2, none⟩ = some (.string st) ∧ w'.cell? ⟨gw, ow + k * 4 + 3, none⟩ = some (.slice y1 s'.length y2)) (go_keep) ((go_at_call 12; refine (same_gen HEQ.out (HS1.out _ _) (by first | exact HG1.out _ _ | exact HG2.out _ _) (by first | exact HG1.out _ _ | exact HG2.out _ _)).mono ?_; rintro e w' ⟨rfl, nd, rfl⟩))
        all_goals go_wp2
        all_goals go_roundw
        all_goals first | exact ⟨k + 1, by omega, by go_num, HBn.out _ _ _⟩ | (simp [intOf]; omega)
    · obtain rfl : k = Z := by omega
      go_wp2
      go_ret
      exact ⟨rfl, hB07.trans (hBr.mono (by omega))⟩
end Go.Proofs.YtdjhgjnhfmggjaaDoor
