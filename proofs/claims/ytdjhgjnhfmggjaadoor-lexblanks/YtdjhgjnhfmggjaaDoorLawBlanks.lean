/-
  scansionlaw07.LexBlanks, walked: it answers true.
-/
import Derived.Test.YtdjhgjnhfmggjaaDoorBkMath3
import Derived.BigQuiet
import Derived.Lib.AppendStr
import Derived.Deep.AppendLies
namespace Go.Proofs.YtdjhgjnhfmggjaaDoor
open Go.RowKit Go.Shelf S1
set_option linter.unusedVariables false

set_option maxRecDepth 100000 in
set_option maxHeartbeats 8000000 in
theorem lexBlanks_any (zs : List Int) (hby : Byt zs) (ta : Option Addr) (cap : Nat) (ls : List (List Int)) (hbl : ∀ l ∈ ls, Byt l) (va : Option Addr) (vc : Nat) (w : World) (hsv : SynV w) (hI : BytesAt w.heap.size w (.slice ta zs.length cap) zs) (hB : BytesIn w (.slice va ls.length vc) ls) :
    Calls Tryd.prog 4 #[.slice ta zs.length cap, .slice va ls.length vc] w fun e w' => e = .returned (.bool true) ∧ Below w.heap.size w w' := by
  have haw := awake_any w hsv
  by_cases hz : 500 < zs.length
  · have hz' : decide (500 < (zs.length : Int)) = true := by simp; omega
    go_enter Tryd.func4, Tryd.ntmps4
    go_wp2_with fail
    refine haw.mono ?_
    rintro e w1 ⟨rfl, hB1⟩
    go_wp2
    go_ret
    exact ⟨rfl, hB1⟩
  by_cases hy : 100 < ls.length
  · have hz' : decide (500 < (zs.length : Int)) = false := by simp; omega
    have hy' : decide (100 < (ls.length : Int)) = true := by simp; omega
    go_enter Tryd.func4, Tryd.ntmps4
    go_wp2_with fail
    refine haw.mono ?_
    rintro e w1 ⟨rfl, hB1⟩
    go_wp2
    go_ret
    exact ⟨rfl, hB1⟩
  have hz' : decide (500 < (zs.length : Int)) = false := by simp; omega
  have hy' : decide (100 < (ls.length : Int)) = false := by simp; omega
  obtain ⟨us, hus⟩ := Run.exists zs zs.length 0 (by omega) (Nat.zero_le _)
  have HUS : Hid (Run zs 0 us zs.length) := hus
  have HI : Hid (BytesAt w.heap.size w (.slice ta zs.length cap) zs) := hI
  have HBI : Hid (BytesIn w (.slice va ls.length vc) ls) := hB
  have hzl : zs.length ≤ 500 := by omega
  have hyl : ls.length ≤ 100 := by omega
  clear hus hI hz hy hB
  go_enter Tryd.func4, Tryd.ntmps4
  go_wp2_with fail
  refine haw.mono ?_
  rintro e w1 ⟨rfl, hB1⟩
  have hs1 := hB1.size
  clear haw
  go_wp2_with fail
  refine (tokens_any zs hby (by omega) us HUS.out ta cap w1 (hsv.grown (grownR_below hB1 none) (by simp)) ((HI.out.below hB1).mono hs1)).mono ?_
  rintro e w2 (⟨a, x, e0, rfl, hx, hB2⟩ | ⟨l, v, e0, hll, rfl, hown, hso, hB2⟩)
  · have hx' : (x != 0) = true := by simpa using hx
    clear hx e0
    go_wp2
    go_ret
    exact ⟨rfl, hB1.trans (hB2.mono hs1)⟩
  have hB02 : Below w.heap.size w w2 := hB1.trans (hB2.mono hs1)
  have hs2 := hB02.size
  obtain ⟨xa, xc, rfl, hxc, _⟩ := toks_of_row hown
  obtain ⟨iB, hiB, hzB0, hzB1, hzB2⟩ := info_parts Tryd.infoByte
  have HE0 : Hid (toksL zs.length us = TR.good (l.map Prod.fst)) := e0
  have HPLC : Hid (Placed zs 0 (l.map Prod.fst)) := toksF_placed (k := us.length + 1) ⟨0, HUS.out⟩ (Nat.zero_le _) HE0.out
  have HTI : Hid (ToksIn w2 (.slice xa l.length xc) l) := toks_of_row hown
  have HSX : Hid (SetsOwn w2 w1.heap.size l) := hso
  obtain ⟨P, hP⟩ : ∃ P, P = l.map (fun x => x.1.p) := ⟨_, rfl⟩
  have HP : Hid (P = l.map (fun x => x.1.p)) := hP
  obtain ⟨N, hN⟩ : ∃ N, l.length = N := ⟨_, rfl⟩
  have HN : Hid (l.length = N) := hN
  have HPN : Hid (P.length = N) := by show _ = _; rw [hP, List.length_map]; exact hN
  rw [hN] at HTI hll ⊢
  clear hown hso e0 hxc hP hN
  go_wp2
  go_loopw [9, 10, 11] (fun xc xi xk wr => ∃ k : Nat, k ≤ N ∧ xi = .int .i64 k ∧ wr.ownsRow w2.heap.size 5 1 xc (accB zs ls P k).length ((accB zs ls P k).map (Value.int .u8)) ∧ (∀ j, (h : j < ls.length) → j < k → ls[j].length ≤ 50) ∧ Below w2.heap.size w2 wr) (fun _ xi _ _ => N - (intOf xi).toNat)
  case atStart => exact ⟨0, Nat.zero_le _, rfl, World.ownsRow_nil _ _ _ _, fun j h hj => by omega, Below.refl _ _⟩
  case round =>
    obtain ⟨k, hk, rfl, hO, hL50, hBr⟩ := hrel
    have HO : Hid (wr.ownsRow w2.heap.size 5 1 u9 (accB zs ls P k).length ((accB zs ls P k).map (Value.int .u8))) := hO
    have H50 : Hid (∀ j, (h : j < ls.length) → j < k → ls[j].length ≤ 50) := hL50
    clear hO hL50
    have hbs := hBr.size
    by_cases hlt : k < N
    · have hk1 : (k : Int) < (N : Int) := by omega
      by_cases hlk : k < ls.length
      · have hlk1 : (k : Int) < (ls.length : Int) := by omega
        have hk0 : (0 : Int) ≤ (k : Int) := by omega
        obtain ⟨a', c', e', hvc, hcell⟩ := HBI.out
        obtain ⟨rfl, rfl⟩ : va = a' ∧ vc = c' := by simp at e'; exact e'
        obtain ⟨g, off, rfl, hg, ai, ci, hc0, hbb⟩ := hcell k hlk
        have hB0r : Below w.heap.size w wr := hB02.trans (hBr.mono (by omega))
        have c0 : wr.cell? ⟨g, off + k, none⟩ = some (.slice ai ls[k].length ci) := (hB0r.cell (p := ⟨g, off + k, none⟩) hg).trans hc0
        have hbr : BytesAt w.heap.size w (.slice ai ls[k].length ci) ls[k] := hbb
        have cw : w.cell? ⟨g, off + k, none⟩ = some (.slice ai ls[k].length ci) := hc0
        have hbk := hbl ls[k] (List.getElem_mem hlk)
        generalize hlsk : ls[k] = lk at c0 hbr hbk cw
        have HLK : Hid (ls[k] = lk) := hlsk
        clear hcell e' hc0 hbb hlsk
        by_cases h50 : 50 < lk.length
        · have hd : decide (50 < (lk.length : Int)) = true := by simp; omega
          have hd' : decide (50 < lk.length) = true := by simp; omega
          go_wp2
          go_ret
          exact ⟨rfl, hB0r⟩
        · have hd : decide (50 < (lk.length : Int)) = false := by simp; omega
          have hd' : decide (50 < lk.length) = false := by simp; omega
          have hlk50 : lk.length ≤ 50 := by omega
          go_wp2
          go_loopw [9, 11] (fun xc xj wi => ∃ j : Nat, j ≤ lk.length ∧ xj = .int .i64 j ∧ wi.ownsRow w2.heap.size 5 1 xc (accB zs ls P k ++ (lk.take j).map pkB).length ((accB zs ls P k ++ (lk.take j).map pkB).map (Value.int .u8)) ∧ Below w2.heap.size w2 wi) (fun _ xj _ => lk.length - (intOf xj).toNat)
          case atStart => exact ⟨0, Nat.zero_le _, rfl, by simpa using HO.out, hBr⟩
          case round =>
            obtain ⟨j, hj, rfl, hOi, hBi⟩ := hrel
            have HOi : Hid (wr.ownsRow w2.heap.size 5 1 u9 (accB zs ls P k ++ (lk.take j).map pkB).length ((accB zs ls P k ++ (lk.take j).map pkB).map (Value.int .u8))) := hOi
            clear hOi
            have hbsi := hBi.size
            have HLE : Hid ((accB zs ls P k ++ (lk.take j).map pkB).length ≤ 10000000) := by
              show _ ≤ _
              have h1 := accB_le zs ls P k H50.out
              have h2 : (57 + zs.length) * k ≤ 557 * 10001 := Nat.mul_le_mul (by omega) (by omega)
              simp only [List.length_append, List.length_map, List.length_take]
              omega
            have hB0i : Below w.heap.size w wr := hB02.trans (hBi.mono (by omega))
            have c1 : wr.cell? ⟨g, off + k, none⟩ = some (.slice ai lk.length ci) := (hB0i.cell (p := ⟨g, off + k, none⟩) hg).trans cw
            by_cases hjl : j < lk.length
            · have hj0 : (0 : Int) ≤ (j : Int) := by omega
              have hj1 : (j : Int) < (lk.length : Int) := by omega
              rcases hbr.below hB0i with ⟨_, _, _, e⟩ | ⟨gb, ob, cb, e, hcb, hgb, hcell⟩
              · rw [e] at hjl; cases hjl
              simp only [Value.slice.injEq] at e
              obtain ⟨rfl, _, rfl⟩ := e
              have cx := hcell j hjl
              obtain ⟨x, hx⟩ : ∃ x, x = lk[j]?.getD 0 := ⟨_, rfl⟩
              rw [← hx] at cx
              have hx' : x = lk[j] := by rw [hx, List.getElem?_eq_getElem hjl]; rfl
              obtain ⟨hx0, hx1⟩ := hbk x (by rw [hx']; exact List.getElem_mem hjl)
              have HX : Hid (x = lk[j]) := hx'
              clear hx hx' hcell
              have hx4 : x % 4 = 0 ∨ x % 4 = 1 ∨ x % 4 = 2 ∨ x % 4 = 3 := by omega
              rcases hx4 with hx4 | hx4 | hx4 | hx4
              · have HPK : Hid (pkB lk[j] = 32) := by show _ = _; rw [← HX.out]; unfold pkB; rw [hx4]; rfl
                have hand : bits BinOp.and IntKind.u8 x 3 = 0 := by rw [and_three x hx0 hx1]; exact hx4
                clear hx4
                go_wp2_with (at_builtin; refine wpList_append_src _ rfl (.tmp 64) (.tmp 74) 27 rfl w2.heap.size 5 iB (.int .u8 0) 1 Tryd.underlying27 hiB hzB0 hzB1 hzB2 rfl _ _ _ rfl (World.ownsRow.alloc HOi.out _) _ rfl 1 _ (src_byte wr _) (by unfold maxLen; have := HLE.out; omega) (by have := HLE.out; omega) (by simp; omega) ?_; intro v3 w3 ho3 hg3)
                have hB3 : Below w2.heap.size w2 w3 := (hBi.alloc hbsi _).grown (show World.grownBy _ w3 u9.ownBlock from hg3) (by simp; omega) (fun q e => (World.ownsRow.lt HOi.out q e).1)
                have HO3 : Hid (w3.ownsRow w2.heap.size 5 1 v3 (accB zs ls P k ++ (lk.take (j + 1)).map pkB).length ((accB zs ls P k ++ (lk.take (j + 1)).map pkB).map (Value.int .u8))) := by
                  have : w3.ownsRow w2.heap.size 5 1 v3 ((accB zs ls P k ++ (lk.take j).map pkB).length + 1) ((accB zs ls P k ++ (lk.take j).map pkB).map (Value.int .u8) ++ [.int .u8 32]) := ho3
                  show World.ownsRow _ _ _ _ _ _ _
                  rw [take_pk hjl, HPK.out, ← List.append_assoc, List.length_append, List.map_append]
                  exact this
                clear ho3 hg3 HOi
                go_roundw
                case rel => exact ⟨j + 1, by omega, by go_num, HO3.out, hB3⟩
                case measure => simp [intOf]; omega
              · have HPK : Hid (pkB lk[j] = 9) := by show _ = _; rw [← HX.out]; unfold pkB; rw [hx4]; rfl
                have hand : bits BinOp.and IntKind.u8 x 3 = 1 := by rw [and_three x hx0 hx1]; exact hx4
                clear hx4
                go_wp2_with (at_builtin; refine wpList_append_src _ rfl (.tmp 64) (.tmp 74) 27 rfl w2.heap.size 5 iB (.int .u8 0) 1 Tryd.underlying27 hiB hzB0 hzB1 hzB2 rfl _ _ _ rfl (World.ownsRow.alloc HOi.out _) _ rfl 1 _ (src_byte wr _) (by unfold maxLen; have := HLE.out; omega) (by have := HLE.out; omega) (by simp; omega) ?_; intro v3 w3 ho3 hg3)
                have hB3 : Below w2.heap.size w2 w3 := (hBi.alloc hbsi _).grown (show World.grownBy _ w3 u9.ownBlock from hg3) (by simp; omega) (fun q e => (World.ownsRow.lt HOi.out q e).1)
                have HO3 : Hid (w3.ownsRow w2.heap.size 5 1 v3 (accB zs ls P k ++ (lk.take (j + 1)).map pkB).length ((accB zs ls P k ++ (lk.take (j + 1)).map pkB).map (Value.int .u8))) := by
                  have : w3.ownsRow w2.heap.size 5 1 v3 ((accB zs ls P k ++ (lk.take j).map pkB).length + 1) ((accB zs ls P k ++ (lk.take j).map pkB).map (Value.int .u8) ++ [.int .u8 9]) := ho3
                  show World.ownsRow _ _ _ _ _ _ _
                  rw [take_pk hjl, HPK.out, ← List.append_assoc, List.length_append, List.map_append]
                  exact this
                clear ho3 hg3 HOi
                go_roundw
                case rel => exact ⟨j + 1, by omega, by go_num, HO3.out, hB3⟩
                case measure => simp [intOf]; omega
              · have HPK : Hid (pkB lk[j] = 10) := by show _ = _; rw [← HX.out]; unfold pkB; rw [hx4]; rfl
                have hand : bits BinOp.and IntKind.u8 x 3 = 2 := by rw [and_three x hx0 hx1]; exact hx4
                clear hx4
                go_wp2_with (at_builtin; refine wpList_append_src _ rfl (.tmp 64) (.tmp 74) 27 rfl w2.heap.size 5 iB (.int .u8 0) 1 Tryd.underlying27 hiB hzB0 hzB1 hzB2 rfl _ _ _ rfl (World.ownsRow.alloc HOi.out _) _ rfl 1 _ (src_byte wr _) (by unfold maxLen; have := HLE.out; omega) (by have := HLE.out; omega) (by simp; omega) ?_; intro v3 w3 ho3 hg3)
                have hB3 : Below w2.heap.size w2 w3 := (hBi.alloc hbsi _).grown (show World.grownBy _ w3 u9.ownBlock from hg3) (by simp; omega) (fun q e => (World.ownsRow.lt HOi.out q e).1)
                have HO3 : Hid (w3.ownsRow w2.heap.size 5 1 v3 (accB zs ls P k ++ (lk.take (j + 1)).map pkB).length ((accB zs ls P k ++ (lk.take (j + 1)).map pkB).map (Value.int .u8))) := by
                  have : w3.ownsRow w2.heap.size 5 1 v3 ((accB zs ls P k ++ (lk.take j).map pkB).length + 1) ((accB zs ls P k ++ (lk.take j).map pkB).map (Value.int .u8) ++ [.int .u8 10]) := ho3
                  show World.ownsRow _ _ _ _ _ _ _
                  rw [take_pk hjl, HPK.out, ← List.append_assoc, List.length_append, List.map_append]
                  exact this
                clear ho3 hg3 HOi
                go_roundw
                case rel => exact ⟨j + 1, by omega, by go_num, HO3.out, hB3⟩
                case measure => simp [intOf]; omega
              · have HPK : Hid (pkB lk[j] = 13) := by show _ = _; rw [← HX.out]; unfold pkB; rw [hx4]; rfl
                have hand : bits BinOp.and IntKind.u8 x 3 = 3 := by rw [and_three x hx0 hx1]; exact hx4
                clear hx4
                go_wp2_with (at_builtin; refine wpList_append_src _ rfl (.tmp 64) (.tmp 74) 27 rfl w2.heap.size 5 iB (.int .u8 0) 1 Tryd.underlying27 hiB hzB0 hzB1 hzB2 rfl _ _ _ rfl (World.ownsRow.alloc HOi.out _) _ rfl 1 _ (src_byte wr _) (by unfold maxLen; have := HLE.out; omega) (by have := HLE.out; omega) (by simp; omega) ?_; intro v3 w3 ho3 hg3)
                have hB3 : Below w2.heap.size w2 w3 := (hBi.alloc hbsi _).grown (show World.grownBy _ w3 u9.ownBlock from hg3) (by simp; omega) (fun q e => (World.ownsRow.lt HOi.out q e).1)
                have HO3 : Hid (w3.ownsRow w2.heap.size 5 1 v3 (accB zs ls P k ++ (lk.take (j + 1)).map pkB).length ((accB zs ls P k ++ (lk.take (j + 1)).map pkB).map (Value.int .u8))) := by
                  have : w3.ownsRow w2.heap.size 5 1 v3 ((accB zs ls P k ++ (lk.take j).map pkB).length + 1) ((accB zs ls P k ++ (lk.take j).map pkB).map (Value.int .u8) ++ [.int .u8 13]) := ho3
                  show World.ownsRow _ _ _ _ _ _ _
                  rw [take_pk hjl, HPK.out, ← List.append_assoc, List.length_append, List.map_append]
                  exact this
                clear ho3 hg3 HOi
                go_roundw
                case rel => exact ⟨j + 1, by omega, by go_num, HO3.out, hB3⟩
                case measure => simp [intOf]; omega
            · obtain rfl : j = lk.length := by omega
              have hC : accB zs ls P k ++ (lk.take lk.length).map pkB = accB zs ls P k ++ lk.map pkB := by rw [List.take_length]
              rw [hC] at HOi HLE
              have H51 : Hid (∀ j, (h : j < ls.length) → j < k + 1 → ls[j].length ≤ 50) := fun i h hi => by
                by_cases q : i = k
                · subst q
                  rw [HLK.out]
                  exact hlk50
                · exact H50.out i h (by omega)
              --@tail
              by_cases hn : k + 1 < N
              · have hn' : decide ((k : Int) + 1 < (N : Int)) = true := by simp; omega
                go_wp2_with (first
                  | (at_builtin; refine Go.Lib.wpList_append_own_string _ rfl (.tmp 76) (.const (.string ⟨#[35, 91, 32, 97, 10]⟩)) 27 9 rfl w2.heap.size 5 iB Tryd.underlying27 Tryd.underlying9 hiB hzB0 hzB1 hzB2 _ _ _ rfl HOi.out ⟨#[35, 91, 32, 97, 10]⟩ rfl (by unfold maxLen; have := HLE.out; show _ + 5 ≤ _; omega) (by have := HLE.out; show _ + 5 ≤ _; omega) (by omega) ?_; intro v4 w4 ho4 hg4 _; have hB4 : Below w2.heap.size w2 w4 := hBi.grown (show World.grownBy _ w4 u9.ownBlock from hg4) (by omega) (fun q e => (World.ownsRow.lt HOi.out q e).1); have hs4 := hB4.size; have HO4 : Hid (w4.ownsRow w2.heap.size 5 1 v4 ((accB zs ls P k ++ lk.map pkB).length + 5) ((accB zs ls P k ++ lk.map pkB).map (Value.int .u8) ++ [35, 91, 32, 97, 10].map (Value.int .u8))) := ho4; clear ho4 hg4)
                  | (at_builtin; refine wpList_append_src _ rfl (.tmp 78) (.tmp 79) 27 rfl w2.heap.size 5 iB (.int .u8 0) 1 Tryd.underlying27 hiB hzB0 hzB1 hzB2 rfl _ _ _ rfl (World.ownsRow.alloc HO4.out _) _ rfl 1 _ (src_byte w4 _) (by unfold maxLen; have := HLE.out; omega) (by have := HLE.out; omega) (by simp; omega) ?_; intro v5 w5 ho5 hg5))
                have hB5 : Below w2.heap.size w2 w5 := (hB4.alloc hs4 _).grown (show World.grownBy _ w5 v4.ownBlock from hg5) (by simp; omega) (fun q e => (World.ownsRow.lt HO4.out q e).1)
                have hs5 := hB5.size
                have HO5 : Hid (w5.ownsRow w2.heap.size 5 1 v5 (accB zs ls P k ++ insB ls k).length ((accB zs ls P k ++ insB ls k).map (Value.int .u8))) := by
                  have : w5.ownsRow w2.heap.size 5 1 v5 (((accB zs ls P k ++ lk.map pkB).length + 5) + 1) (((accB zs ls P k ++ lk.map pkB).map (Value.int .u8) ++ [35, 91, 32, 97, 10].map (Value.int .u8)) ++ [.int .u8 32]) := ho5
                  show World.ownsRow _ _ _ _ _ _ _
                  have e1 : accB zs ls P k ++ insB ls k = (accB zs ls P k ++ lk.map pkB) ++ [35, 91, 32, 97, 10] ++ [32] := by unfold insB; rw [dif_pos hlk, HLK.out]; simp
                  rw [e1]
                  simpa only [List.length_append, List.map_append, List.length_cons, List.length_nil, List.map_cons, List.map_nil] using this
                clear ho5 hg5 HO4
                have hP0 : k < P.length := by rw [HPN.out]; exact hlt
                have hP1 : k + 1 < P.length := by rw [HPN.out]; exact hn
                obtain ⟨gt, ot, hxa, hgt, cp, cq⟩ : ∃ g off, xa = some ⟨g, off, none⟩ ∧ g < w2.heap.size ∧ w2.cell? ⟨g, off + k * 4 + 1, none⟩ = some (.int .i64 ((P[k] : Nat) : Int)) ∧ w2.cell? ⟨g, off + (k + 1) * 4 + 1, none⟩ = some (.int .i64 ((P[k + 1] : Nat) : Int)) := tok_places HTI.out HP.out HN.out hn hP0 hP1
                subst hxa
                obtain ⟨hpq, hqz⟩ : P[k] < P[k + 1] ∧ P[k + 1] ≤ zs.length := by
                  have := placed_next HPLC.out k (by rw [List.length_map, HN.out]; omega)
                  simpa [HP.out] using this
                have hpc : pieceB zs ls P k = insB ls k ++ ((zs.take (P[k + 1])).drop (P[k]) ++ [10]) := by
                  unfold pieceB; rw [dif_pos hP1]
                have HPC : Hid (accB zs ls P (k + 1) = accB zs ls P k ++ insB ls k ++ ((zs.take (P[k + 1])).drop (P[k]) ++ [10])) := by show _ = _; rw [accB_succ, hpc, List.append_assoc]
                clear hpc
                generalize P[k] = p at cp hpq HPC
                generalize P[k + 1] = q at cq hpq hqz HPC
                have cp5 : w5.cell? ⟨gt, ot + k * 4 + 1, none⟩ = some (.int .i64 (p : Int)) := (hB5.cell (p := ⟨gt, _, none⟩) hgt).trans cp
                have cq5 : w5.cell? ⟨gt, ot + (k + 1) * 4 + 1, none⟩ = some (.int .i64 (q : Int)) := (hB5.cell (p := ⟨gt, _, none⟩) hgt).trans cq
                have hB05 : Below w.heap.size w w5 := hB02.trans (hB5.mono (by omega))
                obtain ⟨gz, oz, hta, hcz, hgz, HZC⟩ : ∃ g off, ta = some ⟨g, off, none⟩ ∧ zs.length ≤ cap ∧ g < w.heap.size ∧ Hid (∀ j, j < zs.length → w5.cell? ⟨g, off + j, none⟩ = some (.int .u8 (zs[j]?.getD 0))) := by
                  rcases HI.out.below hB05 with ⟨_, _, _, e⟩ | ⟨gz, oz, cz, e, hcz, hgz, hcc⟩
                  · rw [e] at hqz; simp at hqz; omega
                  · simp at e
                    obtain ⟨rfl, rfl⟩ := e
                    exact ⟨gz, oz, rfl, hcz, hgz, hcc⟩
                subst hta
                have HNE : Hid (some gt ≠ v5.ownBlock) := fun e => by have := (World.ownsRow.lt HO5.out gt e.symm).1; omega
                have HNL : Hid ((((zs.take q).drop p).map (Value.int .u8)).length = (q - p) * 1) := by show _ = _; simp; omega
                have HN1 : Hid (∀ u ∈ ((zs.take q).drop p).map (Value.int .u8), u.oneCell' = true) := one_ints _ _
                have HNW : Hid (∀ j u, (((zs.take q).drop p).map (Value.int .u8))[j]? = some u → w5.drew.cell? ((⟨gz, oz + p, none⟩ : Addr).add j) = some u) := news_slice HZC.out hqz
                have HL5 : Hid ((accB zs ls P k ++ insB ls k).length ≤ 10000100) := by
                  show _ ≤ _
                  have h1 := HLE.out
                  have h2 : (insB ls k).length ≤ 56 := insB_le ls k (fun h => H51.out k h (by omega))
                  simp at h1 ⊢
                  omega
                have hkt : ((k : Int) + 1).toNat = k + 1 := by omega
                have hwk : IntKind.i64.wrap ((k : Int) + 1) = (k : Int) + 1 := IntWalk.i64_in _ (by omega)
                have t0 : (0 : Int) ≤ (k : Int) := by omega
                have t1 : (0 : Int) ≤ (k : Int) + 1 := by omega
                have t2 : (k : Int) + 1 < (N : Int) := by omega
                have t3 : (p : Int) ≤ (q : Int) := by omega
                have t4 : (q : Int) ≤ (cap : Int) := by omega
                have t5 : (0 : Int) ≤ (p : Int) := by omega
                have t6 : (0 : Int) ≤ (q : Int) := by omega
                clear cp cq
                have u1 : p < cap := by omega
                have u2 : (p : Int) < (cap : Int) := by omega
                go_wp2
                go_region_held3 (fun w' => w'.cell? ⟨gt, ot + k * 4 + 1, none⟩ = some (.int .i64 (p : Int)) ∧ w'.cell? ⟨gt, ot + (k + 1) * 4 + 1, none⟩ = some (.int .i64 (q : Int))) (first | go_keep | (rw [hgrow6.cell_far _ (by simp; omega) HNE.out, hgrow6.cell_far _ (by simp; omega) HNE.out]; go_keep)) ((refine step_append_lies _ (by rfl) _ _ _ (by rfl) w2.heap.size 5 iB (.int .u8 0) 1 1 Tryd.underlying27 hiB hzB0 hzB1 hzB2 rfl (by omega) v5 _ _ (by rfl) (by exact World.ownsRow.drew HO5.out) ⟨gz, oz + p, none⟩ (q - p) (cap - p) _ (by simp [Act.eval]; omega) HNL.out (by exact HNW.out) HN1.out (by omega) (by unfold maxLen; have := HL5.out; omega) (by have := HL5.out; omega) (by simp; omega) _ rfl ?_; intro g6 cap6 w6 hown6 hgrow6 hat6 hlt6))
                have hB6 : Below w2.heap.size w2 w6 := (hB5.drew).grown (show World.grownBy _ w6 v5.ownBlock from hgrow6) (by simpa using hs5) (fun z e => (World.ownsRow.lt HO5.out z e).1)
                have hs6 := hB6.size
                have HO6 : Hid (w6.ownsRow w2.heap.size 5 1 (.slice (some ⟨g6, 0, none⟩) ((accB zs ls P k).length + (insB ls k).length + (q - p)) cap6) ((accB zs ls P k).length + (insB ls k).length + (q - p)) ((accB zs ls P k ++ insB ls k).map (Value.int .u8) ++ ((zs.take q).drop p).map (Value.int .u8))) := by
                  have h0 : w6.ownsRow w2.heap.size 5 1 (.slice (some ⟨g6, 0, none⟩) ((accB zs ls P k ++ insB ls k).length + (q - p)) cap6) ((accB zs ls P k ++ insB ls k).length + (q - p)) ((accB zs ls P k ++ insB ls k).map (Value.int .u8) ++ ((zs.take q).drop p).map (Value.int .u8)) := hown6
                  rw [List.length_append] at h0
                  exact h0
                clear hown6 hgrow6 hat6 hlt6 HO5 HNW HNE HZC cp5 cq5
                have HL6 : Hid ((accB zs ls P k ++ insB ls k).length ≤ 10000100 ∧ (accB zs ls P k).length + (insB ls k).length ≤ 10000100 ∧ q - p ≤ 500) := ⟨HL5.out, by have := HL5.out; rwa [List.length_append] at this, by omega⟩
                go_wp2_with (at_builtin; go_must (refine wpList_append_src _ rfl (.tmp 101) (.tmp 102) 27 rfl w2.heap.size 5 iB (.int .u8 0) 1 Tryd.underlying27 hiB hzB0 hzB1 hzB2 rfl _ _ _ rfl (World.ownsRow.alloc HO6.out _) _ rfl 1 _ (src_byte w6 _) (by unfold maxLen; have := HL6.out; omega) (by have := HL6.out; omega) (by simp; omega) ?_); intro v7 w7 ho7 hg7)
                have hB7 : Below w2.heap.size w2 w7 := (hB6.alloc hs6 _).grown (show World.grownBy _ w7 (some g6) from hg7) (by simp; omega) (fun z e => (World.ownsRow.lt HO6.out z e).1)
                have HO7 : Hid (w7.ownsRow w2.heap.size 5 1 v7 (accB zs ls P (k + 1)).length ((accB zs ls P (k + 1)).map (Value.int .u8))) := by
                  have : w7.ownsRow w2.heap.size 5 1 v7 (((accB zs ls P k).length + (insB ls k).length + (q - p)) + 1) ((accB zs ls P k ++ insB ls k).map (Value.int .u8) ++ ((zs.take q).drop p).map (Value.int .u8) ++ [.int .u8 10]) := ho7
                  show World.ownsRow _ _ _ _ _ _ _
                  have e1 : (accB zs ls P (k + 1)).length = ((accB zs ls P k).length + (insB ls k).length + (q - p)) + 1 := by
                    rw [HPC.out]
                    have := HNL.out
                    rw [List.length_map] at this
                    simp only [List.length_append, List.length_cons, List.length_nil, this]
                    omega
                  rw [e1, HPC.out]
                  simpa only [List.map_append, List.map_cons, List.map_nil, List.append_assoc] using this
                clear ho7 hg7 HO6
                go_roundw
                case rel => exact ⟨k + 1, by omega, by go_num, HO7.out, H51.out, hB7⟩
                case measure => simp [intOf]; omega
              · have hn' : decide ((k : Int) + 1 < (N : Int)) = false := by simp; omega
                go_wp2_with (first
                  | (at_builtin; refine Go.Lib.wpList_append_own_string _ rfl (.tmp 76) (.const (.string ⟨#[35, 91, 32, 97, 10]⟩)) 27 9 rfl w2.heap.size 5 iB Tryd.underlying27 Tryd.underlying9 hiB hzB0 hzB1 hzB2 _ _ _ rfl HOi.out ⟨#[35, 91, 32, 97, 10]⟩ rfl (by unfold maxLen; have := HLE.out; show _ + 5 ≤ _; omega) (by have := HLE.out; show _ + 5 ≤ _; omega) (by omega) ?_; intro v4 w4 ho4 hg4 _; have hB4 : Below w2.heap.size w2 w4 := hBi.grown (show World.grownBy _ w4 u9.ownBlock from hg4) (by omega) (fun q e => (World.ownsRow.lt HOi.out q e).1); have hs4 := hB4.size; have HO4 : Hid (w4.ownsRow w2.heap.size 5 1 v4 ((accB zs ls P k ++ lk.map pkB).length + 5) ((accB zs ls P k ++ lk.map pkB).map (Value.int .u8) ++ [35, 91, 32, 97, 10].map (Value.int .u8))) := ho4; clear ho4 hg4)
                  | (at_builtin; refine wpList_append_src _ rfl (.tmp 78) (.tmp 79) 27 rfl w2.heap.size 5 iB (.int .u8 0) 1 Tryd.underlying27 hiB hzB0 hzB1 hzB2 rfl _ _ _ rfl (World.ownsRow.alloc HO4.out _) _ rfl 1 _ (src_byte w4 _) (by unfold maxLen; have := HLE.out; omega) (by have := HLE.out; omega) (by simp; omega) ?_; intro v5 w5 ho5 hg5))
                have hB5 : Below w2.heap.size w2 w5 := (hB4.alloc hs4 _).grown (show World.grownBy _ w5 v4.ownBlock from hg5) (by simp; omega) (fun q e => (World.ownsRow.lt HO4.out q e).1)
                have hs5 := hB5.size
                have HO5 : Hid (w5.ownsRow w2.heap.size 5 1 v5 (accB zs ls P k ++ insB ls k).length ((accB zs ls P k ++ insB ls k).map (Value.int .u8))) := by
                  have : w5.ownsRow w2.heap.size 5 1 v5 (((accB zs ls P k ++ lk.map pkB).length + 5) + 1) (((accB zs ls P k ++ lk.map pkB).map (Value.int .u8) ++ [35, 91, 32, 97, 10].map (Value.int .u8)) ++ [.int .u8 32]) := ho5
                  show World.ownsRow _ _ _ _ _ _ _
                  have e1 : accB zs ls P k ++ insB ls k = (accB zs ls P k ++ lk.map pkB) ++ [35, 91, 32, 97, 10] ++ [32] := by unfold insB; rw [dif_pos hlk, HLK.out]; simp
                  rw [e1]
                  simpa only [List.length_append, List.map_append, List.length_cons, List.length_nil, List.map_cons, List.map_nil] using this
                clear ho5 hg5 HO4
                have hacc : accB zs ls P (k + 1) = accB zs ls P k ++ insB ls k := by
                  rw [accB_succ]; unfold pieceB; rw [dif_neg (by rw [HPN.out]; omega)]; simp
                rw [← hacc] at HO5
                have HAC : Hid (accB zs ls P (k + 1) = accB zs ls P k ++ insB ls k) := hacc
                clear hacc
                go_wp2
                go_roundw
                case rel => exact ⟨k + 1, by omega, by go_num, HO5.out, H51.out, hB5⟩
                case measure => simp [intOf]; omega
      · have hd : decide ((k : Int) < (ls.length : Int)) = false := by simp; omega
        have H51 : Hid (∀ j, (h : j < ls.length) → j < k + 1 → ls[j].length ≤ 50) := fun j h hj => H50.out j h (by omega)
        have HLE : Hid ((accB zs ls P k).length ≤ 10000000) := by
          show _ ≤ _
          have h1 := accB_le zs ls P k H50.out
          have h2 : (57 + zs.length) * k ≤ 557 * 10001 := Nat.mul_le_mul (by omega) (by omega)
          omega
        by_cases hn : k + 1 < N
        · have hn' : decide ((k : Int) + 1 < (N : Int)) = true := by simp; omega
          go_wp2_with (first
            | (at_builtin; refine wpList_append_src _ rfl (.tmp 78) (.tmp 79) 27 rfl w2.heap.size 5 iB (.int .u8 0) 1 Tryd.underlying27 hiB hzB0 hzB1 hzB2 rfl _ _ _ rfl (World.ownsRow.alloc HO.out _) _ rfl 1 _ (src_byte wr _) (by unfold maxLen; have := HLE.out; omega) (by have := HLE.out; omega) (by simp; omega) ?_; intro v5 w5 ho5 hg5))
          have hB5 : Below w2.heap.size w2 w5 := (hBr.alloc hbs _).grown (show World.grownBy _ w5 u9.ownBlock from hg5) (by simp; omega) (fun q e => (World.ownsRow.lt HO.out q e).1)
          have hs5 := hB5.size
          have HO5 : Hid (w5.ownsRow w2.heap.size 5 1 v5 (accB zs ls P k ++ insB ls k).length ((accB zs ls P k ++ insB ls k).map (Value.int .u8))) := by
            have : w5.ownsRow w2.heap.size 5 1 v5 ((accB zs ls P k).length + 1) (((accB zs ls P k).map (Value.int .u8)) ++ [.int .u8 32]) := ho5
            show World.ownsRow _ _ _ _ _ _ _
            have e1 : accB zs ls P k ++ insB ls k = accB zs ls P k ++ [32] := by unfold insB; rw [dif_neg hlk]; simp
            rw [e1]
            simpa only [List.length_append, List.map_append, List.length_cons, List.length_nil, List.map_cons, List.map_nil] using this
          clear ho5 hg5 HO
          have hP0 : k < P.length := by rw [HPN.out]; exact hlt
          have hP1 : k + 1 < P.length := by rw [HPN.out]; exact hn
          obtain ⟨gt, ot, hxa, hgt, cp, cq⟩ : ∃ g off, xa = some ⟨g, off, none⟩ ∧ g < w2.heap.size ∧ w2.cell? ⟨g, off + k * 4 + 1, none⟩ = some (.int .i64 ((P[k] : Nat) : Int)) ∧ w2.cell? ⟨g, off + (k + 1) * 4 + 1, none⟩ = some (.int .i64 ((P[k + 1] : Nat) : Int)) := tok_places HTI.out HP.out HN.out hn hP0 hP1
          subst hxa
          obtain ⟨hpq, hqz⟩ : P[k] < P[k + 1] ∧ P[k + 1] ≤ zs.length := by
            have := placed_next HPLC.out k (by rw [List.length_map, HN.out]; omega)
            simpa [HP.out] using this
          have hpc : pieceB zs ls P k = insB ls k ++ ((zs.take (P[k + 1])).drop (P[k]) ++ [10]) := by
            unfold pieceB; rw [dif_pos hP1]
          have HPC : Hid (accB zs ls P (k + 1) = accB zs ls P k ++ insB ls k ++ ((zs.take (P[k + 1])).drop (P[k]) ++ [10])) := by show _ = _; rw [accB_succ, hpc, List.append_assoc]
          clear hpc
          generalize P[k] = p at cp hpq HPC
          generalize P[k + 1] = q at cq hpq hqz HPC
          have cp5 : w5.cell? ⟨gt, ot + k * 4 + 1, none⟩ = some (.int .i64 (p : Int)) := (hB5.cell (p := ⟨gt, _, none⟩) hgt).trans cp
          have cq5 : w5.cell? ⟨gt, ot + (k + 1) * 4 + 1, none⟩ = some (.int .i64 (q : Int)) := (hB5.cell (p := ⟨gt, _, none⟩) hgt).trans cq
          have hB05 : Below w.heap.size w w5 := hB02.trans (hB5.mono (by omega))
          obtain ⟨gz, oz, hta, hcz, hgz, HZC⟩ : ∃ g off, ta = some ⟨g, off, none⟩ ∧ zs.length ≤ cap ∧ g < w.heap.size ∧ Hid (∀ j, j < zs.length → w5.cell? ⟨g, off + j, none⟩ = some (.int .u8 (zs[j]?.getD 0))) := by
            rcases HI.out.below hB05 with ⟨_, _, _, e⟩ | ⟨gz, oz, cz, e, hcz, hgz, hcc⟩
            · rw [e] at hqz; simp at hqz; omega
            · simp at e
              obtain ⟨rfl, rfl⟩ := e
              exact ⟨gz, oz, rfl, hcz, hgz, hcc⟩
          subst hta
          have HNE : Hid (some gt ≠ v5.ownBlock) := fun e => by have := (World.ownsRow.lt HO5.out gt e.symm).1; omega
          have HNL : Hid ((((zs.take q).drop p).map (Value.int .u8)).length = (q - p) * 1) := by show _ = _; simp; omega
          have HN1 : Hid (∀ u ∈ ((zs.take q).drop p).map (Value.int .u8), u.oneCell' = true) := one_ints _ _
          have HNW : Hid (∀ j u, (((zs.take q).drop p).map (Value.int .u8))[j]? = some u → w5.drew.cell? ((⟨gz, oz + p, none⟩ : Addr).add j) = some u) := news_slice HZC.out hqz
          have HL5 : Hid ((accB zs ls P k ++ insB ls k).length ≤ 10000100) := by
            show _ ≤ _
            have h1 := HLE.out
            have h2 : (insB ls k).length ≤ 56 := insB_le ls k (fun h => H51.out k h (by omega))
            simp at h1 ⊢
            omega
          have hkt : ((k : Int) + 1).toNat = k + 1 := by omega
          have hwk : IntKind.i64.wrap ((k : Int) + 1) = (k : Int) + 1 := IntWalk.i64_in _ (by omega)
          have t0 : (0 : Int) ≤ (k : Int) := by omega
          have t1 : (0 : Int) ≤ (k : Int) + 1 := by omega
          have t2 : (k : Int) + 1 < (N : Int) := by omega
          have t3 : (p : Int) ≤ (q : Int) := by omega
          have t4 : (q : Int) ≤ (cap : Int) := by omega
          have t5 : (0 : Int) ≤ (p : Int) := by omega
          have t6 : (0 : Int) ≤ (q : Int) := by omega
          clear cp cq
          have u1 : p < cap := by omega
          have u2 : (p : Int) < (cap : Int) := by omega
          go_wp2
          go_region_held3 (fun w' => w'.cell? ⟨gt, ot + k * 4 + 1, none⟩ = some (.int .i64 (p : Int)) ∧ w'.cell? ⟨gt, ot + (k + 1) * 4 + 1, none⟩ = some (.int .i64 (q : Int))) (first | go_keep | (rw [hgrow6.cell_far _ (by simp; omega) HNE.out, hgrow6.cell_far _ (by simp; omega) HNE.out]; go_keep)) ((refine step_append_lies _ (by rfl) _ _ _ (by rfl) w2.heap.size 5 iB (.int .u8 0) 1 1 Tryd.underlying27 hiB hzB0 hzB1 hzB2 rfl (by omega) v5 _ _ (by rfl) (by exact World.ownsRow.drew HO5.out) ⟨gz, oz + p, none⟩ (q - p) (cap - p) _ (by simp [Act.eval]; omega) HNL.out (by exact HNW.out) HN1.out (by omega) (by unfold maxLen; have := HL5.out; omega) (by have := HL5.out; omega) (by simp; omega) _ rfl ?_; intro g6 cap6 w6 hown6 hgrow6 hat6 hlt6))
          have hB6 : Below w2.heap.size w2 w6 := (hB5.drew).grown (show World.grownBy _ w6 v5.ownBlock from hgrow6) (by simpa using hs5) (fun z e => (World.ownsRow.lt HO5.out z e).1)
          have hs6 := hB6.size
          have HO6 : Hid (w6.ownsRow w2.heap.size 5 1 (.slice (some ⟨g6, 0, none⟩) ((accB zs ls P k).length + (insB ls k).length + (q - p)) cap6) ((accB zs ls P k).length + (insB ls k).length + (q - p)) ((accB zs ls P k ++ insB ls k).map (Value.int .u8) ++ ((zs.take q).drop p).map (Value.int .u8))) := by
            have h0 : w6.ownsRow w2.heap.size 5 1 (.slice (some ⟨g6, 0, none⟩) ((accB zs ls P k ++ insB ls k).length + (q - p)) cap6) ((accB zs ls P k ++ insB ls k).length + (q - p)) ((accB zs ls P k ++ insB ls k).map (Value.int .u8) ++ ((zs.take q).drop p).map (Value.int .u8)) := hown6
            rw [List.length_append] at h0
            exact h0
          clear hown6 hgrow6 hat6 hlt6 HO5 HNW HNE HZC cp5 cq5
          have HL6 : Hid ((accB zs ls P k ++ insB ls k).length ≤ 10000100 ∧ (accB zs ls P k).length + (insB ls k).length ≤ 10000100 ∧ q - p ≤ 500) := ⟨HL5.out, by have := HL5.out; rwa [List.length_append] at this, by omega⟩
          go_wp2_with (at_builtin; go_must (refine wpList_append_src _ rfl (.tmp 101) (.tmp 102) 27 rfl w2.heap.size 5 iB (.int .u8 0) 1 Tryd.underlying27 hiB hzB0 hzB1 hzB2 rfl _ _ _ rfl (World.ownsRow.alloc HO6.out _) _ rfl 1 _ (src_byte w6 _) (by unfold maxLen; have := HL6.out; omega) (by have := HL6.out; omega) (by simp; omega) ?_); intro v7 w7 ho7 hg7)
          have hB7 : Below w2.heap.size w2 w7 := (hB6.alloc hs6 _).grown (show World.grownBy _ w7 (some g6) from hg7) (by simp; omega) (fun z e => (World.ownsRow.lt HO6.out z e).1)
          have HO7 : Hid (w7.ownsRow w2.heap.size 5 1 v7 (accB zs ls P (k + 1)).length ((accB zs ls P (k + 1)).map (Value.int .u8))) := by
            have : w7.ownsRow w2.heap.size 5 1 v7 (((accB zs ls P k).length + (insB ls k).length + (q - p)) + 1) ((accB zs ls P k ++ insB ls k).map (Value.int .u8) ++ ((zs.take q).drop p).map (Value.int .u8) ++ [.int .u8 10]) := ho7
            show World.ownsRow _ _ _ _ _ _ _
            have e1 : (accB zs ls P (k + 1)).length = ((accB zs ls P k).length + (insB ls k).length + (q - p)) + 1 := by
              rw [HPC.out]
              have := HNL.out
              rw [List.length_map] at this
              simp only [List.length_append, List.length_cons, List.length_nil, this]
              omega
            rw [e1, HPC.out]
            simpa only [List.map_append, List.map_cons, List.map_nil, List.append_assoc] using this
          clear ho7 hg7 HO6
          go_roundw
          case rel => exact ⟨k + 1, by omega, by go_num, HO7.out, H51.out, hB7⟩
          case measure => simp [intOf]; omega
        · have hn' : decide ((k : Int) + 1 < (N : Int)) = false := by simp; omega
          go_wp2_with (first
            | (at_builtin; refine wpList_append_src _ rfl (.tmp 78) (.tmp 79) 27 rfl w2.heap.size 5 iB (.int .u8 0) 1 Tryd.underlying27 hiB hzB0 hzB1 hzB2 rfl _ _ _ rfl (World.ownsRow.alloc HO.out _) _ rfl 1 _ (src_byte wr _) (by unfold maxLen; have := HLE.out; omega) (by have := HLE.out; omega) (by simp; omega) ?_; intro v5 w5 ho5 hg5))
          have hB5 : Below w2.heap.size w2 w5 := (hBr.alloc hbs _).grown (show World.grownBy _ w5 u9.ownBlock from hg5) (by simp; omega) (fun q e => (World.ownsRow.lt HO.out q e).1)
          have hs5 := hB5.size
          have HO5 : Hid (w5.ownsRow w2.heap.size 5 1 v5 (accB zs ls P k ++ insB ls k).length ((accB zs ls P k ++ insB ls k).map (Value.int .u8))) := by
            have : w5.ownsRow w2.heap.size 5 1 v5 ((accB zs ls P k).length + 1) (((accB zs ls P k).map (Value.int .u8)) ++ [.int .u8 32]) := ho5
            show World.ownsRow _ _ _ _ _ _ _
            have e1 : accB zs ls P k ++ insB ls k = accB zs ls P k ++ [32] := by unfold insB; rw [dif_neg hlk]; simp
            rw [e1]
            simpa only [List.length_append, List.map_append, List.length_cons, List.length_nil, List.map_cons, List.map_nil] using this
          clear ho5 hg5 HO
          have hacc : accB zs ls P (k + 1) = accB zs ls P k ++ insB ls k := by
            rw [accB_succ]; unfold pieceB; rw [dif_neg (by rw [HPN.out]; omega)]; simp
          rw [← hacc] at HO5
          have HAC : Hid (accB zs ls P (k + 1) = accB zs ls P k ++ insB ls k) := hacc
          clear hacc
          go_wp2
          go_roundw
          case rel => exact ⟨k + 1, by omega, by go_num, HO5.out, H51.out, hB5⟩
          case measure => simp [intOf]; omega
    · obtain rfl : k = N := by omega
      have hkf : decide ((k : Int) < (k : Int)) = false := by simp
      obtain ⟨ws, M, hrun, htok, hkey, hpair⟩ := blanks_math ls HUS.out HE0.out
      have eP : (l.map Prod.fst).map Tok.p = P := by rw [HP.out, List.map_map]; rfl
      rw [eP, HPN.out] at hrun htok
      have hN1 : k ≤ 501 := by
        have hl : (l.map Prod.fst).length = k := by rw [List.length_map]; exact HN.out
        rcases Nat.eq_zero_or_pos k with z | z
        · omega
        · have h1 := placed_far HPLC.out (k - 1) (by omega)
          have h2 := placed_le' HPLC.out (k - 1) (by omega)
          omega
      have hCl : (accB zs ls P k).length ≤ 10000 := by
        have h1 := accB_fine ls HPLC.out k (by rw [List.length_map, HN.out]; omega) H50.out
        rw [eP] at h1
        rw [List.getElem?_eq_none (by rw [HPN.out]; omega)] at h1
        simp only [Option.getD_none] at h1
        omega
      obtain ⟨ca, cc, rfl, hI4⟩ := bytes_of_row HO.out
      have hB0r : Below w.heap.size w wr := hB02.trans (hBr.mono (by omega))
      have htz := tokens_any (accB zs ls P k) (accB_byt hby ls P k) hCl ws hrun ca cc wr (hsv.grown (grownR_below hB0r none) (by simp)) hI4
      rw [htok] at htz
      have HKEY : Hid (M.map keyT = (l.map Prod.fst).map keyT) := hkey
      have HPAIR : Hid (M.Pairwise (fun x y => x.p < y.p)) := hpair
      clear hkey hpair htok hrun hI4 HO
      go_wp2_with fail
      refine htz.mono ?_
      clear htz
      rintro e w8 (⟨a', x', e1, rfl, hx1, hB8⟩ | ⟨n, v8, e1, hnn, rfl, hown8, hso8, hB8⟩)
      · cases e1
      have e1' : M = n.map Prod.fst := Sum.inr.inj e1
      subst e1'
      clear e1
      have hs8 := hB8.size
      have hB28 : Below w2.heap.size w2 w8 := hBr.trans (hB8.mono (by omega))
      have hB08 : Below w.heap.size w w8 := hB0r.trans (hB8.mono (by omega))
      have hnl : n.length = k := by have := congrArg List.length HKEY.out; simpa [HN.out] using this
      have HT8 : Hid (ToksIn w8 v8 n) := toks_of_row hown8
      have HX8 : Hid (ToksIn w8 (.slice xa k xc) l) := HTI.out.below hB28
      have HNN : Hid (n.length = k) := hnl
      obtain ⟨ya, yc, rfl, hyc, _⟩ := HT8.out
      rw [hnl] at HT8 ⊢
      have HYS : Hid (∀ i, (h : i < n.length) → ∃ s, Upto (hasR n[i].1.s) s 1114112 ∧ s.length ≤ 10000 ∧ RngIn w8 n[i].2 s) := fun i h => hso8.at i h
      have HXS : Hid (∀ i, (h : i < l.length) → ∃ s, Upto (hasR l[i].1.s) s 1114112 ∧ s.length ≤ 10000 ∧ RngIn w8 l[i].2 s) := fun i h => by
        obtain ⟨s, h1, h2, h3⟩ := HSX.out.at i h
        exact ⟨s, h1, h2, h3.below hB28⟩
      clear hown8 hso8 hyc hnl hnn HSX HTI eP HP HPN HPLC HE0 HUS H50 hCl
      go_wp2
      go_loopw [15] (fun xi wq => ∃ j : Nat, j ≤ k ∧ xi = .int .i64 j ∧ ∃ nd, wq = w8.drewN nd) (fun xi _ => k - (intOf xi).toNat)
      case atStart => exact ⟨0, Nat.zero_le _, rfl, 0, rfl⟩
      case round =>
        obtain ⟨j, hj, rfl, nd, rfl⟩ := hrel
        by_cases hjk : j < k
        · have hjn : j < n.length := by rw [HNN.out]; exact hjk
          have hjl : j < l.length := by rw [HN.out]; exact hjk
          obtain ⟨gy, oy, hya, hgy, b0, b1, b2, b3⟩ := tok_cells HT8.out HNN.out hjn
          obtain ⟨gx, ox, hxa, hgx, a0, a1, a2, a3⟩ := tok_cells HX8.out HN.out hjl
          have hke := key_at HKEY.out j hjn hjl
          obtain ⟨s1, hup1, hsl1, hr1⟩ := HYS.out j hjn
          obtain ⟨s2, hup2, hsl2, hr2⟩ := HXS.out j hjl
          rw [hke.2.2] at hup1
          obtain rfl : s1 = s2 := Upto.unique hup1 hup2
          rw [hke.1] at b0
          rw [hke.2.1] at b2
          have HPR : Hid (∀ i, (h : i < j) → (h2 : i < n.length) → n[i].1.p < n[j].1.p) := fun i h h2 => by
            have := List.pairwise_iff_getElem.1 HPAIR.out i j (by simpa using h2) (by simpa using hjn) h
            simpa using this
          have hcall : ∀ z, Calls Tryd.prog 11 #[n[j].2, l[j].2] (w8.drewN (nd + z)) fun e w' => e = .returned (.bool true) ∧ ∃ m, w' = w8.drewN (nd + m) := fun z => (sameR_any s1 (by omega) n[j].2 l[j].2 (w8.drewN (nd + z)) (hr1.drewN _) (hr2.drewN _)).mono fun e w'' ⟨he, m, hm⟩ => ⟨he, z + m, by rw [hm, World.drewN_drewN, Nat.add_assoc]⟩
          generalize l[j].1.k = kk at b0 a0
          obtain ⟨st, hst⟩ : ∃ st, st = strOfNums l[j].1.t := ⟨_, rfl⟩
          rw [← hst] at a2 b2
          obtain ⟨vn, hvn⟩ : ∃ vn, vn = n[j].2 := ⟨_, rfl⟩
          obtain ⟨vl, hvl⟩ : ∃ vl, vl = l[j].2 := ⟨_, rfl⟩
          rw [← hvn] at hcall b3 hr1
          rw [← hvl] at hcall a3 hr2
          clear hvn hvl hst hke hup1 hup2
          obtain ⟨n1, n2, rfl, _, _⟩ := hr1
          obtain ⟨m1, m2, rfl, _, _⟩ := hr2
          subst hya
          subst hxa
          have hj0 : (0 : Int) ≤ (j : Int) := by omega
          have hj1 : (j : Int) < (k : Int) := by omega
          have hss : (st.toList == st.toList) = true := by simp
          by_cases hz0 : j = 0
          · subst hz0
            simp only [Nat.zero_mul, Nat.add_zero] at a0 a1 a2 a3 b0 b1 b2 b3
            go_wp2
            go_quiet ((go_at_call 11; exact hcall _))
            go_wp2
            go_quiet (fail)
            go_wp2
            go_roundw
            case rel => exact ⟨1, by omega, by go_num, _, rfl⟩
            case measure => simp [intOf]; omega
          · obtain ⟨i, rfl⟩ : ∃ i, j = i + 1 := ⟨j - 1, by omega⟩
            have hin : i < n.length := by omega
            obtain ⟨gy', oy', hya', _, _, c1, _, _⟩ := tok_cells HT8.out HNN.out hin
            simp at hya'
            obtain ⟨rfl, rfl⟩ := hya'
            have hlt := HPR.out i (by omega) hin
            generalize n[i].1.p = pa at c1 hlt
            generalize n[i + 1].1.p = pb at b1 hlt
            have d1 : decide ((pb : Int) ≤ (pa : Int)) = false := by simp; omega
            have d2 : decide (pb ≤ pa) = false := by simp; omega
            have d3 : decide ((0 : Int) < (i : Int) + 1) = true := decide_eq_true (by omega)
            have i0 : (0 : Int) ≤ (i : Int) := by omega
            have i1 : (i : Int) < (k : Int) := by omega
            have i2 : (i : Int) + 1 < (k : Int) := by omega
            have i3 : (0 : Int) ≤ (i : Int) + 1 := by omega
            have i4 : ((i : Int) + 1).toNat = i + 1 := by omega
            have i5 : IntKind.i64.wrap ((i : Int) + 1 - 1) = (i : Int) := (IntWalk.i64_in _ (by omega)).trans (by omega)
            have i6 : (i : Int) + 1 - 1 = (i : Int) := by omega
            clear hlt
            go_wp2
            go_quiet ((go_at_call 11; exact hcall _))
            go_wp2
            go_quiet (fail)
            go_wp2
            go_roundw
            case rel => exact ⟨i + 2, by omega, by go_num, _, rfl⟩
            case measure => simp [intOf]; omega
        · obtain rfl : j = k := by omega
          go_wp2
          go_ret
          exact ⟨rfl, below_drewN' hB08 _⟩
end Go.Proofs.YtdjhgjnhfmggjaaDoor
