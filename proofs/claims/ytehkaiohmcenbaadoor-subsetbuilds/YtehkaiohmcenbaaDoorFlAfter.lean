/-
  Behind places others may stand: the document's maker notes it.
-/
import Derived.Test.YtehkaiohmcenbaaDoorFlMaker
import Derived.Deep.RegionLaw
import Derived.Deep.CutRange
namespace Go.Proofs.YtehkaiohmcenbaaDoor
open Go.RowKit Go.Shelf
set_option linter.unusedVariables false

set_option maxRecDepth 100000 in
set_option maxHeartbeats 16000000 in
theorem after_any (M base : Nat) (w : World) (sv fv : Value) (S : List Int) (R : Nat → Nat → Bool) (va vb : Value) (a b : List Nat) (hI : MkI M base w sv fv S R) (h1 : LstO base w sv va a) (h2 : LstO base w sv vb b) (ha : InR 0 S.length a) (hb : InR 0 S.length b) (hm : S.length ≤ 400) :
    Calls Tryd.prog 71 #[.pointer (some ⟨M, 0, none⟩), va, vb] w fun e w' => e = .returned (.tuple #[]) ∧ MkI M base w' sv fv S (fun i y => R i y || (a.contains i && b.contains y)) ∧ FrM base w sv w' sv := by
  have hla := ha.len (Nat.zero_le _)
  have hlb := hb.len (Nat.zero_le _)
  have HI : Hid (MkI M base w sv fv S R) := hI
  have H1 : Hid (LstO base w sv va a) := h1
  have H2 : Hid (LstO base w sv vb b) := h2
  have HA : Hid (InR 0 S.length a) := ha
  have HB : Hid (InR 0 S.length b) := hb
  obtain ⟨m, hm0⟩ : ∃ m, m = S.length := ⟨_, rfl⟩
  have HM : Hid (m = S.length) := hm0
  obtain ⟨sa, sc, fa, fc, rfl, rfl⟩ := hI.fr
  obtain ⟨xa, ca, rfl⟩ := h1.1.slice
  obtain ⟨ya, yc, rfl⟩ := h2.1.slice
  obtain ⟨len, hle⟩ : ∃ len, len = a.length := ⟨_, rfl⟩
  obtain ⟨blen, hble⟩ : ∃ len, len = b.length := ⟨_, rfl⟩
  rw [← hle] at H1 hla ⊢
  rw [← hble] at H2 hlb ⊢
  rw [← hm0] at HI HA HB H1 H2 hm hla hlb ⊢
  have HLE : Hid (len = a.length ∧ blen = b.length) := ⟨hle, hble⟩
  have hlt := hI.lt
  have hlo := hI.lo
  have HF0 : Hid (FrM base w (.slice sa m sc) w (.slice sa m sc)) := FrM.refl _ _ _
  have HI0 : Hid (MkI M base w (.slice sa m sc) (.slice fa m fc) S (fun i y => R i y || ((a.take 0).contains i && b.contains y))) := HI.out.same (fun i y _ => by simp)
  clear h1 h2 ha hb hI hle hble hm0
  go_enter Tryd.func71, Tryd.ntmps71
  go_wp2
  go_loopw [6] (fun x6 wr => ∃ (j : Nat), j ≤ len ∧ x6 = .int .i64 (j : Int) ∧ Hid (MkI M base wr (.slice sa m sc) (.slice fa m fc) S (fun i y => R i y || ((a.take j).contains i && b.contains y))) ∧ Hid (FrM base w (.slice sa m sc) wr (.slice sa m sc))) (fun x6 _ => len - (intOf x6).toNat)
  case atStart => exact ⟨0, Nat.zero_le _, rfl, HI0, HF0⟩
  case round =>
    obtain ⟨j, hj, rfl, HIr, HFr⟩ := hrel
    by_cases hjl : j < len
    · have hjn : j < a.length := by rw [← HLE.out.1]; exact hjl
      have H1r := HFr.out.lst _ _ H1.out
      have H2r := HFr.out.lst _ _ H2.out
      obtain ⟨ga, oa, rfl, hga, hgw, d0⟩ := H1r.1.plc.at HLE.out.1 hjn
      have hij := HA.out.2 a[j] (List.getElem_mem hjn)
      obtain ⟨i, hi0⟩ : ∃ i, a[j] = i + 1 := ⟨a[j] - 1, by omega⟩
      have him : i < m := by omega
      have HIA : Hid (a[j] = i + 1) := hi0
      rw [hi0] at d0
      have d1 : wr.cell? ⟨ga, oa + j, none⟩ = some (.int .i64 ((i : Int) + 1)) := by rw [d0]; rfl
      have HTK : Hid (a.take (j + 1) = a.take j ++ [i + 1]) := by
        show _ = _
        rw [List.take_add_one, List.getElem?_eq_getElem hjn, hi0]; rfl
      obtain ⟨q1, q2, q3, vs, q4, q5, q6⟩ := HIr.out
      rw [← HM.out] at q4 q5
      have hiv : i < vs.length := by omega
      obtain ⟨l, l1, l2, l3, l4⟩ := q6 i hiv
      obtain ⟨v, hv⟩ : ∃ v, v = vs[i] := ⟨_, rfl⟩
      rw [← hv] at l1
      obtain ⟨gf, hgf, hgfl, hgff, e2⟩ : ∃ gf, fa = some ⟨gf, 0, none⟩ ∧ gf < wr.heap.size ∧ wr.frozen? ⟨gf, i, none⟩ = false ∧ wr.cell? ⟨gf, i, none⟩ = some v := by
        rcases q5.2 with ⟨e, e0⟩ | ⟨g, c, cur, e, hbg, hg, _⟩
        · omega
        · obtain ⟨rfl, rfl⟩ : fa = some ⟨g, 0, none⟩ ∧ fc = c := by simpa using e
          refine ⟨g, rfl, lt_of_heap hg, by simp [World.frozen?, hg], ?_⟩
          have := q5.cells (g := g) rfl i v (by rw [List.getElem?_eq_getElem hiv, hv])
          rw [add_lit', Nat.zero_add] at this
          exact this
      subst hgf
      have hcm : m ≤ fc := by
        rcases q5.2 with ⟨e, e0⟩ | ⟨g, c, cur, e, hbg, hg, hc, _⟩
        · cases e
        · obtain ⟨_, rfl⟩ : gf = g ∧ fc = c := by simpa using e
          exact hc
      have hcj : len ≤ ca := by
        obtain ⟨a', c', e, hc, _⟩ := H1r.1
        obtain ⟨_, _, rfl⟩ : some (⟨ga, oa, none⟩ : Addr) = a' ∧ len = a.length ∧ ca = c' := by simpa using e
        have := HLE.out.1
        omega
      obtain ⟨va', vn', vc', rfl⟩ := l1.any
      have hbc : ∀ W, Below wr.heap.size wr W → Calls Tryd.prog 70 #[.slice va' vn' vc', .slice ya blen yc] W fun e w' => ∃ v', e = .returned v' ∧ ∃ c, LstAt base w' v' c ∧ BothR l b c ∧ Kin W.heap.size (.slice va' vn' vc') l v' c ∧ Below W.heap.size W w' := fun W hW => both_any _ _ l b base W (l1.1.below hW) (H2r.1.below hW) (by have := hW.size; have := HFr.out.size; omega) l2 l3 (fun x hx => by have := HB.out.2 x hx; omega) (by have := HLE.out.2; omega)
      have HBC : Hid (∀ W, Below wr.heap.size wr W → Calls Tryd.prog 70 #[.slice va' vn' vc', .slice ya blen yc] W fun e w' => ∃ v', e = .returned v' ∧ ∃ c, LstAt base w' v' c ∧ BothR l b c ∧ Kin W.heap.size (.slice va' vn' vc') l v' c ∧ Below W.heap.size W w') := hbc
      have HL : Hid (LstO base wr (.slice sa m sc) (.slice va' vn' vc') l ∧ l.Pairwise (· < ·) ∧ (∀ x ∈ l, x < 1000) ∧ ∀ y, y ∈ l ↔ (R (i + 1) y || ((a.take j).contains (i + 1) && b.contains y)) = true) := ⟨l1, l2, l3, l4⟩
      have HS : Hid (wr.ownsRow base 3 1 (.slice sa m sc) S.length (cellI S)) := q3
      have hsz : w.heap.size ≤ wr.heap.size := HFr.out.size
      have c1 : wr.cell? ⟨M, 1, none⟩ = some (.slice (some ⟨gf, 0, none⟩) m fc) := HIr.out.c1
      have hMr : M < wr.heap.size := by omega
      have HK : Hid (∀ W, Below wr.heap.size wr W → W.cell? ⟨ga, oa + j, none⟩ = some (.int .i64 ((i : Int) + 1)) ∧ W.cell? ⟨M, 1, none⟩ = some (.slice (some ⟨gf, 0, none⟩) m fc) ∧ W.cell? ⟨gf, i, none⟩ = some (.slice va' vn' vc') ∧ W.frozen? ⟨gf, i, none⟩ = false) := fun W hW => ⟨(hW.cell (p := ⟨ga, _, none⟩) hgw).trans d1, (hW.cell (p := ⟨M, _, none⟩) hMr).trans c1, (hW.cell (p := ⟨gf, _, none⟩) hgfl).trans e2, (World.frozen?_of_block (a := ⟨gf, _, none⟩) (hW.block gf hgfl)).trans hgff⟩
      have hj0 : (0 : Int) ≤ (j : Int) := by omega
      have hj1 : (j : Int) < (len : Int) := by omega
      have hi1 : (0 : Int) ≤ (i : Int) := by omega
      have hi2 : (i : Int) < (m : Int) := by omega
      have hwi : IntKind.i64.wrap (i : Int) = (i : Int) := by rw [IntKind.wrap_i64]; omega
      have HFIN : Hid (∀ w2 v2 c2, LstAt base w2 v2 c2 → BothR l b c2 → Kin wr.drew.heap.size (.slice va' vn' vc') l v2 c2 → Below wr.drew.heap.size wr.drew w2 → MkI M base (w2.setCell ⟨gf, i, none⟩ v2) (.slice sa m sc) (.slice (some ⟨gf, 0, none⟩) m fc) S (fun i y => R i y || ((a.take (j + 1)).contains i && b.contains y)) ∧ FrM base w (.slice sa m sc) (w2.setCell ⟨gf, i, none⟩ v2) (.slice sa m sc)) := fun w2 v2 c2 h1 h2 h3 h4 => by
        have hB2 : Below wr.heap.size wr w2 := below_drw h4
        have hII := HIr.out
        have hFF := HFr.out
        have him' := him
        have hHS := HS.out
        have hHL := HL.out.1.2
        rw [HM.out] at hII hFF him' hHS hHL ⊢
        obtain ⟨r1, r2⟩ := hII.set (R' := fun i y => R i y || ((a.take (j + 1)).contains i && b.contains y)) (v := v2) (l := c2) hB2 him' ⟨h1, h3.off (w := wr) hHS (Nat.le_refl _) hHL⟩ h2.1 (fun x hx => by
          rcases (h2.2 x).1 hx with q | q
          · exact HL.out.2.2.1 x q
          · have := HB.out.2 x q; omega) (fun y => by
          have e := HL.out.2.2.2 y
          show y ∈ c2 ↔ (R (i + 1) y || ((a.take (j + 1)).contains (i + 1) && b.contains y)) = true
          rw [h2.2, e, HTK.out, has_snoc, decide_eq_true rfl, Bool.or_true, Bool.true_and]
          simp only [Bool.or_eq_true, Bool.and_eq_true, List.contains_iff_mem]
          constructor
          · rintro ((q | q) | q)
            · exact .inl q
            · exact .inr q.2
            · exact .inr q
          · rintro (q | q)
            · exact .inl (.inl q)
            · exact .inr q) (fun k y hk hne => by
          show (R (k + 1) y || ((a.take (j + 1)).contains (k + 1) && b.contains y)) = (R (k + 1) y || ((a.take j).contains (k + 1) && b.contains y))
          rw [HTK.out, has_snoc, decide_eq_false (by omega), Bool.or_false])
        exact ⟨r1, hFF.trans r2⟩
      clear hi0 d0 q1 q2 q3 q4 q5 q6 l1 l2 l3 l4 hv hbc hij H1r H2r
      go_upto_region 3 with fail
      refine wp_last (fun KK hKK => ?_)
      go_cut [] from 7 to 35 (fun wx => Hid (MkI M base wx (.slice sa m sc) (.slice (some ⟨gf, 0, none⟩) m fc) S (fun i y => R i y || ((a.take (j + 1)).contains i && b.contains y)) ∧ FrM base w (.slice sa m sc) wx (.slice sa m sc)))
      case first =>
        clear hKK
        go_region_law (go_simp; (with_reducible refine (HBC.out _ (Below.refl _ _).drew).mono ?_); rintro e w2 ⟨v2, rfl, c2, hc2, hr2, hk2, hB2'⟩; obtain ⟨ta, tn, tc, rfl⟩ := hc2.any; have hB2 : Below wr.heap.size wr w2 := below_drw hB2'; obtain ⟨s0, s1, s2, s3⟩ := HK.out _ hB2; try dsimp only)
        all_goals (
          go_wp2_with fail
          go_meet
          exact HFIN.out _ _ _ hc2 hr2 hk2 hB2')
      case rest =>
        obtain ⟨hI2, hF2⟩ := hcut.out
        have HI2 : Hid (MkI M base wc (.slice sa m sc) (.slice (some ⟨gf, 0, none⟩) m fc) S (fun i y => R i y || ((a.take (j + 1)).contains i && b.contains y))) := hI2
        have HF2 : Hid (FrM base w (.slice sa m sc) wc (.slice sa m sc)) := hF2
        clear hI2 hF2 hcut
        refine hKK _ _ ?_
        go_wp2
        go_roundw
        case rel => exact ⟨j + 1, by omega, by go_num, HI2, HF2⟩
        case measure => simp [intOf]; omega
    · obtain rfl : j = len := by omega
      have HEQ : Hid (a.take j = a) := List.take_of_length_le (by rw [← HLE.out.1]; exact Nat.le_refl _)
      go_wp2
      go_end0
      refine ⟨rfl, ?_, HFr.out⟩
      have := HIr.out
      rw [HEQ.out] at this
      exact this
end Go.Proofs.YtehkaiohmcenbaaDoor
