/-
  subset.taking.
-/
import Derived.Test.YtklhjjgnhigbiaaGreatDoorFlRStep
import Derived.Laws.MakeOwn
import Derived.Deep.CutRange
namespace Go.Proofs.YtklhjjgnhigbiaaGreatDoor
open Go.RowKit Go.Shelf
set_option linter.unusedVariables false

def preF (free : Bool) : List Nat := if free then [0] else []
/-- Those of the places at which the sign may stand. -/
def takL (d : AutD) (l : List Nat) (sign : Nat) (free : Bool) : List Nat := preF free ++ l.filter (tkP d sign)

set_option maxRecDepth 100000 in
set_option maxHeartbeats 16000000 in
theorem taking_any (d : AutD) (av : Value) (l : List Nat) (v : Value) (sign : Nat) (free : Bool) (w : World) (ha : AutAt w av d) (hok : OkA d) (hv : PlcAt 0 0 w v l) (hl : ∀ x ∈ l, 0 < x ∧ x ≤ d.sets.length) (hll : l.length ≤ 1000) (hsg : sign < 18446744073709551616) :
    Calls Tryz.prog 45 #[av, v, .int .u64 (sign : Int), .bool free] w fun e w' => ∃ v', e = .returned v' ∧ w'.ownsRow w.heap.size 3 1 v' (takL d l sign free).length (cellP (takL d l sign free)) ∧ Below w.heap.size w w' := by
  obtain ⟨i0, hi0, hz0, hz1, hz2⟩ := info_parts Tryz.infoInt
  obtain ⟨sv, fv, lv, wv, rfl, hs, hf, hl1, hw⟩ := ha
  obtain ⟨W0, hW0⟩ : ∃ W, W = w.alloc (.cells #[.bool d.null, sv, fv, lv, wv] 29) := ⟨_, rfl⟩
  have hB0 : Below w.heap.size w W0 := by rw [hW0]; exact below_alloc _ _
  have hbx : ABox W0 w.heap.size d.null sv fv lv wv := by rw [hW0]; exact heap_new' _ _
  have HSS : Hid (IntsAt W0 sv d.sets) := hs.below hB0
  have HV : Hid (PlcAt 0 0 W0 v l) := hv.below hB0
  have HB0 : Hid (Below w.heap.size w W0) := hB0
  obtain ⟨sa, sc, hes, hsc⟩ := hs.slice
  obtain ⟨fa, fc, hef, _⟩ := hf.slice
  obtain ⟨la, lc, hel, _⟩ := hl1.slice
  obtain ⟨xa, xc, hex, hxc⟩ := hw.slice
  obtain ⟨va, vc, hev, hvc⟩ := hv.slice
  obtain ⟨n1, hn1⟩ : ∃ x, x = d.null := ⟨_, rfl⟩
  obtain ⟨n2, hn2⟩ : ∃ x, x = d.sets.length := ⟨_, rfl⟩
  obtain ⟨n3, hn3⟩ : ∃ x, x = d.first.length := ⟨_, rfl⟩
  obtain ⟨n4, hn4⟩ : ∃ x, x = d.last.length := ⟨_, rfl⟩
  obtain ⟨n5, hn5⟩ : ∃ x, x = d.fol.length := ⟨_, rfl⟩
  obtain ⟨len, hn6⟩ : ∃ x, x = l.length := ⟨_, rfl⟩
  have hm2 : n2 ≤ 300 := by rw [hn2]; exact hok.sets
  have HN6 : Hid (len = l.length) := hn6
  have HN2 : Hid (n2 = d.sets.length) := hn2
  have HOK : Hid (OkA d) := hok
  have HLX : Hid (∀ x ∈ l, 0 < x ∧ x ≤ n2) := by rw [hn2]; exact hl
  rw [← hn2] at hes hsc
  rw [← hn3] at hef
  rw [← hn4] at hel
  rw [← hn5] at hex
  rw [← hn6] at hev hll hvc
  subst hes hef hel hex hev
  rw [← hn1] at hW0 hbx
  rw [← hn1]
  have HBX : Hid (ABox W0 w.heap.size n1 (.slice sa n2 sc) (.slice fa n3 fc) (.slice la n4 lc) (.slice xa n5 xc)) := hbx
  have HW0 : Hid (W0 = _) := hW0
  obtain ⟨R, hR⟩ : ∃ R, R = takL d l sign free := ⟨_, rfl⟩
  have HR : Hid (R = preF free ++ l.filter (tkP d sign)) := hR
  rw [← hR]
  obtain ⟨WM, hWM⟩ : ∃ W, W = W0.alloc (.cells (madeCells #[.int .i64 0] (1 + len)) 3) := ⟨_, rfl⟩
  have hmk : Sem.run Tryz.prog (Instr.makeSlice 26 (.int .i64 0) (.int .i64 (1 + (len : Int)))) W0 = .ok (.slice (some ⟨W0.heap.size, 0, none⟩) 0 (1 + len)) WM := by
    have := run_make (P := Tryz.prog) W0 26 3 i0 (.int .i64 0) Tryz.underlying26 hi0 hz0 .i64 .i64 0 (1 + (len : Int)) (by omega) (by omega) (by rw [hz2]; omega) (by omega)
    rw [this, hz1, hWM]
    have e : (1 + (len : Int)).toNat = 1 + len := by omega
    rw [e]
    simp [Value.cells]
  have HOM : Hid (WM.ownsRow W0.heap.size 3 1 (.slice (some ⟨W0.heap.size, 0, none⟩) 0 (1 + len)) 0 []) := by
    rw [hWM]
    exact World.ownsRow_made W0 _ _ (Nat.le_refl _) (by unfold maxLen; omega) (by rw [size_madeCells, Nat.mul_one])
  have HBM : Hid (Below W0.heap.size W0 WM) := by rw [hWM]; exact below_alloc _ _
  have hsM : W0.heap.size < WM.heap.size := by rw [hWM]; simp
  clear hs hf hl1 hw hv hbx hn1 hn2 hn3 hn4 hn5 hn6 hB0 hW0 hok hl hR hWM
  go_enter Tryz.func45, Tryz.ntmps45
  go_upto_region 1 with fail
  rw [← HW0.out]
  clear HW0
  go_upto_if 16 with fail
  have hbg := begin_any WM
  go_cut [9] from 12 to 19 (fun s wx => Hid (wx.ownsRow W0.heap.size 3 1 s (preF free).length (cellP (preF free)) ∧ Below W0.heap.size W0 wx))
  case first =>
    cases free with
    | false =>
      go_wp2
      go_meet
      exact ⟨HOM.out, HBM.out⟩
    | true =>
      go_wp2_with fail
      refine hbg.mono ?_
      rintro e w2 ⟨v2, rfl, ho2, hB2⟩
      have HSR : Hid (SrcIs w2 v2 1 1 (cellP [0])) := (show PlcAt 0 0 w2 v2 [0] from plc_of_row (l := [0]) ho2 (Nat.zero_le _)).src
      have HO2 : Hid (w2.ownsRow W0.heap.size 3 1 (.slice (some ⟨W0.heap.size, 0, none⟩) 0 (1 + len)) 0 []) := ownsRow_below HOM.out hB2
      have HB2 : Hid (Below W0.heap.size W0 w2) := HBM.out.trans (hB2.mono (by omega))
      have hws2 : W0.heap.size ≤ w2.heap.size := HB2.out.size
      obtain ⟨va', vn, vc', rfl⟩ := own_slice' ho2
      clear hbg ho2 hB2
      go_wp2_with (at_builtin; go_must (refine wpList_append_src _ rfl _ _ 26 rfl W0.heap.size 3 i0 (.int .i64 0) 1 8 Tryz.underlying26 hi0 hz0 hz1 hz2 rfl (by decide) _ _ _ rfl HO2.out _ rfl 1 (cellP [0]) HSR.out (by unfold maxLen; omega) (by omega) hws2 ?_); intro v3 w3 ho3 hg3)
      have hB3 : Below W0.heap.size W0 w3 := HB2.out.grown hg3 hws2 (fun z e => (HO2.out.lt z e).1)
      have HF3 : Hid (w3.ownsRow W0.heap.size 3 1 v3 (preF true).length (cellP (preF true)) ∧ Below W0.heap.size W0 w3) := ⟨ho3, hB3⟩
      clear ho3 hg3 hB3
      go_wp2
      go_meet
      exact HF3.out
  case rest =>
    obtain ⟨w2, hw2⟩ : ∃ W, W = wc := ⟨_, rfl⟩
    rw [← hw2] at hcut ⊢
    have HO2 : Hid (w2.ownsRow W0.heap.size 3 1 u9 (preF free ++ (l.take 0).filter (tkP d sign)).length (cellP (preF free ++ (l.take 0).filter (tkP d sign)))) := by
      show World.ownsRow _ _ _ _ _ _ _
      rw [List.take_zero, List.filter_nil, List.append_nil]
      exact hcut.out.1
    have HB2 : Hid (Below W0.heap.size W0 w2) := hcut.out.2
    clear hcut hw2 hbg
    go_wp2
    go_loopw [9, 22] (fun x9 x22 wr => ∃ (i : Nat), i ≤ len ∧ x22 = .int .i64 (i : Int) ∧ Hid (wr.ownsRow W0.heap.size 3 1 x9 (preF free ++ (l.take i).filter (tkP d sign)).length (cellP (preF free ++ (l.take i).filter (tkP d sign)))) ∧ Hid (Below W0.heap.size W0 wr)) (fun _ x22 _ => len - (intOf x22).toNat)
    case atStart => exact ⟨0, Nat.zero_le _, rfl, HO2, HB2⟩
    case round =>
      obtain ⟨i, hi, rfl, HO, HB⟩ := hrel
      have hws : W0.heap.size ≤ wr.heap.size := HB.out.size
      obtain ⟨ua, un, uc, rfl⟩ := own_slice' HO.out
      by_cases hil : i < len
      · have hin : i < l.length := by rw [← HN6.out]; exact hil
        obtain ⟨ga, oa, rfl, _, hga, e0⟩ := (HV.out.below HB.out).at HN6.out hin
        have hx := HLX.out _ (List.getElem_mem hin)
        obtain ⟨q, hq⟩ : ∃ q, l[i] = q + 1 := ⟨l[i] - 1, by omega⟩
        rw [hq] at e0 hx
        have hqs : q < d.sets.length := by have := HN2.out; omega
        obtain ⟨gs, os, rfl, hgs, e3⟩ := (HSS.out.below HB.out).at hqs
        obtain ⟨t, ht⟩ : ∃ t : Nat, d.sets[q] = (t : Int) := ⟨d.sets[q].toNat, by have := HOK.out.s64 _ (List.getElem_mem hqs); omega⟩
        have ht64 : t < 64 := by have := HOK.out.s64 _ (List.getElem_mem hqs); omega
        rw [ht] at e3
        have HTK : Hid (tkP d sign (q + 1) = sign.testBit t) := by
          show _ = _
          unfold tkP
          rw [show q + 1 - 1 = q by omega, List.getD_eq_getElem?_getD, List.getElem?_eq_getElem hqs]
          simp only [Option.getD_some]
          rw [ht]; simp
        have HSB : Hid ((bits .and .u64 ((sign : Int) / 2 ^ t) 1 == 1) = sign.testBit t) := shr_bit hsg
        obtain ⟨tb, htb⟩ : ∃ b, b = sign.testBit t := ⟨_, rfl⟩
        have hsb : (bits .and .u64 ((sign : Int) / 2 ^ t) 1 == 1) = tb := by rw [htb]; exact HSB.out
        obtain ⟨TL, hTL⟩ : ∃ T, T = preF free ++ (l.take i).filter (tkP d sign) := ⟨_, rfl⟩
        have HNX : Hid (preF free ++ (l.take (i + 1)).filter (tkP d sign) = if tb then TL ++ [q + 1] else TL) := by
          show _ = _
          rw [List.take_add_one, List.getElem?_eq_getElem hin, hq, List.filter_append, ← List.append_assoc, ← hTL, htb, ← HTK.out]
          cases hh : tkP d sign (q + 1) <;> simp [hh]
        have hTLl : TL.length ≤ 1001 := by
          have h1 := List.length_filter_le (tkP d sign) (l.take i)
          have h2 : (l.take i).length ≤ i := by rw [List.length_take]; omega
          have h3 : (preF free).length ≤ 1 := by cases free <;> simp [preF]
          rw [hTL, List.length_append]; omega
        rw [← hTL] at HO
        have e1 : wr.cell? ⟨ga, oa + i, none⟩ = some (.int .i64 ((q : Int) + 1)) := by rw [e0]; rfl
        have hb1 := (HBX.out.below HB.out).c1
        have hlt := (HBX.out.below HB.out).lt
        have hi0' : (0 : Int) ≤ (i : Int) := by omega
        have hi1 : (i : Int) < (len : Int) := by omega
        have hq0 : (0 : Int) ≤ (q : Int) := by omega
        have hq1 : (q : Int) < (n2 : Int) := by omega
        have hwq : IntKind.i64.wrap (q : Int) = (q : Int) := by rw [IntKind.wrap_i64]; omega
        clear e0 htb hTL HTK HSB ht hq
        cases tb with
        | false =>
          go_wp2
          go_roundw
          case rel => exact ⟨i + 1, by omega, by go_num, by rw [HNX.out]; exact HO, HB⟩
          case measure => simp [intOf]; omega
        | true =>
          go_wp2_with (at_builtin; go_must (refine wpList_append_own _ rfl _ _ 26 rfl W0.heap.size 3 i0 (.int .i64 0) 1 8 Tryz.underlying26 hi0 hz0 hz1 hz2 rfl (by decide) _ _ _ rfl (HO.out.alloc _) ⟨wr.heap.size, 0, none⟩ 1 1 [.int .i64 ((q : Int) + 1)] rfl rfl (World.news_of_block (by exact heap_new' _ _)) (by simp [Value.oneCell']) (by unfold maxLen; omega) (by omega) (by simp; omega) ?_); intro v3 w3 ho3 hg3 _)
          have HO3 : Hid (w3.ownsRow W0.heap.size 3 1 v3 (TL ++ [q + 1]).length (cellP (TL ++ [q + 1]))) := by
            show World.ownsRow _ _ _ _ _ _ _
            rw [cellP_snoc, List.length_append, List.length_singleton]
            exact ho3
          have HB3 : Hid (Below W0.heap.size W0 w3) := (HB.out.alloc hws _).grown hg3 (by simp; omega) (fun z e => (HO.out.lt z e).1)
          clear ho3 hg3
          go_roundw
          case rel => exact ⟨i + 1, by omega, by go_num, by rw [HNX.out]; exact HO3, HB3⟩
          case measure => simp [intOf]; omega
      · obtain rfl : i = len := by omega
        have HEQ : Hid (l.take i = l) := List.take_of_length_le (by rw [← HN6.out]; exact Nat.le_refl _)
        rw [HEQ.out, ← HR.out] at HO
        go_wp2
        go_ret
        exact ⟨_, rfl, own_base HO.out HB0.out.size, HB0.out.trans (HB.out.mono HB0.out.size)⟩
end Go.Proofs.YtklhjjgnhigbiaaGreatDoor
