/-
  scansiontop.TopSets, walked: it answers true.
-/
import Derived.Test.YtdjhgjnhfmggjabGreatDoorSetMath
import Derived.Test.YtdjhgjnhfmggjabGreatDoorNot7
import Derived.Test.YtdjhgjnhfmggjabGreatDoorAsks
import Derived.Test.YtdjhgjnhfmggjabGreatDoorXG
import Derived.Lib.ConvBytes
import Derived.Deep.AppendLies
namespace Go.Proofs.YtdjhgjnhfmggjabGreatDoor
open Go.RowKit Go.Shelf S1
set_option linter.unusedVariables false

theorem upto_self {f : Int → Bool} {s : List Rg} (h : Upto f s 1114112) : Upto (hasR s) s 1114112 := h.isSet.upto
theorem bytes_str (w : World) (l : List Int) (h : Byt l) (cap : Nat) (hc : l.length ≤ cap) : BytesAt (Lib.bytesWorld w 5 (strOfNums l)).heap.size (Lib.bytesWorld w 5 (strOfNums l)) (.slice (some ⟨w.heap.size, 0, none⟩) l.length cap) l := by
  refine .inr ⟨w.heap.size, 0, cap, rfl, hc, by rw [Lib.bytesWorld_size]; omega, fun j hj => ?_⟩
  rw [Nat.zero_add, Lib.bytesWorld_cell w 5 (strOfNums l) j (by rw [strOf_size]; exact hj)]
  congr 2
  rw [strOf_toList]
  have hb := h l[j] (List.getElem_mem hj)
  simp [List.getD, hj]
  omega
theorem two_toks {l : List (Tok × Value)} {a b : Tok} (h : l.map Prod.fst = [a, b]) : ∃ x0 x1, l = [x0, x1] := by
  match l, h with
  | [x0, x1], _ => exact ⟨x0, x1, rfl⟩

/-- The set's ranges as entries of the trie: all of the value 1. -/
def mkP (r : Rg) : S3.Pp := ⟨r.lo, r.hi, 1⟩
theorem val_set (s : List Rg) (r : Int) : S3.valP (s.map mkP) r = if hasR s r = true then 1 else 0 := by
  cases q : hasR s r with
  | false =>
    rw [S3.val_none (fun p hp => ?_)]
    · simp
    · obtain ⟨x, hx, rfl⟩ := List.mem_map.1 hp
      cases z : S3.hasP (mkP x) r with
      | false => rfl
      | true =>
        have h1 : x.lo ≤ r ∧ r ≤ x.hi := S3.hasP_iff.1 z
        rw [hasR_iff.2 ⟨x, hx, h1⟩] at q
        cases q
  | true =>
    obtain ⟨x, hx, h1, h2⟩ := hasR_iff.1 q
    have key : ∀ (l : List Rg) (v : Int), (∃ x ∈ l, x.lo ≤ r ∧ r ≤ x.hi) ∨ v = 1 → (l.map mkP).foldl (S3.stepV r) v = 1 := fun l => by
      induction l with
      | nil =>
        intro v h
        rcases h with ⟨x, hx, _⟩ | h
        · cases hx
        · exact h
      | cons y t ih =>
        intro v h
        show (t.map mkP).foldl (S3.stepV r) (S3.stepV r v (mkP y)) = 1
        apply ih
        by_cases z : S3.hasP (mkP y) r = true
        · right; unfold S3.stepV; rw [if_pos z]; rfl
        · have e : S3.stepV r v (mkP y) = v := by unfold S3.stepV; rw [if_neg z]
          rw [e]
          rcases h with ⟨x, hx, h1⟩ | h
          · rcases List.mem_cons.1 hx with rfl | hx
            · exact absurd (S3.hasP_iff.2 h1) z
            · exact .inl ⟨x, hx, h1⟩
          · exact .inr h
    simp only [if_true]
    exact key s 0 (.inl ⟨x, hx, h1, h2⟩)
theorem errB_set (s : List Rg) (hf : Fits s) (hl : s.length ≤ 4096) : S3.errB (s.map mkP) = 3 ∨ (S3.errB (s.map mkP) = 0 ∧ (S3.firstB (s.map mkP)).length ≤ 256) := by
  unfold S3.errB
  rw [if_neg (by simp; omega), if_neg (by
    rw [Bool.not_eq_false, List.all_eq_true]
    intro p hp
    obtain ⟨x, hx, rfl⟩ := List.mem_map.1 hp
    have := hf x hx
    exact S3.good1_iff.2 ⟨this.1, this.2.2, this.2.1⟩)]
  by_cases q : 256 < (S3.firstB (s.map mkP)).length
  · rw [if_pos q]; exact .inl rfl
  · rw [if_neg q]; exact .inr ⟨rfl, by omega⟩
theorem good_set {s : List Rg} (hf : Fits s) : ∀ p ∈ s.map mkP, 0 ≤ p.lo ∧ p.hi ≤ 1114111 ∧ p.lo ≤ p.hi := fun p hp => by
  obtain ⟨x, hx, rfl⟩ := List.mem_map.1 hp
  have := hf x hx
  exact ⟨this.1, this.2.2, this.2.1⟩
theorem bytes_set (s : List Rg) : S3.Bytes (s.map mkP) := fun p hp => by
  obtain ⟨x, hx, rfl⟩ := List.mem_map.1 hp
  show 0 ≤ (1 : Int) ∧ (1 : Int) ≤ 255
  omega

theorem fits35 : Fits [⟨3, 5⟩] := fun x hx => by
  have e : x = ⟨3, 5⟩ := by simpa using hx
  rw [e]
  exact ⟨by decide, by decide, by decide⟩
theorem Tryz.infoProp7 : (Tryz.prog.info? 38).map (fun i => (i.zero, i.size, i.bytes)) = some (some (.agg #[.int .i64 0, .int .i64 0, .int .u8 0]), 3, 24) := by kernel_rfl

set_option maxRecDepth 100000 in
set_option maxHeartbeats 8000000 in
theorem topSets_any (l : List Rg) (v : Value) (r : Int) (w : World) (hsv : SynV w) (hdb : DbV w) (hv : RngIn w v l) :
    Calls Tryz.prog 3 #[v, .int .i64 r] w fun e w' => e = .returned (.bool true) ∧ Below w.heap.size w w' := by
  obtain ⟨iP, hiP, hzP0, hzP1, hzP2⟩ := info_parts Tryz.infoProp7
  have HV : Hid (RngIn w v l) := hv
  obtain ⟨a, cap, rfl, hc, _⟩ := hv
  have hB0 : Below w.heap.size w (w.alloc (.cells #[.int .i64 3, .int .i64 5] 27)) := (Below.refl _ w).alloc (Nat.le_refl _) _
  have hN0 := heap_new' w (.cells #[.int .i64 3, .int .i64 5] 27)
  have hR0 : RngIn (w.alloc (.cells #[.int .i64 3, .int .i64 5] 27)) (.slice (some ⟨w.heap.size, 0, none⟩) 1 1) [⟨3, 5⟩] := by
    refine ⟨_, 1, rfl, Nat.le_refl _, fun i hi => ⟨w.heap.size, 0, rfl, by simp, ?_, ?_⟩⟩
    · obtain rfl : i = 0 := by simpa using hi
      exact cell_of_row _ _ 0 _ _ _ hN0
    · obtain rfl : i = 0 := by simpa using hi
      exact cell_of_row _ _ 1 _ _ _ hN0
  have hmk0 := make_any [⟨3, 5⟩] _ _ (by simp) hR0
  clear hR0 hN0
  obtain ⟨N, hN⟩ : ∃ N, N = l.length := ⟨_, rfl⟩
  by_cases hz : 40 < N
  · have hz' : decide (40 < (N : Int)) = true := by simp; omega
    rw [← hN]
    clear hz hN HV
    go_enter Tryz.func3, Tryz.ntmps3
    go_wp2_with fail
    refine hmk0.mono ?_
    rintro e w1 ⟨⟨hnf, _⟩ | ⟨_, s0, v0, hup0, hsl0, rfl, hown0⟩, hB1⟩
    · exact absurd fits35 hnf
    · have hB01 : Below w.heap.size w w1 := hB0.trans (hB1.mono (by simp))
      have hh := has_any 0 s0 (by simp at hsl0; omega) hup0.1 4 v0 w1 (rng_of_row hown0)
      rw [show hasR s0 4 = true by rw [hup0.2]; decide] at hh
      obtain ⟨a0, c0, rfl, _, _⟩ := rng_of_row hown0
      clear hmk0 hown0 hup0
      go_wp2_with fail
      refine hh.mono ?_
      rintro e w2 ⟨rfl, hB2⟩
      go_wp2
      go_ret
      exact ⟨rfl, hB01.trans (hB2.mono hB01.size)⟩
  · have hz' : decide (40 < (N : Int)) = false := by simp; omega
    have hzl : l.length ≤ 40 := by omega
    rw [← hN]
    have HVN : Hid (RngIn w (.slice a N cap) l) := by rw [hN]; exact HV.out
    clear hz hN HV
    go_enter Tryz.func3, Tryz.ntmps3
    go_wp2_with fail
    refine hmk0.mono ?_
    rintro e w1 ⟨⟨hnf, _⟩ | ⟨_, s0, v0, hup0, hsl0, rfl, hown0⟩, hB1⟩
    · exact absurd fits35 hnf
    have hB01 : Below w.heap.size w w1 := hB0.trans (hB1.mono (by simp))
    have hh := has_any 0 s0 (by simp at hsl0; omega) hup0.1 4 v0 w1 (rng_of_row hown0)
    rw [show hasR s0 4 = true by rw [hup0.2]; decide] at hh
    obtain ⟨a0, c0, rfl, _, _⟩ := rng_of_row hown0
    clear hmk0 hown0 hup0 hB0
    go_wp2_with fail
    refine hh.mono ?_
    rintro e w2 ⟨rfl, hB2⟩
    have hB02 : Below w.heap.size w w2 := hB01.trans (hB2.mono hB01.size)
    have hs02 := hB02.size
    have hmk := make_any l _ w2 (by omega) (HVN.out.below hB02)
    clear hh hB1 hB2 hB01
    go_wp2_with fail
    refine hmk.mono ?_
    rintro e w3 ⟨⟨hnf, rfl⟩ | ⟨hfit, s, v3, hup, hsl, rfl, hown⟩, hB3⟩
    · have hB03 : Below w.heap.size w w3 := hB02.trans (hB3.mono hs02)
      clear hmk
      go_wp2
      go_ret
      exact ⟨rfl, hB03⟩
    have hB03 : Below w.heap.size w w3 := hB02.trans (hB3.mono hs02)
    have hs03 := hB03.size
    have hsf : Fits s := hup.fits
    have HR3 : Hid (RngIn w3 v3 s) := rng_of_row hown
    have HUS : Hid (Upto (hasR s) s 1114112) := upto_self hup
    have hset := lexSet_any s hsf (by omega) v3 w3 (hdb.below hB03 hdb.2) HR3.out
    have HSF : Hid (Fits s) := hsf
    obtain ⟨a3, c3, rfl, _, _⟩ := rng_of_row hown
    have hsl40 : s.length ≤ 40 := by omega
    clear hmk hown hup hfit hsf hB3
    go_wp2_with fail
    refine hset.mono ?_
    rintro e w4 ⟨rfl, hB4⟩
    have hs4 := hB4.size
    have hB04 : Below w.heap.size w w4 := hB03.trans (hB4.mono hs03)
    have htl := setLs_len s
    have hzl2 : (setL s).length ≤ 10000 := by simp [setL]; omega
    have hcv := Lib.run_convert_string_bytes (P := Tryz.prog) w4 9 32 5 (strOfNums (setL s)) (u := .string) Tryz.underlying9 Tryz.underlying32 Tryz.underlying5
    have hB5 := below_bytes w4 5 (strOfNums (setL s))
    have hsv5 : SynV (Lib.bytesWorld w4 5 (strOfNums (setL s))) := (hsv.grown (grownR_below hB04 none) (by simp)).grown (grownR_below hB5 none) (by simp)
    rw [strOf_size] at hcv
    have htk := tokens_any (setL s) (byt_of (setL_byt s)) hzl2 _ (setL_run s) (some ⟨w4.heap.size, 0, none⟩) (grownCap w4 (setL s).length 0 5) _ hsv5 (bytes_str w4 _ (byt_of (setL_byt s)) _ (grownCap_ge _ _ _ _))
    rw [toks_set s HSF.out] at htk
    obtain ⟨W5, hW5⟩ : ∃ W5, W5 = Lib.bytesWorld w4 5 (strOfNums (setL s)) := ⟨_, rfl⟩
    rw [← hW5] at htk hcv hB5
    obtain ⟨str, hstr⟩ : ∃ str, str = strOfNums (setL s) := ⟨_, rfl⟩
    rw [← hstr] at hcv ⊢
    have hs5 := hB5.size
    obtain ⟨M, hM⟩ : ∃ M, M = (setL s).length := ⟨_, rfl⟩
    rw [← hM] at hcv htk
    clear hset hW5 hstr hsv5 htl hzl2 hM
    go_wp2_with fail
    refine htk.mono ?_
    rintro e w6 (⟨a6, x6, h6, _⟩ | ⟨l6, v6, hl6, _, rfl, hown6, hso6, hB6⟩)
    · cases h6
    have hl6 := Sum.inr.inj hl6
    obtain ⟨x0, x1, rfl⟩ := two_toks hl6.symm
    simp only [List.map_cons, List.map_nil, List.cons.injEq, and_true] at hl6
    obtain ⟨ad, cp, rfl, _, hcell⟩ := toks_of_row hown6
    obtain ⟨g, off, rfl, hg, t0, t1, t2, t3⟩ := hcell 0 (by simp)
    simp only [List.getElem_cons_zero] at t3
    obtain ⟨s', hu', hsl', hrg'⟩ := hso6.at 0 (by simp)
    simp only [List.getElem_cons_zero] at hu' hrg'
    rw [← hl6.1] at hu'
    obtain rfl : s = s' := HUS.out.unique hu'
    simp only [Nat.zero_mul, Nat.add_zero] at t3
    simp only [List.length_cons, List.length_nil, Nat.zero_add, Nat.reduceAdd]
    have hs6 := hB6.size
    have hB36 : Below w3.heap.size w3 w6 := (hB4.trans (hB5.mono hs4)).trans (hB6.mono (by omega))
    have hB06 : Below w.heap.size w w6 := hB03.trans (hB36.mono hs03)
    have HR6 : Hid (RngIn w6 (.slice a3 s.length c3) s) := HR3.out.below hB36
    obtain ⟨x0t, x0v⟩ := x0
    simp only at t3 hrg'
    have HRG : Hid (RngIn w6 x0v s) := hrg'
    obtain ⟨xa, xc, rfl, hxc, hxi⟩ := hrg'
    have HXI : Hid (∀ i, (h : i < s.length) → ∃ g off, xa = some ⟨g, off, none⟩ ∧ g < w6.heap.size ∧ w6.cell? ⟨g, off + i * 2, none⟩ = some (.int .i64 s[i].lo) ∧ w6.cell? ⟨g, off + i * 2 + 1, none⟩ = some (.int .i64 s[i].hi)) := hxi
    clear hcell hown6 hso6 hl6 htk t0 t1 t2 hcv hu' hB6 hB5 hB4 hxi
    go_wp2
    go_loopw [10, 11] (fun xv xi wr => ∃ k : Nat, k ≤ s.length ∧ xi = .int .i64 k ∧ Hid (wr.ownsRow w6.heap.size 38 3 xv k (S3.cellsPs ((s.take k).map mkP))) ∧ Below w6.heap.size w6 wr) (fun _ xi _ => s.length - (intOf xi).toNat)
    case atStart => exact ⟨0, Nat.zero_le _, rfl, World.ownsRow_nil _ _ _ _, Below.refl _ _⟩
    case round =>
      obtain ⟨k, hk, rfl, HO, hB⟩ := hrel
      have hbs := hB.size
      have u3 : wr.cell? ⟨g, off + 3, none⟩ = some (.slice xa s.length xc) := (hB.cell (p := ⟨g, _, none⟩) hg).trans t3
      by_cases hlt : k < s.length
      · obtain ⟨gx, ox, rfl, hgx, c0', c1'⟩ := HXI.out k hlt
        have HST : Hid (S3.cellsPs ((s.take (k + 1)).map mkP) = S3.cellsPs ((s.take k).map mkP) ++ [.int .i64 s[k].lo, .int .i64 s[k].hi, .int .u8 1]) := by
          show _ = _
          rw [List.take_succ_eq_append_getElem hlt, List.map_append]
          exact S3.cellsPs_snoc _ _
        obtain ⟨lo, hlo⟩ : ∃ lo, lo = s[k].lo := ⟨_, rfl⟩
        obtain ⟨hi, hhi⟩ : ∃ hi, hi = s[k].hi := ⟨_, rfl⟩
        rw [← hlo] at c0' HST
        rw [← hhi] at c1' HST
        have d0 : wr.cell? ⟨gx, ox + k * 2, none⟩ = some (.int .i64 lo) := (hB.cell (p := ⟨gx, _, none⟩) hgx).trans c0'
        have d1 : wr.cell? ⟨gx, ox + k * 2 + 1, none⟩ = some (.int .i64 hi) := (hB.cell (p := ⟨gx, _, none⟩) hgx).trans c1'
        have hk0 : (0 : Int) ≤ (k : Int) := by omega
        have hk1 : (k : Int) < (s.length : Int) := by omega
        have hgw : g < wr.heap.size := by omega
        have hgxw : gx < wr.heap.size := by omega
        have HFAR : Hid (∀ j, Value.ownBlock u10 = some j → w6.heap.size ≤ j) := fun j e => (World.ownsRow.lt HO.out j e).1
        have HN1 : Hid (some g ≠ Value.ownBlock u10) := fun e => by have := HFAR.out g e.symm; omega
        have HN2 : Hid (some gx ≠ Value.ownBlock u10) := fun e => by have := HFAR.out gx e.symm; omega
        clear hlo hhi c0' c1'
        go_wp2
        have HNW : Hid _ := heap_new' wr (.cells #[.int .i64 lo, .int .i64 hi, .int .u8 1] 38)
        go_region_held3 (fun w' => w'.cell? ⟨g, off + 3, none⟩ = some (.slice (some ⟨gx, ox, none⟩) s.length xc) ∧ w'.cell? ⟨gx, ox + k * 2, none⟩ = some (.int .i64 lo) ∧ w'.cell? ⟨gx, ox + k * 2 + 1, none⟩ = some (.int .i64 hi)) (first | go_keep | (rw [hgrow7.cell_far _ (by simp; omega) HN1.out, hgrow7.cell_far _ (by simp; omega) HN2.out, hgrow7.cell_far _ (by simp; omega) HN2.out]; go_keep)) ((refine step_append_lies _ (by rfl) _ _ _ (by rfl) w6.heap.size 38 iP (.agg #[.int .i64 0, .int .i64 0, .int .u8 0]) 3 24 Tryz.underlying34 hiP hzP0 hzP1 hzP2 rfl (by omega) u10 k _ (by rfl) (by exact (World.ownsRow.alloc HO.out _).drew) ⟨wr.heap.size, 0, none⟩ 1 1 [.int .i64 lo, .int .i64 hi, .int .u8 1] (by rfl) rfl (by exact World.news_of_block HNW.out) (by simp [Value.oneCell']) (by omega) (by unfold maxLen; omega) (by omega) (by simp; omega) _ rfl ?_; intro g7 cap7 w7 hown7 hgrow7 hat7 hlt7))
        --@tail
        have hB7 : Below w6.heap.size w6 w7 := ((hB.alloc hbs _).drew).grown hgrow7 (by simp; omega) HFAR.out
        have HO7 : Hid (w7.ownsRow w6.heap.size 38 3 (.slice (some ⟨g7, 0, none⟩) (k + 1) cap7) (k + 1) (S3.cellsPs ((s.take (k + 1)).map mkP))) := by
          show World.ownsRow _ _ _ _ _ _ _
          rw [HST.out]
          exact hown7
        clear hown7 hgrow7 hat7 hlt7 HO HNW u3 d0 d1
        go_wp2
        go_roundw
        case rel => exact ⟨k + 1, by omega, by go_num, HO7, hB7⟩
        case measure => simp [intOf]; omega
      · obtain rfl : k = s.length := by omega
        have hid : decide ((s.length : Int) < (s.length : Int)) = false := by simp
        have hps : S3.PropsIn wr _ (s.map mkP) := S3.props_of_row (base := w6.heap.size) (by have h := HO.out; rw [List.take_length] at h; rw [List.length_map]; exact h)
        have hbd := S3.build_any (s.map mkP) _ wr hps (bytes_set s)
        obtain ⟨pa, pc, rfl, _, _⟩ := hps
        rw [List.length_map] at hbd
        clear HO
        go_wp2_with fail
        refine hbd.mono ?_
        rintro e w8 ⟨pv, rfl, hp1, hp2, hB8⟩
        have hB68 : Below w6.heap.size w6 w8 := hB.trans (hB8.mono hbs)
        have hB08 : Below w.heap.size w w8 := hB06.trans (hB68.mono hB06.size)
        clear hbd u3
        rcases errB_set s HSF.out (by omega) with he | ⟨he, hfl⟩
        · rw [he] at hp1 ⊢
          obtain rfl := hp1 (by decide)
          clear hp2 he
          go_wp2
          go_ret
          exact ⟨rfl, hB08⟩
        · rw [he] at hp2 ⊢
          have HTR : Hid (S3.TrieAt w8.heap.size w8 pv (S3.likeB (s.map mkP)) (S3.firstB (s.map mkP))) := hp2 rfl
          obtain ⟨gt, gb, tc, rfl, _, _, _, _, _⟩ := hp2 rfl
          have hnot := not_any s HUS.out.isSet (.slice a3 s.length c3) w8 (HR6.out.below hB68)
          clear hp1 hp2 he
          go_wp2_with fail
          refine hnot.mono ?_
          rintro e w9 ⟨nl, nv, rfl, hun, hownN, hB9⟩
          cases hb : hasR s r with
          | true =>
            have hr : 0 ≤ r ∧ r ≤ 1114111 := by
              have h := HUS.out.2 r
              rw [hb] at h
              have := of_decide_eq_true h.symm
              omega
            have HNR : Hid (hasR nl r = false) := by
              show _ = _
              rw [hun.2 r]
              simp only [hb]
              simp
            have hh1 := has_any 0 nl (Nat.le_trans hun.isSet.len (by omega)) hun.1 r nv w9 (rng_of_row hownN)
            rw [HNR.out] at hh1
            obtain ⟨na, nc, rfl, _, _⟩ := rng_of_row hownN
            clear hnot hun hownN
            go_wp2_with fail
            refine hh1.mono ?_
            rintro e w10 ⟨rfl, hB10⟩
            have hB810 : Below w8.heap.size w8 w10 := hB9.trans (hB10.mono hB9.size)
            have hB610 : Below w6.heap.size w6 w10 := hB68.trans (hB810.mono hB68.size)
            have hh2 := has_any 0 s (by omega) HUS.out.1 r (.slice a3 s.length c3) w10 (HR6.out.below hB610)
            rw [hb] at hh2
            clear hh1 hB9 hB10
            have i1 : decide (0 ≤ r) = true := by simp; omega
            have i2 : decide (r ≤ 1114111) = true := by simp; omega
            go_wp2_with fail
            refine hh2.mono ?_
            rintro e w11 ⟨rfl, hB11⟩
            have hB811 : Below w8.heap.size w8 w11 := hB810.trans (hB11.mono hB810.size)
            have hof := S3.of_any _ _ _ r w11 ((HTR.out.below hB811).mono hB811.size) (S3.fineB (bytes_set s) hfl)
            rw [show S3.ofT (S3.likeB (s.map mkP)) (S3.firstB (s.map mkP)) r = 1 by rw [S3.of_val' (good_set HSF.out) r, val_set, hb]; rfl] at hof
            have hB011 : Below w.heap.size w w11 := (hB06.trans (hB68.mono hB06.size)).trans (hB811.mono (Nat.le_trans hB06.size hB68.size))
            clear hh2 hB11
            go_wp2_with fail
            refine hof.mono ?_
            rintro e w12 ⟨rfl, hB12⟩
            go_wp2
            go_ret
            exact ⟨rfl, hB011.trans (hB12.mono hB011.size)⟩
          | false =>
            by_cases hr : 0 ≤ r ∧ r ≤ 1114111
            · have HNR : Hid (hasR nl r = true) := by
                show _ = _
                rw [hun.2 r]
                simp only [hb]
                simp; omega
              have hh1 := has_any 0 nl (Nat.le_trans hun.isSet.len (by omega)) hun.1 r nv w9 (rng_of_row hownN)
              rw [HNR.out] at hh1
              obtain ⟨na, nc, rfl, _, _⟩ := rng_of_row hownN
              clear hnot hun hownN
              go_wp2_with fail
              refine hh1.mono ?_
              rintro e w10 ⟨rfl, hB10⟩
              have hB810 : Below w8.heap.size w8 w10 := hB9.trans (hB10.mono hB9.size)
              have hB610 : Below w6.heap.size w6 w10 := hB68.trans (hB810.mono hB68.size)
              have hh2 := has_any 0 s (by omega) HUS.out.1 r (.slice a3 s.length c3) w10 (HR6.out.below hB610)
              rw [hb] at hh2
              clear hh1 hB9 hB10
              have i1 : decide (0 ≤ r) = true := by simp; omega
              have i2 : decide (r ≤ 1114111) = true := by simp; omega
              go_wp2_with fail
              refine hh2.mono ?_
              rintro e w11 ⟨rfl, hB11⟩
              have hB811 : Below w8.heap.size w8 w11 := hB810.trans (hB11.mono hB810.size)
              have hof := S3.of_any _ _ _ r w11 ((HTR.out.below hB811).mono hB811.size) (S3.fineB (bytes_set s) hfl)
              rw [show S3.ofT (S3.likeB (s.map mkP)) (S3.firstB (s.map mkP)) r = 0 by rw [S3.of_val' (good_set HSF.out) r, val_set, hb]; rfl] at hof
              have hB011 : Below w.heap.size w w11 := (hB06.trans (hB68.mono hB06.size)).trans (hB811.mono (Nat.le_trans hB06.size hB68.size))
              clear hh2 hB11
              go_wp2_with fail
              refine hof.mono ?_
              rintro e w12 ⟨rfl, hB12⟩
              go_wp2
              go_ret
              exact ⟨rfl, hB011.trans (hB12.mono hB011.size)⟩
            · by_cases hr0 : 0 ≤ r
              · have i1 : decide (0 ≤ r) = true := by simp; omega
                have i2 : decide (r ≤ 1114111) = false := by simp; omega
                have HNR : Hid (hasR nl r = false) := by
                  show _ = _
                  rw [hun.2 r]
                  simp only [hb]
                  simp; omega
                have hh1 := has_any 0 nl (Nat.le_trans hun.isSet.len (by omega)) hun.1 r nv w9 (rng_of_row hownN)
                rw [HNR.out] at hh1
                obtain ⟨na, nc, rfl, _, _⟩ := rng_of_row hownN
                clear hnot hun hownN
                go_wp2_with fail
                refine hh1.mono ?_
                rintro e w10 ⟨rfl, hB10⟩
                have hB810 : Below w8.heap.size w8 w10 := hB9.trans (hB10.mono hB9.size)
                have hB610 : Below w6.heap.size w6 w10 := hB68.trans (hB810.mono hB68.size)
                have hh2 := has_any 0 s (by omega) HUS.out.1 r (.slice a3 s.length c3) w10 (HR6.out.below hB610)
                rw [hb] at hh2
                clear hh1 hB9 hB10
                go_wp2_with fail
                refine hh2.mono ?_
                rintro e w11 ⟨rfl, hB11⟩
                have hB811 : Below w8.heap.size w8 w11 := hB810.trans (hB11.mono hB810.size)
                have hof := S3.of_any _ _ _ r w11 ((HTR.out.below hB811).mono hB811.size) (S3.fineB (bytes_set s) hfl)
                rw [show S3.ofT (S3.likeB (s.map mkP)) (S3.firstB (s.map mkP)) r = 0 by rw [S3.of_val' (good_set HSF.out) r, val_set, hb]; rfl] at hof
                have hB011 : Below w.heap.size w w11 := (hB06.trans (hB68.mono hB06.size)).trans (hB811.mono (Nat.le_trans hB06.size hB68.size))
                clear hh2 hB11
                go_wp2_with fail
                refine hof.mono ?_
                rintro e w12 ⟨rfl, hB12⟩
                go_wp2
                go_ret
                exact ⟨rfl, hB011.trans (hB12.mono hB011.size)⟩
              · have i1 : decide (0 ≤ r) = false := by simp; omega
                have HNR : Hid (hasR nl r = false) := by
                  show _ = _
                  rw [hun.2 r]
                  simp only [hb]
                  simp; omega
                have hh1 := has_any 0 nl (Nat.le_trans hun.isSet.len (by omega)) hun.1 r nv w9 (rng_of_row hownN)
                rw [HNR.out] at hh1
                obtain ⟨na, nc, rfl, _, _⟩ := rng_of_row hownN
                clear hnot hun hownN
                go_wp2_with fail
                refine hh1.mono ?_
                rintro e w10 ⟨rfl, hB10⟩
                have hB810 : Below w8.heap.size w8 w10 := hB9.trans (hB10.mono hB9.size)
                have hB610 : Below w6.heap.size w6 w10 := hB68.trans (hB810.mono hB68.size)
                have hh2 := has_any 0 s (by omega) HUS.out.1 r (.slice a3 s.length c3) w10 (HR6.out.below hB610)
                rw [hb] at hh2
                clear hh1 hB9 hB10
                go_wp2_with fail
                refine hh2.mono ?_
                rintro e w11 ⟨rfl, hB11⟩
                have hB811 : Below w8.heap.size w8 w11 := hB810.trans (hB11.mono hB810.size)
                have hof := S3.of_any _ _ _ r w11 ((HTR.out.below hB811).mono hB811.size) (S3.fineB (bytes_set s) hfl)
                rw [show S3.ofT (S3.likeB (s.map mkP)) (S3.firstB (s.map mkP)) r = 0 by rw [S3.of_val' (good_set HSF.out) r, val_set, hb]; rfl] at hof
                have hB011 : Below w.heap.size w w11 := (hB06.trans (hB68.mono hB06.size)).trans (hB811.mono (Nat.le_trans hB06.size hB68.size))
                clear hh2 hB11
                go_wp2_with fail
                refine hof.mono ?_
                rintro e w12 ⟨rfl, hB12⟩
                go_wp2
                go_ret
                exact ⟨rfl, hB011.trans (hB12.mono hB011.size)⟩
end Go.Proofs.YtdjhgjnhfmggjabGreatDoor
