/-
  scansionlaw07.LexSets, walked: it answers true.
-/
import Derived.Test.YtdjhgjnhfmggjaaGreatDoorRefTxt
import Derived.Test.YtdjhgjnhfmggjaaGreatDoorSetMath
import Derived.Test.YtdjhgjnhfmggjaaGreatDoorRMake
import Derived.Test.YtdjhgjnhfmggjaaGreatDoorSame7
import Derived.Lib.ConvBytes
namespace Go.Proofs.YtdjhgjnhfmggjaaGreatDoor
open Go.RowKit Go.Shelf S1
set_option linter.unusedVariables false

theorem pickGo_length (f : Int → Bool) : ∀ (es : List Int) (out : List Rg), (pickGo f es out).length ≤ out.length + es.length
  | [], out => by simp [pickGo]
  | [e], out => by
    unfold pickGo
    split
    · have := withL_length out e 1114111; simpa using this
    · simp
  | e :: e' :: l, out => by
    have h := pickGo_length f (e' :: l) (if f e = true then withL out e (e' - 1) else out)
    have h2 : (if f e = true then withL out e (e' - 1) else out).length ≤ out.length + 1 := by
      split
      · exact withL_length _ _ _
      · omega
    have e0 : pickGo f (e :: e' :: l) out = pickGo f (e' :: l) (if f e = true then withL out e (e' - 1) else out) := rfl
    rw [e0]
    simp only [List.length_cons] at h ⊢
    omega
/-- A set that is made of few ranges has few. -/
theorem upto_few {l s : List Rg} (hf : Fits l) (hu : Upto (hasR l) s 1114112) : s.length ≤ 1 + 2 * l.length := by
  have h1 := pick_spec l [] hf (fun r hr => by cases hr) (fun x y => x || y)
  have h2 : Upto (hasR l) (pickGo (fun x => hasR l x || hasR [] x) (edgesL (l ++ [])) []) 1114112 := h1.congr (fun x _ _ => by simp [show hasR [] x = false from rfl])
  rw [hu.unique h2]
  have h3 := pickGo_length (fun x => hasR l x || hasR [] x) (edgesL (l ++ [])) []
  have h4 := edges_length (l ++ []) [0]
  have h5 : (edgesL (l ++ [])).length ≤ 1 + 2 * l.length := by
    show (List.foldl stepE [0] (l ++ [])).length ≤ _
    rw [List.append_nil] at h4 ⊢
    simpa using h4
  simp at h3 h5 ⊢
  omega
theorem upto_self {f : Int → Bool} {s : List Rg} (h : Upto f s 1114112) : Upto (hasR s) s 1114112 := by
  refine ⟨h.1, fun x => ?_⟩
  have hx := h.2 x
  cases q : hasR s x with
  | false => simp
  | true =>
    rw [q] at hx
    have := of_decide_eq_true hx.symm
    simp [this.1, this.2.1]
theorem bytes_str (w : World) (l : List Int) (h : Byt l) (cap : Nat) (hc : l.length ≤ cap) : BytesAt (Lib.bytesWorld w 5 (strOfNums l)).heap.size (Lib.bytesWorld w 5 (strOfNums l)) (.slice (some ⟨w.heap.size, 0, none⟩) l.length cap) l := by
  refine .inr ⟨w.heap.size, 0, cap, rfl, hc, by rw [Lib.bytesWorld_size]; omega, fun j hj => ?_⟩
  rw [Nat.zero_add, Lib.bytesWorld_cell w 5 (strOfNums l) j (by rw [strOf_size]; exact hj)]
  congr 2
  rw [strOf_toList]
  have hb := h l[j] (List.getElem_mem hj)
  simp [List.getD, hj]
  omega
theorem two_toks {l : List (Tok × Value)} {a b : Tok} (h : l.map Prod.fst = [a, b]) : ∃ x0 x1, l = [x0, x1] := by
  match l, h with
  | [x0, x1], _ => exact ⟨x0, x1, rfl⟩

set_option maxRecDepth 100000 in
set_option maxHeartbeats 8000000 in
theorem lexSets_any (l : List Rg) (v : Value) (w : World) (hsv : SynV w) (hdb : DbV w) (hv : RngSrc w v l) :
    Calls Tryz.prog 4 #[v] w fun e w' => e = .returned (.bool true) ∧ Below w.heap.size w w' := by
  have haw := awake_any w hsv
  have HV : Hid (RngSrc w v l) := hv
  obtain ⟨a, cap, rfl, hc, _⟩ := hv.1
  clear hv
  by_cases hz : 30 < l.length
  · have hz' : decide (30 < (l.length : Int)) = true := by simp; omega
    go_enter Tryz.func4, Tryz.ntmps4
    go_wp2_with fail
    refine haw.mono ?_
    rintro e w1 ⟨rfl, hB1⟩
    go_wp2
    go_ret
    exact ⟨rfl, hB1⟩
  · have hz' : decide (30 < (l.length : Int)) = false := by simp; omega
    have hzl : l.length ≤ 30 := by omega
    clear hz
    go_enter Tryz.func4, Tryz.ntmps4
    go_wp2_with fail
    refine haw.mono ?_
    rintro e w1 ⟨rfl, hB1⟩
    have hs1 := hB1.size
    have hmk := refMake_any l _ w1 (by omega) (HV.out.below hB1)
    clear haw
    go_wp2_with fail
    refine hmk.mono ?_
    rintro e w2 ⟨⟨hnf, rfl⟩ | ⟨hfit, s, v2, hup, rfl, hown⟩, hB2⟩
    · have hB02 : Below w.heap.size w w2 := hB1.trans (hB2.mono hs1)
      clear hmk
      go_wp2
      go_ret
      exact ⟨rfl, hB02⟩
    · have hs2 := hB2.size
      have hB02 : Below w.heap.size w w2 := hB1.trans (hB2.mono hs1)
      have hsl : s.length ≤ 100 := by have := upto_few hfit hup; omega
      have hsf : Fits s := hup.fits
      have HR2 : Hid (RngIn w2 v2 s) := rng_of_row hown
      have HUS : Hid (Upto (hasR s) s 1114112) := upto_self hup
      have hset := lexSet_any s hsf (by omega) v2 w2 (hdb.below hB02 hdb.2) HR2.out
      have HSF : Hid (Fits s) := hsf
      obtain ⟨a2, c2, rfl, _, _⟩ := rng_of_row hown
      clear hmk hown hup hfit hsf
      go_wp2_with fail
      refine hset.mono ?_
      rintro e w3 ⟨rfl, hB3⟩
      have hs3 := hB3.size
      have hB03 : Below w.heap.size w w3 := hB02.trans (hB3.mono (by omega))
      have htl := setLs_len s
      have hzl2 : (setL s).length ≤ 10000 := by simp [setL]; omega
      have hcv := Lib.run_convert_string_bytes (P := Tryz.prog) w3 9 22 5 (strOfNums (setL s)) (u := .string) Tryz.underlying9 Tryz.underlying22 Tryz.underlying5
      have hB4 := below_bytes w3 5 (strOfNums (setL s))
      have hsv4 : SynV (Lib.bytesWorld w3 5 (strOfNums (setL s))) := (hsv.grown (grownR_below hB03 none) (by simp)).grown (grownR_below hB4 none) (by simp)
      rw [strOf_size] at hcv
      have htk := tokens_any (setL s) (byt_of (setL_byt s)) hzl2 _ (setL_run s) (some ⟨w3.heap.size, 0, none⟩) (grownCap w3 (setL s).length 0 5) _ hsv4 (bytes_str w3 _ (byt_of (setL_byt s)) _ (grownCap_ge _ _ _ _))
      rw [toks_set s HSF.out] at htk
      have htx := fun W h => refSetTxt_any s HSF.out (by omega) (.slice a2 s.length c2) W h
      have hB04 : Below w.heap.size w (Lib.bytesWorld w3 5 (strOfNums (setL s))) := hB03.trans (hB4.mono hB03.size)
      obtain ⟨W4, hW4⟩ : ∃ W4, W4 = Lib.bytesWorld w3 5 (strOfNums (setL s)) := ⟨_, rfl⟩
      rw [← hW4] at htk hcv hB4 hB04
      obtain ⟨str, hstr⟩ : ∃ str, str = strOfNums (setL s) := ⟨_, rfl⟩
      rw [← hstr] at hcv htx ⊢
      have hss : (str.toList != str.toList) = false := by simp
      have hss2 : (str.toList == str.toList) = true := by simp
      have hs4 := hB4.size
      obtain ⟨N, hN⟩ : ∃ N, N = (setL s).length := ⟨_, rfl⟩
      rw [← hN] at hcv htk
      clear hset hW4 hstr hsv4 htl hzl2 hN
      go_wp2_with fail
      refine htk.mono ?_
      rintro e w5 (⟨a5, x5, h5, _⟩ | ⟨l5, v5, hl5, _, rfl, hown5, hso5, hB5⟩)
      · cases h5
      · have hl5 := Sum.inr.inj hl5
        obtain ⟨x0, x1, rfl⟩ := two_toks hl5.symm
        simp only [List.map_cons, List.map_nil, List.cons.injEq, and_true] at hl5
        obtain ⟨ad, cp, rfl, _, hcell⟩ := toks_of_row hown5
        obtain ⟨g, off, rfl, hg, c0, c1, c2', c3⟩ := hcell 0 (by simp)
        simp only [List.getElem_cons_zero] at c0 c1 c3
        obtain ⟨s', hu', hsl', hrg'⟩ := hso5.at 0 (by simp)
        simp only [List.getElem_cons_zero] at hu' hrg'
        rw [← hl5.1] at c0 c1 hu'
        obtain rfl : s = s' := HUS.out.unique hu'
        simp only [Nat.zero_mul, Nat.add_zero] at c0 c1 c3
        simp only [List.length_cons, List.length_nil, Nat.zero_add, Nat.reduceAdd]
        have hs5 := hB5.size
        have hB25 : Below w2.heap.size w2 w5 := (hB3.trans (hB4.mono hs3)).trans (hB5.mono (by omega))
        have hB05 : Below w.heap.size w w5 := hB02.trans (hB25.mono (by omega))
        have HR5 : Hid (RngIn w5 (.slice a2 s.length c2) s) := HR2.out.below hB25
        obtain ⟨x0t, x0v⟩ := x0
        simp only at c3 hrg'
        have HRG : Hid (RngIn w5 x0v s) := hrg'
        obtain ⟨xa, xc, rfl, _, _⟩ := hrg'
        clear hcell hown5 hso5 hl5 htk c2' hcv hu' hB5 hB4 hB3 hB2
        go_wp2_with fail
        refine (htx _ HR5.out).mono ?_
        rintro e w6 ⟨rfl, hB6⟩
        have d0 : w6.cell? ⟨g, off, none⟩ = some (.int .i64 3) := (hB6.cell (p := ⟨g, _, none⟩) hg).trans c0
        have d1 : w6.cell? ⟨g, off + 1, none⟩ = some (.int .i64 0) := (hB6.cell (p := ⟨g, _, none⟩) hg).trans c1
        have d3 : w6.cell? ⟨g, off + 3, none⟩ = some (.slice xa s.length xc) := (hB6.cell (p := ⟨g, _, none⟩) hg).trans c3
        have hsm := sameR_any s (by omega) _ _ w6 (HRG.out.below hB6) (HR5.out.below hB6)
        have hB06 : Below w.heap.size w w6 := hB05.trans (hB6.mono hB05.size)
        clear htx c0 c1 c3
        go_wp2_with fail
        refine hsm.mono ?_
        rintro e w7 ⟨rfl, nd, rfl⟩
        go_wp2
        go_ret
        exact ⟨rfl, below_drewN' hB06 nd⟩
end Go.Proofs.YtdjhgjnhfmggjaaGreatDoor
