/-
  The text of a program is ASCII. Plain mathematics. The statements' awake. scansionlaw08.SyntaxAgain, walked: it answers true.
-/
import Derived.Test.YtfdjchnckjgapaaGreatDoorY50
import Derived.Test.YtfdjchnckjgapaaGreatDoorY34
import Derived.Test.YtfdjchnckjgapaaGreatDoorY35
import Derived.Test.YtfdjchnckjgapaaGreatDoorY51
namespace Go.Proofs.YtfdjchnckjgapaaGreatDoor
open Go.RowKit Go.Shelf S1
set_option linter.unusedVariables false

def Asc (l : List Int) : Prop := ∀ c ∈ l, 0 ≤ c ∧ c < 128
theorem signT_asc (k : Int) : Asc (signT k) := by
  intro c hc
  unfold signT at hc
  split at hc
  · simp at hc; omega
  · split at hc
    · simp at hc; omega
    · split at hc
      · simp at hc; omega
      · cases hc
theorem txK_asc {g : Nd → List Int} {k : Int} : ∀ {l : List Nd} {fst : Bool}, (∀ x ∈ l, Asc (g x)) → Asc (txK g k fst l)
  | [], _, _ => fun c hc => (by cases hc)
  | x :: l, fst, h => fun c hc => by
    unfold txK at hc
    rcases List.mem_append.1 hc with q | q
    · unfold barT at q
      split at q
      · simp at q; omega
      · cases q
    · rcases List.mem_append.1 q with q | q
      · unfold brT at q
        split at q
        · rcases List.mem_cons.1 q with q | q
          · omega
          · rcases List.mem_append.1 q with q | q
            · exact h x (by simp) c q
            · simp at q; omega
        · exact h x (by simp) c q
      · exact txK_asc (fun y hy => h y (by simp [hy])) c q
theorem txN_asc {S : List (List Int)} (hS : ∀ s ∈ S, Asc s) : ∀ (f : Nat) (n : Nd), Asc (txN f S n)
  | f, n => by
    have hh : Asc (headT S n) := by
      unfold headT
      split
      · rw [List.getD_eq_getElem?_getD]
        cases h : S[n.s.toNat]? with
        | none => intro c hc; cases hc
        | some s => exact hS s (List.mem_of_getElem? h)
      · intro c hc; cases hc
    cases f with
    | zero =>
      intro c hc
      unfold txN at hc
      rcases List.mem_append.1 hc with q | q
      · exact hh c q
      · exact signT_asc _ c q
    | succ f =>
      intro c hc
      unfold txN at hc
      rcases List.mem_append.1 hc with q | q
      · exact hh c q
      · rcases List.mem_append.1 q with q | q
        · exact txK_asc (fun x _ => txN_asc hS f x) c q
        · exact signT_asc _ c q
theorem progT_asc {st : Sts} {rl : List Rl} : ∀ c ∈ progT (st.map setL) rl, 0 ≤ c ∧ c < 128 := by
  have hS : ∀ s ∈ st.map setL, Asc s := fun s hs c hc => by
    obtain ⟨l, _, rfl⟩ := List.mem_map.1 hs
    have := setL_byt l c hc
    omega
  intro c hc
  obtain ⟨x, _, hx⟩ := List.mem_flatMap.1 hc
  unfold rlT at hx
  rcases List.mem_append.1 hx with q | q
  · unfold kwT at q
    split at q <;> (simp at q; omega)
  · rcases List.mem_append.1 q with q | q
    · exact txN_asc hS 120 _ c q
    · rcases List.mem_cons.1 q with q | q
      · omega
      · rcases List.mem_append.1 q with q | q
        · exact txN_asc hS 120 _ c q
        · simp at q; omega
end Go.Proofs.YtfdjchnckjgapaaGreatDoor

namespace Go.Proofs.YtfdjchnckjgapaaGreatDoor
open Go.RowKit Go.Shelf S1
set_option linter.unusedVariables false

def aw8 : List Int := 115 :: 101 :: 116 :: 32 :: 97 :: 32 :: 61 :: 32 :: 91 :: 97 :: 45 :: 122 :: 93 :: 32 :: 45 :: 32 :: 91 :: 120 :: 93 :: 59 :: 32 :: 107 :: 101 :: 101 :: 112 :: 32 :: 97 :: 32 :: 47 :: 32 :: 97 :: 42 :: 59 :: []
theorem aw8_parse : parseL (toksL 33 (ascU 0 aw8)) = .inr ([⟨false, ⟨1, 0, []⟩, ⟨3, 0, [⟨1, 0, []⟩]⟩⟩], [[⟨97, 119⟩, ⟨121, 122⟩]]) := by kernel_rfl
theorem aw8_byt : Byt aw8 := by intro c hc; simp [aw8] at hc; omega

set_option maxRecDepth 100000 in
set_option maxHeartbeats 4000000 in
theorem awake8_any (w : World) (hsv : SynV w) : Calls Tryz.prog 8 #[] w fun e w' => e = .returned (.bool true) ∧ Below w.heap.size w w' := by
  have hcv := Go.Lib.run_convert_bytes_const (P := Tryz.prog) w 22 5 (aw8.map (Value.int .u8)).toArray 33 33 Tryz.underlying22 Tryz.underlying5
  have hbl := bytes_lit (w := w) aw8 5 (33, 34) 33 (Nat.le_refl _)
  have hB1 : Below w.heap.size w (w.alloc (.cells (aw8.map (Value.int .u8)).toArray 5 (33, 34))) := (Below.refl _ w).alloc (Nat.le_refl _) _
  have htk := parse_any8 aw8 aw8_byt (by decide) (ascU 0 aw8) (run_ascii (by intro c hc; simp [aw8] at hc; omega)) (some ⟨w.heap.size, 0, none⟩) 33 (w.alloc (.cells (aw8.map (Value.int .u8)).toArray 5 (33, 34))) (hsv.grown (World.grownBy_alloc _ _ none) (by simp)) (by rw [World.size_alloc]; exact hbl)
  have e33 : aw8.length = 33 := rfl
  rw [e33, aw8_parse] at htk
  have HB1 : Hid (Below w.heap.size w (w.alloc (.cells (aw8.map (Value.int .u8)).toArray 5 (33, 34)))) := hB1
  obtain ⟨W1, hW1⟩ : ∃ W1, W1 = w.alloc (.cells (aw8.map (Value.int .u8)).toArray 5 (33, 34)) := ⟨_, rfl⟩
  have hcv' : (convert 22 22 (.slice (some ⟨w.heap.size, 0, none⟩) 33 33)).run Tryz.prog (w.alloc (.cells (List.toArray (.int .u8 115 :: .int .u8 101 :: .int .u8 116 :: .int .u8 32 :: .int .u8 97 :: .int .u8 32 :: .int .u8 61 :: .int .u8 32 :: .int .u8 91 :: .int .u8 97 :: .int .u8 45 :: .int .u8 122 :: .int .u8 93 :: .int .u8 32 :: .int .u8 45 :: .int .u8 32 :: .int .u8 91 :: .int .u8 120 :: .int .u8 93 :: .int .u8 59 :: .int .u8 32 :: .int .u8 107 :: .int .u8 101 :: .int .u8 101 :: .int .u8 112 :: .int .u8 32 :: .int .u8 97 :: .int .u8 32 :: .int .u8 47 :: .int .u8 32 :: .int .u8 97 :: .int .u8 42 :: .int .u8 59 :: [])) 5)) = .ok (.slice (some ⟨w.heap.size, 0, none⟩) 33 33) W1 := by rw [hW1]; exact hcv
  rw [← hW1] at htk HB1
  clear hW1 hcv hbl hB1 e33
  go_enter Tryz.func8, Tryz.ntmps8
  go_wp2_with fail
  refine htk.mono ?_
  rintro e w2 ⟨hB2, (⟨a, x, h, _⟩ | ⟨rs, st, sv, rv, hl, rfl, hpg⟩)⟩
  · cases h
  · have hl := Sum.inr.inj hl
    obtain ⟨hl1, hl2⟩ := Prod.mk.inj hl
    have hss := hpg.sets
    have hrr := hpg.rules
    rw [← hl1] at hrr
    rw [← hl2] at hss
    obtain ⟨sa, sc, rfl, hsc, hs⟩ := hss
    obtain ⟨ra, rc, rfl, hrc, hr⟩ := hrr
    obtain ⟨gs, os, x, rfl, hgs, s0, hx⟩ := hs 0 (by simp)
    obtain ⟨gr, or, zl, zr, rfl, hgr, c0, c1, c2, c3, c4, c5, c6, _⟩ := hr 0 (by simp)
    obtain ⟨xa, xc, rfl, _⟩ := hx
    simp only [List.length_cons, List.length_nil, Nat.zero_add, List.getElem_cons_zero, Nat.add_zero, Nat.zero_mul] at s0 c4 hsc hrc ⊢
    have hB : Below w.heap.size w w2 := HB1.out.trans (hB2.mono HB1.out.size)
    clear htk hcv' hs hr hpg hl hl1 hl2 c0 c1 c2 c3 c5 c6 hB2
    go_wp2
    go_ret
    exact ⟨rfl, below_after hB (below_alloc _ _)⟩
end Go.Proofs.YtfdjchnckjgapaaGreatDoor

namespace Go.Proofs.YtfdjchnckjgapaaGreatDoor
open Go.RowKit Go.Shelf S1
set_option linter.unusedVariables false

theorem row_bytes8 {w : World} {base : Nat} {v : Value} {l : List Int} (h : w.ownsRow base 5 1 v l.length (l.map (Value.int .u8))) : ∃ a cap, v = .slice a l.length cap ∧ BytesAt w.heap.size w (.slice a l.length cap) l := by
  rcases h.2 with ⟨rfl, h0⟩ | ⟨g, cap, cur, rfl, hb, hg, hc, hm, hs, ht⟩
  · obtain rfl : l = [] := List.length_eq_zero_iff.1 h0
    exact ⟨none, 0, rfl, .inl ⟨none, 0, rfl, rfl⟩⟩
  · refine ⟨_, cap, rfl, .inr ⟨g, 0, cap, rfl, hc, (Array.getElem?_eq_some_iff.1 hg).1, fun j hj => ?_⟩⟩
    have := h.cells (g := g) rfl j (.int .u8 l[j]) (by simp [hj])
    rw [add_lit'] at this
    rw [this, List.getElem?_eq_getElem hj]
    rfl

set_option maxRecDepth 100000 in
set_option maxHeartbeats 16000000 in
theorem syntaxAgain_any (zs : List Int) (hby : Byt zs) (ta : Option Addr) (cap : Nat) (w : World) (hsv : SynV w) (hdb : DbV w) (hI : BytesAt w.heap.size w (.slice ta zs.length cap) zs) :
    Calls Tryz.prog 6 #[.slice ta zs.length cap] w fun e w' => e = .returned (.bool true) ∧ Below w.heap.size w w' := by
  have haw := awake8_any w hsv
  by_cases hz : 1500 < zs.length
  · have hz' : decide (1500 < (zs.length : Int)) = true := by simp; omega
    clear hz
    go_enter Tryz.func6, Tryz.ntmps6
    go_wp2_with fail
    refine haw.mono ?_
    rintro e w1 ⟨rfl, hB1⟩
    go_wp2
    go_ret
    exact ⟨rfl, hB1⟩
  · have hz' : decide (1500 < (zs.length : Int)) = false := by simp; omega
    obtain ⟨us, hus⟩ := Run.exists zs zs.length 0 (by omega) (Nat.zero_le _)
    have HUS : Hid (Run zs 0 us zs.length) := hus
    have HSV : Hid (SynV w) := hsv
    have HDB : Hid (DbV w) := hdb
    have hzl : zs.length ≤ 1500 := by omega
    have HI : Hid (BytesAt w.heap.size w (.slice ta zs.length cap) zs) := hI
    clear hus hz hI hdb hsv
    go_enter Tryz.func6, Tryz.ntmps6
    go_wp2_with fail
    refine haw.mono ?_
    rintro e w1 ⟨rfl, hB1⟩
    have hpp := parse_any8 zs hby (by omega) us HUS.out ta cap w1 (HSV.out.grown (grownR_below hB1 none) (by simp)) ((HI.out.below hB1).mono hB1.size)
    obtain ⟨q, hq⟩ : ∃ q, q = parseL (toksL zs.length us) := ⟨_, rfl⟩
    rw [← hq] at hpp
    have HQ : Hid (q = parseL (toksL zs.length us)) := hq
    have HB01 : Hid (Below w.heap.size w w1) := hB1
    clear hq haw hB1
    go_wp2_with fail
    refine hpp.mono ?_
    clear hpp
    rintro e w2 ⟨hB2, (⟨a, x, hqe, hx, rfl⟩ | ⟨rs, st, sv, rv, hqe, rfl, hpg⟩)⟩
    · have hx' : (x != 0) = true := by simpa using hx
      have hal : a ≤ zs.length := parseL_at HUS.out (HQ.out.symm.trans hqe)
      have ha0 : decide ((a : Int) ≥ 0) = true := by simp
      have ha1 : decide ((a : Int) ≤ (zs.length : Int)) = true := by simp; omega
      have HB03 : Hid (Below w.heap.size w (w2.alloc (.cells #[.slice none 0 0, .slice none 0 0] 27))) := below_after (below_after HB01.out hB2) (below_alloc _ _)
      clear hqe hB2 hx
      go_wp2
      go_ret
      exact ⟨rfl, HB03.out⟩
    · have hfew := parseL_few HUS.out hzl (HQ.out.symm.trans hqe)
      have HWD : Hid (∀ x ∈ rs.map Prod.fst, WdR x) := parseL_wd HUS.out (by omega) (HQ.out.symm.trans hqe)
      obtain ⟨rl, hrl⟩ : ∃ x, x = rs.map Prod.fst := ⟨_, rfl⟩
      have HSI : Hid (SetIn w2 sv st) := hpg.sets
      have HRI : Hid (RulIn w2 rv rl) := by rw [hrl]; exact hpg.rules
      rw [← hrl] at hfew HWD
      have HOK : Hid (FewOk st rl) := hfew.1
      have HRT : Hid (rightB st rl = true) := hfew.2
      obtain ⟨sa, sc, rfl, _⟩ := HSI.out
      obtain ⟨ra, rc, rfl, _⟩ := HRI.out
      obtain ⟨ns, hns⟩ : ∃ x, x = st.length := ⟨_, rfl⟩
      obtain ⟨nr, hnr⟩ : ∃ x, x = rl.length := ⟨_, rfl⟩
      have HNS : Hid (ns = st.length) := hns
      have HNR : Hid (nr = rl.length) := hnr
      have hns2 : ns ≤ 70 := by rw [hns]; exact hfew.1.1
      have hnr2 : nr ≤ 70 := by rw [hnr]; exact hfew.1.2.1
      rw [← hns] at HSI ⊢
      rw [← hnr] at HRI ⊢
      have HB03 : Hid (Below w.heap.size w (w2.alloc (.cells #[.slice sa ns sc, .slice ra nr rc] 27))) := below_after (below_after HB01.out hB2) (below_alloc _ _)
      have HB23 : Hid (Below w2.heap.size w2 (w2.alloc (.cells #[.slice sa ns sc, .slice ra nr rc] 27))) := below_alloc _ _
      have HE2 : Hid ((w2.alloc (.cells #[.slice sa ns sc, .slice ra nr rc] 27)).heap[w2.heap.size]? = some (.cells #[.slice sa ns sc, .slice ra nr rc] 27 (0, 0))) := heap_new' _ _
      have hpr := print_any8 st rl HOK.out (.slice sa ns sc) (.slice ra nr rc) (w2.alloc (.cells #[.slice sa ns sc, .slice ra nr rc] 27)) (HDB.out.below HB03.out HDB.out.2) (HSI.out.below HB23.out) (HRI.out.below HB23.out)
      clear hqe hpg hrl hfew hns hnr hB2
      go_wp2_with fail
      refine hpr.mono ?_
      clear hpr
      rintro e w3 ⟨hB3, hcase⟩
      rcases hcase with ⟨hq, _⟩ | ⟨hq, tv, rfl, how⟩
      · rw [HRT.out] at hq; cases hq
      · have HB04 : Hid (Below w.heap.size w w3) := below_after HB03.out hB3
        have HB24 : Hid (Below w2.heap.size w2 w3) := below_after HB23.out hB3
        have HE3 : Hid (w3.heap[w2.heap.size]? = some (.cells #[.slice sa ns sc, .slice ra nr rc] 27 (0, 0))) := (hB3.block _ (by simp)).trans HE2.out
        obtain ⟨ua, uc, htv, hT⟩ := row_bytes8 how
        obtain ⟨ts, hts⟩ : ∃ x, x = progT (st.map setL) rl := ⟨_, rfl⟩
        rw [← hts] at htv hT
        subst htv
        have HA : Hid (∀ c ∈ ts, 0 ≤ c ∧ c < 128) := by rw [hts]; exact progT_asc
        have HP : Hid (parseL (toksL ts.length (ascU 0 ts)) = .inr (rl, st)) := by
          show _ = _
          rw [hts]
          exact back_parse HRT.out (fun x hx => ⟨(HOK.out.2.2.2 x hx).1.1, (HOK.out.2.2.2 x hx).2.1⟩) _
        have HT : Hid (BytesAt w3.heap.size w3 (.slice ua ts.length uc) ts) := hT
        have HPOS : Hid (0 < ts.length → 0 < nr) := fun hp => by
          rw [hts] at hp
          rw [HNR.out]
          cases rl with
          | nil => exact absurd hp (by simp [progT])
          | cons x l => simp
        clear hq how hts hT hB3
        by_cases hl : 65536 < ts.length
        · have hl' : decide (60000 < (ts.length : Int)) = true := by simp; omega
          have hnr0 : 0 < nr := HPOS.out (by omega)
          have hpp := parse_long8 ua ts.length uc w3 hl
          clear hl
          go_wp2_with fail
          refine hpp.mono ?_
          clear hpp
          rintro e w4 ⟨rfl, hB4⟩
          have HB05 : Hid (Below w.heap.size w (w4.alloc (.cells #[.slice none 0 0, .slice none 0 0] 27))) := below_after (below_after HB04.out hB4) (below_alloc _ _)
          have h4 : w4.heap[w2.heap.size]? = some (.cells #[.slice sa ns sc, .slice ra nr rc] 27 (0, 0)) := (hB4.block _ (Array.getElem?_eq_some_iff.1 HE3.out).1).trans HE3.out
          have hlt : w2.heap.size < w4.heap.size := (Array.getElem?_eq_some_iff.1 h4).1
          have d0 : w4.cell? ⟨w2.heap.size, 0, none⟩ = some (.slice sa ns sc) := cell_of_row _ _ 0 _ _ _ h4
          have d1 : w4.cell? ⟨w2.heap.size, 1, none⟩ = some (.slice ra nr rc) := cell_of_row _ _ 1 _ _ _ h4
          have hsm := same_less sa ra ns sc nr rc hnr0 (by omega) (by omega) (w4.alloc (.cells #[.slice none 0 0, .slice none 0 0] 27))
          clear h4 hB4 hnr0
          go_wp2_with fail
          refine hsm.mono ?_
          clear hsm
          rintro e w6 ⟨rfl, hB6⟩
          go_wp2
          go_ret
          exact ⟨rfl, below_after HB05.out hB6⟩
        · have hpp := parse_any8 ts (fun c hc => by have := HA.out c hc; omega) (by omega) (ascU 0 ts) (run_ascii HA.out) ua uc w3 (HSV.out.grown (grownR_below HB04.out none) (by simp)) HT.out
          rw [HP.out] at hpp
          have hts2 : ts.length ≤ 65536 := by omega
          clear hl
          go_wp2_with fail
          refine hpp.mono ?_
          clear hpp
          rintro e w4 ⟨hB4, (⟨a, x, hqe, _⟩ | ⟨rs', st', sv', rv', hqe, rfl, hpg⟩)⟩
          · cases hqe
          · obtain ⟨e1, e2⟩ := Prod.mk.inj (Sum.inr.inj hqe)
            subst e2
            have HSI' : Hid (SetIn w4 sv' st) := hpg.sets
            have HRI' : Hid (RulIn w4 rv' rl) := by rw [e1]; exact hpg.rules
            obtain ⟨sa', sc', hsv', _⟩ := HSI'.out
            obtain ⟨ra', rc', hrv', _⟩ := HRI'.out
            rw [← HNS.out] at hsv'
            rw [← HNR.out] at hrv'
            subst hsv' hrv'
            have HB05 : Hid (Below w.heap.size w (w4.alloc (.cells #[.slice sa' ns sc', .slice ra' nr rc'] 27))) := below_after (below_after HB04.out hB4) (below_alloc _ _)
            have hB45 := below_alloc w4 (.cells #[.slice sa' ns sc', .slice ra' nr rc'] 27)
            have hB25 := below_after (below_after HB24.out hB4) hB45
            have h4 : w4.heap[w2.heap.size]? = some (.cells #[.slice sa ns sc, .slice ra nr rc] 27 (0, 0)) := (hB4.block _ (Array.getElem?_eq_some_iff.1 HE3.out).1).trans HE3.out
            have hlt : w2.heap.size < w4.heap.size := (Array.getElem?_eq_some_iff.1 h4).1
            have d0 : w4.cell? ⟨w2.heap.size, 0, none⟩ = some (.slice sa ns sc) := cell_of_row _ _ 0 _ _ _ h4
            have d1 : w4.cell? ⟨w2.heap.size, 1, none⟩ = some (.slice ra nr rc) := cell_of_row _ _ 1 _ _ _ h4
            have hl1 := HOK.out.1
            have hl2 := HOK.out.2.1
            have hsm := same_any8 rl st (by omega) (by omega) (fun s hs => by have := HOK.out.2.2.1 s hs; omega) HWD.out (.slice sa ns sc) (.slice ra nr rc) (.slice sa' ns sc') (.slice ra' nr rc') (w4.alloc (.cells #[.slice sa' ns sc', .slice ra' nr rc'] 27)) (HSI.out.below hB25) (HSI'.out.below hB45) (HRI.out.below hB25) (HRI'.out.below hB45)
            clear hqe hpg e1 hB4 hB45 hB25 h4 hl1 hl2
            by_cases h6 : 60000 < ts.length
            · have h6' : decide (60000 < (ts.length : Int)) = true := by simp; omega
              clear h6
              go_wp2_with fail
              refine hsm.mono ?_
              rintro e w6 ⟨rfl, hB6⟩
              clear hsm
              go_wp2
              go_ret
              exact ⟨rfl, below_after HB05.out hB6⟩
            · have h6' : decide (60000 < (ts.length : Int)) = false := by simp; omega
              clear h6
              go_wp2_with fail
              refine hsm.mono ?_
              rintro e w6 ⟨rfl, hB6⟩
              clear hsm
              go_wp2
              go_ret
              exact ⟨rfl, below_after HB05.out hB6⟩
end Go.Proofs.YtfdjchnckjgapaaGreatDoor
