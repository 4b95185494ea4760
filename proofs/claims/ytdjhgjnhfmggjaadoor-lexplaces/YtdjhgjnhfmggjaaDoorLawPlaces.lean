/-
  scansionlaw07.LexPlaces, walked: it answers true.
-/
import Derived.Test.YtdjhgjnhfmggjaaDoorAw7
import Derived.Test.YtdjhgjnhfmggjaaDoorPlMath
import Derived.BigQuiet
namespace Go.Proofs.YtdjhgjnhfmggjaaDoor
open Go.RowKit Go.Shelf S1
set_option linter.unusedVariables false

set_option maxRecDepth 100000 in
set_option maxHeartbeats 8000000 in
theorem lexPlaces_any (zs : List Int) (hby : Byt zs) (ta : Option Addr) (cap : Nat) (w : World) (hsv : SynV w) (hI : BytesAt w.heap.size w (.slice ta zs.length cap) zs) :
    Calls Tryd.prog 5 #[.slice ta zs.length cap] w fun e w' => e = .returned (.bool true) ∧ Below w.heap.size w w' := by
  have haw := awake_any w hsv
  by_cases hz : 2000 < zs.length
  · have hz' : decide (2000 < (zs.length : Int)) = true := by simp; omega
    go_enter Tryd.func5, Tryd.ntmps5
    go_wp2_with fail
    refine haw.mono ?_
    rintro e w1 ⟨rfl, hB1⟩
    go_wp2
    go_ret
    exact ⟨rfl, hB1⟩
  · have hz' : decide (2000 < (zs.length : Int)) = false := by simp; omega
    obtain ⟨us, hus⟩ := Run.exists zs zs.length 0 (by omega) (Nat.zero_le _)
    have HUS : Hid (Run zs 0 us zs.length) := hus
    have HI : Hid (BytesAt w.heap.size w (.slice ta zs.length cap) zs) := hI
    have hzl : zs.length ≤ 2000 := by omega
    clear hus hI hz
    go_enter Tryd.func5, Tryd.ntmps5
    go_wp2_with fail
    refine haw.mono ?_
    rintro e w1 ⟨rfl, hB1⟩
    have hs1 := hB1.size
    have htk := tokens_any zs hby (by omega) us HUS.out ta cap w1 (hsv.grown (grownR_below hB1 none) (by simp)) ((HI.out.below hB1).mono hs1)
    obtain ⟨tr, htr⟩ : ∃ tr, tr = toksL zs.length us := ⟨_, rfl⟩
    rw [← htr] at htk
    have HTR : Hid (tr = toksL zs.length us) := htr
    clear htr haw
    go_wp2_with fail
    refine htk.mono ?_
    rintro e w2 (⟨a, x, rfl, rfl, hx, hB2⟩ | ⟨l, v, rfl, hll, rfl, hown, hso, hB2⟩)
    · obtain ⟨h1, h2, h3, h4⟩ := toksF_at (zs := zs) (by omega) ⟨0, HUS.out⟩ HTR.out.symm
      have hB : Below w.heap.size w w2 := hB1.trans (hB2.mono hs1)
      have hx' : (x != 0) = true := by simpa using hx
      have d1 : decide ((0 : Int) ≤ (a : Int)) = true := by simp
      have d2 : decide ((a : Int) ≤ (zs.length : Int)) = true := by simp; omega
      clear htk hx h4
      by_cases q7 : x = 7
      · subst q7
        have e := h2 rfl
        subst e
        clear h2 h3
        go_wp2
        go_ret
        exact ⟨rfl, hB⟩
      · have k7 : (x != 7) = true := by simpa using q7
        by_cases q6 : x = 6
        · subst q6
          have e := h3 rfl
          have d3 : decide ((a : Int) < (zs.length : Int)) = true := by simp; omega
          clear h2 h3
          go_wp2
          go_ret
          exact ⟨rfl, hB⟩
        · have k6 : (x != 6) = true := by simpa using q6
          clear h2 h3 q7 q6
          go_wp2
          go_ret
          exact ⟨rfl, hB⟩
    · have hpl : Placed zs 0 (l.map Prod.fst) := toksF_placed (k := us.length + 1) ⟨0, HUS.out⟩ (Nat.zero_le _) HTR.out.symm
      have HPL : Hid (Placed zs 0 (l.map Prod.fst)) := hpl
      have hB : Below w.heap.size w w2 := hB1.trans (hB2.mono hs1)
      have HTI : Hid (ToksIn w2 v l) := toks_of_row hown
      have HTX : Hid (TxtAt w.heap.size w2 (.slice ta zs.length cap) zs) := txt_of_bytes (HI.out.below hB) (Nat.le_refl _)
      obtain ⟨va, vc, rfl, _, _⟩ := toks_of_row hown
      obtain ⟨N, hN⟩ : ∃ N, l.length = N := ⟨_, rfl⟩
      have HNN : Hid (l.length = N) := hN
      rw [hN] at HTI hll ⊢
      have HSO : Hid (SetsOwn w2 w1.heap.size l) := hso
      clear htk hown hso hpl HI hN
      go_wp2
      go_loopw [7, 8] (fun xa xi wr => ∃ (k a : Nat), k ≤ N ∧ xi = .int .i64 k ∧ xa = .int .i64 a ∧ a ≤ 10000 ∧ (k < N → Placed zs a ((l.map Prod.fst).drop k)) ∧ Below w2.heap.size w2 wr) (fun _ xi _ => N - (intOf xi).toNat)
      case atStart => exact ⟨0, 0, Nat.zero_le _, rfl, rfl, by omega, fun _ => by simpa using HPL.out, Below.refl _ _⟩
      case round =>
        obtain ⟨k, a, hk, rfl, rfl, ha, hp, hBr⟩ := hrel
        have HP : Hid (k < N → Placed zs a ((l.map Prod.fst).drop k)) := hp
        clear hp
        have hbs := hBr.size
        by_cases hlt : k < N
        · obtain ⟨ad, cp, e, _, hcell⟩ := HTI.out
          obtain ⟨rfl, rfl⟩ : va = ad ∧ vc = cp := by simp at e; exact ⟨e.1, e.2.2⟩
          obtain ⟨g, off, rfl, hg, c0, c1, c2, c3⟩ := hcell k (by rw [HNN.out]; exact hlt)
          have hpk := HP.out hlt
          have hdr : (l.map Prod.fst).drop k = (l[k]'(by rw [HNN.out]; exact hlt)).1 :: (l.map Prod.fst).drop (k + 1) := by
            rw [List.drop_eq_getElem_cons (by rw [List.length_map, HNN.out]; exact hlt)]; simp
          rw [hdr] at hpk
          obtain ⟨p1, p2, p3, p4, p5⟩ := hpk
          obtain ⟨tk, htk⟩ : ∃ tk, tk = l[k]'(by rw [HNN.out]; exact hlt) := ⟨_, rfl⟩
          rw [← htk] at c0 c1 c2 c3 p1 p2 p3 p4 p5
          clear hdr hcell e
          obtain ⟨sa, sn, sc, hv2⟩ : ∃ sa sn sc, tk.2 = .slice sa sn sc := by
            obtain ⟨s', _, _, a', c', h, _⟩ := HSO.out.at k (by rw [HNN.out]; exact hlt)
            exact ⟨a', s'.length, c', by rw [htk]; exact h⟩
          clear htk
          obtain ⟨⟨kk, pp, tx, en⟩, sv⟩ := tk
          simp only at c0 c1 c2 c3 p1 p2 p3 p4 p5 hv2
          subst hv2
          obtain ⟨s, hs⟩ : ∃ s, s = strOfNums tx := ⟨_, rfl⟩
          have hsz : s.size = tx.length := by rw [hs, strOfNums_size]
          rw [← hs] at c2
          have b0 : wr.cell? ⟨g, off + k * 4, none⟩ = some (.int .i64 kk) := (hBr.cell (p := ⟨g, _, none⟩) hg).trans c0
          have b1 : wr.cell? ⟨g, off + k * 4 + 1, none⟩ = some (.int .i64 (pp : Int)) := (hBr.cell (p := ⟨g, _, none⟩) hg).trans c1
          have b2 : wr.cell? ⟨g, off + k * 4 + 2, none⟩ = some (.string s) := (hBr.cell (p := ⟨g, _, none⟩) hg).trans c2
          have b3 : wr.cell? ⟨g, off + k * 4 + 3, none⟩ = some (.slice sa sn sc) := (hBr.cell (p := ⟨g, _, none⟩) hg).trans c3
          have hg' : g < wr.heap.size := by omega
          have hBt : Below w2.heap.size w2 (wr.alloc (.cells #[.int .i64 kk, .int .i64 (pp : Int), .string s, .slice sa sn sc] 30)) := hBr.alloc hbs _
          have hTX0 : TxtAt w.heap.size (wr.alloc (.cells #[.int .i64 kk, .int .i64 (pp : Int), .string s, .slice sa sn sc] 30)) (.slice ta zs.length cap) zs := HTX.out.far (grownR_below hBt none) (fun j e => by cases e)
          have HTXn : Hid (∀ n, TxtAt w.heap.size ((wr.alloc (.cells #[.int .i64 kk, .int .i64 (pp : Int), .string s, .slice sa sn sc] 30)).drewN n) (.slice ta zs.length cap) zs) := fun n => hTX0.far (row := none) (grownR_drewN (World.grownBy.refl _ _) n) (fun j e => by cases e)
          have hcapz : zs.length ≤ cap := by obtain ⟨_, _, e, hc, _⟩ := hTX0; simp at e; omega
          have HBn : Hid (∀ n, Below w2.heap.size w2 ((wr.alloc (.cells #[.int .i64 kk, .int .i64 (pp : Int), .string s, .slice sa sn sc] 30)).drewN n)) := fun n => below_drewN' hBt n
          have d1 : decide ((pp : Int) < (a : Int)) = false := by simp; omega
          have d1' : decide (pp < a) = false := by simp; omega
          have d2 : decide ((zs.length : Int) < (pp : Int)) = false := by simp; omega
          have d2' : decide (zs.length < pp) = false := by simp; omega
          have d3 : decide ((zs.length : Int) - (pp : Int) < (s.size : Int)) = false := by simp; omega
          have n0 : (0 : Int) ≤ (pp : Int) := by omega
          have n1 : (pp : Int) ≤ (pp : Int) + (s.size : Int) := by omega
          have n2 : (pp : Int) + (s.size : Int) ≤ (zs.length : Int) := by omega
          have n3 : (pp : Int) + (s.size : Int) ≤ (cap : Int) := by omega
          have hszb : s.size ≤ 2000 := by omega
          have hppb : pp ≤ 2000 := by omega
          have HP2 : Hid (pp + tx.length ≤ zs.length) := p2
          have HP3 : Hid (cutZ zs pp (pp + tx.length) = tx) := p3
          have HP4 : Hid (kk = 3 → zs[pp]? = some 91) := p4
          have HS : Hid (s = strOfNums tx) := hs
          have HSZ : Hid (s.size = tx.length) := hsz
          have HN : Hid ((kk = 4 ∧ k + 1 = N) ∨ (kk ≠ 4 ∧ k + 1 < N ∧ Placed zs (pp + max tx.length 1) ((l.map Prod.fst).drop (k + 1)))) := by
            rcases p5 with ⟨q1, q2, _⟩ | ⟨q1, q2, q3⟩
            · refine .inl ⟨q1, ?_⟩
              have := congrArg List.length q2
              have hN := HNN.out
              simp at this
              omega
            · refine .inr ⟨q1, ?_, q3⟩
              rcases Nat.lt_or_ge (k + 1) N with z | z
              · exact z
              · exact absurd (List.drop_eq_nil_of_le (by rw [List.length_map, HNN.out]; exact z)) q2
          clear p1 p2 p3 p4 p5 hs hsz c0 c1 c2 c3 hTX0
          by_cases q0 : s.size = 0
          · by_cases q3 : kk = 3
            · subst q3
              have hlt0 : pp < zs.length := by
                have := HP4.out rfl
                exact (List.getElem?_eq_some_iff.1 this).1
              obtain ⟨tg, to, hta, htg, htc⟩ : ∃ g off, ta = some ⟨g, off, none⟩ ∧ g < w.heap.size ∧ ∀ n, ((wr.alloc (.cells #[.int .i64 3, .int .i64 (pp : Int), .string s, .slice sa sn sc] 30)).drewN n).cell? ⟨g, off + pp, none⟩ = some (.int .u8 91) := by
                obtain ⟨a', c', e, _, hi⟩ := HTXn.out 0
                obtain ⟨g1, o1, h1, h2, _⟩ := hi pp hlt0
                refine ⟨g1, o1, by simp at e; rw [e.1, h1], h2, fun n => ?_⟩
                obtain ⟨a2, c2, e2, _, hi2⟩ := HTXn.out n
                obtain ⟨g2, o2, h3, h4, h5⟩ := hi2 pp hlt0
                have e3 : a' = a2 := by simp at e e2; rw [← e.1, ← e2.1]
                rw [← e3, h1] at h3
                obtain ⟨rfl, rfl⟩ : g1 = g2 ∧ o1 = o2 := by simpa using h3
                rw [h5]
                have := HP4.out rfl
                rw [List.getElem?_eq_getElem hlt0] at this
                injection this with this
                rw [this]
              subst hta
              have k3 : decide ((zs.length : Int) ≤ (pp : Int)) = false := by simp; omega
              have k3' : decide (zs.length ≤ pp) = false := by simp; omega
              have n4 : (pp : Int) < (zs.length : Int) := by omega
              have e0 : s = ⟨#[]⟩ := by rw [HS.out, show tx = [] from List.length_eq_zero_iff.1 (by have := HSZ.out; omega)]; rfl
              have hcv : ∀ n a' c', (convert 27 9 (.slice a' 0 c')).run Tryd.prog ((wr.alloc (.cells #[.int .i64 3, .int .i64 (pp : Int), .string ⟨#[]⟩, .slice sa sn sc] 30)).drewN n) = .ok (.string ⟨#[]⟩) ((wr.alloc (.cells #[.int .i64 3, .int .i64 (pp : Int), .string ⟨#[]⟩, .slice sa sn sc] 30)).drewN n) := fun n a' c' =>
                TxtAt.conv (R := 0) (l := []) ⟨a', c', rfl, Nat.zero_le _, fun i hi => by cases hi⟩
              have e1 : tx.length = 0 := by have := HSZ.out; omega
              have HMX : Hid (pp + max tx.length 1 = pp + 1) := by show _ = _; rw [e1]; rfl
              subst e0
              have hs0 : (⟨#[]⟩ : ByteArray).size = 0 := rfl
              have d3a : decide ((zs.length : Int) - (pp : Int) < 0) = false := by simp; omega
              have n5 : (pp : Int) ≤ (zs.length : Int) := by omega
              have n6 : (pp : Int) ≤ (cap : Int) := by omega
              clear d3 n1 n2 n3
              clear e1 q0 hs0 hszb
              have hl1 : k + 1 < N := by
                rcases HN.out with q | q
                · exact absurd q.1 (by decide)
                · exact q.2.1
              have kl : ((k : Int) == (N : Int) - 1) = false := by simp; omega
              have hki : (0 : Int) ≤ (k : Int) := by omega
              have hkl : (k : Int) < (N : Int) := by omega
              clear HTXn HP2 HP3 HP4 HS HSZ
              go_wp2
              go_quiet (fail)
              all_goals
                go_wp2
                go_roundw
                case rel => exact ⟨k + 1, pp + 1, by omega, by go_num, by go_num, by omega, fun hh => (by
                  rcases HN.out with q | q
                  · have := q.2; omega
                  · have := q.2.2; rw [HMX.out] at this; exact this), HBn.out _⟩
                case measure => simp [intOf]; omega
            · by_cases q4 : kk = 4
              · subst q4
                clear q3
                have e0 : s = ⟨#[]⟩ := by rw [HS.out, show tx = [] from List.length_eq_zero_iff.1 (by have := HSZ.out; omega)]; rfl
                have hcv : ∀ n a' c', (convert 27 9 (.slice a' 0 c')).run Tryd.prog ((wr.alloc (.cells #[.int .i64 4, .int .i64 (pp : Int), .string ⟨#[]⟩, .slice sa sn sc] 30)).drewN n) = .ok (.string ⟨#[]⟩) ((wr.alloc (.cells #[.int .i64 4, .int .i64 (pp : Int), .string ⟨#[]⟩, .slice sa sn sc] 30)).drewN n) := fun n a' c' =>
                  TxtAt.conv (R := 0) (l := []) ⟨a', c', rfl, Nat.zero_le _, fun i hi => by cases hi⟩
                have e1 : tx.length = 0 := by have := HSZ.out; omega
                have HMX : Hid (pp + max tx.length 1 = pp + 1) := by show _ = _; rw [e1]; rfl
                subst e0
                have hs0 : (⟨#[]⟩ : ByteArray).size = 0 := rfl
                have d3a : decide ((zs.length : Int) - (pp : Int) < 0) = false := by simp; omega
                have n5 : (pp : Int) ≤ (zs.length : Int) := by omega
                have n6 : (pp : Int) ≤ (cap : Int) := by omega
                clear d3 n1 n2 n3
                clear e1 q0 hs0 hszb
                have hl1 : k + 1 = N := by
                  rcases HN.out with q | q
                  · exact q.2
                  · exact absurd rfl q.1
                have kl : ((k : Int) == (N : Int) - 1) = true := by simp; omega
                have HL1 : Hid (k + 1 = N) := hl1
                clear hl1
                have hki : (0 : Int) ≤ (k : Int) := by omega
                have hkl : (k : Int) < (N : Int) := by omega
                clear HTXn HP2 HP3 HP4 HS HSZ
                go_wp2
                go_quiet (fail)
                all_goals
                  go_wp2
                  go_roundw
                  case rel => exact ⟨k + 1, pp + 1, by omega, by go_num, by go_num, by omega, fun hh => (by
                    rcases HN.out with q | q
                    · have := q.2; omega
                    · have := q.2.2; rw [HMX.out] at this; exact this), HBn.out _⟩
                  case measure => simp [intOf]; omega
              · skip
                have e0 : s = ⟨#[]⟩ := by rw [HS.out, show tx = [] from List.length_eq_zero_iff.1 (by have := HSZ.out; omega)]; rfl
                have hcv : ∀ n a' c', (convert 27 9 (.slice a' 0 c')).run Tryd.prog ((wr.alloc (.cells #[.int .i64 kk, .int .i64 (pp : Int), .string ⟨#[]⟩, .slice sa sn sc] 30)).drewN n) = .ok (.string ⟨#[]⟩) ((wr.alloc (.cells #[.int .i64 kk, .int .i64 (pp : Int), .string ⟨#[]⟩, .slice sa sn sc] 30)).drewN n) := fun n a' c' =>
                  TxtAt.conv (R := 0) (l := []) ⟨a', c', rfl, Nat.zero_le _, fun i hi => by cases hi⟩
                have e1 : tx.length = 0 := by have := HSZ.out; omega
                have HMX : Hid (pp + max tx.length 1 = pp + 1) := by show _ = _; rw [e1]; rfl
                subst e0
                have hs0 : (⟨#[]⟩ : ByteArray).size = 0 := rfl
                have d3a : decide ((zs.length : Int) - (pp : Int) < 0) = false := by simp; omega
                have n5 : (pp : Int) ≤ (zs.length : Int) := by omega
                have n6 : (pp : Int) ≤ (cap : Int) := by omega
                clear d3 n1 n2 n3
                clear e1 q0 hs0 hszb
                have hl1 : k + 1 < N := by
                  rcases HN.out with q | q
                  · exact absurd q.1 (by assumption)
                  · exact q.2.1
                have kl : ((k : Int) == (N : Int) - 1) = false := by simp; omega
                have kk3 : (kk == 3) = false := by simpa using q3
                have kk4 : (kk == 4) = false := by simpa using q4
                clear q3 q4
                have hki : (0 : Int) ≤ (k : Int) := by omega
                have hkl : (k : Int) < (N : Int) := by omega
                clear HTXn HP2 HP3 HP4 HS HSZ
                go_wp2
                go_quiet (fail)
                all_goals
                  go_wp2
                  go_roundw
                  case rel => exact ⟨k + 1, pp + 1, by omega, by go_num, by go_num, by omega, fun hh => (by
                    rcases HN.out with q | q
                    · have := q.2; omega
                    · have := q.2.2; rw [HMX.out] at this; exact this), HBn.out _⟩
                  case measure => simp [intOf]; omega
          · by_cases q3 : kk = 3
            · subst q3
              have hlt0 : pp < zs.length := by
                have := HP4.out rfl
                exact (List.getElem?_eq_some_iff.1 this).1
              obtain ⟨tg, to, hta, htg, htc⟩ : ∃ g off, ta = some ⟨g, off, none⟩ ∧ g < w.heap.size ∧ ∀ n, ((wr.alloc (.cells #[.int .i64 3, .int .i64 (pp : Int), .string s, .slice sa sn sc] 30)).drewN n).cell? ⟨g, off + pp, none⟩ = some (.int .u8 91) := by
                obtain ⟨a', c', e, _, hi⟩ := HTXn.out 0
                obtain ⟨g1, o1, h1, h2, _⟩ := hi pp hlt0
                refine ⟨g1, o1, by simp at e; rw [e.1, h1], h2, fun n => ?_⟩
                obtain ⟨a2, c2, e2, _, hi2⟩ := HTXn.out n
                obtain ⟨g2, o2, h3, h4, h5⟩ := hi2 pp hlt0
                have e3 : a' = a2 := by simp at e e2; rw [← e.1, ← e2.1]
                rw [← e3, h1] at h3
                obtain ⟨rfl, rfl⟩ : g1 = g2 ∧ o1 = o2 := by simpa using h3
                rw [h5]
                have := HP4.out rfl
                rw [List.getElem?_eq_getElem hlt0] at this
                injection this with this
                rw [this]
              subst hta
              have k3 : decide ((zs.length : Int) ≤ (pp : Int)) = false := by simp; omega
              have k3' : decide (zs.length ≤ pp) = false := by simp; omega
              have n4 : (pp : Int) < (zs.length : Int) := by omega
              have hcv : ∀ n, (convert 27 9 (.slice (some ⟨tg, to + pp, none⟩) s.size (cap - pp))).run Tryd.prog ((wr.alloc (.cells #[.int .i64 3, .int .i64 (pp : Int), .string s, .slice sa sn sc] 30)).drewN n) = .ok (.string s) ((wr.alloc (.cells #[.int .i64 3, .int .i64 (pp : Int), .string s, .slice sa sn sc] 30)).drewN n) := fun n => by
                have h := ((HTXn.out n).cut (p := pp) (q := pp + tx.length) HP2.out (some ⟨tg, to + pp, none⟩) (cap - pp) (by have := HP2.out; omega) (fun _ => rfl)).conv
                rw [HP3.out, ← HS.out, show pp + tx.length - pp = s.size by rw [HSZ.out]; omega] at h
                exact h
              have hne1 : ¬ (cap = pp) := by omega
              have hne2 : ¬ (cap - pp = 0) := by omega
              have HMX : Hid (pp + max tx.length 1 = pp + s.size) := by show _ = _; rw [← HSZ.out, Nat.max_eq_left (by omega)]
              have hge : ¬ ((s.size : Int) < 1) := by omega
              have hge2 : decide ((s.size : Int) < 1) = false := by simpa using hge
              have hge3 : max (s.size : Int) 1 = (s.size : Int) := Int.max_eq_left (by omega)
              have hl1 : k + 1 < N := by
                rcases HN.out with q | q
                · exact absurd q.1 (by decide)
                · exact q.2.1
              have kl : ((k : Int) == (N : Int) - 1) = false := by simp; omega
              have hki : (0 : Int) ≤ (k : Int) := by omega
              have hkl : (k : Int) < (N : Int) := by omega
              clear HTXn HP2 HP3 HP4 HS HSZ
              go_wp2
              go_quiet (fail)
              go_wp2
              go_roundw
              case rel => exact ⟨k + 1, pp + s.size, by omega, by go_num, by go_num, by omega, fun hh => (by
                rcases HN.out with q | q
                · have := q.2; omega
                · have := q.2.2; rw [HMX.out] at this; exact this), HBn.out _⟩
              case measure => simp [intOf]; omega
            · by_cases q4 : kk = 4
              · subst q4
                clear q3
                obtain ⟨tg0, to0, hta0⟩ : ∃ g off, ta = some ⟨g, off, none⟩ := by
                  obtain ⟨a', c', e, _, hi⟩ := HTXn.out 0
                  obtain ⟨g1, o1, h1, _⟩ := hi 0 (by omega)
                  exact ⟨g1, o1, by simp at e; rw [e.1, h1]⟩
                subst hta0
                have hcv : ∀ n, (convert 27 9 (.slice (some ⟨tg0, to0 + pp, none⟩) s.size (cap - pp))).run Tryd.prog ((wr.alloc (.cells #[.int .i64 4, .int .i64 (pp : Int), .string s, .slice sa sn sc] 30)).drewN n) = .ok (.string s) ((wr.alloc (.cells #[.int .i64 4, .int .i64 (pp : Int), .string s, .slice sa sn sc] 30)).drewN n) := fun n => by
                  have h := ((HTXn.out n).cut (p := pp) (q := pp + tx.length) HP2.out (some ⟨tg0, to0 + pp, none⟩) (cap - pp) (by have := HP2.out; omega) (fun _ => rfl)).conv
                  rw [HP3.out, ← HS.out, show pp + tx.length - pp = s.size by rw [HSZ.out]; omega] at h
                  exact h
                have hne1 : ¬ (cap = pp) := by omega
                have hne2 : ¬ (cap - pp = 0) := by omega
                have HMX : Hid (pp + max tx.length 1 = pp + s.size) := by show _ = _; rw [← HSZ.out, Nat.max_eq_left (by omega)]
                have hge : ¬ ((s.size : Int) < 1) := by omega
                have hge2 : decide ((s.size : Int) < 1) = false := by simpa using hge
                have hge3 : max (s.size : Int) 1 = (s.size : Int) := Int.max_eq_left (by omega)
                have hl1 : k + 1 = N := by
                  rcases HN.out with q | q
                  · exact q.2
                  · exact absurd rfl q.1
                have kl : ((k : Int) == (N : Int) - 1) = true := by simp; omega
                have HL1 : Hid (k + 1 = N) := hl1
                clear hl1
                have hki : (0 : Int) ≤ (k : Int) := by omega
                have hkl : (k : Int) < (N : Int) := by omega
                clear HTXn HP2 HP3 HP4 HS HSZ
                go_wp2
                go_quiet (fail)
                go_wp2
                go_roundw
                case rel => exact ⟨k + 1, pp + s.size, by omega, by go_num, by go_num, by omega, fun hh => (by
                  rcases HN.out with q | q
                  · have := q.2; omega
                  · have := q.2.2; rw [HMX.out] at this; exact this), HBn.out _⟩
                case measure => simp [intOf]; omega
              · skip
                obtain ⟨tg0, to0, hta0⟩ : ∃ g off, ta = some ⟨g, off, none⟩ := by
                  obtain ⟨a', c', e, _, hi⟩ := HTXn.out 0
                  obtain ⟨g1, o1, h1, _⟩ := hi 0 (by omega)
                  exact ⟨g1, o1, by simp at e; rw [e.1, h1]⟩
                subst hta0
                have hcv : ∀ n, (convert 27 9 (.slice (some ⟨tg0, to0 + pp, none⟩) s.size (cap - pp))).run Tryd.prog ((wr.alloc (.cells #[.int .i64 kk, .int .i64 (pp : Int), .string s, .slice sa sn sc] 30)).drewN n) = .ok (.string s) ((wr.alloc (.cells #[.int .i64 kk, .int .i64 (pp : Int), .string s, .slice sa sn sc] 30)).drewN n) := fun n => by
                  have h := ((HTXn.out n).cut (p := pp) (q := pp + tx.length) HP2.out (some ⟨tg0, to0 + pp, none⟩) (cap - pp) (by have := HP2.out; omega) (fun _ => rfl)).conv
                  rw [HP3.out, ← HS.out, show pp + tx.length - pp = s.size by rw [HSZ.out]; omega] at h
                  exact h
                have hne1 : ¬ (cap = pp) := by omega
                have hne2 : ¬ (cap - pp = 0) := by omega
                have HMX : Hid (pp + max tx.length 1 = pp + s.size) := by show _ = _; rw [← HSZ.out, Nat.max_eq_left (by omega)]
                have hge : ¬ ((s.size : Int) < 1) := by omega
                have hge2 : decide ((s.size : Int) < 1) = false := by simpa using hge
                have hge3 : max (s.size : Int) 1 = (s.size : Int) := Int.max_eq_left (by omega)
                have hl1 : k + 1 < N := by
                  rcases HN.out with q | q
                  · exact absurd q.1 (by assumption)
                  · exact q.2.1
                have kl : ((k : Int) == (N : Int) - 1) = false := by simp; omega
                have kk3 : (kk == 3) = false := by simpa using q3
                have kk4 : (kk == 4) = false := by simpa using q4
                clear q3 q4
                have hki : (0 : Int) ≤ (k : Int) := by omega
                have hkl : (k : Int) < (N : Int) := by omega
                clear HTXn HP2 HP3 HP4 HS HSZ
                go_wp2
                go_quiet (fail)
                go_wp2
                go_roundw
                case rel => exact ⟨k + 1, pp + s.size, by omega, by go_num, by go_num, by omega, fun hh => (by
                  rcases HN.out with q | q
                  · have := q.2; omega
                  · have := q.2.2; rw [HMX.out] at this; exact this), HBn.out _⟩
                case measure => simp [intOf]; omega
        · obtain rfl : k = N := by omega
          have hne := HPL.out.ne
          have hpos : 0 < k := by
            rcases Nat.eq_zero_or_pos k with z | z
            · exact absurd (by rw [List.length_eq_zero_iff.1 (HNN.out.trans z)]; rfl) hne
            · exact z
          have hN := HNN.out
          have hlast := HPL.out.last (by simp; omega)
          obtain ⟨ad, cp, e, _, hcell⟩ := HTI.out
          obtain ⟨rfl, rfl⟩ : va = ad ∧ vc = cp := by simp at e; exact ⟨e.1, e.2.2⟩
          obtain ⟨g, off, rfl, hg, c0, c1, c2, c3⟩ := hcell (k - 1) (by omega)
          have hlast' : (l[k - 1]'(by omega)).1.p = zs.length := by simpa [hN] using hlast
          rw [hlast'] at c1
          have b1 : wr.cell? ⟨g, off + (k - 1) * 4 + 1, none⟩ = some (.int .i64 (zs.length : Int)) := (hBr.cell (p := ⟨g, _, none⟩) hg).trans c1
          have hp1 : (0 : Int) < (k : Int) := by omega
          have hp2 : (0 : Int) ≤ (k : Int) - 1 := by omega
          have hp3 : (k : Int) - 1 < (k : Int) := by omega
          have hp4 : ((k : Int) - 1).toNat = k - 1 := by omega
          clear c0 c1 c2 c3 hlast hlast' hcell hne e HP hN
          go_wp2
          go_ret
          exact ⟨rfl, hB.trans (hBr.mono hB.size)⟩
end Go.Proofs.YtdjhgjnhfmggjaaDoor
