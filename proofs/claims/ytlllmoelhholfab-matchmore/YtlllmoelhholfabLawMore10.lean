/-
  scansionlaw10.MatchMore.
-/
import Derived.Test.YtlllmoelhholfabMtLaw
namespace Go.Proofs.Ytlllmoelhholfab
open Go.RowKit Go.Shelf
set_option linter.unusedVariables false

theorem owns_empty (w : World) (base e size : Nat) (hb : base ≤ w.heap.size) : (w.alloc (.cells #[] e)).ownsRow base e size (.slice (some ⟨w.heap.size, 0, none⟩) 0 0) 0 [] :=
  ⟨by simp, .inr ⟨w.heap.size, 0, #[], rfl, hb, heap_new' w _, Nat.le_refl _, by unfold maxLen; omega, by simp, by simp⟩⟩
def cellW (l : List Nat) : List Value := l.map fun (n : Nat) => Value.int .u64 (n : Int)
theorem wrd_src {B : Nat} {w : World} {wa : Option Addr} {wc : Nat} {ws : List Nat} (h : WrdAt B w (.slice wa ws.length wc) ws) (hn : wa = none → wc = 0) : SrcIs w (.slice wa ws.length wc) ws.length 1 (cellW ws) := by
  obtain ⟨a, c, e, hc, hi⟩ := h
  obtain ⟨rfl, rfl⟩ : wa = a ∧ wc = c := by simpa using e
  cases wa with
  | none =>
    have h0 : ws = [] := by
      cases ws with
      | nil => rfl
      | cons x l => obtain ⟨_, g, off, e, _⟩ := hi 0 (by simp); cases e
    subst h0
    exact .inl ⟨by rw [hn rfl]; rfl, rfl, rfl⟩
  | some ad =>
    refine .inr ⟨ad, wc, rfl, by simp [cellW], fun j u hj => ?_, fun u hu => ?_⟩
    · have hlt : j < ws.length := by
        have := (List.getElem?_eq_some_iff.1 hj).1
        simpa [cellW] using this
      obtain ⟨_, g', off', e, _, hcell⟩ := hi j hlt
      cases e
      rw [addr_add, hcell]
      simp only [cellW, List.getElem?_map, List.getElem?_eq_getElem hlt, Option.map_some] at hj
      exact hj
    · obtain ⟨n, _, rfl⟩ := List.mem_map.1 hu
      rfl
theorem wrd_of_row {w : World} {base : Nat} {v : Value} {ws : List Nat} (h : w.ownsRow base 30 1 v ws.length (cellW ws)) (h64 : ∀ x ∈ ws, x < 18446744073709551616) : WrdAt w.heap.size w v ws := by
  rcases h.2 with ⟨rfl, h0⟩ | ⟨g, cap, cur, rfl, hb, hg, hc, hm, hs, ht⟩
  · obtain rfl : ws = [] := List.length_eq_zero_iff.1 h0
    exact ⟨none, 0, rfl, Nat.le_refl _, fun i hi => by cases hi⟩
  · refine ⟨_, cap, rfl, hc, fun i hi => ⟨h64 _ (List.getElem_mem hi), g, 0, rfl, lt_of_heap hg, ?_⟩⟩
    have := h.cells (g := g) rfl i (.int .u64 (ws[i] : Int)) (by simp [cellW, hi])
    rw [add_lit'] at this
    exact this
theorem wrd_64 {B : Nat} {w : World} {v : Value} {ws : List Nat} (h : WrdAt B w v ws) : ∀ x ∈ ws, x < 18446744073709551616 := fun x hx => by
  obtain ⟨i, hi, rfl⟩ := List.getElem_of_mem hx
  obtain ⟨_, _, _, _, hx⟩ := h
  exact (hx i hi).1
theorem suff_more (ws us : List Nat) (n : Nd) (h : suffP us n) : suffP (ws ++ us) n := by
  obtain ⟨hr, i, hi, hR⟩ := h
  refine ⟨hr, i + ws.length, by simp; omega, ?_⟩
  have ha : Agr us (ws ++ us) ws.length us.length := fun s q hq => by
    unfold bitW
    rw [List.getElem?_append_right (by omega), Nat.add_sub_cancel]
  have := (agrN ha n i us.length (Nat.le_refl _)).1 hR
  rw [List.length_append, Nat.add_comm ws.length]
  exact this
theorem pref_more (ws us : List Nat) (n : Nd) (h : prefP ws n) : prefP (ws ++ us) n := by
  obtain ⟨hr, i, hR⟩ := h
  refine ⟨hr, i, ?_⟩
  have hi : i ≤ ws.length := (fwdN ws n 0 i hR).2 (Nat.zero_le _)
  have ha : Agr ws (ws ++ us) 0 ws.length := fun s q hq => by
    unfold bitW
    rw [Nat.add_zero, List.getElem?_append_left hq]
  exact (agrN ha n 0 i hi).1 hR
set_option maxRecDepth 100000 in
set_option maxHeartbeats 16000000 in
theorem matchMore_any (a : Nd) (za : Value) (wa : Option Addr) (wc : Nat) (ws : List Nat) (ua : Option Addr) (uc : Nat) (us : List Nat) (w : World) (ha : KdX (fun k => k < w.heap.size) w za a.kids) (hw : WrdAt w.heap.size w (.slice wa ws.length wc) ws) (hnw : wa = none → wc = 0) (hu : WrdAt w.heap.size w (.slice ua us.length uc) us) (hnu : ua = none → uc = 0) :
    Calls Try.prog 3 #[ndV a za, .slice wa ws.length wc, .slice ua us.length uc] w fun e w' => e = .returned (.bool true) ∧ Below w.heap.size w w' := by
  obtain ⟨i0, hi0, hz0, hz1, hz2⟩ := info_parts Try.infoU
  obtain ⟨xa, ca, rfl, _⟩ := ha.slice
  obtain ⟨W0, hW0⟩ : ∃ W, W = w.alloc (.cells #[.int .i64 a.k, .int .i64 a.s, .slice xa a.kids.length ca] 24) := ⟨_, rfl⟩
  have hB0 : Below w.heap.size w W0 := by rw [hW0]; exact below_alloc _ _
  have hbA : Box W0 w.heap.size a.k a.s (.slice xa a.kids.length ca) := by rw [hW0]; exact box_new _ _ _ _
  have HA : Hid (KdX (fun k => k < w.heap.size) w (.slice xa a.kids.length ca) a.kids) := ha
  have HW : Hid (WrdAt w.heap.size w (.slice wa ws.length wc) ws) := hw
  have HU : Hid (WrdAt w.heap.size w (.slice ua us.length uc) us) := hu
  have HSW : Hid (∀ W, Below w.heap.size w W → SrcIs W (.slice wa ws.length wc) ws.length 1 (cellW ws)) := fun W h => wrd_src (wrd_below hw h) hnw
  have HSU : Hid (∀ W, Below w.heap.size w W → SrcIs W (.slice ua us.length uc) us.length 1 (cellW us)) := fun W h => wrd_src (wrd_below hu h) hnu
  have HFA : Hid (∀ W, Below w.heap.size w W → Calls Try.prog 5 #[ndV a (.slice xa a.kids.length ca), .slice wa ws.length wc] W fun e w' => ∃ b, e = .returned (.bool b) ∧ (b = true → Dp 12 a.kids ∧ ws.length ≤ 30) ∧ Below W.heap.size W w') := fun W h => few_any a _ wa ws.length wc W (kdx_below ha h)
  have HFB : Hid (∀ W, Below w.heap.size w W → Calls Try.prog 5 #[ndV a (.slice xa a.kids.length ca), .slice ua us.length uc] W fun e w' => ∃ b, e = .returned (.bool b) ∧ (b = true → Dp 12 a.kids ∧ us.length ≤ 30) ∧ Below W.heap.size W w') := fun W h => few_any a _ ua us.length uc W (kdx_below ha h)
  unfold ndV at HFA HFB ⊢
  obtain ⟨ak, hak⟩ : ∃ x, x = a.k := ⟨_, rfl⟩
  obtain ⟨as1, has1⟩ : ∃ x, x = a.s := ⟨_, rfl⟩
  obtain ⟨al, hal⟩ : ∃ x, x = a.kids.length := ⟨_, rfl⟩
  obtain ⟨wl, hwl⟩ : ∃ x, x = ws.length := ⟨_, rfl⟩
  obtain ⟨ul, hul⟩ : ∃ x, x = us.length := ⟨_, rfl⟩
  have HNA : Hid (ak = a.k ∧ as1 = a.s ∧ al = a.kids.length) := ⟨hak, has1, hal⟩
  have HWL : Hid (wl = ws.length) := hwl
  have HUL : Hid (ul = us.length) := hul
  rw [← hak, ← has1, ← hal] at HFA HFB hbA hW0 ⊢
  rw [← hal] at HA
  rw [← hwl] at HFA HW HSW ⊢
  rw [← hul] at HFB HU HSU ⊢
  have HB0 : Hid (Below w.heap.size w W0) := hB0
  have HBA : Hid (Box W0 w.heap.size ak as1 (.slice xa al ca)) := hbA
  have haw := awake_any W0
  rw [hW0] at haw
  clear hak has1 hal hwl hul ha hw hu hB0 hbA hnw hnu
  go_enter Try.func3, Try.ntmps3
  go_wp2_with fail
  refine haw.mono ?_
  rintro e w1 ⟨rfl, hB1⟩
  rw [← hW0] at hB1
  have HB1 : Hid (Below W0.heap.size W0 w1) := hB1
  obtain ⟨a0, a1, a2⟩ : _ ∧ _ ∧ _ := ⟨(HBA.out.below hB1).c0, (HBA.out.below hB1).c1, (HBA.out.below hB1).c2⟩
  have hf1 := HFA.out w1 (below_after HB0.out hB1)
  clear haw hB1 hW0
  go_wp2_with fail
  refine hf1.mono ?_
  rintro e w2 ⟨ok1, rfl, ho1, hB2⟩
  have HB2 : Hid (Below W0.heap.size W0 w2) := below_after HB1.out hB2
  have HO1 : Hid (ok1 = true → Dp 12 a.kids ∧ ws.length ≤ 30) := fun h => (by have := ho1 h; rwa [HWL.out] at this)
  clear hf1 hB2 a0 a1 a2 ho1
  obtain ⟨a0, a1, a2⟩ : _ ∧ _ ∧ _ := ⟨(HBA.out.below HB2.out).c0, (HBA.out.below HB2.out).c1, (HBA.out.below HB2.out).c2⟩
  have hf2 := HFB.out w2 (below_after HB0.out HB2.out)
  go_wp2_with fail
  refine hf2.mono ?_
  rintro e w3 ⟨ok2, rfl, ho2, hB3⟩
  have HB3 : Hid (Below W0.heap.size W0 w3) := below_after HB2.out hB3
  have HO2 : Hid (ok2 = true → Dp 12 a.kids ∧ us.length ≤ 30) := fun h => (by have := ho2 h; rwa [HUL.out] at this)
  have HBW3 : Hid (Below w.heap.size w w3) := below_after HB0.out HB3.out
  clear hf2 hB3 a0 a1 a2 ho2
  cases ok1 with
  | false =>
    go_wp2
    go_ret
    exact ⟨rfl, HBW3.out⟩
  | true =>
  cases ok2 with
  | false =>
    go_wp2
    go_ret
    exact ⟨rfl, HBW3.out⟩
  | true =>
  have HDA : Hid (Dp 12 a.kids) := (HO1.out rfl).1
  have hw30 : wl ≤ 30 := by have := (HO1.out rfl).2; have := HWL.out; omega
  have hu30 : ul ≤ 30 := by have := (HO2.out rfl).2; have := HUL.out; omega
  have HOE : Hid ((w3.alloc (.cells #[] 30)).ownsRow w3.heap.size 30 1 (.slice (some ⟨w3.heap.size, 0, none⟩) 0 0) 0 []) := owns_empty _ _ _ _ (Nat.le_refl _)
  have HBE : Hid (Below w3.heap.size w3 (w3.alloc (.cells #[] 30))) := below_alloc _ _
  clear HO1 HO2
  go_wp2_with (first | (at_builtin; go_loud (refine wpList_append_src _ rfl (.tmp 31) (.tmp 32) 25 rfl w3.heap.size 30 i0 (.int .u64 0) 1 8 Try.underlying25 hi0 hz0 hz1 hz2 rfl (by decide) _ _ _ rfl HOE.out _ rfl wl _ (HSW.out _ (below_after HBW3.out HBE.out)) (by unfold maxLen; omega) (by omega) (by simp) ?_; intro v4 w4 ho4 hg4; have HO4 : Hid (w4.ownsRow w3.heap.size 30 1 v4 (0 + wl) ([] ++ cellW ws)) := ho4; have HB4 : Hid (Below w3.heap.size w3 w4) := HBE.out.grown hg4 (by simp) (fun k e => (HOE.out.lt k e).1); clear ho4 hg4)) | (at_builtin; go_loud (refine wpList_append_src _ rfl (.tmp 33) (.tmp 34) 25 rfl w3.heap.size 30 i0 (.int .u64 0) 1 8 Try.underlying25 hi0 hz0 hz1 hz2 rfl (by decide) _ _ _ rfl HO4.out _ rfl ul _ (HSU.out _ (below_after HBW3.out HB4.out)) (by unfold maxLen; omega) (by omega) (by have := HB4.out.size; omega) ?_; intro v5 w5 ho5 hg5; have HO5 : Hid (w5.ownsRow w3.heap.size 30 1 v5 (0 + wl + ul) ([] ++ cellW ws ++ cellW us)) := ho5; have HB5 : Hid (Below w3.heap.size w3 w5) := HB4.out.grown hg5 (by have := HB4.out.size; omega) (fun k e => (HO4.out.lt k e).1); clear ho5 hg5; have HB05 : Hid (Below W0.heap.size W0 w5) := below_after HB3.out HB5.out; obtain ⟨a0, a1, a2⟩ : _ ∧ _ ∧ _ := ⟨(HBA.out.below HB05.out).c0, (HBA.out.below HB05.out).c1, (HBA.out.below HB05.out).c2⟩)) | fail)
  have HWR : Hid (WrdAt w5.heap.size w5 v5 (ws ++ us)) := by
    refine wrd_of_row (base := w3.heap.size) ?_ (fun x hx => ?_)
    · have := HO5.out
      rw [List.nil_append, Nat.zero_add] at this
      have e : cellW (ws ++ us) = cellW ws ++ cellW us := by simp [cellW]
      rw [e, List.length_append, ← HWL.out, ← HUL.out]
      exact this
    · rcases List.mem_append.1 hx with h | h
      · exact wrd_64 HW.out x h
      · exact wrd_64 HU.out x h
  obtain ⟨a5, c5, hv5, _⟩ : ∃ a5 c5, v5 = .slice a5 (ws ++ us).length c5 ∧ True := by
    obtain ⟨a5, c5, e, _⟩ := HWR.out
    exact ⟨a5, c5, e, trivial⟩
  obtain ⟨l5, hl5⟩ : ∃ l, l = (ws ++ us).length := ⟨_, rfl⟩
  rw [← hl5] at hv5
  subst hv5
  have HL5 : Hid (l5 = (ws ++ us).length) := hl5
  have hl64 : (ws ++ us).length < 64 := by rw [List.length_append, ← HWL.out, ← HUL.out]; omega
  have HBW5 : Hid (Below w.heap.size w w5) := below_after HBW3.out HB5.out
  obtain ⟨vs, hvs⟩ : ∃ x, x = suffB us a := ⟨_, rfl⟩
  obtain ⟨vp, hvp⟩ : ∃ x, x = prefB ws a := ⟨_, rfl⟩
  have HVS : Hid (vs = true → suffB (ws ++ us) a = true) := fun h => by
    rw [hvs] at h
    exact suffB_iff.2 (suff_more ws us a (suffB_iff.1 h))
  have HVP : Hid (vp = true → prefB (ws ++ us) a = true) := fun h => by
    rw [hvp] at h
    exact prefB_iff.2 (pref_more ws us a (prefB_iff.1 h))
  have h6 := suffix_any 12 (by omega) us (by rw [← HUL.out]; omega) a _ ua uc w5 HDA.out (kdx_below HA.out HBW5.out) (by rw [← HUL.out]; exact wrd_below HU.out HBW5.out)
  unfold ndV at h6
  rw [← HNA.out.1, ← HNA.out.2.1, ← HUL.out, ← hvs] at h6
  have HPX : Hid (∀ W, Below w.heap.size w W → Calls Try.prog 7 #[.agg #[.int .i64 ak, .int .i64 as1, .slice xa al ca], .slice wa wl wc] W fun e w' => e = .returned (.bool vp) ∧ Below W.heap.size W w') := fun W h => by
    have := prefix_any 12 (by omega) ws (by rw [← HWL.out]; omega) a _ wa wc W HDA.out (kdx_below HA.out h) (by rw [← HWL.out]; exact wrd_below HW.out h)
    unfold ndV at this
    rw [← HNA.out.1, ← HNA.out.2.1, ← HWL.out, ← hvp] at this
    exact this
  have HSA : Hid (∀ W, Below w5.heap.size w5 W → Calls Try.prog 6 #[.agg #[.int .i64 ak, .int .i64 as1, .slice xa al ca], .slice a5 l5 c5] W fun e w' => e = .returned (.bool (suffB (ws ++ us) a)) ∧ Below W.heap.size W w') := fun W h => by
    have := suffix_any 12 (by omega) (ws ++ us) hl64 a _ a5 c5 W HDA.out (kdx_below HA.out (below_after HBW5.out h)) (by rw [← HL5.out]; exact wrd_below HWR.out h)
    unfold ndV at this
    rw [← HNA.out.1, ← HNA.out.2.1, ← HL5.out] at this
    exact this
  have HPA : Hid (∀ W, Below w5.heap.size w5 W → Calls Try.prog 7 #[.agg #[.int .i64 ak, .int .i64 as1, .slice xa al ca], .slice a5 l5 c5] W fun e w' => e = .returned (.bool (prefB (ws ++ us) a)) ∧ Below W.heap.size W w') := fun W h => by
    have := prefix_any 12 (by omega) (ws ++ us) hl64 a _ a5 c5 W HDA.out (kdx_below HA.out (below_after HBW5.out h)) (by rw [← HL5.out]; exact wrd_below HWR.out h)
    unfold ndV at this
    rw [← HNA.out.1, ← HNA.out.2.1, ← HL5.out] at this
    exact this
  clear hvs hvp hl5
  refine Calls.mono h6 ?_
  rintro e w6 ⟨rfl, hB6⟩
  have HB6 : Hid (Below w5.heap.size w5 w6) := hB6
  clear h6 hB6 a0 a1 a2
  obtain ⟨a0, a1, a2⟩ : _ ∧ _ ∧ _ := ⟨((HBA.out.below HB05.out).below HB6.out).c0, ((HBA.out.below HB05.out).below HB6.out).c1, ((HBA.out.below HB05.out).below HB6.out).c2⟩
  have h7 := HPX.out w6 (below_after HBW5.out HB6.out)
  go_wp2_with fail
  refine h7.mono ?_
  rintro e w7 ⟨rfl, hB7⟩
  have HB7 : Hid (Below w5.heap.size w5 w7) := below_after HB6.out hB7
  clear h7 hB7 a0 a1 a2
  obtain ⟨a0, a1, a2⟩ : _ ∧ _ ∧ _ := ⟨((HBA.out.below HB05.out).below HB7.out).c0, ((HBA.out.below HB05.out).below HB7.out).c1, ((HBA.out.below HB05.out).below HB7.out).c2⟩
  cases vs with
  | false =>
    cases vp with
    | false =>
      go_wp2
      go_ret
      exact ⟨rfl, below_after HBW5.out HB7.out⟩
    | true =>
      have h8 := HPA.out w7 HB7.out
      rw [HVP.out rfl] at h8
      go_wp2_with fail
      refine h8.mono ?_
      rintro e w8 ⟨rfl, hB8⟩
      have HB8 : Hid (Below w.heap.size w w8) := below_after (below_after HBW5.out HB7.out) hB8
      clear h8 hB8 a0 a1 a2
      go_wp2
      go_ret
      exact ⟨rfl, HB8.out⟩
  | true =>
    have h8 := HSA.out w7 HB7.out
    rw [HVS.out rfl] at h8
    go_wp2_with fail
    refine h8.mono ?_
    rintro e w8 ⟨rfl, hB8⟩
    have HB8 : Hid (Below w5.heap.size w5 w8) := below_after HB7.out hB8
    clear h8 hB8 a0 a1 a2
    obtain ⟨a0, a1, a2⟩ : _ ∧ _ ∧ _ := ⟨((HBA.out.below HB05.out).below HB8.out).c0, ((HBA.out.below HB05.out).below HB8.out).c1, ((HBA.out.below HB05.out).below HB8.out).c2⟩
    cases vp with
    | false =>
      go_wp2
      go_ret
      exact ⟨rfl, below_after HBW5.out HB8.out⟩
    | true =>
      have h9 := HPA.out w8 HB8.out
      rw [HVP.out rfl] at h9
      go_wp2_with fail
      refine h9.mono ?_
      rintro e w9 ⟨rfl, hB9⟩
      have HB9 : Hid (Below w.heap.size w w9) := below_after (below_after HBW5.out HB8.out) hB9
      clear h9 hB9 a0 a1 a2
      go_wp2
      go_ret
      exact ⟨rfl, HB9.out⟩
end Go.Proofs.Ytlllmoelhholfab
