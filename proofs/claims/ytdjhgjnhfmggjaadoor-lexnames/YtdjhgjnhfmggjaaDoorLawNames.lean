/-
  scansionlaw07.LexNames, walked: it answers true.
-/
import Derived.Test.YtdjhgjnhfmggjaaDoorNames2
import Derived.BigQuiet
namespace Go.Proofs.YtdjhgjnhfmggjaaDoor
open Go.RowKit Go.Shelf S1
set_option linter.unusedVariables false

theorem ascU_map : ∀ (p : Nat) (t : List Int), (ascU p t).map U.r = t
  | _, [] => rfl
  | p, c :: t => by simp [ascU, ascU_map (p + 1) t]
theorem ascU_mem : ∀ (p : Nat) (t : List Int) (u : U), u ∈ ascU p t → u.bad = false ∧ u.r ∈ t
  | _, [], u, h => by cases h
  | p, c :: t, u, h => by
    rcases List.mem_cons.1 h with rfl | h
    · exact ⟨rfl, by simp⟩
    · have := ascU_mem (p + 1) t u h
      exact ⟨this.1, by simp [this.2]⟩
theorem takeWhile_full {p : U → Bool} : ∀ {l : List U}, (∀ u ∈ l, p u = true) → l.takeWhile p = l ∧ l.dropWhile p = []
  | [], _ => ⟨rfl, rfl⟩
  | u :: t, h => by
    have h1 := h u (by simp)
    obtain ⟨i1, i2⟩ := takeWhile_full (p := p) (l := t) (fun v hv => h v (by simp [hv]))
    simp [h1, i1, i2]
theorem ascU_length : ∀ (p : Nat) (t : List Int), (ascU p t).length = t.length
  | _, [] => rfl
  | p, c :: t => by simp [ascU, ascU_length (p + 1) t]
theorem nameZ_asc {zs : List Int} (h : nameZ zs = true) : ∀ c ∈ zs, 0 ≤ c ∧ c < 128 := by
  cases zs with
  | nil => cases h
  | cons c t =>
    simp only [nameZ, Bool.and_eq_true, List.all_eq_true] at h
    intro d hd
    rcases List.mem_cons.1 hd with rfl | hd
    · have := h.1; simp [nameB] at this; omega
    · have := h.2 d hd; simp [nameR, nameB, decB] at this; omega
theorem toks_name {zs : List Int} (h : nameZ zs = true) : toksL zs.length (ascU 0 zs) = TR.good [⟨1, 0, zs, []⟩, ⟨4, zs.length, [], []⟩] := by
  cases zs with
  | nil => cases h
  | cons c t =>
    simp only [nameZ, Bool.and_eq_true, List.all_eq_true] at h
    have hc : 97 ≤ c ∧ c ≤ 122 := by have := h.1; simp [nameB] at this; exact this
    have hb : blankL false (ascU 0 (c :: t)) = ascU 0 (c :: t) := by
      show blankL false (⟨c, 0, 1, false⟩ :: ascU 1 t) = _
      have h35 : c ≠ 35 := by omega
      have hbl : blankR c = false := by simp [blankR]; omega
      simp [blankL, h35, hbl, ascU]
    obtain ⟨w1, w2⟩ := takeWhile_full (p := fitU nameR) (l := ascU 1 t) (fun u hu => by
      have := ascU_mem 1 t u hu
      simp [fitU, this.1, h.2 u.r this.2])
    have ht : tokO (c :: t).length (blankL false (ascU 0 (c :: t))) = OR.good ⟨1, 0, c :: t, []⟩ [] := by
      rw [hb]
      show tokO _ (⟨c, 0, 1, false⟩ :: ascU 1 t) = _
      rw [tokO_name (by simp [fitU, h.1]), w1, w2, ascU_map]
    unfold toksL
    rw [toksF_on ht (by exact (by decide : (1 : Int) ≠ 4)), ascU_length]
    have ht2 : tokO (c :: t).length (blankL false []) = OR.good ⟨4, (c :: t).length, [], []⟩ [] := rfl
    have h3 := toksF_end (k := t.length) (acc := [⟨1, 0, c :: t, []⟩]) ht2 rfl
    exact h3
theorem name_first {n k : Nat} {us : List U} {l : List Tok} (h : toksF n k us [] = TR.good l) (h0 : 0 < l.length) (h1 : l[0].k = 1) : nameZ l[0].t = true := by
  cases k with
  | zero => cases h
  | succ k =>
    have key : ∀ {vs : List U} {t : Tok} {r : List U}, tokO n vs = OR.good t r → t.k = 1 → nameZ t.t = true := fun {vs t r} ht hk => by
      cases vs with
      | nil =>
        have h' : OR.good ⟨4, n, [], []⟩ [] = OR.good t r := ht
        obtain ⟨e1, e2⟩ := Prod.mk.inj (Sum.inr.inj h')
        rw [← e1] at hk; cases hk
      | cons u t' =>
        rw [tokO_cons] at ht
        split at ht
        · rename_i q
          obtain ⟨e1, e2⟩ := Prod.mk.inj (Sum.inr.inj ht)
          rw [← e1]
          simp only [nameZ, Bool.and_eq_true, List.all_eq_true]
          refine ⟨by simp [fitU] at q; exact q.2, fun x hx => ?_⟩
          obtain ⟨v, hv, rfl⟩ := List.mem_map.1 hx
          have := takeWhile_all _ _ v hv
          simp [fitU] at this
          exact this.2
        · split at ht
          · obtain ⟨e1, e2⟩ := Prod.mk.inj (Sum.inr.inj ht)
            rw [← e1] at hk; cases hk
          · split at ht
            · cases h3 : setF n (t'.length + 1) t' [] with
              | inl x => rw [h3] at ht; cases ht
              | inr x =>
                obtain ⟨l, s⟩ := x
                rw [h3] at ht
                obtain ⟨e1, e2⟩ := Prod.mk.inj (Sum.inr.inj ht)
                rw [← e1] at hk; cases hk
            · cases ht
    obtain ⟨t, r, h2, ⟨_, e⟩ | ⟨_, l', e, _⟩⟩ := toksF_cons h
    · subst e; exact key h2 h1
    · subst e; exact key h2 h1

theorem two_of {l : List (Tok × Value)} {a b : Tok} (h : l.map Prod.fst = [a, b]) : ∃ x0 x1, l = [x0, x1] := by
  match l, h with
  | [x0, x1], _ => exact ⟨x0, x1, rfl⟩
theorem bytes_world (w : World) (s : ByteArray) (cap : Nat) (hc : s.size ≤ cap) : BytesAt (Lib.bytesWorld w 5 s).heap.size (Lib.bytesWorld w 5 s) (.slice (some ⟨w.heap.size, 0, none⟩) (numsOf s).length cap) (numsOf s) := by
  refine .inr ⟨w.heap.size, 0, cap, rfl, by rw [numsOf_length]; exact hc, by rw [Lib.bytesWorld_size]; omega, fun j hj => ?_⟩
  rw [numsOf_length] at hj
  rw [Nat.zero_add, Lib.bytesWorld_cell w 5 s j hj]
  congr 2
  have hj2 : j < (numsOf s).length := by rw [numsOf_length]; exact hj
  rw [List.getElem?_eq_getElem hj2, numsOf_get s j hj hj2]
  simp only [List.getD, Array.getElem?_toList]
  rw [Array.getElem?_eq_getElem hj]
  rfl
theorem cap_ge (w : World) (n : Nat) (t : TypeId) : n ≤ grownCap w n 0 t := by
  exact grownCap_ge w n 0 t

set_option maxRecDepth 100000 in
set_option maxHeartbeats 8000000 in
theorem lexNames_any (s : ByteArray) (w : World) (hsv : SynV w) :
    Calls Tryd.prog 3 #[.string s] w fun e w' => e = .returned (.bool true) ∧ Below w.heap.size w w' := by
  have haw := awake_any w hsv
  by_cases hz : 2000 < s.size
  · have hz' : decide (2000 < (s.size : Int)) = true := by simp; omega
    go_enter Tryd.func3, Tryd.ntmps3
    go_wp2_with fail
    refine haw.mono ?_
    rintro e w1 ⟨rfl, hB1⟩
    go_wp2
    go_ret
    exact ⟨rfl, hB1⟩
  · have hz' : decide (2000 < (s.size : Int)) = false := by simp; omega
    have hzl : s.size ≤ 2000 := by omega
    obtain ⟨us, hus⟩ := Run.exists (numsOf s) (numsOf s).length 0 (by omega) (Nat.zero_le _)
    have HUS : Hid (Run (numsOf s) 0 us (numsOf s).length) := hus
    clear hus hz
    go_enter Tryd.func3, Tryd.ntmps3
    go_wp2_with fail
    refine haw.mono ?_
    rintro e w1 ⟨rfl, hB1⟩
    have hs1 := hB1.size
    have hcv := Lib.run_convert_string_bytes (P := Tryd.prog) w1 9 27 5 s (u := .string) Tryd.underlying9 Tryd.underlying27 Tryd.underlying5
    have hB2 := below_bytes w1 5 s
    have hsv2 : SynV (Lib.bytesWorld w1 5 s) := (hsv.grown (grownR_below hB1 none) (by simp)).grown (grownR_below hB2 none) (by simp)
    have htk := tokens_any (numsOf s) (numsOf_byt s) (by rw [numsOf_length]; omega) us HUS.out (some ⟨w1.heap.size, 0, none⟩) (grownCap w1 s.size 0 5) _ hsv2 (bytes_world w1 s _ (cap_ge _ _ _))
    rw [numsOf_length] at htk
    obtain ⟨W2, hW2⟩ : ∃ W2, W2 = Lib.bytesWorld w1 5 s := ⟨_, rfl⟩
    rw [← hW2] at htk hcv hB2
    obtain ⟨tr, htr⟩ : ∃ tr, tr = toksL s.size us := ⟨_, rfl⟩
    rw [← htr] at htk
    have HTR : Hid (tr = toksL s.size us) := htr
    have hB02 : Below w.heap.size w W2 := hB1.trans (hB2.mono hs1)
    have hn1 := fun W => lexName_any s hzl W
    have hn2 : ∀ W, Calls Tryd.prog 10 #[.string s] W fun e w' => e = .returned (.bool (nameZ (numsOf s))) ∧ W = w' := fun W => (refName_any s hzl W).mono fun _ _ h => ⟨h.1, h.2.symm⟩
    clear htr haw hW2 hsv2
    cases hnm : nameZ (numsOf s) with
    | true =>
      rw [hnm] at hn1 hn2
      have hue : us = ascU 0 (numsOf s) := Run.unique HUS.out (run_ascii (nameZ_asc hnm))
      have HT2 : Hid (tr = TR.good [⟨1, 0, numsOf s, []⟩, ⟨4, s.size, [], []⟩]) := by
        have := toks_name hnm
        rw [numsOf_length] at this
        show _ = _
        rw [HTR.out, hue, this]
      clear hnm hue
      go_wp2_with fail
      refine htk.mono ?_
      rintro e w3 (⟨a, x, h, _⟩ | ⟨l, v, hl, _, rfl, hown, hso, hB3⟩)
      · rw [HT2.out] at h; cases h
      · rw [HT2.out] at hl
        have hl := Sum.inr.inj hl
        obtain ⟨x0, x1, rfl⟩ := two_of hl.symm
        · simp only [List.map_cons, List.map_nil, List.cons.injEq, and_true] at hl
          obtain ⟨ad, cp, rfl, _, hcell⟩ := toks_of_row hown
          obtain ⟨g, off, rfl, hg, c0, c1, c2, c3⟩ := hcell 0 (by simp)
          simp only [List.getElem_cons_zero] at c0 c2
          rw [← hl.1] at c0 c2
          rw [numsOf_str] at c2
          simp only [Nat.zero_mul, Nat.add_zero] at c0 c2
          simp only [List.length_cons, List.length_nil, Nat.zero_add, Nat.reduceAdd]
          have hB03 : Below w.heap.size w w3 := hB02.trans (hB3.mono hB02.size)
          clear hcell hown hso hl htk c1 c3 hcv hB3
          go_wp2_with fail
          refine (hn1 _).mono ?_
          rintro e w4 ⟨rfl, hB4⟩
          go_wp2_with fail
          refine (hn2 _).mono ?_
          rintro e w5 ⟨rfl, rfl⟩
          go_wp2_with fail
          refine (hn1 _).mono ?_
          rintro e w6 ⟨rfl, hB6⟩
          go_wp2
          go_ret
          exact ⟨rfl, hB03.trans ((hB4.mono hB03.size).trans (hB6.mono (Nat.le_trans hB03.size hB4.size)))⟩
    | false =>
      rw [hnm] at hn1 hn2
      have HNM : Hid (nameZ (numsOf s) = false) := hnm
      clear hnm
      have hend : ∀ w3, Below w.heap.size w w3 → True := fun _ _ => trivial
      go_wp2_with fail
      refine htk.mono ?_
      rintro e w3 (⟨a, x, _, rfl, hx, hB3⟩ | ⟨l, v, hl, hll, rfl, hown, hso, hB3⟩)
      · have hx' : (x == 0) = false := by simpa using hx
        have hB03 : Below w.heap.size w w3 := hB02.trans (hB3.mono hB02.size)
        clear htk hcv hx hB3
        go_wp2_with fail
        refine (hn1 _).mono ?_
        rintro e w4 ⟨rfl, hB4⟩
        go_wp2_with fail
        refine (hn2 _).mono ?_
        rintro e w5 ⟨rfl, rfl⟩
        go_wp2_with fail
        refine (hn1 _).mono ?_
        rintro e w6 ⟨rfl, hB6⟩
        go_wp2
        go_ret
        exact ⟨rfl, hB03.trans ((hB4.mono hB03.size).trans (hB6.mono (Nat.le_trans hB03.size hB4.size)))⟩
      · have hB03 : Below w.heap.size w w3 := hB02.trans (hB3.mono hB02.size)
        have HFST : Hid (∀ h0 : 0 < l.length, l[0].1.k = 1 → nameZ l[0].1.t = true) := fun h0 h1 => by
          have := name_first (k := us.length + 1) (n := s.size) (us := us) (l := l.map Prod.fst) (HTR.out.symm.trans hl) (by simpa using h0) (by simpa using h1)
          simpa using this
        obtain ⟨ad, cp, rfl, _, hcell⟩ := toks_of_row hown
        by_cases hl2 : l.length = 2
        · obtain ⟨g, off, rfl, hg, c0, c1, c2, c3⟩ := hcell 0 (by omega)
          simp only [Nat.zero_mul, Nat.add_zero] at c0 c2
          have hf := HFST.out (by omega)
          obtain ⟨x0, hx0⟩ : ∃ x0, x0 = l[0]'(by omega) := ⟨_, rfl⟩
          rw [← hx0] at c0 c2 hf
          rw [hl2]
          by_cases hk : x0.1.k = 1
          · have hne : strOfNums x0.1.t ≠ s := fun e => by
              have h1 := hf hk
              have h2 : x0.1.t = numsOf s := by
                have hb : ∀ c ∈ x0.1.t, 0 ≤ c ∧ c ≤ 255 := fun c hc => by have := nameZ_asc h1 c hc; omega
                rw [← e]
                unfold numsOf
                rw [strOfNums_data, List.map_map]
                have : ∀ c ∈ x0.1.t, ((fun b : UInt8 => (b.toNat : Int)) ∘ fun n : Int => UInt8.ofNat n.toNat) c = c := fun c hc => by
                  have := hb c hc
                  simp only [Function.comp]
                  rw [UInt8.toNat_ofNat']
                  omega
                rw [List.map_congr_left this, List.map_id']
              rw [h2, HNM.out] at h1
              cases h1
            obtain ⟨st, hst⟩ : ∃ st, st = strOfNums x0.1.t := ⟨_, rfl⟩
            rw [← hst] at c2 hne
            rw [hk] at c0
            have hne' : (st.toList == s.toList) = false := by
              rw [beq_eq_false_iff_ne]
              intro e
              apply hne
              rw [ByteArray.toList_eq, ByteArray.toList_eq] at e
              cases st; cases s
              simp only at e
              congr 1
              exact Array.toList_inj.1 e
            clear hcell hown hso hl htk c1 c3 hcv hB3 hf hst hk hx0 hl2 hll hne
            go_wp2_with fail
            refine (hn1 _).mono ?_
            rintro e w4 ⟨rfl, hB4⟩
            go_wp2_with fail
            refine (hn2 _).mono ?_
            rintro e w5 ⟨rfl, rfl⟩
            go_wp2_with fail
            refine (hn1 _).mono ?_
            rintro e w6 ⟨rfl, hB6⟩
            go_wp2
            go_ret
            exact ⟨rfl, hB03.trans ((hB4.mono hB03.size).trans (hB6.mono (Nat.le_trans hB03.size hB4.size)))⟩
          · have hk' : (x0.1.k == 1) = false := by simpa using hk
            clear hcell hown hso hl htk c1 c3 hcv hB3 hf hx0 hl2 hll
            go_wp2_with fail
            refine (hn1 _).mono ?_
            rintro e w4 ⟨rfl, hB4⟩
            go_wp2_with fail
            refine (hn2 _).mono ?_
            rintro e w5 ⟨rfl, rfl⟩
            go_wp2_with fail
            refine (hn1 _).mono ?_
            rintro e w6 ⟨rfl, hB6⟩
            go_wp2
            go_ret
            exact ⟨rfl, hB03.trans ((hB4.mono hB03.size).trans (hB6.mono (Nat.le_trans hB03.size hB4.size)))⟩
        · have hl2' : ((l.length : Int) == 2) = false := by simp; omega
          clear hcell hown hso hl htk hcv hB3 hl2
          go_wp2_with fail
          refine (hn1 _).mono ?_
          rintro e w4 ⟨rfl, hB4⟩
          go_wp2_with fail
          refine (hn2 _).mono ?_
          rintro e w5 ⟨rfl, rfl⟩
          go_wp2_with fail
          refine (hn1 _).mono ?_
          rintro e w6 ⟨rfl, hB6⟩
          go_wp2
          go_ret
          exact ⟨rfl, hB03.trans ((hB4.mono hB03.size).trans (hB6.mono (Nat.le_trans hB03.size hB4.size)))⟩
end Go.Proofs.YtdjhgjnhfmggjaaDoor
