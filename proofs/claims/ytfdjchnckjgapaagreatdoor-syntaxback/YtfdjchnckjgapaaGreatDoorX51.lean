/-
  BkProg AscM LawBack
-/
import Derived.Test.YtfdjchnckjgapaaGreatDoorX50
import Derived.Test.YtfdjchnckjgapaaGreatDoorX48
import Derived.Test.YtfdjchnckjgapaaGreatDoorX34
namespace Go.Proofs.YtfdjchnckjgapaaGreatDoor
open Go.RowKit Go.Shelf S1
set_option linter.unusedVariables false
variable {st : Sts}
theorem reg0_sign {c : Int} (h : c = 47 ∨ c = 59) : Reg0 (sgK c) := by
  rcases h with rfl | rfl <;> exact ⟨⟨by decide, by decide⟩, by decide⟩
theorem endN_eat (N : Nms) {b : Nat} {K : List Tok} {s s' : Sts} {x : Nd} (h : Eat Reg0 (regexM N b) K s x s') {c : Int} (hc : c = 47 ∨ c = 59) :
    ∀ ts R, ts.map shT = K ++ (sgK c :: R) → ∃ r, r.map shT = R ∧ endN c (regexM N b ts s) = .inr (x, r, s') := by
  intro ts R he
  obtain ⟨r, hr, e⟩ := h ts _ he (reg0_sign hc)
  obtain ⟨u, r2, rfl, hu, hr2⟩ := sh_cons hr
  refine ⟨r2, hr2, ?_⟩
  have h1 : tkSign c u = true := (sign_sh (u := sgK c) (by rw [hu]; rfl)).trans (by simp [tkSign])
  rw [e]
  show (if tkSign c u = true then _ else _) = _
  rw [if_pos h1]
  rfl
theorem back_rule (N : Nms) (ha : Apart st) (h60 : st.length ≤ 60) {x : Rl} (hd : Dp 120 x.l.kids ∧ Dp 120 x.r.kids) {m m1 m2 : Nat} (h1 : mayN 120 0 0 m x.l = some m1) (h2 : mayN 120 0 0 m1 x.r = some m2) (hl : m2 ≤ st.length) :
    ∀ ts R, ts.map shT = rlK st x ++ R → ∃ r, r.map shT = R ∧ tkRule (hdT ts) = true ∧ tkWord wSet (hdT ts) = false ∧ (hdT ts).k ≠ 4 ∧ ruleM N ts (st.take m) = .inr (x, r, st.take m2) := by
  intro ts R he
  have ho : ∀ {n : Nd} {a b : Nat}, mayN 120 0 0 a n = some b → okN 120 0 0 n = true ∧ metN 120 a n = some b := fun {n a b} h => by
    unfold mayN at h
    split at h
    · rename_i q; exact ⟨q, h⟩
    · cases h
  obtain ⟨o1, e1⟩ := ho h1
  obtain ⟨o2, e2⟩ := ho h2
  have hle := metN_ge e2
  have hL := (back_node N ha h60 120 x.l 0 0 m m1 o1 (by omega) (by omega) hd.1 e1 (by omega)).2.2
  have hR := (back_node N ha h60 120 x.r 0 0 m1 m2 o2 (by omega) (by omega) hd.2 e2 hl).2.2
  have he' : ts.map shT = ⟨1, 0, if x.b = true then wBreak else wKeep, []⟩ :: (tkN 120 st x.l ++ (sgK 47 :: (tkN 120 st x.r ++ (sgK 59 :: R)))) := by
    rw [he]; simp [rlK, kwK]
  obtain ⟨u, t1, rfl, hu, ht1⟩ := sh_cons he'
  obtain ⟨r1, hr1, q1⟩ := endN_eat N hL (c := 47) (.inl rfl) t1 _ ht1
  obtain ⟨r2, hr2, q2⟩ := endN_eat N hR (c := 59) (.inr rfl) r1 _ hr1
  have hk : u.k = 1 := congrArg Tok.k hu
  have ht : u.t = if x.b = true then wBreak else wKeep := congrArg Tok.t hu
  refine ⟨r2, hr2, ?_, ?_, ?_, ?_⟩
  · show tkRule u = true
    unfold tkRule tkWord
    rw [hk, ht]
    cases x.b <;> decide
  · show tkWord wSet u = false
    unfold tkWord
    rw [hk, ht]
    cases x.b <;> decide
  · show u.k ≠ 4
    rw [hk]; decide
  · have hb : tkWord wBreak u = x.b := by
      unfold tkWord
      rw [hk, ht]
      cases x.b <;> decide
    unfold ruleM
    show (match endN 47 (regexM N 20 t1 (st.take m)) with | .inl e => _ | .inr (l, r, st1) => _) = _
    rw [q1]
    simp only
    rw [q2]
    simp only
    rw [show hdT (u :: t1) = u from rfl, hb]
theorem mayR_ge : ∀ {rl : List Rl} {m m' : Nat}, mayR m rl = some m' → m ≤ m'
  | [], m, m', h => by obtain rfl : m = m' := Option.some.inj h; exact Nat.le_refl _
  | x :: rl, m, m', h => by
    have ho : ∀ {n : Nd} {a b : Nat}, mayN 120 0 0 a n = some b → a ≤ b := fun {n a b} h => by
      unfold mayN at h
      split at h
      · exact metN_ge h
      · cases h
    unfold mayR at h
    split at h
    · cases h
    · rename_i a e
      split at h
      · cases h
      · rename_i b e2
        have := ho e
        have := ho e2
        have := mayR_ge h
        omega
theorem back_text (N : Nms) (ha : Apart st) (h60 : st.length ≤ 60) : ∀ {rl : List Rl} {m m' : Nat} {acc : List Rl} {f : Nat} {ts : List Tok} {e : Tok}, (∀ x ∈ rl, Dp 120 x.l.kids ∧ Dp 120 x.r.kids) → mayR m rl = some m' → m' ≤ st.length → acc.length + rl.length ≤ 64 → rl.length < f → e.k = 4 → ts.map shT = progK st rl ++ [e] →
    textF f N acc ts (st.take m) = .inr (acc ++ rl, st.take m')
  | [], m, m', acc, f, ts, e, _, h, _, _, hf, he, hts => by
    obtain rfl : m = m' := Option.some.inj h
    obtain ⟨g, rfl⟩ : ∃ g, f = g + 1 := ⟨f - 1, by simp at hf; omega⟩
    obtain ⟨u, r, rfl, hu, _⟩ := sh_cons hts
    have hk : u.k = 4 := (congrArg Tok.k hu).trans he
    unfold textF
    rw [if_pos (show (hdT (u :: r)).k = 4 from hk), List.append_nil]
  | x :: rl, m, m', acc, f, ts, e, hd, h, hl, hlen, hf, he, hts => by
    obtain ⟨g, rfl⟩ : ∃ g, f = g + 1 := ⟨f - 1, by simp at hf; omega⟩
    unfold mayR at h
    split at h
    · cases h
    · rename_i a e1
      split at h
      · cases h
      · rename_i b e2
        have hge := mayR_ge h
        have hts' : ts.map shT = rlK st x ++ (progK st rl ++ [e]) := by rw [hts]; simp [progK]
        obtain ⟨r, hr, q1, q2, q3, q4⟩ := back_rule N ha h60 (hd x (by simp)) e1 e2 (by omega) ts _ hts'
        simp only [List.length_cons] at hlen hf
        have := back_text N ha h60 (acc := acc ++ [x]) (f := g) (fun y hy => hd y (by simp [hy])) h hl (by simp; omega) (by omega) he hr
        unfold textF
        rw [if_neg q3, if_neg (by rw [q2]; decide), if_neg (by rw [q1]; decide), if_neg (by omega), q4]
        simp only
        rw [this, List.append_assoc]
        rfl
theorem can_prog (hS : ∀ s ∈ st, mkS s = s) : ∀ {rl : List Rl}, (∀ x ∈ rl, SIn 120 st.length x.l ∧ SIn 120 st.length x.r) → (progK st rl).map canT = progK st rl := by
  have hsg : ∀ k, (signTk k).map canT = signTk k := fun k => by
    unfold signTk
    split
    · rfl
    · split
      · rfl
      · split <;> rfl
  have hhd : ∀ {n : Nd}, (n.k = 1 → 0 ≤ n.s ∧ n.s < (st.length : Int)) → (headK st n).map canT = headK st n := fun {n} h => by
    unfold headK
    split
    · rename_i q
      obtain ⟨h0, h1⟩ := h q
      have hl : n.s.toNat < st.length := by omega
      have e2 : st.getD n.s.toNat [] = st[n.s.toNat] := by simp [List.getD, hl]
      rw [e2]
      simp only [List.map_cons, List.map_nil, canT, hS _ (List.getElem_mem hl)]
    · rfl
  have hK : ∀ {g : Nd → List Tok} {k : Int} {l : List Nd} {fst : Bool}, (∀ x ∈ l, (g x).map canT = g x) → (tkK g k fst l).map canT = tkK g k fst l := fun {g k l fst} h => by
    induction l generalizing fst with
    | nil => rfl
    | cons x l ih =>
      have h1 : (barK fst k).map canT = barK fst k := by unfold barK; split <;> rfl
      have h2 : (brK (inBr x.k k) (g x)).map canT = brK (inBr x.k k) (g x) := by
        unfold brK
        split
        · simp only [List.map_cons, List.map_append, h x (by simp)]; rfl
        · exact h x (by simp)
      unfold tkK
      rw [List.map_append, List.map_append, h1, h2, ih fun y hy => h y (by simp [hy])]
  have hN : ∀ {f : Nat} {n : Nd}, SIn f st.length n → (tkN f st n).map canT = tkN f st n := fun {f} => by
    induction f with
    | zero => intro n h; unfold tkN; rw [List.map_append, hhd h.here, hsg]
    | succ f ih => intro n h; unfold tkN; rw [List.map_append, List.map_append, hhd h.here, hsg, hK fun x hx => ih (h.2 x hx)]
  intro rl h
  induction rl with
  | nil => rfl
  | cons x rl ih =>
    have hx := h x (by simp)
    have e1 : (rlK st x).map canT = rlK st x := by
      unfold rlK kwK
      simp only [List.map_append, List.map_cons, List.map_nil, hN hx.1, hN hx.2]
      rfl
    show (rlK st x ++ progK st rl).map canT = rlK st x ++ progK st rl
    rw [List.map_append, e1, ih fun y hy => h y (by simp [hy])]
theorem setsF_parts : ∀ {k : Nat}, setsF k st = true → k ≤ st.length → (∀ i, (hi : i < k) → (h : i < st.length) → isSetB st[i] = true) ∧ ∀ i j, (hij : i < j) → (hj : j < k) → (h : j < st.length) → st[i]'(Nat.lt_trans hij h) ≠ st[j]
  | 0, _, _ => ⟨fun i hi => by omega, fun i j _ hj => by omega⟩
  | k + 1, h, hk => by
    unfold setsF at h
    have hkl : k < st.length := by omega
    rw [Bool.and_eq_true, List.getElem?_eq_getElem hkl] at h
    simp only [Bool.and_eq_true] at h
    obtain ⟨h1, h2, h3⟩ := h
    obtain ⟨p1, p2⟩ := setsF_parts h1 (by omega)
    refine ⟨fun i hi hl => ?_, fun i j hij hj hl => ?_⟩
    · by_cases q : i = k
      · subst q; exact h2
      · exact p1 i (by omega) hl
    · by_cases q : j = k
      · subst q
        intro e
        have : (st.take j).any (fun x => sameS x st[j]) = true := List.any_eq_true.2 ⟨st[i], List.mem_take_iff_getElem.2 ⟨i, by omega, rfl⟩, sameS_iff.2 e⟩
        rw [this] at h3
        cases h3
      · exact p2 i j hij (by omega) hl
theorem back_parse {rl : List Rl} (hr : rightB st rl = true) (hd : ∀ x ∈ rl, Dp 120 x.l.kids ∧ Dp 120 x.r.kids) (n : Nat) : parseL (toksL n (ascU 0 (progT (st.map setL) rl))) = .inr (rl, st) := by
  obtain ⟨p1, p2, hsets, hmay⟩ := rightB_parts hr
  have hset : setsF st.length st = true := by
    unfold rightB at hr
    simp only [Bool.and_eq_true] at hr
    exact hr.1.2
  obtain ⟨s1, s2⟩ := setsF_parts hset (Nat.le_refl _)
  have ha : Apart st := fun i j hi hj e => by
    rcases Nat.lt_trichotomy i j with q | q | q
    · exact absurd e (s2 i j q hj hj)
    · exact q
    · exact absurd e.symm (s2 j i q hi hi)
  have hS : ∀ s ∈ st, mkS s = s := fun s hs => by
    have := hsets s hs
    unfold isSetB at this
    rw [Bool.and_eq_true] at this
    exact sameS_iff.1 this.2
  have hSI := (mayR_in hd hmay).1
  obtain ⟨ts, e, h⟩ := (lx_prog (st := st) (fun s hs => isSetB_fits (hsets s hs)) hSI).all n
  rw [h]
  have hts : ((ts ++ [(⟨4, n, [], []⟩ : Tok)]).map canT).map shT = progK st rl ++ [⟨4, 0, [], mkS []⟩] := by
    rw [List.map_append, List.map_append, List.map_map]
    have : shT ∘ canT = canT ∘ shT := rfl
    rw [this, ← List.map_map, e, can_prog hS hSI]
    rfl
  have hlen : rl.length ≤ ts.length := by
    have h1 : ts.length = (progK st rl).length := by rw [← e, List.length_map]
    rw [h1]
    clear h hts hSI hmay hr e h1 p2
    induction rl with
    | nil => exact Nat.le_refl _
    | cons x rl ih =>
      have := ih fun y hy => hd y (by simp [hy])
      show _ ≤ (rlK st x ++ progK st rl).length
      have h2 : 1 ≤ (rlK st x).length := by unfold rlK kwK; simp
      simp only [List.length_cons, List.length_append]; omega
  have := back_text (st := st) (fun _ => none) ha p1 (acc := []) (f := (ts ++ [(⟨4, n, [], []⟩ : Tok)]).length + 1) hd hmay (Nat.le_refl _) (by simpa using p2) (by simp; omega) rfl hts
  rw [List.take_zero, List.take_length, List.nil_append] at this
  show (match textF _ _ [] _ [] with | .inl (r, e) => _ | .inr x => _) = _
  rw [this]
end Go.Proofs.YtfdjchnckjgapaaGreatDoor

namespace Go.Proofs.YtfdjchnckjgapaaGreatDoor
open Go.RowKit Go.Shelf S1
set_option linter.unusedVariables false
def Asc (l : List Int) : Prop := ∀ c ∈ l, 0 ≤ c ∧ c < 128
theorem signT_asc (k : Int) : Asc (signT k) := by
  intro c hc
  unfold signT at hc
  split at hc
  · simp at hc; omega
  · split at hc
    · simp at hc; omega
    · split at hc
      · simp at hc; omega
      · cases hc
theorem txK_asc {g : Nd → List Int} {k : Int} : ∀ {l : List Nd} {fst : Bool}, (∀ x ∈ l, Asc (g x)) → Asc (txK g k fst l)
  | [], _, _ => fun c hc => (by cases hc)
  | x :: l, fst, h => fun c hc => by
    unfold txK at hc
    rcases List.mem_append.1 hc with q | q
    · unfold barT at q
      split at q
      · simp at q; omega
      · cases q
    · rcases List.mem_append.1 q with q | q
      · unfold brT at q
        split at q
        · rcases List.mem_cons.1 q with q | q
          · omega
          · rcases List.mem_append.1 q with q | q
            · exact h x (by simp) c q
            · simp at q; omega
        · exact h x (by simp) c q
      · exact txK_asc (fun y hy => h y (by simp [hy])) c q
theorem txN_asc {S : List (List Int)} (hS : ∀ s ∈ S, Asc s) : ∀ (f : Nat) (n : Nd), Asc (txN f S n)
  | f, n => by
    have hh : Asc (headT S n) := by
      unfold headT
      split
      · rw [List.getD_eq_getElem?_getD]
        cases h : S[n.s.toNat]? with
        | none => intro c hc; cases hc
        | some s => exact hS s (List.mem_of_getElem? h)
      · intro c hc; cases hc
    cases f with
    | zero =>
      intro c hc
      unfold txN at hc
      rcases List.mem_append.1 hc with q | q
      · exact hh c q
      · exact signT_asc _ c q
    | succ f =>
      intro c hc
      unfold txN at hc
      rcases List.mem_append.1 hc with q | q
      · exact hh c q
      · rcases List.mem_append.1 q with q | q
        · exact txK_asc (fun x _ => txN_asc hS f x) c q
        · exact signT_asc _ c q
theorem progT_asc {st : Sts} {rl : List Rl} : ∀ c ∈ progT (st.map setL) rl, 0 ≤ c ∧ c < 128 := by
  have hS : ∀ s ∈ st.map setL, Asc s := fun s hs c hc => by
    obtain ⟨l, _, rfl⟩ := List.mem_map.1 hs
    have := setL_byt l c hc
    omega
  intro c hc
  obtain ⟨x, _, hx⟩ := List.mem_flatMap.1 hc
  unfold rlT at hx
  rcases List.mem_append.1 hx with q | q
  · unfold kwT at q
    split at q <;> (simp at q; omega)
  · rcases List.mem_append.1 q with q | q
    · exact txN_asc hS 120 _ c q
    · rcases List.mem_cons.1 q with q | q
      · omega
      · rcases List.mem_append.1 q with q | q
        · exact txN_asc hS 120 _ c q
        · simp at q; omega
end Go.Proofs.YtfdjchnckjgapaaGreatDoor

namespace Go.Proofs.YtfdjchnckjgapaaGreatDoor
open Go.RowKit Go.Shelf S1
set_option linter.unusedVariables false
theorem TxtB.bytes {w : World} {v : Value} {l : List Int} (h : TxtB w v l) : ∃ a cap, v = .slice a l.length cap ∧ BytesAt w.heap.size w (.slice a l.length cap) l := by
  obtain ⟨a, cap, rfl, hc, _, hi⟩ := h
  refine ⟨a, cap, rfl, ?_⟩
  cases l with
  | nil => exact .inl ⟨a, cap, rfl, rfl⟩
  | cons c l =>
    obtain ⟨g, off, rfl, hg, _⟩ := hi 0 (by simp)
    refine .inr ⟨g, off, cap, rfl, hc, hg, fun j hj => ?_⟩
    obtain ⟨g', off', e, _, h0⟩ := hi j hj
    cases e
    rw [h0, List.getElem?_eq_getElem hj]
    rfl
set_option maxRecDepth 100000 in
set_option maxHeartbeats 16000000 in
theorem law_back (st : Sts) (rl : List Rl) (sv rv : Value) (w : World) (hsv : SynV w) (hdb : DbV w) (h : SetSrc w sv st) (k : RulIn w rv rl) :
    Calls Tryz.prog 5 #[.agg #[sv, rv]] w fun e w' => e = .returned (.bool true) ∧ Below w.heap.size w w' := by
  have HSA : Hid (SetSrc w sv st) := h
  have HRA : Hid (RulIn w rv rl) := k
  have HDB : Hid (DbV w) := hdb
  have HSV : Hid (SynV w) := hsv
  obtain ⟨za, ca, rfl, hca, _⟩ := h
  obtain ⟨ya, da, rfl, hda, _⟩ := k
  obtain ⟨ns, hns⟩ : ∃ x, x = st.length := ⟨_, rfl⟩
  obtain ⟨nr, hnr⟩ : ∃ x, x = rl.length := ⟨_, rfl⟩
  have HNS : Hid (ns = st.length) := hns
  have HNR : Hid (nr = rl.length) := hnr
  rw [← hns] at HSA hca ⊢
  rw [← hnr] at HRA hda ⊢
  clear hns hnr
  have HB0 : Hid (Below w.heap.size w (w.alloc (.cells #[.slice za ns ca, .slice ya nr da] 27))) := below_alloc _ _
  have HE0 : Hid ((w.alloc (.cells #[.slice za ns ca, .slice ya nr da] 27)).heap[w.heap.size]? = some (.cells #[.slice za ns ca, .slice ya nr da] 27 (0, 0))) := heap_new' w _
  have haw := awake8_any (w.alloc (.cells #[.slice za ns ca, .slice ya nr da] 27)) (hsv.grown (World.grownBy_alloc _ _ none) (by simp))
  clear hsv hdb
  go_enter Tryz.func5, Tryz.ntmps5
  go_wp2_with fail
  refine haw.mono ?_
  rintro e w1 ⟨rfl, hB1⟩
  have HB01 : Hid (Below w.heap.size w w1) := below_after HB0.out hB1
  have HE1 : Hid (w1.heap[w.heap.size]? = some (.cells #[.slice za ns ca, .slice ya nr da] 27 (0, 0))) := (hB1.block _ (by simp)).trans HE0.out
  have hlt1 : w.heap.size < w1.heap.size := (Array.getElem?_eq_some_iff.1 HE1.out).1
  have d0 : w1.cell? ⟨w.heap.size, 0, none⟩ = some (.slice za ns ca) := cell_of_row _ _ 0 _ _ _ HE1.out
  have d1 : w1.cell? ⟨w.heap.size, 1, none⟩ = some (.slice ya nr da) := cell_of_row _ _ 1 _ _ _ HE1.out
  have hfw := few_any st rl (.slice za ns ca) (.slice ya nr da) w1 (HSA.out.in.below HB01.out) (HRA.out.below HB01.out)
  clear haw hB1
  go_wp2_with fail
  refine hfw.mono ?_
  rintro e w2 ⟨b, rfl, hbk, hB2⟩
  clear hfw d0 d1
  have HB02 : Hid (Below w.heap.size w w2) := below_after HB01.out hB2
  have HE2 : Hid (w2.heap[w.heap.size]? = some (.cells #[.slice za ns ca, .slice ya nr da] 27 (0, 0))) := (hB2.block _ hlt1).trans HE1.out
  clear hB2 hlt1
  cases b with
  | false =>
    clear hbk
    go_wp2
    go_ret
    exact ⟨rfl, HB02.out⟩
  | true =>
    have HOK : Hid (FewOk st rl) := hbk rfl
    have hlt2 : w.heap.size < w2.heap.size := (Array.getElem?_eq_some_iff.1 HE2.out).1
    have d0 : w2.cell? ⟨w.heap.size, 0, none⟩ = some (.slice za ns ca) := cell_of_row _ _ 0 _ _ _ HE2.out
    have d1 : w2.cell? ⟨w.heap.size, 1, none⟩ = some (.slice ya nr da) := cell_of_row _ _ 1 _ _ _ HE2.out
    have hpr := print_any8 st rl HOK.out (.slice za ns ca) (.slice ya nr da) w2 (HDB.out.below HB02.out HDB.out.2) (HSA.out.in.below HB02.out) (HRA.out.below HB02.out)
    clear hbk
    go_wp2_with fail
    refine hpr.mono ?_
    clear hpr
    rintro e w3 ⟨hB3, hcase⟩
    clear d0 d1
    have HB03 : Hid (Below w.heap.size w w3) := below_after HB02.out hB3
    have HE3 : Hid (w3.heap[w.heap.size]? = some (.cells #[.slice za ns ca, .slice ya nr da] 27 (0, 0))) := (hB3.block _ hlt2).trans HE2.out
    have hlt3 : w.heap.size < w3.heap.size := (Array.getElem?_eq_some_iff.1 HE3.out).1
    clear hB3 hlt2
    rcases hcase with ⟨hq, rfl⟩ | ⟨hq, tv, rfl, how⟩
    · clear hq
      go_wp2
      go_ret
      exact ⟨rfl, HB03.out⟩
    · have HQ : Hid (rightB st rl = true) := hq
      obtain ⟨ta, cap, htv, hI⟩ := (txtB_row how).bytes
      obtain ⟨zs, hzs⟩ : ∃ x, x = progT (st.map setL) rl := ⟨_, rfl⟩
      rw [← hzs] at htv hI
      subst htv
      have HA : Hid (∀ c ∈ zs, 0 ≤ c ∧ c < 128) := by rw [hzs]; exact progT_asc
      have HP : Hid (parseL (toksL zs.length (ascU 0 zs)) = .inr (rl, st)) := by
        show _ = _
        rw [hzs]
        exact back_parse HQ.out (fun x hx => ⟨(HOK.out.2.2.2 x hx).1.1, (HOK.out.2.2.2 x hx).2.1⟩) _
      have HI : Hid (BytesAt w3.heap.size w3 (.slice ta zs.length cap) zs) := hI
      clear hq how hzs hI
      by_cases hz : 60000 < zs.length
      · have hz' : decide (60000 < (zs.length : Int)) = true := by simp; omega
        clear hz
        go_wp2
        go_ret
        exact ⟨rfl, HB03.out⟩
      · have hz' : decide (60000 < (zs.length : Int)) = false := by simp; omega
        have hpp := parse_any8 zs (fun c hc => by have := HA.out c hc; omega) (by omega) (ascU 0 zs) (run_ascii HA.out) ta cap w3 (HSV.out.grown (grownR_below HB03.out none) (by simp)) HI.out
        rw [HP.out] at hpp
        have HWD : Hid (∀ x ∈ rl, WdR x) := parseL_wd (run_ascii HA.out) (by omega) HP.out
        clear hz
        go_wp2_with fail
        refine hpp.mono ?_
        clear hpp
        rintro e w4 ⟨hB4, (⟨a, x, hqe, _⟩ | ⟨rs, st', sv', rv', hqe, rfl, hpg⟩)⟩
        · cases hqe
        · obtain ⟨e1, e2⟩ := Prod.mk.inj (Sum.inr.inj hqe)
          subst e2
          have HSI : Hid (SetIn w4 sv' st) := hpg.sets
          have HRI : Hid (RulIn w4 rv' rl) := by rw [e1]; exact hpg.rules
          obtain ⟨sa, sc, hsv', _⟩ := HSI.out
          obtain ⟨ra, rc, hrv', _⟩ := HRI.out
          rw [← HNS.out] at hsv'
          rw [← HNR.out] at hrv'
          subst hsv' hrv'
          have HB05 : Hid (Below w.heap.size w (w4.alloc (.cells #[.slice sa ns sc, .slice ra nr rc] 27))) := below_after (below_after HB03.out hB4) (below_alloc _ _)
          have hB45 := below_alloc w4 (.cells #[.slice sa ns sc, .slice ra nr rc] 27)
          have h4 : w4.heap[w.heap.size]? = some (.cells #[.slice za ns ca, .slice ya nr da] 27 (0, 0)) := (hB4.block _ hlt3).trans HE3.out
          have hlt : w.heap.size < w4.heap.size := (Array.getElem?_eq_some_iff.1 h4).1
          have d0 : w4.cell? ⟨w.heap.size, 0, none⟩ = some (.slice za ns ca) := cell_of_row _ _ 0 _ _ _ h4
          have d1 : w4.cell? ⟨w.heap.size, 1, none⟩ = some (.slice ya nr da) := cell_of_row _ _ 1 _ _ _ h4
          have hl1 := HOK.out.1
          have hl2 := HOK.out.2.1
          have hsm := same_any8 rl st (by omega) (by omega) (fun s hs => by have := HOK.out.2.2.1 s hs; omega) HWD.out (.slice za ns ca) (.slice ya nr da) (.slice sa ns sc) (.slice ra nr rc) (w4.alloc (.cells #[.slice sa ns sc, .slice ra nr rc] 27)) (HSA.out.in.below HB05.out) (HSI.out.below hB45) (HRA.out.below HB05.out) (HRI.out.below hB45)
          clear hqe hpg e1 hB4 hB45 h4 hl1 hl2 hlt3
          go_wp2_with fail
          refine hsm.mono ?_
          rintro e w6 ⟨rfl, hB6⟩
          clear hsm
          go_wp2
          go_ret
          exact ⟨rfl, below_after HB05.out hB6⟩
end Go.Proofs.YtfdjchnckjgapaaGreatDoor
