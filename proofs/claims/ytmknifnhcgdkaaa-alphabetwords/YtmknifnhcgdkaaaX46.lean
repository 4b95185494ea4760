/-
  The sets of lists; an alphabet's Masks and Word.
-/
import Derived.Test.YtmknifnhcgdkaaaX45
namespace Go.Proofs.Ytmknifnhcgdkaaa
open Go.RowKit Go.Shelf
set_option linter.unusedVariables false

theorem withL_length9 (out : List Rg) (lo hi : Int) : (withL out lo hi).length ≤ out.length + 1 := by
  rcases list_last out with rfl | ⟨ini, s, rfl⟩
  · simp [withL_nil]
  · by_cases q : s.hi = lo - 1
    · rw [withL_join q]; simp
    · rw [withL_snoc q]; simp
theorem pickGo_length9 (f : Int → Bool) : ∀ (l : List Int) (out : List Rg), (pickGo f l out).length ≤ out.length + l.length
  | [], out => by simp [pickGo]
  | [e], out => by
    unfold pickGo
    split
    · have := withL_length9 out e 1114111
      simpa using this
    · simp
  | e :: e' :: l, out => by
    have h := pickGo_length9 f (e' :: l) (if f e = true then withL out e (e' - 1) else out)
    have h2 : (if f e = true then withL out e (e' - 1) else out).length ≤ out.length + 1 := by
      split
      · exact withL_length9 _ _ _
      · omega
    have e0 : pickGo f (e :: e' :: l) out = pickGo f (e' :: l) (if f e = true then withL out e (e' - 1) else out) := rfl
    rw [e0]
    simp only [List.length_cons] at h ⊢
    omega
/-- A set that is made of few ranges has few. -/
theorem upto_few9 {l s : List Rg} (hf : Fits l) (hu : Upto (hasR l) s 1114112) : s.length ≤ 1 + 2 * l.length := by
  have h1 := pick_spec l [] hf (fun r hr => by cases hr) (fun x y => x || y)
  have h2 : Upto (hasR l) (pickGo (fun x => hasR l x || hasR [] x) (edgesL (l ++ [])) []) 1114112 := h1.congr (fun x _ _ => by simp [show hasR [] x = false from rfl])
  rw [hu.unique h2]
  have h3 := pickGo_length9 (fun x => hasR l x || hasR [] x) (edgesL (l ++ [])) []
  have h4 := edges_length (l ++ []) [0]
  have h5 : (edgesL (l ++ [])).length ≤ 1 + 2 * l.length := by
    show (List.foldl stepE [0] (l ++ [])).length ≤ _
    rw [List.append_nil] at h4 ⊢
    simpa using h4
  simp at h3 h5 ⊢
  omega
theorem flat_len : ∀ (T l : List (List Rg)), T.length = l.length → (∀ i, (h : i < T.length) → (h' : i < l.length) → T[i].length ≤ 1 + 2 * l[i].length) → T.flatten.length ≤ l.length + 2 * l.flatten.length
  | [], [], _, _ => by simp
  | [], b :: l, h, _ => by simp at h
  | a :: T, [], h, _ => by simp at h
  | a :: T, b :: l, h, hi => by
    have ih := flat_len T l (by simpa using h) (fun i h1 h2 => by
      have := hi (i + 1) (by simpa using h1) (by simpa using h2)
      simpa using this)
    have h0 := hi 0 (by simp) (by simp)
    simp only [List.getElem_cons_zero] at h0
    rw [List.flatten_cons, List.flatten_cons, List.length_append, List.length_append, List.length_cons]
    omega

/-- The sets T, each a row of the calls' own. -/
def SetsOwn9 (n : Nat) (w : World) (v : Value) (T : List (List Rg)) : Prop :=
  ∃ xs, w.ownsRow n 46 1 v T.length xs ∧ ∀ i, (h : i < T.length) → ∃ x, xs[i]? = some x ∧ w.ownsRow n 51 2 x T[i].length (cellsRs T[i])
theorem SetsOwn9.sts {n : Nat} {w : World} {v : Value} {T : List (List Rg)} (h : SetsOwn9 n w v T) : StsIn w v T := by
  obtain ⟨xs, h1, h2⟩ := h
  have h1' := h1
  rcases h1.2 with ⟨rfl, h0⟩ | ⟨g, cap, cur, rfl, hb, hg, hc, hm, hs, ht⟩
  · exact ⟨none, 0, by rw [h0], by omega, fun i hi => by omega⟩
  · refine ⟨_, cap, rfl, hc, fun i hi => ?_⟩
    obtain ⟨x, hx, hr⟩ := h2 i hi
    have := h1'.cells (g := g) rfl i x hx
    rw [add_lit'] at this
    exact ⟨g, 0, x, rfl, S3.heap_lt hg, this, RngSrc.row hr⟩
theorem SetsOwn9.below {n : Nat} {w w' : World} {v : Value} {T : List (List Rg)} (h : SetsOwn9 n w v T) (hb : Below w.heap.size w w') : SetsOwn9 n w' v T := by
  obtain ⟨xs, h1, h2⟩ := h
  refine ⟨xs, ownsRow_below h1 hb, fun i hi => ?_⟩
  obtain ⟨x, hx, hr⟩ := h2 i hi
  exact ⟨x, hx, ownsRow_below hr hb⟩
/-- What the sets of lists are. -/
structure MkOf (l T : List (List Rg)) : Prop where
  len : T.length = l.length
  all : AllS T
  few : ∀ i, (h : i < T.length) → (h' : i < l.length) → T[i].length ≤ 1 + 2 * l[i].length
theorem MkOf.flat {l T : List (List Rg)} (h : MkOf l T) (hl : FewS l) : T.flatten.length ≤ 2501 ∧ (∀ s ∈ T, s.length ≤ 601) ∧ T.length ≤ 101 := by
  refine ⟨?_, fun s hs => ?_, by rw [h.len]; exact hl.1⟩
  · have h1 := flat_len T l h.len h.few
    have h2 := hl.2.2
    have h3 := hl.1
    omega
  · obtain ⟨i, hi, rfl⟩ := List.getElem_of_mem hs
    have hi' : i < l.length := by rw [← h.len]; exact hi
    have h1 := h.few i hi hi'
    have h2 := hl.2.1 l[i] (List.getElem_mem hi')
    omega
/-- What the document's Make tells, either way. -/
theorem refMake_own {l : List Rg} {w : World} {e : Ending} {w' : World} (h : RefMakeTells l w e w') : ∃ v s er, e = .returned (.tuple #[v, .int .i64 er]) ∧ IsSet s ∧ s.length ≤ 1 + 2 * l.length ∧ w'.ownsRow w.heap.size 51 2 v s.length (cellsRs s) ∧ Below w.heap.size w w' := by
  obtain ⟨⟨_, rfl⟩ | ⟨hf, s, v, hu, rfl, ho⟩, hB⟩ := h
  · exact ⟨_, [], 1, rfl, IsSet.nil, by simp, World.ownsRow_nil _ _ _ _, hB⟩
  · exact ⟨v, s, 0, rfl, hu.isSet, upto_few9 hf hu, ho, hB⟩
theorem MkOf.snoc {l T : List (List Rg)} {k : Nat} {s : List Rg} (h : MkOf (l.take k) T) (hk : k < l.length) (hs : IsSet s) (hf : s.length ≤ 1 + 2 * l[k].length) : MkOf (l.take (k + 1)) (T ++ [s]) := by
  have hT : T.length = k := by rw [h.len, List.length_take]; omega
  refine ⟨by simp [hT]; omega, fun x hx => ?_, fun i hi hi' => ?_⟩
  · rcases List.mem_append.1 hx with q | q
    · exact h.all x q
    · rw [List.mem_singleton.1 q]; exact hs
  · rw [List.getElem_take]
    by_cases q : i < T.length
    · have h2 : i < (l.take k).length := by rw [List.length_take]; omega
      have := h.few i q h2
      rw [List.getElem_take] at this
      rw [List.getElem_append_left q]
      exact this
    · simp at hi
      obtain rfl : i = k := by omega
      have e : (T ++ [s])[i]'(by simp; omega) = s := by
        rw [List.getElem_append_right (by omega)]
        simp
      rw [e]
      exact hf
/-- What sets tells. -/
def SetsT (l : List (List Rg)) (w : World) (e : Ending) (w' : World) : Prop := ∃ v T, e = .returned v ∧ SetsOwn9 w.heap.size w' v T ∧ MkOf l T ∧ Below w.heap.size w w'

set_option maxRecDepth 100000 in
set_option maxHeartbeats 4000000 in
theorem sets9_any (l : List (List Rg)) (v : Value) (w : World) (hl : FewS l) (hv : StsIn w v l) :
    Calls Try.prog 22 #[v] w fun e w' => SetsT l w e w' := by
  obtain ⟨iR, hiR, hzR0, hzR1, hzR2⟩ := info_parts Try.infoRs
  have HV : Hid (StsIn w v l) := hv
  obtain ⟨a, cap, rfl, hc, _⟩ := hv
  have HL : Hid (FewS l) := hl
  have hll := hl.1
  clear hl
  go_enter Try.func22, Try.ntmps22
  go_wp2
  go_loopw [3, 4] (fun y x wr => ∃ (k : Nat) (T : List (List Rg)), k ≤ l.length ∧ x = .int .i64 k ∧ SetsOwn9 w.heap.size wr y T ∧ MkOf (l.take k) T ∧ Below w.heap.size w wr) (fun _ x _ => l.length - (intOf x).toNat)
  case atStart => exact ⟨0, [], Nat.zero_le _, rfl, ⟨[], World.ownsRow_nil _ _ _ _, (fun i h => (by cases h))⟩, ⟨rfl, (fun s hs => (by cases hs)), (fun i h => (by cases h))⟩, Below.refl _ _⟩
  case round =>
    obtain ⟨k, T, hk, rfl, hown, hmk, hB⟩ := hrel
    have hbs := hB.size
    have hTl : T.length = k := by rw [hmk.len, List.length_take]; omega
    obtain ⟨HO, HM, HB⟩ : Hid (SetsOwn9 w.heap.size wr _ T) ∧ Hid (MkOf (l.take k) T) ∧ Hid (Below w.heap.size w wr) := ⟨hown, hmk, hB⟩
    obtain ⟨xs, hx1, _⟩ := hown
    obtain ⟨ay, cy, rfl⟩ := S3.slice_of_row hx1
    clear hmk hx1
    by_cases hlt : k < l.length
    · obtain ⟨a', cap', e, _, hcell⟩ := HV.out
      obtain ⟨rfl, rfl⟩ : a = a' ∧ cap = cap' := by simpa using e
      obtain ⟨g, off, x, rfl, hg, hcx, hrx⟩ := hcell k hlt
      have hcx2 : wr.cell? ⟨g, off + k, none⟩ = some x := (hB.cell (p := ⟨g, _, none⟩) hg).trans hcx
      have hl3 := HL.out.2.1 l[k] (List.getElem_mem hlt)
      have HR := refMake_any l[k] x wr (by omega) (hrx.below hB)
      obtain ⟨ax, cx, rfl, _, _⟩ := hrx.1
      have hlt' : (k : Int) < (l.length : Int) := by omega
      clear hcell hcx hrx e hB
      go_wp2_with fail
      refine HR.mono ?_
      intro e w1 hr
      obtain ⟨v1, s, er, rfl, hset, hsl, ho1, hB1⟩ := refMake_own hr
      obtain ⟨a1, c1, rfl⟩ := S3.slice_of_row ho1
      have hs1 := hB1.size
      have HT1 := HO.out.below hB1
      have hBa : Below w1.heap.size w1 (w1.alloc (.cells #[.slice a1 s.length c1] 46)) := (Below.refl _ _).alloc (Nat.le_refl _) _
      obtain ⟨HTA, HSA⟩ : Hid (SetsOwn9 w.heap.size (w1.alloc (.cells #[.slice a1 s.length c1] 46)) (.slice ay T.length cy) T) ∧ Hid ((w1.alloc (.cells #[.slice a1 s.length c1] 46)).ownsRow w.heap.size 51 2 (.slice a1 s.length c1) s.length (cellsRs s)) := ⟨HT1.below hBa, ownsRow_below (own_mono ho1 hbs) hBa⟩
      obtain ⟨ys, hy1, hy2⟩ := HTA.out
      obtain ⟨HY, HY2⟩ : Hid ((w1.alloc (.cells #[.slice a1 s.length c1] 46)).ownsRow w.heap.size 46 1 (.slice ay T.length cy) T.length ys) ∧ Hid (∀ i, (h : i < T.length) → ∃ x, ys[i]? = some x ∧ (w1.alloc (.cells #[.slice a1 s.length c1] 46)).ownsRow w.heap.size 51 2 x T[i].length (cellsRs T[i])) := ⟨hy1, hy2⟩
      have HN : Hid ((w1.alloc (.cells #[.slice a1 s.length c1] 46)).heap[w1.heap.size]? = some (.cells #[.slice a1 s.length c1] 46 (0, 0))) := heap_new' w1 _
      obtain ⟨HSET, HSL⟩ : Hid (IsSet s) ∧ Hid (s.length ≤ 1 + 2 * l[k].length) := ⟨hset, hsl⟩
      have HB1 : Hid (Below w.heap.size w (w1.alloc (.cells #[.slice a1 s.length c1] 46))) := (HB.out.trans (hB1.mono hbs)).alloc (by omega) _
      have hTl2 : T.length ≤ 101 := by omega
      clear HR hr ho1 hB1 HT1 hBa hset hsl hy1 hy2 HO hTl
      go_wp2_with (first | (at_builtin; refine wpList_append_own _ rfl (.tmp 21) (.tmp 23) 22 rfl w.heap.size 46 iR (.slice none 0 0) 1 24 Try.underlying22 hiR hzR0 hzR1 hzR2 rfl (by decide) _ _ _ rfl HY.out ⟨w1.heap.size, 0, none⟩ 1 1 [.slice a1 s.length c1] rfl rfl (World.news_of_block HN.out) (by simp [Value.oneCell']) (by unfold maxLen; omega) (by omega) (by simp; omega) ?_; intro v3 w3 ho3 hg3 _; obtain ⟨a3, cap3, rfl⟩ := S3.slice_of_row ho3; have HO3 : Hid (w3.ownsRow w.heap.size 46 1 (.slice a3 (T.length + 1) cap3) (T.length + 1) (ys ++ [.slice a1 s.length c1])) := ho3; have HG3 : Hid ((w1.alloc (.cells #[.slice a1 s.length c1] 46)).grownBy w3 (Value.slice ay T.length cy).ownBlock) := hg3; clear ho3 hg3) | fail)
      go_roundw
      case rel =>
        refine ⟨k + 1, T ++ [s], by omega, by go_num, ?_, HM.out.snoc hlt HSET.out HSL.out, HB1.out.grown HG3.out (by simp; omega) (fun j hj => (HY.out.lt j hj).1)⟩
        have hst : SetsOwn9 w.heap.size (w1.alloc (.cells #[.slice a1 s.length c1] 46)) (.slice ay T.length cy) T := ⟨ys, HY.out, HY2.out⟩
        have hxl : ys.length = T.length := by have := HY.out.1; omega
        obtain ⟨ys', h1', h2'⟩ : SetsOwn9 w.heap.size w3 (.slice a3 (T.length + 1) cap3) (T ++ [s]) := by
          have hk : ∀ {y : Value} {u : List Rg}, (w1.alloc (.cells #[.slice a1 s.length c1] 46)).ownsRow w.heap.size 51 2 y u.length (cellsRs u) → w3.ownsRow w.heap.size 51 2 y u.length (cellsRs u) := fun hy => hy.kept HG3.out (S3.rows_apart hy HY.out (by decide))
          refine ⟨ys ++ [.slice a1 s.length c1], by rw [List.length_append]; exact HO3.out, fun i hi => ?_⟩
          rw [List.length_append] at hi
          simp only [List.length_cons, List.length_nil] at hi
          by_cases q : i < T.length
          · obtain ⟨y, hy, hro⟩ := HY2.out i q
            refine ⟨y, by rw [List.getElem?_append_left (by omega)]; exact hy, ?_⟩
            rw [List.getElem_append_left q]
            exact hk hro
          · obtain rfl : i = T.length := by omega
            refine ⟨.slice a1 s.length c1, by rw [List.getElem?_append_right (by omega), hxl]; simp, ?_⟩
            have e : (T ++ [s])[T.length]'(by simp) = s := by simp
            rw [e]
            exact hk HSA.out
        exact ⟨ys', h1', h2'⟩
      case measure => simp [intOf]; omega
    · have hlt' : ¬ ((k : Int) < (l.length : Int)) := by omega
      obtain rfl : k = l.length := by omega
      rw [List.take_length] at HM
      clear hB hTl
      go_wp2
      go_ret
      exact ⟨_, T, rfl, HO.out, HM.out, HB.out⟩

set_option maxHeartbeats 2000000 in
theorem clone64_any (l : List Nat) (v : Value) (w : World) (hbig : l.length ≤ 1000000) (hv : U64In w v l) :
    Calls Try.prog 38 #[v] w fun e w' => ∃ v', e = .returned v' ∧ U64In w' v' l ∧ Below w.heap.size w w' := by
  obtain ⟨i0, hi, hz0, hz1, hz2⟩ := info_parts Try.infoU64
  have q22 : ∀ (w : World) (a : Option Addr) (n c n' c' : Nat), (binOp .eql 38 (.slice a n c) (.slice none n' c')).run Try.prog w = .ok (.bool a.isNone) w := fun w a n c n' c' => Lib.run_eql_slice_nil w _ _ a n c n' c' Try.underlying38
  obtain ⟨a, cap, rfl, hc, hcell⟩ := hv
  cases a with
  | none =>
    have h0 : l = [] := by
      cases l with
      | nil => rfl
      | cons r t =>
        obtain ⟨g, off, e, _⟩ := hcell 0 (by simp)
        cases e
    subst h0
    go_enter Try.func38, Try.ntmps38
    go_wp2
    go_ret
    exact ⟨_, rfl, ⟨none, 0, rfl, Nat.le_refl _, (fun i h => (by cases h))⟩, Below.refl _ _⟩
  | some ad =>
    have HO : Hid ((w.alloc (.cells #[] 34)).ownsRow w.heap.size 34 1 (.slice (some ⟨w.heap.size, 0, none⟩) 0 0) 0 []) := World.ownsRow_made w #[] 0 (Nat.le_refl _) (Nat.zero_le _) (by simp)
    have HC : Hid (∀ j u, (u64s l)[j]? = some u → (w.alloc (.cells #[] 34)).cell? (ad.add j) = some u) := by
      intro j u hj
      have hjl : j < l.length := by
        have := (List.getElem?_eq_some_iff.1 hj).1
        rwa [u64s_length] at this
      obtain ⟨g, off, e, hg, c0⟩ := hcell j hjl
      obtain rfl : ad = ⟨g, off, none⟩ := by simpa using e
      rw [addr_add, World.cell?_of_block (a := ⟨g, off + j, none⟩) (Below.heap_alloc w _ g hg), c0]
      simp [u64s, hjl] at hj
      rw [hj]
    have HL : Hid ((u64s l).length = l.length * 1) := by show _ = _; rw [u64s_length]; omega
    have H1 : Hid (∀ u ∈ u64s l, u.oneCell' = true) := u64s_one l
    have hmax : l.length ≤ maxLen := by unfold maxLen; omega
    clear hcell
    go_enter Try.func38, Try.ntmps38
    go_wp2_with (at_builtin; go_must (refine wpList_append_own _ rfl (.tmp 5) (.tmp 6) 38 rfl w.heap.size 34 i0 (.int .u64 0) 1 8 Try.underlying38 hi hz0 hz1 hz2 rfl (by decide) _ _ _ rfl HO.out ad l.length cap (u64s l) rfl HL.out HC.out H1.out (by rw [Nat.zero_add]; exact hmax) (by omega) (by simp) ?_); intro v' w1 hown' hgrow hnil)
    go_ret
    exact ⟨v', rfl, u64_of_row (base := w.heap.size) (by simpa using hown'), ((Below.refl _ w).alloc (Nat.le_refl _) _).grown hgrow (by simp) (fun j e => (World.ownsRow.lt HO.out j e).1)⟩
theorem masks9_any (S : List (List Rg)) (pv : Value) (w : World) (hok : (clsS S).length ≤ 200) (h : AlpAt w pv S) :
    Calls Try.prog 21 #[pv] w fun e w' => ∃ v', e = .returned v' ∧ U64In w' v' (clsS S) ∧ Below w.heap.size w w' := by
  obtain ⟨g, vm, vl, pt, rfl, hg, h1, h2, h3⟩ := h
  have HC := clone64_any (clsS S) vm w (by omega) h1
  have hc : w.cell? ⟨g, 0, none⟩ = some vm := cell_of_row _ _ 0 _ _ _ hg
  obtain ⟨a, cap, rfl, _, _⟩ := h1
  clear h2 h3 hg
  go_enter Try.func21, Try.ntmps21
  go_wp2_with fail
  refine HC.mono ?_
  rintro e w1 ⟨v', rfl, hu, hB⟩
  have HU : Hid (U64In w1 v' (clsS S)) := hu
  clear HC hu
  go_wp2
  go_ret
  exact ⟨v', rfl, HU.out, hB⟩
end Go.Proofs.Ytmknifnhcgdkaaa
