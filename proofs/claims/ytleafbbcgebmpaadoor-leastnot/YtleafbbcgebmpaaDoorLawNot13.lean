/-
  scansionlaw13.LeastNot.
-/
import Derived.Test.YtleafbbcgebmpaaDoorLsLawM
import Derived.Deep.RegionLaw
import Derived.Deep.AppendLies
namespace Go.Proofs.YtleafbbcgebmpaaDoor
open Go.RowKit Go.Shelf
set_option linter.unusedVariables false

/-- The turned states' variable, while it is filled. -/
structure LnI (w : World) (b5 B : Nat) (x1 f1 fv : Value) (G : List Bool) (w0 W : World) : Prop where
  lt : b5 < B ∧ w.heap.size < b5
  bs : B ≤ W.heap.size
  d : DBox W w.heap.size x1 f1
  box : DBox W b5 x1 fv
  row : W.ownsRow B 4 1 fv G.length (cellBo G)
  old : Below w.heap.size w W
theorem LnI.below {w : World} {b5 B : Nat} {x1 f1 fv : Value} {G : List Bool} {w0 W V : World} (h : LnI w b5 B x1 f1 fv G w0 W) (hb : Below W.heap.size W V) : LnI w b5 B x1 f1 fv G w0 V :=
  ⟨h.lt, Nat.le_trans h.bs hb.size, h.d.below hb, h.box.below hb, ownsRow_below h.row hb, below_after h.old hb⟩
theorem LnI.push {w : World} {b5 B : Nat} {x1 f1 fv v' : Value} {G : List Bool} {w0 W V : World} {o : Obj} {x : Bool} (h : LnI w b5 B x1 f1 fv G w0 W) (hg : (W.alloc o).grownBy V fv.ownBlock) (ho : V.ownsRow B 4 1 v' (G.length + 1) (cellBo G ++ [.bool x])) :
    (V.cell? ⟨b5, 1, none⟩ = some fv ∧ V.frozen? ⟨b5, 1, none⟩ = false ∧ b5 < V.heap.size) ∧ LnI w b5 B x1 f1 v' (G ++ [x]) w0 (V.setCell ⟨b5, 1, none⟩ v') := by
  have ha := h.below (below_alloc W o)
  have hl := h.lt
  have keep : ∀ k, k < B → V.heap[k]? = (W.alloc o).heap[k]? := fun k hk => hg.block k (by have := ha.bs; omega) (fun e => by
    have := (h.row.lt k e.symm).1
    omega)
  have hd2 : DBox V w.heap.size x1 f1 := (keep _ (by omega)).trans ha.d
  have hb2 : DBox V b5 x1 fv := (keep _ (by omega)).trans ha.box
  have hO : OnlyB b5 V (V.setCell ⟨b5, 1, none⟩ v') := (OnlyB.refl _ _).set _ _
  refine ⟨⟨hb2.c1, hb2.nf 1, hb2.lt⟩, hl, ?_, (hO.block _ (by omega)).trans hd2, hb2.s1 _, ?_, ?_⟩
  · rw [hO.size]
    exact Nat.le_trans ha.bs hg.size
  · rw [List.length_append, List.length_singleton, show cellBo (G ++ [x]) = cellBo G ++ [.bool x] by simp [cellBo]]
    exact own_blk ho (fun k e => hO.block k (by have := (ho.lt k e).1; omega))
  · exact (ha.old.grown hg (by have := ha.bs; omega) (fun k e => by have := (h.row.lt k e).1; omega)).setCell (p := ⟨b5, 1, none⟩) (by show w.heap.size ≤ b5; omega) _

set_option maxRecDepth 100000 in
set_option maxHeartbeats 16000000 in
theorem leastNot_any (dv : Value) (N : List (List Int)) (F : List Bool) (w : World) (hP : PowT w) (hd : DfaAt w dv N F) :
    Calls Tryd.prog 8 #[dv] w fun e w' => e = .returned (.bool true) ∧ Below w.heap.size w w' := by
  obtain ⟨iB, hiB, hzB0, hzB1, hzB2⟩ := info_parts Tryd.infoBool12
  have HD : Hid (DfaAt w dv N F ∧ PowT w) := ⟨hd, hP⟩
  obtain ⟨na, nc, fa, fc, rfl, _⟩ := dfa_parts hd
  obtain ⟨n, hn⟩ : ∃ x, x = N.length := ⟨_, rfl⟩
  obtain ⟨m, hm⟩ : ∃ x, x = F.length := ⟨_, rfl⟩
  have HM : Hid (m = F.length) := hm
  rw [← hn, ← hm] at HD ⊢
  obtain ⟨W0, hW0⟩ : ∃ W, W = w.alloc (.cells #[.slice na n nc, .slice fa m fc] 25) := ⟨_, rfl⟩
  have hB0 : Below w.heap.size w W0 := by rw [hW0]; exact below_alloc _ _
  have hbx : DBox W0 w.heap.size (.slice na n nc) (.slice fa m fc) := by rw [hW0]; exact heap_new' _ _
  have HBX : Hid (DBox W0 w.heap.size (.slice na n nc) (.slice fa m fc)) := hbx
  have HW0 : Hid (W0 = _) := hW0
  have HB0 : Hid (Below w.heap.size w W0) := hB0
  have haw := awake_any13 W0 (hP.below hB0)
  have HFW : Hid (∀ W, Below w.heap.size w W → Calls Tryd.prog 10 #[.agg #[.slice na n nc, .slice fa m fc], .int .i64 25] W fun e w' => ∃ b, e = .returned (.bool b) ∧ Hid (b = true → FewD N F 25) ∧ Below W.heap.size W w') := fun W hb => rfew_any12 N F _ 25 (by decide) W (HD.out.1.below hb)
  obtain ⟨LN, hLN⟩ : ∃ x, x = lesN N F := ⟨_, rfl⟩
  obtain ⟨LF, hLF⟩ : ∃ x, x = lesF N F := ⟨_, rfl⟩
  obtain ⟨E, hE⟩ : ∃ x, x = lesE N F := ⟨_, rfl⟩
  obtain ⟨n2, hn2⟩ : ∃ x, x = LN.length := ⟨_, rfl⟩
  obtain ⟨m2, hm2⟩ : ∃ x, x = LF.length := ⟨_, rfl⟩
  have HE : Hid ((E = 0 ∨ E = 1) ∧ m2 = LF.length ∧ m2 ≤ 5000) := ⟨by rw [hE]; unfold lesE; split <;> simp, hm2, by rw [hm2, hLF]; exact (les_small N F).2.1⟩
  have HL1 : Hid (∀ W, Below w.heap.size w W → Calls Tryd.prog 11 #[.agg #[.slice na n nc, .slice fa m fc]] W fun e w' => ∃ ga gc qa qc, e = .returned (.tuple #[.agg #[.slice ga n2 gc, .slice qa m2 qc], .int .i64 E]) ∧ Hid (DfaAt w' (.agg #[.slice ga n2 gc, .slice qa m2 qc]) LN LF) ∧ Below W.heap.size W w') := fun W hb => by
    have := (least_any N F _ W (HD.out.1.below hb) (HD.out.2.below hb)).mono (fun _ _ h => h.c)
    rw [← hLN, ← hLF, ← hE] at this
    unfold LesC at this
    rw [← hn2, ← hm2] at this
    exact this
  have HL2 : Hid (∀ W x, Below w.heap.size w W → DfaAt W x N (F.map (!·)) → Calls Tryd.prog 11 #[x] W fun e w' => ∃ ga gc qa qc, e = .returned (.tuple #[.agg #[.slice ga n2 gc, .slice qa m2 qc], .int .i64 E]) ∧ Hid (DfaAt w' (.agg #[.slice ga n2 gc, .slice qa m2 qc]) LN (LF.map (!·))) ∧ Below W.heap.size W w') := fun W x hb hx => by
    have := (least_any N (F.map (!·)) x W hx (HD.out.2.below hb)).mono (fun _ _ h => h.c)
    obtain ⟨k1, k2, k3⟩ := les_turn N F
    rw [k1, k2, k3, ← hLN, ← hLF, ← hE] at this
    unfold LesC at this
    rw [List.length_map, ← hn2, ← hm2] at this
    exact this
  have HSM : Hid (∀ W x y, DfaAt W x LN LF → DfaAt W y LN LF → Calls Tryd.prog 13 #[x, y] W fun e w' => e = .returned (.bool true) ∧ Below W.heap.size W w') := fun W x y hx hy => by
    obtain ⟨k1, k2, k3⟩ := les_small N F
    rw [← hLN, ← hLF] at *
    exact (rsame_any13 LN LF LN LF x y W hx hy k1 k1 k2 k2 k3).mono (fun e w' h => ⟨by rw [h.1, decide_eq_true ⟨rfl, rfl⟩], h.2⟩)
  rw [hW0] at haw
  clear hn hm hbx hW0 hB0 hP hd hLN hLF hE hn2 hm2
  go_enter Tryd.func8, Tryd.ntmps8
  go_wp2_with fail
  refine haw.mono ?_
  rw [← HW0.out]
  rintro e w1 ⟨rfl, hB1⟩
  have HB1 : Hid (Below w.heap.size w w1) := below_after HB0.out hB1
  have HX1 : Hid (DBox w1 w.heap.size (.slice na n nc) (.slice fa m fc)) := HBX.out.below hB1
  have c0 := HX1.out.c0
  have c1 := HX1.out.c1
  have hlt := HX1.out.lt
  have hfw := HFW.out w1 HB1.out
  clear haw hB1
  go_wp2_with fail
  refine hfw.mono ?_
  rintro e w2 ⟨ok, rfl, hok, hB2⟩
  have HB2 : Hid (Below w.heap.size w w2) := below_after HB1.out hB2
  have HX2 : Hid (DBox w2 w.heap.size (.slice na n nc) (.slice fa m fc)) := HX1.out.below hB2
  clear hfw hB2 c0 c1 hlt
  cases ok with
  | false =>
    go_wp2
    go_ret
    exact ⟨rfl, HB2.out⟩
  | true =>
  have hm25 : m ≤ 25 := by rw [HM.out]; exact (hok.out rfl).2.1
  have c0 := HX2.out.c0
  have c1 := HX2.out.c1
  have hlt := HX2.out.lt
  obtain ⟨W5, hW5⟩ : ∃ W, W = w2.alloc (.cells #[.slice na n nc, .slice none 0 0] 25) := ⟨_, rfl⟩
  obtain ⟨b5, hb5⟩ : ∃ x, x = w2.heap.size := ⟨_, rfl⟩
  obtain ⟨B, hB⟩ : ∃ x, x = W5.heap.size := ⟨_, rfl⟩
  have HI0 : Hid (LnI w b5 B (.slice na n nc) (.slice fa m fc) (.slice none 0 0) (([] : List Bool).map (!·)) W5 W5) := by
    have hb : Below w2.heap.size w2 W5 := by rw [hW5]; exact below_alloc _ _
    have hsz : W5.heap.size = w2.heap.size + 1 := by rw [hW5]; simp
    exact ⟨⟨by omega, by omega⟩, by omega, HX2.out.below hb, by rw [hW5, hb5]; exact heap_new' _ _, World.ownsRow_nil _ _ _ _, below_after HB2.out hb⟩
  have HW5 : Hid (W5 = _ ∧ b5 = _) := ⟨hW5, hb5⟩
  clear hok hW5 hb5 hB
  go_upto_region 6 with fail
  rw [← HW5.out.1, ← HW5.out.2]
  clear c0 c1 hlt
  go_wp2
  go_loopw [6] (fun x6 wr => ∃ (k : Nat) (fv : Value), k ≤ m ∧ x6 = .int .i64 (k : Int) ∧ Hid (LnI w b5 B (.slice na n nc) (.slice fa m fc) fv ((F.take k).map (!·)) W5 wr)) (fun x6 _ => m - (intOf x6).toNat)
  case atStart => exact ⟨0, _, Nat.zero_le _, rfl, HI0.out⟩
  case round =>
    obtain ⟨k, fv, hk, rfl, HI⟩ := hrel
    have c0 := HI.out.d.c0
    have c1 := HI.out.d.c1
    have hlt := HI.out.d.lt
    by_cases hkm : k < m
    · have hkF : k < F.length := by rw [← HM.out]; exact hkm
      obtain ⟨va, vn, vc, rfl⟩ := own_any HI.out.row
      have hgl : ((F.take k).map (!·)).length = k := by rw [List.length_map, List.length_take]; omega
      obtain rfl : vn = k := by rw [← hgl]; exact own_len13 HI.out.row
      have HGL : Hid (((F.take vn).map (!·)).length = vn) := hgl
      obtain ⟨g1, o1, rfl, hg1, x1⟩ := dfa_fin (HD.out.1.below HI.out.old) hkF
      obtain ⟨x, hx⟩ : ∃ x, x = F[vn] := ⟨_, rfl⟩
      rw [← hx] at x1
      have d0 := HI.out.box.c0
      have d1 := HI.out.box.c1
      have dl := HI.out.box.lt
      have hz1 : (0 : Int) ≤ (vn : Int) := by omega
      have hz2 : (vn : Int) < (m : Int) := by omega
      have HRB : Hid (Below wr.heap.size wr wr.drew) := (Below.refl _ _).drew
      have HRW : Hid (∀ o, (wr.drew.alloc o).ownsRow B 4 1 (.slice va vn vc) vn (cellBo ((F.take vn).map (!·))) ∧ B ≤ wr.drew.heap.size) := fun o => by
        have := ((HI.out.below HRB.out).below (below_alloc _ o)).row
        rw [HGL.out] at this
        exact ⟨this, (HI.out.below HRB.out).bs⟩
      have HFN : Hid (∀ w8 o v', (wr.drew.alloc o).grownBy w8 (Value.slice va vn vc).ownBlock → w8.ownsRow B 4 1 v' (vn + 1) (cellBo ((F.take vn).map (!·)) ++ [.bool (!x)]) → (w8.cell? ⟨b5, 1, none⟩ = some (.slice va vn vc) ∧ w8.frozen? ⟨b5, 1, none⟩ = false ∧ b5 < w8.heap.size) ∧ Hid (LnI w b5 B (.slice na n nc) (.slice (some ⟨g1, o1, none⟩) m fc) v' ((F.take (vn + 1)).map (!·)) W5 (w8.setCell ⟨b5, 1, none⟩ v'))) := fun w8 o v' hg ho => by
        have h7 := (HI.out.below HRB.out).push (x := !x) hg (by rw [HGL.out]; exact ho)
        refine ⟨h7.1, ?_⟩
        show LnI _ _ _ _ _ _ _ _ _
        have e : (F.take (vn + 1)).map (!·) = (F.take vn).map (!·) ++ [!x] := by
          rw [List.take_add_one, List.getElem?_eq_getElem hkF, List.map_append, hx]
          rfl
        rw [e]
        exact h7.2
      clear hgl hx hkF
      go_wp2
      go_region_law (refine step_append_lies _ (by rfl) (.tmp 33) (.tmp 40) 23 (by rfl) B 4 iB (.bool false) 1 1 Tryd.underlying23 hiB hzB0 hzB1 hzB2 rfl (by decide) (.slice va vn vc) vn (cellBo ((F.take vn).map (!·))) (by rfl) (by exact (HRW.out _).1) ⟨wr.drew.heap.size, 0, none⟩ 1 1 [.bool (!x)] (by rfl) rfl (by exact World.news_of_block (heap_new' wr.drew _)) (by simp [Value.oneCell']) (by omega) (by unfold maxLen; omega) (by omega) (by have := (HRW.out (.cells #[.bool (!x)] 4)).2; simp at this ⊢; omega) (wr.drew.heap.size + 1) (by simp) ?_; intro gL capL w8 hownL hgrowL hatL hltL; obtain ⟨⟨t0, t1, t2⟩, HZ⟩ := HFN.out _ _ _ hgrowL hownL)
      all_goals (
        go_wp2
        go_roundw
        case rel => exact ⟨vn + 1, _, by omega, by go_num, HZ.out⟩
        case measure => simp [intOf]; omega)
    · obtain rfl : k = m := by omega
      obtain ⟨va, vn, vc, rfl⟩ := own_any HI.out.row
      have HDN : Hid (DfaAt wr (.agg #[.slice na n nc, .slice va vn vc]) N (F.map (!·))) := by
        have h1 := HI.out.row
        rw [List.take_of_length_le (by rw [HM.out]; exact Nat.le_refl _)] at h1
        exact dfa_fin_row (HD.out.1.below HI.out.old) h1
      have HBR : Hid (Below w.heap.size w wr) := HI.out.old
      have HX5 : Hid (DBox wr b5 (.slice na n nc) (.slice va vn vc)) := HI.out.box
      have hfw := HL1.out wr HBR.out
      go_wp2_with fail
      refine hfw.mono ?_
      rintro e w6 ⟨ga, gc, qa, qc, rfl, HD6, hB6⟩
      obtain ⟨W6, hW6⟩ : ∃ W, W = w6.alloc (.cells #[.slice ga n2 gc, .slice qa m2 qc] 25) := ⟨_, rfl⟩
      have hB6' : Below w6.heap.size w6 W6 := by rw [hW6]; exact below_alloc _ _
      obtain ⟨b6, hb6⟩ : ∃ x, x = w6.heap.size := ⟨_, rfl⟩
      have HX6 : Hid (DBox W6 b6 (.slice ga n2 gc) (.slice qa m2 qc)) := by rw [hW6, hb6]; exact heap_new' _ _
      have HE6 : Hid (DfaAt W6 (.agg #[.slice ga n2 gc, .slice qa m2 qc]) LN LF) := HD6.out.below hB6'
      have HB6 : Hid (Below wr.heap.size wr W6) := below_after hB6 hB6'
      have HW6 : Hid (W6 = _ ∧ b6 = _) := ⟨hW6, hb6⟩
      clear hfw hB6 hB6' hW6 hb6 HD6 c0 c1 hlt
      have hx5 := HX5.out.below HB6.out
      have d0 := hx5.c0
      have d1 := hx5.c1
      have dl := hx5.lt
      have hfw := HL2.out W6 _ (below_after HBR.out HB6.out) (HDN.out.below HB6.out)
      go_upto_region 11 with fail
      rw [← HW6.out.1, ← HW6.out.2]
      go_wp2_with fail
      refine hfw.mono ?_
      rintro e w7 ⟨ga7, gc7, qa7, qc7, rfl, HD7, hB7⟩
      obtain ⟨W7, hW7⟩ : ∃ W, W = w7.alloc (.cells #[.slice ga7 n2 gc7, .slice qa7 m2 qc7] 25) := ⟨_, rfl⟩
      have hB7' : Below w7.heap.size w7 W7 := by rw [hW7]; exact below_alloc _ _
      obtain ⟨b7, hb7⟩ : ∃ x, x = w7.heap.size := ⟨_, rfl⟩
      have HX7 : Hid (DBox W7 b7 (.slice ga7 n2 gc7) (.slice qa7 m2 qc7)) := by rw [hW7, hb7]; exact heap_new' _ _
      have HE67 : Hid (DfaAt w7 (.agg #[.slice ga n2 gc, .slice qa m2 qc]) LN LF) := HE6.out.below hB7
      have HX67 : Hid (DBox W7 b6 (.slice ga n2 gc) (.slice qa m2 qc)) := HX6.out.below (below_after hB7 hB7')
      have HB7 : Hid (Below w.heap.size w w7 ∧ Below w7.heap.size w7 W7) := ⟨below_after (below_after HBR.out HB6.out) hB7, hB7'⟩
      have HW7 : Hid (W7 = _ ∧ b7 = _) := ⟨hW7, hb7⟩
      have HNE : Hid (b6 ≠ b7) := by
        have := HX6.out.lt
        have := hB7.size
        show b6 ≠ b7
        omega
      clear hfw hB7 hB7' hW7 hb7 d0 d1 dl hx5
      go_upto_region 12 with fail
      rw [← HW7.out.1, ← HW7.out.2]
      rcases HE.out.1 with rfl | rfl
      case inr =>
        go_wp2
        go_ret
        exact ⟨rfl, below_after HB7.out.1 HB7.out.2⟩
      case inl =>
      have hm5 := HE.out.2.2
      have c0 := HX67.out.c0
      have c1 := HX67.out.c1
      have cl := HX67.out.lt
      have d0 := HX7.out.c0
      have d1 := HX7.out.c1
      have dl := HX7.out.lt
      have hmm : ((m2 : Int) != (m2 : Int)) = false := by simp
      go_wp2
      go_loopw [11] (fun x11 wr2 => ∃ (i nd : Nat), i ≤ m2 ∧ x11 = .int .i64 (i : Int) ∧ wr2 = W7.drewN nd) (fun x11 _ => m2 - (intOf x11).toNat)
      case atStart => exact ⟨0, 0, Nat.zero_le _, rfl, rfl⟩
      case round =>
        obtain ⟨i, nd, hi, rfl, rfl⟩ := hrel
        by_cases hil : i < m2
        · have hiF : i < LF.length := by rw [← HE.out.2.1]; exact hil
          obtain ⟨g1, o1, rfl, hg1, x1⟩ := dfa_fin (HE67.out.below HB7.out.2) hiF
          obtain ⟨g2, o2, rfl, hg2, x2⟩ := dfa_fin (HD7.out.below HB7.out.2) (q := i) (by rw [List.length_map]; exact hiF)
          obtain ⟨x, hx⟩ : ∃ x, x = LF[i] := ⟨_, rfl⟩
          rw [← hx] at x1
          rw [List.getElem_map, ← hx] at x2
          have hz1 : (0 : Int) ≤ (i : Int) := by omega
          have hz2 : (i : Int) < (m2 : Int) := by omega
          have hbb : (x == !x) = false := by cases x <;> rfl
          clear hx hiF
          go_wp2
          go_quiet (fail)
          go_wp2
          go_roundw
          case rel => exact ⟨i + 1, _, by omega, by go_num, rfl⟩
          case measure => simp [intOf]; omega
        · obtain rfl : i = m2 := by omega
          have df : (W7.drewN nd).frozen? ⟨b7, 1, none⟩ = false := HX7.out.nf 1
          have hOn : OnlyB b7 (W7.drewN nd) ((W7.drewN nd).setCell ⟨b7, 1, none⟩ (.slice qa i qc)) := (OnlyB.refl _ _).set _ _
          obtain ⟨W8, hW8⟩ : ∃ W, W = (W7.drewN nd).setCell ⟨b7, 1, none⟩ (.slice qa i qc) := ⟨_, rfl⟩
          have hx6 : DBox W8 b6 (.slice ga n2 gc) (.slice qa i qc) := by rw [hW8]; exact (hOn.block _ HNE.out).trans HX67.out
          have hx7 : DBox W8 b7 (.slice ga7 n2 gc7) (.slice qa i qc) := by rw [hW8]; exact DBox.s1 (w := W7.drewN nd) HX7.out _
          have hB8 : Below w7.heap.size w7 W8 := by
            rw [hW8]
            exact (below_drewN' HB7.out.2 nd).setCell (p := ⟨b7, 1, none⟩) (by show w7.heap.size ≤ b7; rw [HW7.out.2]; exact Nat.le_refl _) _
          have hda := HE67.out.below hB8
          have hdb := dfa_mix hda (HD7.out.below hB8)
          have hfw := HSM.out W8 _ _ hda hdb
          have e0 := hx6.c0
          have e1 := hx6.c1
          have el := hx6.lt
          have f0 := hx7.c0
          have f1 := hx7.c1
          have fl := hx7.lt
          have HB8 : Hid (Below w.heap.size w W8) := below_after HB7.out.1 hB8
          have HW8 : Hid (W8 = _) := hW8
          clear hx6 hx7 hB8 hda hdb hOn hW8
          go_upto_region 22 with fail
          rw [← HW8.out]
          go_wp2_with fail
          refine hfw.mono ?_
          rintro e w9 ⟨rfl, hB9⟩
          go_wp2
          go_ret
          exact ⟨rfl, below_after HB8.out hB9⟩
end Go.Proofs.YtleafbbcgebmpaaDoor
