/-
  PriP RefM MetP FrmP RSetsP RRigP RTxP
-/
import Derived.Test.YtfdjchnckjgapaaGreatDoorX46
import Derived.Test.YtfdjchnckjgapaaGreatDoorX43
import Derived.Test.YtfdjchnckjgapaaGreatDoorX37
import Derived.Deep.AppendLies
import Derived.Test.YtfdjchnckjgapaaGreatDoorX44
import Derived.Test.YtfdjchnckjgapaaGreatDoorX33
import Derived.Test.YtfdjchnckjgapaaGreatDoorX32
import Derived.Deep.RegionHeld3
import Derived.Test.YtfdjchnckjgapaaGreatDoorX42
import Derived.Test.YtfdjchnckjgapaaGreatDoorX38
namespace Go.Proofs.YtfdjchnckjgapaaGreatDoor
open Go.RowKit Go.Shelf S1
set_option linter.unusedVariables false
def progT (S : List (List Int)) (rl : List Rl) : List Int := rl.flatMap fun x => rlT x.b (txN 120 S x.l) (txN 120 S x.r)
theorem setL_len (l : List Rg) : (setL l).length ≤ 21 * l.length + 2 := by
  have := setLs_len l
  unfold setL
  simp; omega
theorem setsF_all {k : Nat} {st : Sts} (h : setsF k st = true) : ∀ i, (hi : i < st.length) → i < k → isSetB st[i] = true := by
  induction k with
  | zero => intro i _ h; omega
  | succ k ih =>
    intro i hi hk
    have h' : (setsF k st && (match st[k]? with
      | none => true
      | some s => isSetB s && !((st.take k).any fun x => sameS x s))) = true := h
    rw [Bool.and_eq_true] at h'
    by_cases q : i < k
    · exact ih h'.1 i hi q
    · obtain rfl : i = k := by omega
      have h2 := h'.2
      rw [List.getElem?_eq_getElem hi] at h2
      simp only [Bool.and_eq_true] at h2
      exact h2.1
theorem isSetB_fits {s : List Rg} (h : isSetB s = true) : Fits s := by
  unfold isSetB at h
  rw [Bool.and_eq_true] at h
  exact fits_iff.1 h.1
theorem rightB_parts {st : Sts} {rl : List Rl} (h : rightB st rl = true) : st.length ≤ 60 ∧ rl.length ≤ 64 ∧ (∀ s ∈ st, isSetB s = true) ∧ mayR 0 rl = some st.length := by
  unfold rightB at h
  simp only [Bool.and_eq_true, decide_eq_true_eq, beq_iff_eq] at h
  refine ⟨h.1.1.1, h.1.1.2, fun s hs => ?_, h.2⟩
  obtain ⟨i, hi, rfl⟩ := List.getElem_of_mem hs
  exact setsF_all h.1.2 i hi hi
theorem strIn_of_row {Q : Nat → Prop} {w : World} {base : Nat} {v : Value} {S : List (List Int)} (h : w.ownsRow base 9 1 v S.length (S.map fun s => .string (strOfNums s))) (hq : ∀ g, v.ownBlock = some g → Q g) : StrIn Q w v S := by
  rcases h.2 with ⟨rfl, h0⟩ | ⟨g, cap, cur, rfl, hb, hg, hc, hm, hs, ht⟩
  · exact ⟨none, 0, by rw [h0], by omega, fun i hi => by omega⟩
  · refine ⟨_, cap, rfl, hc, fun i hi => ⟨g, 0, rfl, hq g rfl, ?_⟩⟩
    have := h.cells (g := g) rfl i (.string (strOfNums S[i])) (by simp [hi])
    rw [add_lit'] at this
    exact this
theorem progT_cons (S : List (List Int)) (x : Rl) (l : List Rl) : progT S (x :: l) = rlT x.b (txN 120 S x.l) (txN 120 S x.r) ++ progT S l := rfl
theorem rlT_len (b : Bool) (l r : List Int) : (rlT b l r).length ≤ l.length + r.length + 9 := by
  unfold rlT kwT
  cases b <;> simp <;> omega
def PrT (w : World) (st : Sts) (rl : List Rl) (e : Ending) (w' : World) : Prop := Below w.heap.size w w' ∧
  ((rightB st rl = false ∧ e = .returned (.tuple #[.slice none 0 0, .int .i64 1])) ∨ (rightB st rl = true ∧ ∃ tv, e = .returned (.tuple #[tv, .int .i64 0]) ∧ w'.ownsRow w.heap.size 5 1 tv (progT (st.map setL) rl).length ((progT (st.map setL) rl).map (Value.int .u8))))
theorem Tryz.infoStr8 : (Tryz.prog.info? 9).map (fun i => (i.zero, i.size, i.bytes)) = some (some (.string ⟨#[]⟩), 1, 16) := by kernel_rfl
set_option maxRecDepth 100000 in
set_option maxHeartbeats 16000000 in
theorem print_any8 (st : Sts) (rl : List Rl) (hok : FewOk st rl) (sv rv : Value) (w : World) (hdb : DbV w) (h : SetIn w sv st) (k : RulIn w rv rl) :
    Calls Tryz.prog 13 #[.agg #[sv, rv]] w fun e w' => PrT w st rl e w' := by
  obtain ⟨i0, hi0, hz0, hz1, hz2⟩ := info_parts Tryz.infoStr8
  have HOK : Hid (FewOk st rl) := hok
  have HSA : Hid (SetIn w sv st) := h
  have HRA : Hid (RulIn w rv rl) := k
  have HDB : Hid (DbV w) := hdb
  obtain ⟨za, ca, rfl, hca, _⟩ := h
  obtain ⟨ya, da, rfl, hda, _⟩ := k
  have hri := right_any8 st rl hok (.slice za st.length ca) (.slice ya rl.length da) (w.alloc (.cells #[.slice za st.length ca, .slice ya rl.length da] 27)) (HSA.out.below (below_alloc _ _)) (HRA.out.below (below_alloc _ _))
  obtain ⟨q, hq⟩ : ∃ q, q = rightB st rl := ⟨_, rfl⟩
  rw [← hq] at hri
  have HQ : Hid (q = rightB st rl) := hq
  have hns70 := hok.1
  have hnr70 := hok.2.1
  obtain ⟨ns, hns⟩ : ∃ x, x = st.length := ⟨_, rfl⟩
  obtain ⟨nr, hnr⟩ : ∃ x, x = rl.length := ⟨_, rfl⟩
  rw [← hns] at HSA hca hri hns70 ⊢
  rw [← hnr] at HRA hda hri hnr70 ⊢
  have HNS : Hid (ns = st.length) := hns
  have HNR : Hid (nr = rl.length) := hnr
  have HB0 : Hid (Below w.heap.size w (w.alloc (.cells #[.slice za ns ca, .slice ya nr da] 27))) := below_alloc _ _
  have HEA : Hid ((w.alloc (.cells #[.slice za ns ca, .slice ya nr da] 27)).heap[w.heap.size]? = some (.cells #[.slice za ns ca, .slice ya nr da] 27 (0, 0))) := heap_new' w _
  have FIN : Hid (∀ e w', PrT w st rl e w' → PrT w st rl e w') := fun _ _ h => h
  clear hq hok hns hnr hdb FIN
  cases hqv : q with
  | false =>
    rw [hqv] at hri
    have HE : Hid (rightB st rl = false) := by show _ = _; rw [← HQ.out, hqv]
    clear hqv
    go_enter Tryz.func13, Tryz.ntmps13
    go_wp2_with fail
    refine hri.mono ?_
    rintro e w1 ⟨rfl, hB1⟩
    clear hri
    have hBB := below_after HB0.out hB1
    go_wp2
    go_ret2
    exact ⟨hBB, .inl ⟨HE.out, rfl⟩⟩
  | true =>
    rw [hqv] at hri
    have HE : Hid (rightB st rl = true) := by show _ = _; rw [← HQ.out, hqv]
    obtain ⟨_, _, hsets, hmay⟩ := rightB_parts HE.out
    have HSF : Hid (∀ s ∈ st, Fits s) := fun s hs => isSetB_fits (hsets s hs)
    have HSI : Hid (∀ x ∈ rl, SIn 120 st.length x.l ∧ SIn 120 st.length x.r) := (mayR_in (fun x hx => ⟨(HOK.out.2.2.2 x hx).1.1, (HOK.out.2.2.2 x hx).2.1⟩) hmay).1
    clear hqv hsets hmay
    go_enter Tryz.func13, Tryz.ntmps13
    go_wp2_with fail
    refine hri.mono ?_
    rintro e w1 ⟨rfl, hB1⟩
    clear hri
    have HB01 : Hid (Below w.heap.size w w1) := below_after HB0.out hB1
    have e1 : w1.heap[w.heap.size]? = some (.cells #[.slice za ns ca, .slice ya nr da] 27 (0, 0)) := (hB1.block _ (by simp)).trans HEA.out
    have hlt1 : w.heap.size < w1.heap.size := (Array.getElem?_eq_some_iff.1 e1).1
    have c10 : w1.cell? ⟨w.heap.size, 0, none⟩ = some (.slice za ns ca) := cell_of_row _ _ 0 _ _ _ e1
    have HE1 : Hid (w1.heap[w.heap.size]? = some (.cells #[.slice za ns ca, .slice ya nr da] 27 (0, 0))) := e1
    have HDB1 : Hid (DbV w1) := HDB.out.below HB01.out HDB.out.2
    have HEP : Hid ((w1.alloc (.cells #[.slice none 0 0, .slice none 0 0] 63)).heap[w1.heap.size]? = some (.cells #[.slice none 0 0, .slice none 0 0] 63 (0, 0))) := heap_new' w1 _
    have HDL : Hid (6 < w1.heap.size) := HDB1.out.2
    clear hB1 e1
    go_wp2
    go_loopw [15] (fun x wr => ∃ (j : Nat) (sv : Value), j ≤ ns ∧ x = .int .i64 (j : Int) ∧ wr.heap[w1.heap.size]? = some (.cells #[sv, .slice none 0 0] 63 (0, 0)) ∧ Hid (wr.ownsRow w1.heap.size 9 1 sv j (((st.take j).map setL).map fun s => .string (strOfNums s))) ∧ Hid (sv.ownBlock ≠ some w1.heap.size) ∧ Below w1.heap.size w1 wr) (fun x _ => ns - (intOf x).toNat)
    case atStart => exact ⟨0, .slice none 0 0, Nat.zero_le _, rfl, HEP.out, World.ownsRow_nil _ _ _ _, (by show _ ≠ _; simp [Value.ownBlock]), below_alloc _ _⟩
    case round =>
      obtain ⟨j, sv, hj, rfl, hEP, HOW, HNP, hB⟩ := hrel
      have hltP : w1.heap.size < wr.heap.size := (Array.getElem?_eq_some_iff.1 hEP).1
      obtain ⟨va, vn, vc, rfl⟩ := own_slice HOW.out
      have p0 : wr.cell? ⟨w1.heap.size, 0, none⟩ = some (.slice va vn vc) := cell_of_row _ _ 0 _ _ _ hEP
      have pf0 : wr.frozen? ⟨w1.heap.size, 0, none⟩ = false := frozen_of_row _ _ 0 _ _ hEP
      have HEPr : Hid (wr.heap[w1.heap.size]? = some (.cells #[.slice va vn vc, .slice none 0 0] 63 (0, 0))) := hEP
      have HBW : Hid (Below w.heap.size w wr) := HB01.out.trans (hB.mono (by omega))
      clear hEP
      by_cases hjl : j < ns
      · have hjl' : decide ((j : Int) < (ns : Int)) = true := by simp; omega
        have hjs : j < st.length := by have := HNS.out; omega
        obtain ⟨ga, oa, xa, xca, yl, rfl, hga, r0, hrg⟩ : ∃ (ga oa : Nat) (xa : Option Addr) (xca yl : Nat), za = some ⟨ga, oa, none⟩ ∧ ga < wr.heap.size ∧ wr.cell? ⟨ga, oa + j, none⟩ = some (.slice xa yl xca) ∧ RngIn wr (.slice xa yl xca) st[j] := by
          obtain ⟨a, ca', e1, _, hi⟩ := HSA.out.below HBW.out
          obtain ⟨ga, oa, x, rfl, hga, h0, h1⟩ := hi j hjs
          have h1' := h1
          obtain ⟨xa, xca, rfl, _⟩ := h1'
          exact ⟨ga, oa, xa, xca, _, by simp at e1; exact e1.1, hga, h0, h1⟩
        have hj0 : (0 : Int) ≤ (j : Int) := by omega
        have hj1 : (j : Int) < (ns : Int) := by omega
        have h40 := HOK.out.2.2.1 _ (List.getElem_mem hjs)
        obtain ⟨str, hstr⟩ : ∃ x, x = strOfNums (setL st[j]) := ⟨_, rfl⟩
        have HSTR : Hid (str = strOfNums (setL st[j])) := hstr
        have HLX : Hid (∀ W, Below wr.heap.size wr W → Calls Tryz.prog 26 #[.slice xa yl xca] W fun e w' => e = .returned (.string str) ∧ Below W.heap.size W w') := fun W hW => by
          rw [hstr]
          exact lexSet_any st[j] (HSF.out _ (List.getElem_mem hjs)) (by omega) _ W ((HDB1.out.below hB HDB1.out.2).below hW (by have := hB.size; have := HDB1.out.2; omega)) (hrg.below hW)
        have HOWN : Hid (∀ W, Below wr.heap.size wr W → W.ownsRow w1.heap.size 9 1 (.slice va vn vc) j (((st.take j).map setL).map fun s => .string (strOfNums s))) := fun W hW => own_block HOW.out (fun k hk => hW.block k (HOW.out.lt k hk).2)
        have HP0 : Hid (∀ W, Below wr.heap.size wr W → W.cell? ⟨w1.heap.size, 0, none⟩ = some (.slice va vn vc) ∧ W.frozen? ⟨w1.heap.size, 0, none⟩ = false) := fun W hW => ⟨(hW.cell (p := ⟨_, _, none⟩) hltP).trans p0, (World.frozen?_of_block (a := ⟨w1.heap.size, 0, none⟩) (hW.block _ hltP)).trans pf0⟩
        have HSR : Hid (((st.take (j + 1)).map setL).map (fun s => Value.string (strOfNums s)) = ((st.take j).map setL).map (fun s => Value.string (strOfNums s)) ++ [.string str]) := by
          show _ = _
          rw [List.take_add_one, List.getElem?_eq_getElem hjs, hstr, Option.toList_some, List.map_append, List.map_append]
          rfl
        clear hrg hstr
        go_wp2
        go_region_law (first | (go_simp; refine (HLX.out _ (by exact below_drewN' (Below.refl _ _) 1)).mono ?_; rintro e wS ⟨rfl, hBS⟩; have hBS' : Below wr.heap.size wr wS := (below_drewN' (Below.refl _ _) 1).trans hBS; have q0 := (HP0.out _ hBS').1; have hPS : w1.heap.size < wS.heap.size := Nat.lt_of_lt_of_le hltP hBS'.size; try dsimp only) | (refine step_append_lies _ (by rfl) (.tmp 20) (.tmp 23) 61 (by rfl) w1.heap.size 9 i0 (.string ⟨#[]⟩) 1 16 Tryz.underlying61 hi0 hz0 hz1 hz2 rfl (by decide) (.slice va vn vc) j _ (by rfl) (by exact (HOWN.out _ hBS').alloc _) ⟨wS.heap.size, 0, none⟩ 1 1 [.string str] (by rfl) rfl (by exact cell_one_new _ _ _) (by simp [Value.oneCell']) (by omega) (by unfold maxLen; omega) (by omega) (by simp; omega) _ rfl ?_; intro g cap2 wz hown hgrow hat hltg; have c32 : wz.cell? ⟨w1.heap.size, 0, none⟩ = some (.slice va vn vc) := hgrow.cell (((below_alloc wS _).cell (p := ⟨w1.heap.size, 0, none⟩) hPS).trans (HP0.out _ hBS').1) (Ne.symm HNP.out); have f32 : wz.frozen? ⟨w1.heap.size, 0, none⟩ = false := (World.frozen?_of_block (a := ⟨w1.heap.size, 0, none⟩) (hgrow.block w1.heap.size (by simp; omega) (Ne.symm HNP.out))).trans ((World.frozen?_of_block (a := ⟨w1.heap.size, 0, none⟩) ((below_alloc wS _).block _ hPS)).trans (HP0.out _ hBS').2)))
        all_goals (
          have hzP : wz.heap[w1.heap.size]? = some (.cells #[.slice va vn vc, .slice none 0 0] 63 (0, 0)) := (hgrow.block w1.heap.size (by simp; omega) (Ne.symm HNP.out)).trans (((below_alloc wS _).block _ hPS).trans ((hBS'.block _ hltP).trans HEPr.out))
          have hgP : g ≠ w1.heap.size := fun q => by
            rcases hat with h | h
            · exact HNP.out (by rw [h, q])
            · rw [World.size_alloc] at h; omega
          have HZ1 : Hid ((wz.setCell ⟨w1.heap.size, 0, none⟩ (.slice (some ⟨g, 0, none⟩) (j + 1) cap2)).heap[w1.heap.size]? = some (.cells #[.slice (some ⟨g, 0, none⟩) (j + 1) cap2, .slice none 0 0] 63 (0, 0))) := heap_set hzP _
          have hset : ∀ k, k ≠ w1.heap.size → (wz.setCell ⟨w1.heap.size, 0, none⟩ (.slice (some ⟨g, 0, none⟩) (j + 1) cap2)).heap[k]? = wz.heap[k]? := fun k hk => Below.heap_setCell wz ⟨w1.heap.size, 0, none⟩ _ k (by simpa using hk)
          have HZ2 : Hid ((wz.setCell ⟨w1.heap.size, 0, none⟩ (.slice (some ⟨g, 0, none⟩) (j + 1) cap2)).ownsRow w1.heap.size 9 1 (.slice (some ⟨g, 0, none⟩) (j + 1) cap2) (j + 1) (((st.take (j + 1)).map setL).map fun s => .string (strOfNums s))) := by
            rw [HSR.out]
            exact own_block hown (fun k hk => hset k (fun q => hgP (by have : g = k := by simpa [Value.ownBlock] using hk
                                                                       omega)))
          have HZ3 : Hid ((Value.slice (some ⟨g, 0, none⟩) (j + 1) cap2).ownBlock ≠ some w1.heap.size) := fun q => hgP (by simpa [Value.ownBlock] using q)
          have HZ4 : Hid (Below w1.heap.size w1 (wz.setCell ⟨w1.heap.size, 0, none⟩ (.slice (some ⟨g, 0, none⟩) (j + 1) cap2))) := by
            have h1 : Below w1.heap.size w1 wS := hB.trans (hBS'.mono hB.size)
            have h2 := h1.alloc h1.size (.cells #[.string str] 9)
            have h3 : Below w1.heap.size w1 wz := h2.grown hgrow (by simp; omega) (fun k hk => (HOW.out.lt k hk).1)
            exact h3.setCell (by simp) _
          clear hown hgrow hat hzP hset hgP hBS hBS' q0 c32 f32
          go_wp2
          go_roundw
          case rel => exact ⟨j + 1, _, by omega, by go_num, HZ1.out, HZ2, HZ3, HZ4.out⟩
          case measure => simp [intOf]; omega)
      · have hjl' : decide ((j : Int) < (ns : Int)) = false := by simp; omega
        have HOW2 : Hid (wr.ownsRow w1.heap.size 9 1 (.slice va vn vc) (st.map setL).length ((st.map setL).map fun s => .string (strOfNums s))) := by
          have h5 := HOW.out
          rw [List.take_of_length_le (by have := HNS.out; omega), show j = (st.map setL).length by rw [List.length_map]; have := HNS.out; omega] at h5
          exact h5
        have hp1c : wr.cell? ⟨w1.heap.size, 1, none⟩ = some (.slice none 0 0) := cell_of_row _ _ 1 _ _ _ HEPr.out
        have HWK : Hid (∀ k, k < w.heap.size → Wk wr w1.heap.size k) := fun k hk => ⟨by omega, by omega, fun v hv => by
          rw [hp1c] at hv
          obtain rfl : Value.slice none 0 0 = v := by simpa using hv
          simp [Value.ownBlock]⟩
        have HSTI : Hid (StrIn (Wk wr w1.heap.size) wr (.slice va vn vc) (st.map setL)) := strIn_of_row HOW2.out (fun g hg => ⟨(HOW2.out.lt g hg).2, fun q => HNP.out (by rw [hg, q]), fun v hv => by
          rw [hp1c] at hv
          obtain rfl : Value.slice none 0 0 = v := by simpa using hv
          simp [Value.ownBlock]⟩)
        have HPA : Hid (PrAt w.heap.size w1.heap.size wr (.slice va vn vc) []) := ⟨.slice none 0 0, HEPr.out, World.ownsRow_nil _ _ _ _, by simp [Value.ownBlock], by omega⟩
        have HSL : Hid (∀ s ∈ st.map setL, Byt s ∧ s.length ≤ 69900) := fun s hs => by
          obtain ⟨l, hl, rfl⟩ := List.mem_map.1 hs
          have h5 := HOK.out.2.2.1 l hl
          have h6 := setL_len l
          exact ⟨byt_of (setL_byt l), by omega⟩
        have HWr0 : Hid (∃ W0, W0 = wr) := ⟨_, rfl⟩
        have e2 : wr.heap[w.heap.size]? = some (.cells #[.slice za ns ca, .slice ya nr da] 27 (0, 0)) := (hB.block _ hlt1).trans HE1.out
        have c11 : wr.cell? ⟨w.heap.size, 1, none⟩ = some (.slice ya nr da) := cell_of_row _ _ 1 _ _ _ e2
        have hltB : w.heap.size < wr.heap.size := by omega
        obtain ⟨wr0, hwr0⟩ : ∃ x, x = wr := ⟨_, rfl⟩
        have HWR0 : Hid (wr0 = wr) := hwr0
        clear e2 hp1c p0 pf0 hwr0 HWr0
        rw [← HWR0.out] at HSTI HPA HWK HBW
        go_wp2
        go_loopw [30] (fun x wr => ∃ (j : Nat) (cur : List Int), j ≤ nr ∧ x = .int .i64 (j : Int) ∧ Hid (progT (st.map setL) rl = cur ++ progT (st.map setL) (rl.drop j)) ∧ Hid (cur.length ≤ j * 450000000) ∧ Hid (PrAt w.heap.size w1.heap.size wr (.slice va vn vc) cur) ∧ Hid (FrW w1.heap.size wr0 wr)) (fun x _ => nr - (intOf x).toNat)
        case atStart => exact ⟨0, [], Nat.zero_le _, rfl, (show _ = _ by rw [List.drop_zero]; rfl), (show 0 ≤ 0 * 450000000 by omega), (by rw [← HWR0.out]; exact HPA), (by rw [← HWR0.out]; exact FrW.refl _ _)⟩
        case round =>
          obtain ⟨j, cur, hj, rfl, HTJ, HLJ, HPJ, HFJ⟩ := hrel
          have hPl := HPJ.out.lt
          have hlj : cur.length ≤ j * 450000000 := HLJ.out
          have HKW : Hid (∀ k, k < w.heap.size → wr.heap[k]? = w.heap[k]? ∧ Wk wr w1.heap.size k) := fun k hk => ⟨(HFJ.out.keep k (HWK.out k hk)).1.trans (HBW.out.block k hk), (HFJ.out.keep k (HWK.out k hk)).2⟩
          by_cases hjl : j < nr
          · have hjl' : decide ((j : Int) < (nr : Int)) = true := by simp; omega
            have hjs : j < rl.length := by have := HNR.out; omega
            obtain ⟨ga, oa, bb, lk, ls, la, ln, lca, rk, rs, ra, rn, rca, hbb, rfl, hga, ⟨c0, c1, c2, c3, c4, c5, c6⟩, hcl, hcr⟩ : ∃ (ga oa : Nat) (bb : Bool) (lk ls : Int) (la : Option Addr) (ln lca : Nat) (rk rs : Int) (ra : Option Addr) (rn rca : Nat), bb = rl[j].b ∧ ya = some ⟨ga, oa, none⟩ ∧ ga < wr.heap.size ∧
                (wr.cell? ⟨ga, oa + j * 7, none⟩ = some (.bool bb) ∧ wr.cell? ⟨ga, oa + j * 7 + 1, none⟩ = some (.int .i64 lk) ∧ wr.cell? ⟨ga, oa + j * 7 + 2, none⟩ = some (.int .i64 ls) ∧ wr.cell? ⟨ga, oa + j * 7 + 3, none⟩ = some (.slice la ln lca) ∧ wr.cell? ⟨ga, oa + j * 7 + 4, none⟩ = some (.int .i64 rk) ∧ wr.cell? ⟨ga, oa + j * 7 + 5, none⟩ = some (.int .i64 rs) ∧ wr.cell? ⟨ga, oa + j * 7 + 6, none⟩ = some (.slice ra rn rca)) ∧
                (∀ (zs' : List Int) W, zs'.length + 220000000 ≤ 1000000000000 → FrW w1.heap.size (wr.alloc (.cells #[.bool bb, .int .i64 lk, .int .i64 ls, .slice la ln lca, .int .i64 rk, .int .i64 rs, .slice ra rn rca] 41)) W → PrAt w.heap.size w1.heap.size W (.slice va vn vc) zs' → Calls Tryz.prog 56 #[.pointer (some ⟨w1.heap.size, 0, none⟩), .agg #[.int .i64 lk, .int .i64 ls, .slice la ln lca]] W fun e w'' => e = .returned (.tuple #[]) ∧ PrAt w.heap.size w1.heap.size w'' (.slice va vn vc) (zs' ++ txN 120 (st.map setL) rl[j].l) ∧ FrW w1.heap.size W w'') ∧
                (∀ (zs' : List Int) W, zs'.length + 220000000 ≤ 1000000000000 → FrW w1.heap.size (wr.alloc (.cells #[.bool bb, .int .i64 lk, .int .i64 ls, .slice la ln lca, .int .i64 rk, .int .i64 rs, .slice ra rn rca] 41)) W → PrAt w.heap.size w1.heap.size W (.slice va vn vc) zs' → Calls Tryz.prog 56 #[.pointer (some ⟨w1.heap.size, 0, none⟩), .agg #[.int .i64 rk, .int .i64 rs, .slice ra rn rca]] W fun e w'' => e = .returned (.tuple #[]) ∧ PrAt w.heap.size w1.heap.size w'' (.slice va vn vc) (zs' ++ txN 120 (st.map setL) rl[j].r) ∧ FrW w1.heap.size W w'') := by
              obtain ⟨a, ca', e1, _, hi⟩ := HRA.out
              obtain ⟨ga, oa, zl, zr, rfl, hga, c0, c1, c2, c3, c4, c5, c6, c7, c8⟩ := hi j hjs
              obtain ⟨x1, x2, rfl, _⟩ := c7.slice
              obtain ⟨x3, x4, rfl, _⟩ := c8.slice
              have hf := HOK.out.2.2.2 _ (List.getElem_mem hjs)
              have hsi := HSI.out _ (List.getElem_mem hjs)
              have e1' : ya = some ⟨ga, oa, none⟩ := by simp at e1; exact e1.1
              have hcell : ∀ o v, w.cell? ⟨ga, o, none⟩ = some v → wr.cell? ⟨ga, o, none⟩ = some v := fun o v hv => (World.cell?_of_block (a := ⟨ga, o, none⟩) (HKW.out ga hga).1).trans hv
              have hBX : ∀ (o : Obj) W, FrW w1.heap.size (wr.alloc o) W → FrW w1.heap.size wr W := fun o W hW => (frw_below (below_alloc wr o) hPl).trans hW
              have hsl : (st.map setL).length = st.length := by simp
              refine ⟨ga, oa, _, _, _, x1, _, x2, _, _, x3, _, x4, rfl, e1', (HKW.out ga hga).2.1, ⟨hcell _ _ c0, hcell _ _ c1, hcell _ _ c2, hcell _ _ c3, hcell _ _ c4, hcell _ _ c5, hcell _ _ c6⟩, fun zs' W hz hW hP => ?_, fun zs' W hz hW hP => ?_⟩
              · exact expression_any (st.map setL) HSL.out w.heap.size w1.heap.size _ 120 rl[j].l _ zs' W hf.1.1 (by rw [hsl]; exact hsi.1) (by have := hf.1.2; omega) hP (HSTI.out.to (fun k hk => (HFJ.out.trans (hBX _ W hW)).keep k hk)) (c7.to (fun k hk => ⟨((hBX _ W hW).keep k (HKW.out k hk).2).1.trans (HKW.out k hk).1, ((hBX _ W hW).keep k (HKW.out k hk).2).2⟩))
              · exact expression_any (st.map setL) HSL.out w.heap.size w1.heap.size _ 120 rl[j].r _ zs' W hf.2.1 (by rw [hsl]; exact hsi.2) (by have := hf.2.2; omega) hP (HSTI.out.to (fun k hk => (HFJ.out.trans (hBX _ W hW)).keep k hk)) (c8.to (fun k hk => ⟨((hBX _ W hW).keep k (HKW.out k hk).2).1.trans (HKW.out k hk).1, ((hBX _ W hW).keep k (HKW.out k hk).2).2⟩))
            have hj0 : (0 : Int) ≤ (j : Int) := by omega
            have hj1 : (j : Int) < (nr : Int) := by omega
            have ed : rl.drop j = rl[j] :: rl.drop (j + 1) := List.drop_eq_getElem_cons hjs
            have hf := HOK.out.2.2.2 _ (List.getElem_mem hjs)
            have HL1 : Hid ((txN 120 (st.map setL) rl[j].l).length + 3 ≤ 220000000) := by
              have := txN_len (S := st.map setL) (fun s hs => (HSL.out s hs).2) 120 rl[j].l
              have := hf.1.2
              show _ ≤ _
              omega
            have HL2 : Hid ((txN 120 (st.map setL) rl[j].r).length + 3 ≤ 220000000) := by
              have := txN_len (S := st.map setL) (fun s hs => (HSL.out s hs).2) 120 rl[j].r
              have := hf.2.2
              show _ ≤ _
              omega
            have HTN : Hid (progT (st.map setL) rl = (cur ++ rlT bb (txN 120 (st.map setL) rl[j].l) (txN 120 (st.map setL) rl[j].r)) ++ progT (st.map setL) (rl.drop (j + 1))) := by
              show _ = _
              rw [HTJ.out, ed, progT_cons, hbb, List.append_assoc]
            have HLN : Hid ((cur ++ rlT bb (txN 120 (st.map setL) rl[j].l) (txN 120 (st.map setL) rl[j].r)).length ≤ (j + 1) * 450000000) := by
              have := rlT_len bb (txN 120 (st.map setL) rl[j].l) (txN 120 (st.map setL) rl[j].r)
              have := HL1.out
              have := HL2.out
              show _ ≤ _
              rw [List.length_append]; omega
            have hru := rule_of bb lk ls la ln lca rk rs ra rn rca w.heap.size w1.heap.size (.slice va vn vc) cur _ _ 220000000 HL1.out HL2.out (by omega) (wr.alloc (.cells #[.bool bb, .int .i64 lk, .int .i64 ls, .slice la ln lca, .int .i64 rk, .int .i64 rs, .slice ra rn rca] 41)) (HPJ.out.below (below_alloc _ _)) hcl hcr
            have HF5 : Hid (FrW w1.heap.size wr0 (wr.alloc (.cells #[.bool bb, .int .i64 lk, .int .i64 ls, .slice la ln lca, .int .i64 rk, .int .i64 rs, .slice ra rn rca] 41))) := HFJ.out.trans (frw_below (below_alloc _ _) hPl)
            obtain ⟨nt, hnt⟩ : ∃ x, x = cur ++ rlT bb (txN 120 (st.map setL) rl[j].l) (txN 120 (st.map setL) rl[j].r) := ⟨_, rfl⟩
            rw [← hnt] at hru HTN HLN
            clear hcl hcr ed hf hbb hnt HTJ
            go_wp2_with fail
            refine hru.mono ?_
            rintro e w6 ⟨rfl, hp6, hf6⟩
            clear hru
            have HP6 : Hid (PrAt w.heap.size w1.heap.size w6 (.slice va vn vc) nt) := hp6
            have HF6 : Hid (FrW w1.heap.size wr0 w6) := HF5.out.trans hf6
            clear hp6 hf6 c0 c1 c2 c3 c4 c5 c6
            go_wp2
            go_roundw
            case rel => exact ⟨j + 1, nt, by omega, by go_num, HTN, HLN, HP6, HF6⟩
            case measure => simp [intOf]; omega
          · have hjl' : decide ((j : Int) < (nr : Int)) = false := by simp; omega
            have HTE : Hid (progT (st.map setL) rl = cur) := by
              show _ = _
              rw [HTJ.out, List.drop_eq_nil_of_le (by rw [← HNR.out]; omega)]
              show cur ++ [] = cur
              simp
            obtain ⟨tv, t1, t2, t3, t4⟩ := HPJ.out
            have HT2 : Hid (wr.ownsRow w.heap.size 5 1 tv cur.length (cur.map (Value.int .u8))) := t2
            obtain ⟨ta, tn, tc, rfl⟩ := own_slice t2
            have cT : wr.cell? ⟨w1.heap.size, 1, none⟩ = some (.slice ta tn tc) := cell_of_row _ _ 1 _ _ _ t1
            have HBE : Hid (Below w.heap.size w wr) := ⟨HFJ.out.os.trans HBW.out.os, HFJ.out.tape.trans HBW.out.tape, HFJ.out.output.trans HBW.out.output, Nat.le_trans HBW.out.size HFJ.out.size, fun k hk => (HKW.out k hk).1⟩
            clear t1 t2 t3 t4
            go_wp2
            go_ret2
            refine ⟨HBE.out, .inr ⟨HE.out, .slice ta tn tc, rfl, ?_⟩⟩
            rw [HTE.out]
            exact HT2.out
end Go.Proofs.YtfdjchnckjgapaaGreatDoor

namespace Go.Proofs.YtfdjchnckjgapaaGreatDoor
open Go.RowKit Go.Shelf S1
set_option linter.unusedVariables false
end Go.Proofs.YtfdjchnckjgapaaGreatDoor

namespace Go.Proofs.YtfdjchnckjgapaaGreatDoor
open Go.RowKit Go.Shelf S1
set_option linter.unusedVariables false
end Go.Proofs.YtfdjchnckjgapaaGreatDoor

namespace Go.Proofs.YtfdjchnckjgapaaGreatDoor
open Go.RowKit Go.Shelf S1
set_option linter.unusedVariables false
end Go.Proofs.YtfdjchnckjgapaaGreatDoor

namespace Go.Proofs.YtfdjchnckjgapaaGreatDoor
open Go.RowKit Go.Shelf S1
set_option linter.unusedVariables false
end Go.Proofs.YtfdjchnckjgapaaGreatDoor

namespace Go.Proofs.YtfdjchnckjgapaaGreatDoor
open Go.RowKit Go.Shelf S1
set_option linter.unusedVariables false
end Go.Proofs.YtfdjchnckjgapaaGreatDoor

namespace Go.Proofs.YtfdjchnckjgapaaGreatDoor
open Go.RowKit Go.Shelf S1
set_option linter.unusedVariables false
end Go.Proofs.YtfdjchnckjgapaaGreatDoor
