/-
  Marks: what put answers.
-/
import Derived.Test.YtklhjjgnhigbiaaGreatDoorGA
namespace Go.Proofs.YtklhjjgnhigbiaaGreatDoor
open Go.RowKit
set_option linter.unusedVariables false

/-- The marks' one cell. -/
def MkAt (w : World) (mb m : Nat) : Prop := w.heap[mb]? = some (.cells #[.int .u64 (m : Int)] 38 (0, 0))
def putM (m : Nat) (l : List Nat) : Nat := l.foldl (fun a x => a ||| 2 ^ x) m
theorem putM_snoc (m : Nat) (l : List Nat) (x : Nat) : putM m (l ++ [x]) = putM m l ||| 2 ^ x := by simp [putM]
theorem putM_bit : ∀ (l : List Nat) (m x : Nat), (putM m l).testBit x = (m.testBit x || decide (x ∈ l))
  | [], m, x => by simp [putM]
  | y :: l, m, x => by
    show (putM (m ||| 2 ^ y) l).testBit x = _
    rw [putM_bit l, Nat.testBit_or, Nat.testBit_two_pow]
    by_cases h : y = x
    · subst h; simp
    · have h' : ¬ x = y := fun e => h e.symm
      simp [h, h']
theorem putM_lt : ∀ (l : List Nat) (m : Nat), m < 2 ^ 64 → (∀ x ∈ l, x < 64) → putM m l < 2 ^ 64
  | [], m, h, _ => h
  | y :: l, m, h, hl => putM_lt l _ (Nat.or_lt_two_pow h (Nat.pow_lt_pow_right (by omega) (hl y (by simp)))) (fun x hx => hl x (by simp [hx]))

theorem u64_in (n : Nat) (h : n < 2 ^ 64) : IntKind.u64.wrap (n : Int) = (n : Int) := by
  rw [IntKind.wrap_u64]; omega
theorem pow64 {x : Nat} (h : x < 64) : 2 ^ x < 2 ^ 64 := Nat.pow_lt_pow_right (by omega) h
theorem and_bit {M x : Nat} (hM : M < 2 ^ 64) (hx : x < 64) : (bits .and .u64 (M : Int) (IntKind.u64.wrap ((2 : Int) ^ x)) == 0) = !M.testBit x := by
  have e : (2 : Int) ^ x = ((2 ^ x : Nat) : Int) := by simp
  have h2 := pow64 hx
  rw [e, u64_in _ h2, bits_and_u64_nat M (2 ^ x) (by simpa using hM) (by simpa using h2)]
  have key : (M &&& 2 ^ x = 0) ↔ M.testBit x = false := by
    constructor
    · intro h
      have := congrArg (fun y => Nat.testBit y x) h
      simpa [Nat.testBit_and, Nat.testBit_two_pow_self] using this
    · intro h
      apply Nat.eq_of_testBit_eq
      intro i
      rw [Nat.testBit_and, Nat.testBit_two_pow]
      by_cases q : x = i
      · subst q; simp [h]
      · simp [q]
  cases hb : M.testBit x with
  | false => rw [key.2 hb]; rfl
  | true =>
    have h0 : ¬ M &&& 2 ^ x = 0 := fun h => by rw [key.1 h] at hb; cases hb
    simp only [Bool.not_true, beq_eq_false_iff_ne]
    exact fun e => h0 (by exact_mod_cast e)
theorem or_bit {M x : Nat} (hM : M < 2 ^ 64) (hx : x < 64) : bits .or .u64 (M : Int) (IntKind.u64.wrap ((2 : Int) ^ x)) = ((M ||| 2 ^ x : Nat) : Int) := by
  have e : (2 : Int) ^ x = ((2 ^ x : Nat) : Int) := by simp
  have h2 := pow64 hx
  rw [e, u64_in _ h2, bits_or_u64_nat M (2 ^ x) (by simpa using hM) (by simpa using h2)]

set_option maxRecDepth 100000 in
set_option maxHeartbeats 4000000 in
theorem put_any (mb m : Nat) (l : List Nat) (v : Value) (w : World) (b0 B L : Nat) (hm : MkAt w mb m) (hm64 : m < 2 ^ 64) (hv : PlcAt b0 B w v l) (hr : Ris L l) (hL : L < 64) (hmb : b0 ≤ mb ∧ mb < B) :
    Calls Tryz.prog 89 #[.slice (some ⟨mb, 0, none⟩) 1 1, v] w fun e w' => ∃ v', e = .returned v' ∧ w'.ownsRow w.heap.size 3 1 v' (l.filter fun x => !m.testBit x).length (cellP (l.filter fun x => !m.testBit x)) ∧ MkAt w' mb (putM m l) ∧ w.grownBy w' (some mb) := by
  obtain ⟨i0, hi0, hz0, hz1, hz2⟩ := info_parts Tryz.infoInt
  have HV : Hid (PlcAt b0 B w v l) := hv
  obtain ⟨a, cap, rfl, hcap, hn, _⟩ := hv
  have hmlt : mb < w.heap.size := lt_of_heap hm
  have hlen : l.length ≤ 64 := by have := hr.len; omega
  obtain ⟨len, hle⟩ : ∃ len, len = l.length := ⟨_, rfl⟩
  rw [← hle] at hcap hlen HV ⊢
  have HLE : Hid (len = l.length) := hle
  have HM : Hid (MkAt w mb m) := hm
  have HR : Hid (Ris L l) := hr
  clear hle hm hr hn
  go_enter Tryz.func89, Tryz.ntmps89
  go_wp2
  go_loopw [5, 11] (fun x5 x11 wr => ∃ (j : Nat), j ≤ len ∧ x11 = .int .i64 (j : Int) ∧ wr.ownsRow w.heap.size 3 1 x5 ((l.take j).filter fun x => !m.testBit x).length (cellP ((l.take j).filter fun x => !m.testBit x)) ∧ MkAt wr mb (putM m (l.take j)) ∧ w.grownBy wr (some mb)) (fun _ x11 _ => len - (intOf x11).toNat)
  case atStart => exact ⟨0, Nat.zero_le _, rfl, by simpa [cellP] using World.ownsRow_nil _ _ _ _, HM.out, World.grownBy.refl _ _⟩
  case round =>
    obtain ⟨j, hj, rfl, hown, hmk, hg⟩ := hrel
    by_cases hjl : j < len
    · have hjn : j < l.length := by rw [← HLE.out]; exact hjl
      obtain ⟨x, hx⟩ : ∃ x, x = l[j] := ⟨_, rfl⟩
      obtain ⟨ga, oa, rfl, hBg, hga, c0⟩ : ∃ ga oa, a = some ⟨ga, oa, none⟩ ∧ (ga < b0 ∨ B ≤ ga) ∧ ga < w.heap.size ∧ w.cell? ⟨ga, oa + j, none⟩ = some (.int .i64 (x : Int)) := by
        obtain ⟨a', c', e1, _, _, h⟩ := HV.out
        obtain ⟨g, off, e2, h1, h2, h3⟩ := h j hjn
        exact ⟨g, off, by simp at e1; rw [e1.1]; exact e2, h1, h2, by rw [hx]; exact h3⟩
      have hx64 : x < 64 := by have := HR.out.2 l[j] (List.getElem_mem hjn); omega
      have c1 : wr.cell? ⟨ga, oa + j, none⟩ = some (.int .i64 (x : Int)) := (World.cell?_of_block (a := ⟨ga, _, none⟩) (hg.block ga hga (by simp; omega))).trans c0
      obtain ⟨M, hM⟩ : ∃ M, M = putM m (l.take j) := ⟨_, rfl⟩
      rw [← hM] at hmk
      have m0 : wr.cell? ⟨mb, 0, none⟩ = some (.int .u64 (M : Int)) := cell_in hmk 0
      have hj0 : (0 : Int) ≤ (j : Int) := by omega
      have hj1 : (j : Int) < (len : Int) := by omega
      have HX : Hid (x = l[j]) := hx
      have HMM : Hid (M = putM m (l.take j)) := hM
      have HM64 : Hid (M < 2 ^ 64) := by
        show _ < _
        rw [hM]
        exact putM_lt _ _ hm64 (fun y hy => by have := HR.out.2 y (List.mem_of_mem_take hy); omega)
      have HTB : Hid (M.testBit x = m.testBit x) := by
        show _ = _
        have hni : ¬ x ∈ l.take j := fun h => by
          have hp := HR.out.1
          rw [← List.take_append_drop j l, List.pairwise_append] at hp
          have := hp.2.2 x h l[j] (by rw [List.drop_eq_getElem_cons hjn]; exact List.mem_cons_self)
          omega
        rw [hM, putM_bit]; simp [hni]
      have hd64 : x / 64 = 0 := by omega
      have hr64 : x % 64 = x := by omega
      have hi64 : (x : Int) / 64 = 0 := by omega
      have hj64 : (x : Int) % 64 = (x : Int) := by omega
      have hnf : wr.frozen? ⟨mb, 0, none⟩ = false := by simp [World.frozen?, show wr.heap[mb]? = _ from hmk]
      have HMK : Hid (MkAt wr mb M) := hmk
      have HTK : Hid (l.take (j + 1) = l.take j ++ [x]) := by
        show _ = _
        rw [List.take_add_one, List.getElem?_eq_getElem hjn, hx]; rfl
      have HFL : Hid (((l.take j).filter fun x => !m.testBit x).length ≤ 64) := Nat.le_trans (List.length_filter_le _ _) (by rw [List.length_take]; omega)
      have HG : Hid (w.grownBy wr (some mb)) := hg
      have hws : w.heap.size ≤ wr.heap.size := hg.size
      cases hb : m.testBit x with
      | true =>
        have hd : (bits .and .u64 (M : Int) (IntKind.u64.wrap ((2 : Int) ^ x)) == 0) = false := by rw [and_bit HM64.out hx64, HTB.out, hb]; rfl
        have HF : Hid ((l.take (j + 1)).filter (fun x => !m.testBit x) = (l.take j).filter fun x => !m.testBit x) := by
          show _ = _
          rw [HTK.out, List.filter_append]; simp [hb]
        have HP : Hid (putM m (l.take (j + 1)) = M) := by
          show _ = _
          rw [HTK.out, putM_snoc, ← HMM.out]
          apply Nat.eq_of_testBit_eq
          intro i
          rw [Nat.testBit_or, Nat.testBit_two_pow]
          by_cases q : x = i
          · subst q; rw [HTB.out, hb]; rfl
          · simp [q]
        have HO : Hid (wr.ownsRow w.heap.size 3 1 u5 ((l.take (j + 1)).filter fun x => !m.testBit x).length (cellP ((l.take (j + 1)).filter fun x => !m.testBit x))) := by
          show wr.ownsRow _ _ _ _ _ _
          rw [HF.out]; exact hown
        clear hown hmk hM hx hg c0 hb hnf
        go_wp2
        go_roundw
        case rel => exact ⟨j + 1, by omega, by go_num, HO.out, by rw [HP.out]; exact HMK.out, HG.out⟩
        case measure => simp [intOf]; omega
      | false =>
        have hd : (bits .and .u64 (M : Int) (IntKind.u64.wrap ((2 : Int) ^ x)) == 0) = true := by rw [and_bit HM64.out hx64, HTB.out, hb]; rfl
        have HOR : Hid (bits .or .u64 (M : Int) (IntKind.u64.wrap ((2 : Int) ^ x)) = ((M ||| 2 ^ x : Nat) : Int)) := or_bit HM64.out hx64
        have HF : Hid ((l.take (j + 1)).filter (fun x => !m.testBit x) = ((l.take j).filter fun x => !m.testBit x) ++ [x]) := by
          show _ = _
          rw [HTK.out, List.filter_append]; simp [hb]
        have HP : Hid (putM m (l.take (j + 1)) = M ||| 2 ^ x) := by
          show _ = _
          rw [HTK.out, putM_snoc, ← HMM.out]
        have HO1 : Hid ((wr.setCell ⟨mb, 0, none⟩ (.int .u64 (bits .or .u64 (M : Int) (IntKind.u64.wrap ((2 : Int) ^ x))))).ownsRow w.heap.size 3 1 u5 ((l.take j).filter fun x => !m.testBit x).length (cellP ((l.take j).filter fun x => !m.testBit x))) := ownsRow_setCell_below hown (by exact hmlt) _
        have HG1 : Hid (w.grownBy (wr.setCell ⟨mb, 0, none⟩ (.int .u64 (bits .or .u64 (M : Int) (IntKind.u64.wrap ((2 : Int) ^ x))))) (some mb)) := ⟨hg.os, hg.tape, hg.output, by simp [World.setCell]; exact hg.size, fun k hk hne => (Below.heap_setCell _ _ _ _ (by intro e; exact hne (by rw [e]))).trans (hg.block k hk hne)⟩
        have HMK1 : Hid (MkAt (wr.setCell ⟨mb, 0, none⟩ (.int .u64 (bits .or .u64 (M : Int) (IntKind.u64.wrap ((2 : Int) ^ x))))) mb (M ||| 2 ^ x)) := by
          show (wr.setCell _ _).heap[mb]? = _
          rw [HOR.out]
          have := HMK.out
          unfold MkAt at this
          simp [World.setCell, Array.getElem?_modify, this]
        have hsz1 : (wr.setCell ⟨mb, 0, none⟩ (.int .u64 (bits .or .u64 (M : Int) (IntKind.u64.wrap ((2 : Int) ^ x))))).heap.size = wr.heap.size := by simp [World.setCell]
        have HLT : Hid (mb < wr.heap.size) := lt_of_heap hmk
        clear hmk hM hx hg c0 hb hown
        go_wp2_with (at_builtin; go_must (refine wpList_append_own _ rfl _ _ 77 rfl w.heap.size 3 i0 (.int .i64 0) 1 8 Tryz.underlying77 hi0 hz0 hz1 hz2 rfl (by decide) _ _ _ rfl (HO1.out.alloc _) ⟨wr.heap.size, 0, none⟩ 1 1 [.int .i64 (x : Int)] rfl rfl (World.news_of_block (by rw [← hsz1]; exact heap_new' _ _)) (by simp [Value.oneCell']) (by unfold maxLen; have := HFL.out; omega) (by have := HFL.out; omega) (by simp [hsz1]; omega) ?_); intro v2 w2 ho2 hg2 _)
        have HO2 : Hid (w2.ownsRow w.heap.size 3 1 v2 ((l.take (j + 1)).filter fun x => !m.testBit x).length (cellP ((l.take (j + 1)).filter fun x => !m.testBit x))) := by
          show w2.ownsRow _ _ _ _ _ _
          rw [HF.out, cellP_snoc, List.length_append]
          exact ho2
        have HNE : Hid (∀ k, u5.ownBlock = some k → w.heap.size ≤ k) := fun k e => (HO1.out.lt k e).1
        have HMK2 : Hid (MkAt w2 mb (M ||| 2 ^ x)) := by
          show w2.heap[mb]? = _
          rw [hg2.block mb (by simp [hsz1]; have := HLT.out; omega) (fun e => by have := HNE.out mb e.symm; omega), Below.heap_alloc _ _ _ (by rw [hsz1]; exact HLT.out)]
          exact HMK1.out
        have HG2 : Hid (w.grownBy w2 (some mb)) := by
          have h1 := HG1.out
          refine ⟨hg2.os.trans h1.os, hg2.tape.trans h1.tape, hg2.output.trans h1.output, Nat.le_trans h1.size (Nat.le_trans (by simp) hg2.size), fun k hk hne => ?_⟩
          rw [hg2.block k (by simp [hsz1]; omega) (fun e => by have := HNE.out k e.symm; omega), Below.heap_alloc _ _ _ (by rw [hsz1]; omega)]
          exact h1.block k hk hne
        clear ho2 hg2
        go_wp2
        go_roundw
        case rel => exact ⟨j + 1, by omega, by go_num, HO2.out, by rw [HP.out]; exact HMK2.out, HG2.out⟩
        case measure => simp [intOf]; omega
    · obtain rfl : j = len := by omega
      have HEQ : Hid (l.take j = l) := List.take_of_length_le (by rw [← HLE.out]; exact Nat.le_refl _)
      have HO : Hid (wr.ownsRow w.heap.size 3 1 u5 ((l.take j).filter fun x => !m.testBit x).length (cellP ((l.take j).filter fun x => !m.testBit x))) := hown
      clear hown
      go_wp2
      go_ret
      have h := HO.out
      rw [HEQ.out] at h hmk
      exact ⟨u5, rfl, h, hmk, hg⟩
end Go.Proofs.YtklhjjgnhigbiaaGreatDoor
