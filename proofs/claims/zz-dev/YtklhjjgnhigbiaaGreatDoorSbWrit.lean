/-
  subset.written.
-/
import Derived.Test.YtklhjjgnhigbiaaGreatDoorSbTxt
import Derived.Test.YtklhjjgnhigbiaaGreatDoorShelf12
import Derived.Test.YtklhjjgnhigbiaaGreatDoorGC
import Derived.Laws.IdiomStrings
import Derived.Lib.AppendIntMem
import Derived.Laws.MakeOwn
import Derived.Deep.CutRange
namespace Go.Proofs.YtklhjjgnhigbiaaGreatDoor
open Go.RowKit Go.Shelf
set_option linter.unusedVariables false

theorem Tryz.infoByte : (Tryz.prog.info? 5).map (fun i => (i.zero, i.size, i.bytes)) = some (some (.int .u8 0), 1, 1) := by kernel_rfl
/-- The table of powers of ten reads as it is laid. -/
def PowW (w : World) : Prop := Lib.TabIs Tryz.prog w "internal/strconv.uint64pow10" .u64 Lib.pow10Tab
theorem PowW.below {w w' : World} (h : PowW w) (hb : Below w.heap.size w w') : PowW w' := Lib.tabBelow_of_tabIs h w' hb
theorem byteCells_app (a b : List UInt8) : Lib.byteCells (a ++ b) = Lib.byteCells a ++ Lib.byteCells b := by simp [Lib.byteCells]
/-- The text, as a string. -/
def txtS (l : List Nat) : ByteArray := ⟨(txtL l).toArray⟩
theorem txtS_inj {a b : List Nat} (h : txtS a = txtS b) : a = b := by
  have h1 : (txtL a).toArray = (txtL b).toArray := congrArg ByteArray.data h
  have h2 := congrArg Array.toList h1
  exact txt_inj _ _ h2
theorem txt_take_len {l : List Nat} (hx : ∀ x ∈ l, x ≤ 1000) (hl : l.length ≤ 1000) (i : Nat) : (txtL (l.take i)).length ≤ 22000 := by
  have h1 := txt_len (l.take i) (fun x hx' => by have := hx x (List.mem_of_mem_take hx'); omega)
  have h2 : (l.take i).length ≤ l.length := by rw [List.length_take]; omega
  omega

set_option maxRecDepth 100000 in
set_option maxHeartbeats 4000000 in
theorem written_any (l : List Nat) (v : Value) (w : World) (hT : PowW w) (hv : PlcAt 0 0 w v l) (hx : ∀ x ∈ l, x ≤ 1000) (hl : l.length ≤ 1000) :
    Calls Tryz.prog 23 #[v] w fun e w' => e = .returned (.string (txtS l)) ∧ Below w.heap.size w w' := by
  obtain ⟨i0, hi0, hz0, hz1, hz2⟩ := info_parts Tryz.infoByte
  have HV : Hid (PlcAt 0 0 w v l) := hv
  have HX : Hid (∀ x ∈ l, x ≤ 1000) := hx
  have HTL : Hid (∀ i, (txtL (l.take i)).length ≤ 22000) := txt_take_len hx hl
  have HT : Hid (Lib.TabBelow Tryz.prog w.heap.size w "internal/strconv.uint64pow10" .u64 Lib.pow10Tab) := Lib.tabBelow_of_tabIs hT
  obtain ⟨a, c, hev, hc⟩ := hv.slice
  subst hev
  obtain ⟨len, hle⟩ : ∃ n, n = l.length := ⟨_, rfl⟩
  have HLE : Hid (len = l.length) := hle
  obtain ⟨S, hS⟩ : ∃ S, S = txtS l := ⟨_, rfl⟩
  have HS : Hid (S = txtS l) := hS
  rw [← hle] at HV hl ⊢
  rw [← hS]
  have hmk : Sem.run Tryz.prog (Instr.makeSlice 42 (.int .i64 0) (.int .i64 (4 * (len : Int)))) w = .ok (.slice (some ⟨w.heap.size, 0, none⟩) 0 (4 * len)) (w.alloc (.cells (madeCells #[.int .u8 0] (4 * len)) 5)) := by
    have := run_make (P := Tryz.prog) w 42 5 i0 (.int .u8 0) Tryz.underlying42 hi0 hz0 .i64 .i64 0 (4 * (len : Int)) (by omega) (by omega) (by rw [hz2]; omega) (by omega)
    rw [this, hz1]
    have e : (4 * (len : Int)).toNat = 4 * len := by omega
    rw [e]
    simp [Value.cells]
  have HO0 : Hid ((w.alloc (.cells (madeCells #[.int .u8 0] (4 * len)) 5)).ownsRow w.heap.size 5 1 (.slice (some ⟨w.heap.size, 0, none⟩) 0 (4 * len)) (txtL (l.take 0)).length (Lib.byteCells (txtL (l.take 0)))) := by
    show World.ownsRow _ _ _ _ _ _ _
    exact World.ownsRow_made w _ _ (Nat.le_refl _) (by unfold maxLen; omega) (by rw [size_madeCells, Nat.mul_one])
  have HB0 : Hid (Below w.heap.size w (w.alloc (.cells (madeCells #[.int .u8 0] (4 * len)) 5))) := below_alloc _ _
  clear hle hv hx hT hS
  go_enter Tryz.func23, Tryz.ntmps23
  go_wp2
  go_loopw [3, 12] (fun x3 x12 wr => ∃ (i : Nat) (n : Nat), i ≤ len ∧ x12 = .int .i64 (i : Int) ∧ n ≤ 22000 ∧ Hid (n = (txtL (l.take i)).length) ∧ Hid (wr.ownsRow w.heap.size 5 1 x3 n (Lib.byteCells (txtL (l.take i)))) ∧ Hid (Below w.heap.size w wr)) (fun _ x12 _ => len - (intOf x12).toNat)
  case atStart => exact ⟨0, _, Nat.zero_le _, rfl, HTL.out 0, rfl, HO0.out, HB0.out⟩
  case round =>
    obtain ⟨i, n, hi, rfl, hn, HNL, HO, HB⟩ := hrel
    have hws : w.heap.size ≤ wr.heap.size := HB.out.size
    by_cases hil : i < len
    · have hin : i < l.length := by rw [← HLE.out]; exact hil
      obtain ⟨ga, oa, rfl, _, hga, e0⟩ := HV.out.at HLE.out hin
      obtain ⟨y, hy⟩ : ∃ y, y = l[i] := ⟨_, rfl⟩
      have e1 : wr.cell? ⟨ga, oa + i, none⟩ = some (.int .i64 (y : Int)) := by rw [hy]; exact (HB.out.cell (p := ⟨ga, _, none⟩) hga).trans e0
      have hy1 : y ≤ 1000 := by rw [hy]; exact HX.out _ (List.getElem_mem hin)
      have HTX : Hid (txtL (l.take (i + 1)) = txtL (l.take i) ++ Lib.decDigits y ++ [32]) := by
        show _ = _
        rw [List.take_add_one, List.getElem?_eq_getElem hin, hy]
        exact txtL_snoc _ _
      have hap := appendInt_any w.heap.size n (y : Int) (by omega) (by omega) u3 (Lib.byteCells (txtL (l.take i))) wr HO.out hws (by omega) (HT.out.on HB.out)
      rw [Lib.itoa_nonneg] at hap
      obtain ⟨dl, hdl⟩ : ∃ d, d = (Lib.decDigits y).length := ⟨_, rfl⟩
      have hdl1 : dl ≤ 21 := by rw [hdl]; exact dec_len (by omega)
      rw [← hdl] at hap
      have HDL : Hid (dl = (Lib.decDigits y).length) := hdl
      have hga2 : ga < wr.heap.size := by omega
      have hi0' : (0 : Int) ≤ (i : Int) := by omega
      have hi1 : (i : Int) < (len : Int) := by omega
      obtain ⟨ua, un, uc, rfl⟩ : ∃ a n c, u3 = .slice a n c := by
        rcases HO.out.2 with ⟨e, _⟩ | ⟨_, _, _, e, _⟩
        · exact ⟨_, _, _, e⟩
        · exact ⟨_, _, _, e⟩
      clear hy hdl e0
      go_wp2_with fail
      refine hap.mono ?_
      rintro e w2 ⟨v2, rfl, ho2, hB2, _⟩
      have HO2 : Hid (w2.ownsRow w.heap.size 5 1 v2 (n + dl) (Lib.byteCells (txtL (l.take i)) ++ Lib.byteCells (Lib.decDigits y))) := ho2
      have HB2 : Hid (Below w.heap.size w w2) := HB.out.trans hB2
      have hws2 : w.heap.size ≤ w2.heap.size := HB2.out.size
      obtain ⟨va, vn, vc, rfl⟩ : ∃ a n c, v2 = .slice a n c := by
        rcases ho2.2 with ⟨e, _⟩ | ⟨_, _, _, e, _⟩
        · exact ⟨_, _, _, e⟩
        · exact ⟨_, _, _, e⟩
      clear hap ho2 hB2
      go_upto_region 7 with (at_builtin; go_must (refine wpList_append_own _ rfl _ _ 42 rfl w.heap.size 5 i0 (.int .u8 0) 1 1 Tryz.underlying42 hi0 hz0 hz1 hz2 rfl (by decide) _ _ _ rfl (HO2.out.alloc _) ⟨w2.heap.size, 0, none⟩ 1 1 [.int .u8 32] rfl rfl (World.news_of_block (by exact heap_new' _ _)) (by simp [Value.oneCell']) (by unfold maxLen; omega) (by omega) (by simp; omega) ?_); intro v3 w3 ho3 hg3 _)
      have HO3 : Hid (w3.ownsRow w.heap.size 5 1 v3 (n + dl + 1) (Lib.byteCells (txtL (l.take (i + 1))))) := by
        show World.ownsRow _ _ _ _ _ _ _
        rw [HTX.out, byteCells_app, byteCells_app]
        exact ho3
      have HB3 : Hid (Below w.heap.size w w3) := (HB2.out.alloc hws2 _).grown hg3 (by simp; omega) (fun z e => (HO2.out.lt z e).1)
      have HNN : Hid (n + dl + 1 = (txtL (l.take (i + 1))).length) := by
        show _ = _
        rw [HTX.out, List.length_append, List.length_append, ← HNL.out, ← HDL.out]; rfl
      have hn3 : n + dl + 1 ≤ 22000 := by rw [HNN.out]; exact HTL.out _
      clear ho3 hg3
      go_wp2
      go_roundw
      case rel => exact ⟨i + 1, n + dl + 1, by omega, by go_num, hn3, HNN, HO3, HB3⟩
      case measure => simp [intOf]; omega
    · obtain rfl : i = len := by omega
      have HEQ : Hid (l.take i = l) := List.take_of_length_le (by rw [← HLE.out]; exact Nat.le_refl _)
      rw [HEQ.out] at HNL HO
      obtain ⟨tl, htl⟩ : ∃ t, t = txtL l := ⟨_, rfl⟩
      have HS2 : Hid (S = ⟨tl.toArray⟩) := by rw [htl]; exact HS.out
      rw [← htl] at HNL HO
      clear htl
      have hcv : (convert 42 9 u3).run Tryz.prog wr = .ok (.string ⟨tl.toArray⟩) wr := by
        rcases HO.out.2 with ⟨rfl, h0⟩ | ⟨g, cap, cur, rfl, _⟩
        · have : tl = [] := by
            have h1 := HNL.out
            rw [h0] at h1
            exact List.length_eq_zero_iff.1 h1.symm
          subst this
          exact run_convert_bytes_nil wr 42 5 Tryz.underlying42 Tryz.underlying5 _ _ 9 Tryz.underlying9
        · have h1 := HNL.out
          rw [h1]
          exact run_convert_bytes_back (P := Tryz.prog) wr 42 9 5 ⟨g, 0, none⟩ cap tl Tryz.underlying42 Tryz.underlying5 Tryz.underlying9 (fun j hj => HO.out.cells (g := g) rfl j _ (by simp [Lib.byteCells, hj]))
      obtain rfl : S = ⟨tl.toArray⟩ := HS2.out
      go_wp2
      go_ret
      exact ⟨rfl, HB.out⟩
end Go.Proofs.YtklhjjgnhigbiaaGreatDoor
