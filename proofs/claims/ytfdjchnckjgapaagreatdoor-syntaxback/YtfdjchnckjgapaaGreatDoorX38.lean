/-
  What the document's hexa and Set answer: a set's text. Sets of a program, each as a slice that may be appended. An argument of type api.Program: its sets, its rules, their expressions.
-/
import Derived.Test.YtfdjchnckjgapaaGreatDoorX37
import Derived.BigQuiet
import Derived.Test.YtfdjchnckjgapaaGreatDoorX33
import Derived.Test.YtfdjchnckjgapaaGreatDoorX31
import Derived.Test.YtfdjchnckjgapaaGreatDoorX35
import Derived.Deep.SlicePairs
namespace Go.Proofs.YtfdjchnckjgapaaGreatDoor
open Go.RowKit Go.Shelf S1
set_option linter.unusedVariables false

theorem dig_up (d : Nat) (h : d < 16) (h2 : d < (⟨(48 :: 49 :: 50 :: 51 :: 52 :: 53 :: 54 :: 55 :: 56 :: 57 :: 65 :: 66 :: 67 :: 68 :: 69 :: 70 :: []).toArray⟩ : ByteArray).size) : ((((⟨(48 :: 49 :: 50 :: 51 :: 52 :: 53 :: 54 :: 55 :: 56 :: 57 :: 65 :: 66 :: 67 :: 68 :: 69 :: 70 :: []).toArray⟩ : ByteArray))[d]'h2).toNat : Int) = upC d := by
  have key : ∀ d : Fin 16, ((((⟨(48 :: 49 :: 50 :: 51 :: 52 :: 53 :: 54 :: 55 :: 56 :: 57 :: 65 :: 66 :: 67 :: 68 :: 69 :: 70 :: []).toArray⟩ : ByteArray))[d.val]'d.isLt).toNat : Int) = upC d.val := by decide +kernel
  exact key ⟨d, h⟩
theorem hexa_small (n : Nat) (h : n < 16) (w : World) : Calls Tryz.prog 98 #[.int .i64 n] w fun e w' => e = .returned (.string (strOfNums [upC n])) ∧ Below w.heap.size w w' := by
  have hi : (n : Int) < 16 := by omega
  have hi0 : (0 : Int) ≤ (n : Int) := by omega
  have h2 : n < (⟨(48 :: 49 :: 50 :: 51 :: 52 :: 53 :: 54 :: 55 :: 56 :: 57 :: 65 :: 66 :: 67 :: 68 :: 69 :: 70 :: []).toArray⟩ : ByteArray).size := h
  have hb : Below w.heap.size w (w.alloc (.cells #[.int .u8 (upC n)] 5)) := (Below.refl _ w).alloc (Nat.le_refl _) _
  have hcv : (convert 22 9 (.slice (some ⟨w.heap.size, 0, none⟩) 1 1)).run Tryz.prog (w.alloc (.cells #[.int .u8 (upC n)] 5)) = .ok (.string (strOfNums [upC n])) (w.alloc (.cells #[.int .u8 (upC n)] 5)) := by
    refine TxtAt.conv (R := w.heap.size + 1) (l := [upC n]) ⟨_, 1, rfl, Nat.le_refl _, fun i hi => ⟨w.heap.size, 0, rfl, by omega, ?_⟩⟩
    obtain rfl : i = 0 := by simpa using hi
    exact cell_of_row _ _ 0 _ _ _ (heap_new' w _)
  obtain ⟨str, hstr⟩ : ∃ str, str = strOfNums [upC n] := ⟨_, rfl⟩
  rw [← hstr] at hcv ⊢
  rw [← dig_up n h h2] at hcv hb
  clear hstr
  go_enter Tryz.func98, Tryz.ntmps98
  go_wp2
  go_ret
  exact ⟨rfl, hb⟩
theorem hexa_any : ∀ (k n : Nat), n < 16 ^ (k + 1) → n < 16777216 → ∀ w : World, Calls Tryz.prog 98 #[.int .i64 n] w fun e w' => e = .returned (.string (strOfNums ((digF (k + 1) n).map upC))) ∧ Below w.heap.size w w'
  | 0, n, hn, hb, w => by
    have h : n < 16 := by simpa using hn
    rw [digF_small h]
    exact hexa_small n h w
  | j + 1, n, hn, hb, w => by
    by_cases h : n < 16
    · rw [digF_small h]
      exact hexa_small n h w
    · have h1 := fun W => hexa_any j (n / 16) (by rw [Nat.pow_succ] at hn; omega) (by omega) W
      have h2 := fun W => hexa_small (n % 16) (by omega) W
      rw [digF_great (by omega)]
      have e1 : ((n / 16 : Nat) : Int) = (n : Int) / 16 := by omega
      have e2 : ((n % 16 : Nat) : Int) = (n : Int) % 16 := by omega
      rw [e1] at h1
      rw [e2] at h2
      rw [List.map_append, strOf_append]
      have z1 : (strOfNums ((digF (j + 1) (n / 16)).map upC)).size ≤ j + 1 := by rw [strOf_size, List.length_map]; exact digF_len _ _
      have z1' : (strOfNums ((digF (j + 1) (n / 16)).map upC)).size ≤ 1000 := by
        rw [strOf_size, List.length_map]
        exact Nat.le_trans (digF_short _ _ (by omega)) (by omega)
      have z2 : (strOfNums ([n % 16].map upC)).size = 1 := by rw [strOf_size]; rfl
      have h2' : ∀ W, Calls Tryz.prog 98 #[.int .i64 ((n : Int) % 16)] W fun e w' => e = .returned (.string (strOfNums ([n % 16].map upC))) ∧ Below W.heap.size W w' := h2
      obtain ⟨s1, hs1⟩ : ∃ s1, s1 = strOfNums ((digF (j + 1) (n / 16)).map upC) := ⟨_, rfl⟩
      obtain ⟨s2, hs2⟩ : ∃ s2, s2 = strOfNums ([n % 16].map upC) := ⟨_, rfl⟩
      rw [← hs1] at h1 z1' ⊢
      rw [← hs2] at h2' z2 ⊢
      have hz : ¬ 9223372036854775807 < s1.size + s2.size := by omega
      have hlt : decide ((n : Int) < 16) = false := by simp; omega
      clear hs1 hs2 h2 z1 hn e1 e2 h
      go_enter Tryz.func98, Tryz.ntmps98
      go_wp2_with fail
      refine (h1 _).mono ?_
      rintro e w1 ⟨rfl, hB1⟩
      have hsz := hB1.size
      go_wp2_with fail
      refine (h2' _).mono ?_
      rintro e w2 ⟨rfl, hB2⟩
      go_wp2
      go_ret
      exact ⟨rfl, hB1.trans (hB2.mono hsz)⟩

theorem str_lit3 (a : List Int) (n : Nat) : strOfNums a ++ ⟨#[92, 120, 123]⟩ ++ strOfNums ((digL n).map upC) ++ ⟨#[125]⟩ = strOfNums (a ++ brL n) := by
  rw [show (⟨#[92, 120, 123]⟩ : ByteArray) = strOfNums [92, 120, 123] from rfl, show (⟨#[125]⟩ : ByteArray) = strOfNums [125] from rfl, ← strOf_append, ← strOf_append, ← strOf_append]
  congr 1
  simp [brL]
theorem str_lit4 (a : List Int) (n : Nat) : strOfNums a ++ ⟨#[45, 92, 120, 123]⟩ ++ strOfNums ((digL n).map upC) ++ ⟨#[125]⟩ = strOfNums (a ++ 45 :: brL n) := by
  rw [show (⟨#[45, 92, 120, 123]⟩ : ByteArray) = strOfNums [45, 92, 120, 123] from rfl, show (⟨#[125]⟩ : ByteArray) = strOfNums [125] from rfl, ← strOf_append, ← strOf_append, ← strOf_append]
  congr 1
  simp [brL]
theorem str_end (a : List Int) : strOfNums a ++ ⟨#[93]⟩ = strOfNums (a ++ [93]) := by
  rw [show (⟨#[93]⟩ : ByteArray) = strOfNums [93] from rfl, ← strOf_append]

set_option maxRecDepth 100000 in
set_option maxHeartbeats 4000000 in
theorem refSetTxt_any (l : List Rg) (hf : Fits l) (hl : l.length ≤ 4000) (v : Value) (w : World) (hv : RngIn w v l) :
    Calls Tryz.prog 57 #[v] w fun e w' => e = .returned (.string (strOfNums (setL l))) ∧ Below w.heap.size w w' := by
  obtain ⟨a, cap, rfl, hc, hi⟩ := hv
  have HI : Hid (∀ i, (h : i < l.length) → ∃ g off, a = some ⟨g, off, none⟩ ∧ g < w.heap.size ∧ w.cell? ⟨g, off + i * 2, none⟩ = some (.int .i64 l[i].lo) ∧ w.cell? ⟨g, off + i * 2 + 1, none⟩ = some (.int .i64 l[i].hi)) := hi
  have HF : Hid (Fits l) := hf
  clear hi hf
  go_enter Tryz.func57, Tryz.ntmps57
  go_wp2
  go_loopw [3, 4] (fun xs xk wr => ∃ (k : Nat) (S : ByteArray), k ≤ l.length ∧ xs = .string S ∧ xk = .int .i64 k ∧ Hid (S = strOfNums (91 :: setLs (l.take k))) ∧ Below w.heap.size w wr) (fun _ xk _ => l.length - (intOf xk).toNat)
  case atStart => exact ⟨0, _, Nat.zero_le _, rfl, rfl, (by show _ = _; rfl), Below.refl _ _⟩
  case round =>
    obtain ⟨k, S, hk, rfl, rfl, HS, hB⟩ := hrel
    have hbs := hB.size
    have hln := setLs_len (l.take k)
    have hln2 : (l.take k).length ≤ 4000 := by rw [List.length_take]; omega
    have hSz : S.size ≤ 85000 := by rw [HS.out, strOf_size, List.length_cons]; omega
    clear hln hln2
    by_cases hlt : k < l.length
    · obtain ⟨g, off, rfl, hg, c0, c1⟩ := HI.out k hlt
      obtain ⟨r, hr⟩ : ∃ r, r = l[k] := ⟨_, rfl⟩
      have hrf := HF.out r (by rw [hr]; exact List.getElem_mem hlt)
      have HST : Hid (setLs (l.take (k + 1)) = setLs (l.take k) ++ rgL r) := by
        show _ = _
        rw [List.take_succ_eq_append_getElem hlt, setLs_snoc, hr]
      rw [← hr] at c0 c1
      clear hr
      obtain ⟨lo, hlo⟩ : ∃ lo : Nat, lo = r.lo.toNat := ⟨_, rfl⟩
      obtain ⟨hi, hhi⟩ : ∃ hi : Nat, hi = r.hi.toNat := ⟨_, rfl⟩
      have elo : r.lo = (lo : Int) := by have := hrf.1; omega
      have ehi : r.hi = (hi : Int) := by have := hrf.1; have := hrf.2.1; omega
      have hlob : lo < 16777216 := by have := hrf.2.1; have := hrf.2.2; omega
      have hhib : hi < 16777216 := by have := hrf.2.2; omega
      have h66 : (16 ^ (5 + 1) : Nat) = 16777216 := by decide
      rw [elo] at c0
      rw [ehi] at c1
      have HRG : Hid (rgL r = brL lo ++ (if (hi : Int) = (lo : Int) then [] else 45 :: brL hi)) := by show _ = _; unfold rgL; rw [← hlo, ← hhi, elo, ehi]
      have hk0 : (0 : Int) ≤ (k : Int) := by omega
      have hk1 : (k : Int) < (l.length : Int) := by omega
      have d0 : wr.cell? ⟨g, off + k * 2, none⟩ = some (.int .i64 (lo : Int)) := (hB.cell (p := ⟨g, _, none⟩) hg).trans c0
      have hx1 := hexa_any 5 lo (by omega) hlob wr
      have HX2 : Hid (∀ W, Calls Tryz.prog 98 #[.int .i64 hi] W fun e w' => e = .returned (.string (strOfNums ((digL hi).map upC))) ∧ Below W.heap.size W w') := fun W => hexa_any 5 hi (by omega) hhib W
      have hx1' : Calls Tryz.prog 98 #[.int .i64 lo] wr fun e w' => e = .returned (.string (strOfNums ((digL lo).map upC))) ∧ Below wr.heap.size wr w' := hx1
      have HS1 : Hid (S ++ ⟨#[92, 120, 123]⟩ ++ strOfNums ((digL lo).map upC) ++ ⟨#[125]⟩ = strOfNums (91 :: setLs (l.take k) ++ brL lo)) := by show _ = _; rw [HS.out]; exact str_lit3 _ _
      have z1 : (strOfNums ((digL lo).map upC)).size ≤ 6 := by rw [strOf_size, List.length_map]; exact digF_len 6 lo
      obtain ⟨s1, hs1⟩ : ∃ s1, s1 = strOfNums ((digL lo).map upC) := ⟨_, rfl⟩
      rw [← hs1] at hx1' HS1 z1
      have y1 : ¬ 9223372036854775807 < S.size + 3 := by omega
      have y2 : ¬ 9223372036854775807 < S.size + 3 + s1.size := by omega
      have y3 : ¬ 9223372036854775807 < S.size + 3 + s1.size + 1 := by omega
      clear elo ehi hlo hhi hrf hx1 hs1
      go_wp2_with fail
      refine hx1'.mono ?_
      rintro e w2 ⟨rfl, hB2⟩
      have hs2 := hB2.size
      have hB02 : Below w.heap.size w w2 := hB.trans (hB2.mono hbs)
      have e0 : w2.cell? ⟨g, off + k * 2, none⟩ = some (.int .i64 (lo : Int)) := (hB02.cell (p := ⟨g, _, none⟩) hg).trans c0
      have e1 : w2.cell? ⟨g, off + k * 2 + 1, none⟩ = some (.int .i64 (hi : Int)) := (hB02.cell (p := ⟨g, _, none⟩) hg).trans c1
      clear hx1' d0 c0
      go_wp2
      obtain ⟨S1, hS1⟩ : ∃ S1, S1 = S ++ ⟨#[92, 120, 123]⟩ ++ s1 ++ ⟨#[125]⟩ := ⟨_, rfl⟩
      have HE1 : Hid (S1 = strOfNums (91 :: setLs (l.take k) ++ brL lo)) := hS1.trans HS1.out
      have hS1z : S1.size ≤ 85100 := by
        have h1 := setLs_len (l.take k)
        have h2 : (l.take k).length ≤ 4000 := by rw [List.length_take]; omega
        have h3 := brL_len lo
        rw [HE1.out, strOf_size]
        simp only [List.length_append, List.length_cons]
        omega
      rw [← hS1]
      clear hS1
      by_cases hq : (hi : Int) = (lo : Int)
      · have hq' : ((hi : Int) != (lo : Int)) = false := by simpa using hq
        have HB4 : Hid (S1 = strOfNums (91 :: setLs (l.take (k + 1)))) := by
          show _ = _
          rw [HE1.out, HST.out, HRG.out, if_pos hq, List.append_nil]
          rfl
        clear hq
        go_quiet (fail)
        go_wp2
        go_roundw
        case rel => exact ⟨k + 1, S1, by omega, rfl, by go_num, HB4, below_drewN' hB02 _⟩
        case measure => simp [intOf]; omega
      · have hq' : ((hi : Int) != (lo : Int)) = true := by simpa using hq
        have HS2 : Hid (S1 ++ ⟨#[45, 92, 120, 123]⟩ ++ strOfNums ((digL hi).map upC) ++ ⟨#[125]⟩ = strOfNums (91 :: setLs (l.take (k + 1)))) := by
          show _ = _
          rw [HE1.out, HST.out, HRG.out, if_neg hq, str_lit4]
          congr 1
          simp
        have z2 : (strOfNums ((digL hi).map upC)).size ≤ 6 := by rw [strOf_size, List.length_map]; exact digF_len 6 hi
        have hx2 := HX2.out
        obtain ⟨s2, hs2'⟩ : ∃ s2, s2 = strOfNums ((digL hi).map upC) := ⟨_, rfl⟩
        rw [← hs2'] at hx2 HS2 z2
        have y4 : ¬ 9223372036854775807 < S1.size + 4 := by omega
        have y5 : ¬ 9223372036854775807 < S1.size + 4 + s2.size := by omega
        have y6 : ¬ 9223372036854775807 < S1.size + 4 + s2.size + 1 := by omega
        clear hq hs2' HX2
        go_quiet (fail)
        have hB02q : Below w.heap.size w (w2.drewN nq) := below_drewN' hB02 nq
        have hsq : w.heap.size ≤ (w2.drewN nq).heap.size := hB02q.size
        have f1 : (w2.drewN nq).cell? ⟨g, off + k * 2 + 1, none⟩ = some (.int .i64 (hi : Int)) := (hB02q.cell (p := ⟨g, _, none⟩) hg).trans c1
        go_wp2_with fail
        refine (hx2 _).mono ?_
        rintro e w5 ⟨rfl, hB5⟩
        have hB05 : Below w.heap.size w w5 := hB02q.trans (hB5.mono hsq)
        clear hx2 f1
        go_wp2
        go_roundw
        case rel => exact ⟨k + 1, _, by omega, rfl, by go_num, HS2, hB05⟩
        case measure => simp [intOf]; omega
    · obtain rfl : k = l.length := by omega
      have hid : decide ((l.length : Int) < (l.length : Int)) = false := by simp
      have y1 : ¬ 9223372036854775807 < S.size + 1 := by omega
      have HE : Hid (S ++ ⟨#[93]⟩ = strOfNums (setL l)) := by
        show _ = _
        rw [HS.out, str_end, List.take_length]
        rfl
      go_wp2
      go_ret
      exact ⟨by rw [← HE.out]; rfl, hB⟩
end Go.Proofs.YtfdjchnckjgapaaGreatDoor

namespace Go.Proofs.YtfdjchnckjgapaaGreatDoor
open Go.RowKit Go.Shelf S1
set_option linter.unusedVariables false

/-- The slice value sv holds the slices of the sets st. -/
def SetSrc (w : World) (sv : Value) (st : Sts) : Prop :=
  ∃ a cap, sv = .slice a st.length cap ∧ st.length ≤ cap ∧ ∀ i, (h : i < st.length) → ∃ g off x, a = some ⟨g, off, none⟩ ∧ g < w.heap.size ∧ w.cell? ⟨g, off + i, none⟩ = some x ∧ RngSrc w x st[i]
theorem SetSrc.in {w : World} {sv : Value} {st : Sts} (h : SetSrc w sv st) : SetIn w sv st := by
  obtain ⟨a, cap, e, hc, hi⟩ := h
  refine ⟨a, cap, e, hc, fun i hlt => ?_⟩
  obtain ⟨g, off, x, h1, h2, h3, h4⟩ := hi i hlt
  exact ⟨g, off, x, h1, h2, h3, h4.1⟩
theorem SetSrc.below {w w' : World} {v : Value} {st : Sts} (h : SetSrc w v st) (hb : Below w.heap.size w w') : SetSrc w' v st := by
  obtain ⟨a, cap, rfl, hc, hi⟩ := h
  refine ⟨a, cap, rfl, hc, fun i hlt => ?_⟩
  obtain ⟨g, off, x, rfl, hg, h0, h1⟩ := hi i hlt
  exact ⟨g, off, x, rfl, Nat.lt_of_lt_of_le hg hb.size, (hb.cell (p := ⟨g, _, none⟩) hg).trans h0, h1.below hb⟩
theorem PrgAt.src {base : Nat} {w : World} {sv rv : Value} {rs : List RlV} {st : Sts} (h : PrgAt base w sv rv rs st) : SetSrc w sv st := by
  obtain ⟨⟨vs, e6, e6'⟩, _⟩ := h
  have e6'' := e6
  rcases e6.2 with ⟨rfl, h0⟩ | ⟨g, cap, cur, rfl, hb, hg, hc2, hm, hs, ht⟩
  · obtain rfl : st = [] := List.length_eq_zero_iff.1 h0
    exact ⟨none, 0, rfl, by simp, fun i hi => (by cases hi)⟩
  · refine ⟨_, cap, rfl, hc2, fun i hi => ?_⟩
    obtain ⟨x, q1, q2, q3⟩ := e6'.2 i hi
    have := e6''.cells (g := g) rfl i x q1
    rw [add_lit'] at this
    exact ⟨g, 0, x, rfl, (Array.getElem?_eq_some_iff.1 hg).1, this, q2.src (fun k hk => hk)⟩
end Go.Proofs.YtfdjchnckjgapaaGreatDoor

namespace Go.Proofs.YtfdjchnckjgapaaGreatDoor
open Go.ChangeShapes Go.WideShapes Go.ChangeAt Go.RowKit Go.Deep S1
set_option linter.unusedVariables false

theorem cInt8 : Tryz.prog.cellsOf 3 = 1 := by kernel_rfl
theorem cBool8 : Tryz.prog.cellsOf 4 = 1 := by kernel_rfl
theorem cNodes8 : Tryz.prog.cellsOf 37 = 1 := by kernel_rfl
theorem cNode8 : Tryz.prog.cellsOf 39 = 3 := by kernel_rfl
theorem cRule8 : Tryz.prog.cellsOf 41 = 7 := by kernel_rfl
theorem cRules8 : Tryz.prog.cellsOf 25 = 1 := by kernel_rfl
theorem cRngs8 : Tryz.prog.cellsOf 43 = 1 := by kernel_rfl
theorem cProg8 : Tryz.prog.cellsOf 27 = 2 := by kernel_rfl
theorem cSets8 : Tryz.prog.cellsOf 24 = 1 := by kernel_rfl

theorem len2 {α : Type} {l : List α} (h : l.length = 2) : ∃ a b, l = [a, b] := by
  match l, h with
  | [a, b], _ => exact ⟨a, b, rfl⟩
theorem len3 {α : Type} {l : List α} (h : l.length = 3) : ∃ a b c, l = [a, b, c] := by
  match l, h with
  | [a, b, c], _ => exact ⟨a, b, c, rfl⟩
theorem len7 {α : Type} {l : List α} (h : l.length = 7) : ∃ a b c d e f g, l = [a, b, c, d, e, f, g] := by
  match l, h with
  | [a, b, c, d, e, f, g], _ => exact ⟨a, b, c, d, e, f, g, rfl⟩
section
variable {H : Type} {enc : TypeId × Value → H} {W : World}

theorem kidS_nil (Q : Nat → Prop) (w : World) (f : Nat) (a : Option Addr) (cap : Nat) : KidS Q w f (.slice a 0 cap) [] := by
  cases f with
  | zero => exact ⟨rfl, a, cap, rfl⟩
  | succ f => exact ⟨a, cap, rfl, Nat.zero_le _, fun i h => (by cases h)⟩
/-- An expression's three cells. -/
theorem open_node_of {fuel : Nat} (ih : ∀ m, m < fuel → ∀ (cs : List Value) (x : DataW H × List MemPlace), DataW.trod enc Tryz.prog W 0 (fun _ => true) true m 37 cs = some x → ∃ z l, cs = [z] ∧ KidS (fun k => k < W.heap.size) W m z l)
    {cs : List Value} {x : DataW H × List MemPlace} (h : DataW.trod enc Tryz.prog W 0 (fun _ => true) true fuel 39 cs = some x) : ∃ (k s : Int) (z : Value) (l : List Nd), cs = [.int .i64 k, .int .i64 s, z] ∧ KidS (fun k => k < W.heap.size) W fuel z l := by
  obtain ⟨xs, n, rfl, _, hlen, hxl, hf⟩ := DataW.trod_struct Tryz.underlying39 h
  rw [cNode8] at hlen
  obtain ⟨v0, v1, v2, rfl⟩ := len3 hlen
  obtain ⟨y0, y1, y2, rfl⟩ := len3 hxl
  have g0 := hf 0 _ rfl
  have g1 := hf 1 _ rfl
  have g2 := hf 2 _ rfl
  simp [cInt8, cNodes8] at g0 g1 g2
  obtain ⟨n0, e0, _⟩ := DataW.trod_int Tryz.underlying3 g0
  obtain ⟨n1, e1, _⟩ := DataW.trod_int Tryz.underlying3 g1
  obtain ⟨z, l, e2, hk⟩ := ih n (by omega) _ _ g2
  obtain rfl : v0 = .int .i64 n0 := by simpa using e0
  obtain rfl : v1 = .int .i64 n1 := by simpa using e1
  obtain rfl : v2 = z := by simpa using e2
  exact ⟨n0, n1, _, l, rfl, hk.up⟩
theorem open_kids (fuel : Nat) : ∀ (cs : List Value) (x : DataW H × List MemPlace), DataW.trod enc Tryz.prog W 0 (fun _ => true) true fuel 37 cs = some x → ∃ z l, cs = [z] ∧ KidS (fun k => k < W.heap.size) W fuel z l := by
  induction fuel using Nat.strongRecOn with
  | _ fuel ih =>
    intro cs x h
    rcases DataW.trod_slice Tryz.underlying37 h with ⟨rfl, _⟩ | ⟨a, len, cap, elems, rest, n, rfl, rfl, _, _, hl, _, hlen, hel, _, _⟩
    · exact ⟨_, [], rfl, kidS_nil _ _ _ _ _⟩
    · have each : ∀ i, i < len → ∃ q : (Int × Int) × Value × List Nd, W.cell? (a.add (i * 3)) = some (.int .i64 q.1.1) ∧ W.cell? (a.add (i * 3 + 1)) = some (.int .i64 q.1.2) ∧ W.cell? (a.add (i * 3 + 2)) = some q.2.1 ∧ KidS (fun k => k < W.heap.size) W n q.2.1 q.2.2 := fun i hi => by
        have h1 := hel i hi
        rw [List.getElem?_eq_getElem (by omega), Option.bind_eq_some_iff] at h1
        obtain ⟨cs', c1, c2⟩ := h1
        obtain ⟨k, s, z, l, rfl, hk⟩ := open_node_of (fun m hm => ih m (by omega)) c2
        rw [cNode8] at c1
        obtain ⟨_, _, hcell⟩ := World.cells?_some c1
        have c0 := hcell 0 (by omega)
        have c1' := hcell 1 (by omega)
        have c2' := hcell 2 (by omega)
        rw [add_add] at c0 c1' c2'
        exact ⟨((k, s), z, l), by simpa using c0, by simpa using c1', by simpa using c2', hk⟩
      obtain ⟨q, hq⟩ := choose_lt each
      have hlen2 : ((List.range len).map fun i => (⟨(q i).1.1, (q i).1.2, (q i).2.2⟩ : Nd)).length = len := by simp
      refine ⟨_, (List.range len).map fun i => ⟨(q i).1.1, (q i).1.2, (q i).2.2⟩, rfl, some a, cap, by rw [hlen2], by rw [hlen2]; exact hl, fun i hi => ?_⟩
      rw [hlen2] at hi
      obtain ⟨c0, c1, c2, hk⟩ := hq i hi
      have eg : ((List.range len).map fun i => (⟨(q i).1.1, (q i).1.2, (q i).2.2⟩ : Nd))[i]'(by rw [hlen2]; exact hi) = ⟨(q i).1.1, (q i).1.2, (q i).2.2⟩ := by simp
      rw [eg]
      obtain ⟨b, off, spot⟩ := a
      have hsp : spot = none := by simpa [Addr.add] using World.cell?_spot (hq 0 (by omega)).1
      subst hsp
      rw [addr_add7] at c0 c1 c2
      exact ⟨b, off, (q i).2.1, rfl, cell_lt7 c0, c0, c1, c2, hk⟩
theorem open_rngs {fuel : Nat} {cs : List Value} {x : DataW H × List MemPlace} (h : DataW.trod enc Tryz.prog W 0 (fun _ => true) true fuel 43 cs = some x) : ∃ v l, cs = [v] ∧ RngSrc W v l := by
  rcases open_slice_pairs Tryz.underlying43 Tryz.underlying94 (by kernel_rfl) rfl rfl (by kernel_rfl) (by kernel_rfl) h with ⟨hcs, hx⟩ | ⟨x, len, c, m, n, V0, V1, D0, D1, P0, P1, hcs, _, hl, hm, hmm, hx, hcell⟩
  · exact ⟨_, [], hcs, RngSrc.nil _⟩
  · have hmc : m = c := by simpa using hmm
    subst hmc
    have hz : ∀ i, i < m → ∃ q : Int × Int, V0 i = .int .i64 q.1 ∧ V1 i = .int .i64 q.2 := fun i hi => by
      obtain ⟨_, _, h0, h1⟩ := hcell i hi
      obtain ⟨n0, e0, _⟩ := DataW.trod_int Tryz.underlying3 h0
      obtain ⟨n1, e1, _⟩ := DataW.trod_int Tryz.underlying3 h1
      exact ⟨(n0, n1), by simpa using e0, by simpa using e1⟩
    obtain ⟨q, hq⟩ := choose_lt hz
    obtain ⟨b, off, spot⟩ := x
    have hlen : ((List.range len).map fun i => (⟨(q i).1, (q i).2⟩ : Rg)).length = len := by simp
    have hget : ∀ i, (h : i < ((List.range len).map fun i => (⟨(q i).1, (q i).2⟩ : Rg)).length) → ((List.range len).map fun i => (⟨(q i).1, (q i).2⟩ : Rg))[i] = ⟨(q i).1, (q i).2⟩ := fun i h => by simp
    have hsp : 0 < len → spot = none := fun h0 => by
      have hc0 := (hcell 0 (by omega)).1
      simpa [Addr.add] using World.cell?_spot hc0
    have hrng : RngIn W (.slice (some ⟨b, off, spot⟩) len m) ((List.range len).map fun i => (⟨(q i).1, (q i).2⟩ : Rg)) := by
      refine ⟨_, m, by rw [hlen], by rw [hlen]; exact hl, fun i hi => ?_⟩
      rw [hlen] at hi
      obtain rfl := hsp (by omega)
      obtain ⟨c0, c1, _, _⟩ := hcell i (by omega)
      obtain ⟨e0, e1⟩ := hq i (by omega)
      rw [e0] at c0
      rw [e1] at c1
      rw [addr_add7] at c0 c1
      rw [hget i (by rw [hlen]; exact hi)]
      exact ⟨b, off, rfl, cell_lt7 c0, c0, c1⟩
    refine ⟨_, (List.range len).map fun i => (⟨(q i).1, (q i).2⟩ : Rg), hcs, hrng, .inr ⟨_, m, by rw [hlen], by rw [cellsRs_length], fun j u hj => ?_, cellsRs_one _⟩⟩
    have hjl : j < len * 2 := by
      have := (List.getElem?_eq_some_iff.1 hj).1
      rwa [cellsRs_length, hlen] at this
    have hlt : j / 2 < len := by omega
    have hxx := cellsRs_at ((List.range len).map fun i => (⟨(q i).1, (q i).2⟩ : Rg)) (j / 2) (j % 2) (by rw [hlen]; exact hlt) (by omega)
    have e1 : j / 2 * 2 + j % 2 = j := by omega
    rw [e1, hj, hget _ (by rw [hlen]; exact hlt)] at hxx
    obtain rfl := hsp (by omega)
    obtain ⟨c0, c1, _, _⟩ := hcell (j / 2) (by omega)
    obtain ⟨f0, f1⟩ := hq (j / 2) (by omega)
    rw [f0] at c0
    rw [f1] at c1
    rcases Nat.mod_two_eq_zero_or_one j with z | z
    · rw [z] at hxx
      have e : j / 2 * 2 = j := by omega
      rw [e] at c0
      rw [c0]
      simpa [cellsR] using hxx.symm
    · rw [z] at hxx
      have e : j / 2 * 2 + 1 = j := by omega
      rw [e] at c1
      rw [c1]
      simpa [cellsR] using hxx.symm
theorem open_sets {fuel : Nat} {cs : List Value} {x : DataW H × List MemPlace} (h : DataW.trod enc Tryz.prog W 0 (fun _ => true) true fuel 24 cs = some x) : ∃ sv st, cs = [sv] ∧ SetSrc W sv st := by
  rcases open_slice1 Tryz.underlying24 cRngs8 h with ⟨rfl, _⟩ | ⟨a, len, cap, m, n, V, D, Pl, rfl, _, hl, _, hmm, _, hcell⟩
  · exact ⟨_, [], rfl, none, 0, rfl, by simp, fun i hi => (by cases hi)⟩
  · have hmc : m = cap := by simpa using hmm
    subst hmc
    have each : ∀ i, i < len → ∃ q : List Rg, RngSrc W (V i) q := fun i hi => by
      obtain ⟨_, h1⟩ := hcell i (by omega)
      obtain ⟨v, l, e, hr⟩ := open_rngs h1
      obtain rfl : V i = v := by simpa using e
      exact ⟨l, hr⟩
    obtain ⟨q, hq⟩ := choose_lt each
    obtain ⟨b, off, spot⟩ := a
    have hlen : ((List.range len).map q).length = len := by simp
    refine ⟨_, (List.range len).map q, rfl, _, m, by rw [hlen], by rw [hlen]; exact hl, fun i hi => ?_⟩
    rw [hlen] at hi
    obtain ⟨c0, _⟩ := hcell i (by omega)
    have hsp : spot = none := by simpa [Addr.add] using World.cell?_spot (hcell 0 (by omega)).1
    subst hsp
    rw [addr_add7] at c0
    have eg : ((List.range len).map q)[i]'(by rw [hlen]; exact hi) = q i := by simp
    rw [eg]
    exact ⟨b, off, V i, rfl, cell_lt7 c0, c0, hq i hi⟩
theorem open_rules {fuel : Nat} {cs : List Value} {x : DataW H × List MemPlace} (h : DataW.trod enc Tryz.prog W 0 (fun _ => true) true fuel 25 cs = some x) : ∃ rv rl, cs = [rv] ∧ RulIn W rv rl := by
  rcases DataW.trod_slice Tryz.underlying25 h with ⟨rfl, _⟩ | ⟨a, len, cap, elems, rest, n, rfl, rfl, _, _, hl, _, hlen, hel, _, _⟩
  · exact ⟨_, [], rfl, none, 0, rfl, by simp, fun i hi => (by cases hi)⟩
  · have each : ∀ i, i < len → ∃ q : (Bool × (Int × Int) × (Int × Int)) × (List Nd × List Nd) × (Value × Value), W.cell? (a.add (i * 7)) = some (.bool q.1.1) ∧ W.cell? (a.add (i * 7 + 1)) = some (.int .i64 q.1.2.1.1) ∧ W.cell? (a.add (i * 7 + 2)) = some (.int .i64 q.1.2.1.2) ∧ W.cell? (a.add (i * 7 + 3)) = some q.2.2.1 ∧ W.cell? (a.add (i * 7 + 4)) = some (.int .i64 q.1.2.2.1) ∧ W.cell? (a.add (i * 7 + 5)) = some (.int .i64 q.1.2.2.2) ∧ W.cell? (a.add (i * 7 + 6)) = some q.2.2.2 ∧
        KdX (fun k => k < W.heap.size) W q.2.2.1 q.2.1.1 ∧ KdX (fun k => k < W.heap.size) W q.2.2.2 q.2.1.2 := fun i hi => by
      have h1 := hel i hi
      rw [List.getElem?_eq_getElem (by omega), Option.bind_eq_some_iff] at h1
      obtain ⟨cs', c1, c2⟩ := h1
      rw [cRule8] at c1
      obtain ⟨_, hl7, hcell⟩ := World.cells?_some c1
      obtain ⟨xs, k, _, _, _, hxl, hf⟩ := DataW.trod_struct Tryz.underlying41 c2
      obtain ⟨v0, v1, v2, v3, v4, v5, v6, rfl⟩ := len7 hl7
      obtain ⟨y0, y1, y2, rfl⟩ := len3 hxl
      have g0 := hf 0 _ rfl
      have g1 := hf 1 _ rfl
      have g2 := hf 2 _ rfl
      simp [cBool8, cNode8] at g0 g1 g2
      obtain ⟨bb, e0, _⟩ := DataW.trod_bool Tryz.underlying4 g0
      obtain ⟨k1, s1, z1, l1, e1, hk1⟩ := open_node_of (fun m _ => open_kids m) g1
      obtain ⟨k2, s2, z2, l2, e2, hk2⟩ := open_node_of (fun m _ => open_kids m) g2
      obtain rfl : v0 = .bool bb := by simpa using e0
      simp only [List.cons.injEq, and_true] at e1 e2
      obtain ⟨rfl, rfl, rfl⟩ := e1
      obtain ⟨rfl, rfl, rfl⟩ := e2
      have d0 := hcell 0 (by omega)
      have d1 := hcell 1 (by omega)
      have d2 := hcell 2 (by omega)
      have d3 := hcell 3 (by omega)
      have d4 := hcell 4 (by omega)
      have d5 := hcell 5 (by omega)
      have d6 := hcell 6 (by omega)
      rw [add_add] at d0 d1 d2 d3 d4 d5 d6
      exact ⟨((bb, (k1, s1), (k2, s2)), (l1, l2), (v3, v6)), by simpa using d0, by simpa using d1, by simpa using d2, by simpa using d3, by simpa using d4, by simpa using d5, by simpa using d6, ⟨_, hk1⟩, ⟨_, hk2⟩⟩
    obtain ⟨q, hq⟩ := choose_lt each
    have hlen2 : ((List.range len).map fun i => (⟨(q i).1.1, ⟨(q i).1.2.1.1, (q i).1.2.1.2, (q i).2.1.1⟩, ⟨(q i).1.2.2.1, (q i).1.2.2.2, (q i).2.1.2⟩⟩ : Rl)).length = len := by simp
    refine ⟨_, (List.range len).map fun i => (⟨(q i).1.1, ⟨(q i).1.2.1.1, (q i).1.2.1.2, (q i).2.1.1⟩, ⟨(q i).1.2.2.1, (q i).1.2.2.2, (q i).2.1.2⟩⟩ : Rl), rfl, some a, cap, by rw [hlen2], by rw [hlen2]; exact hl, fun i hi => ?_⟩
    rw [hlen2] at hi
    obtain ⟨c0, c1, c2, c3, c4, c5, c6, k1, k2⟩ := hq i hi
    have eg : ((List.range len).map fun i => (⟨(q i).1.1, ⟨(q i).1.2.1.1, (q i).1.2.1.2, (q i).2.1.1⟩, ⟨(q i).1.2.2.1, (q i).1.2.2.2, (q i).2.1.2⟩⟩ : Rl))[i]'(by rw [hlen2]; exact hi) = (⟨(q i).1.1, ⟨(q i).1.2.1.1, (q i).1.2.1.2, (q i).2.1.1⟩, ⟨(q i).1.2.2.1, (q i).1.2.2.2, (q i).2.1.2⟩⟩ : Rl) := by simp
    rw [eg]
    obtain ⟨b, off, spot⟩ := a
    have hsp : spot = none := by simpa [Addr.add] using World.cell?_spot (hq 0 (by omega)).1
    subst hsp
    rw [addr_add7] at c0 c1 c2 c3 c4 c5 c6
    exact ⟨b, off, (q i).2.2.1, (q i).2.2.2, rfl, cell_lt7 c0, c0, c1, c2, c3, c4, c5, c6, k1, k2⟩
set_option maxRecDepth 100000 in
/-- A program that came in. -/
theorem open_program {v : Value} {d : DataW H} {p : List MemPlace} (hv : Value.okWide Tryz.prog W .any 0 27 v) (h : DataW.Trod enc Tryz.prog W 0 (fun _ => true) true 27 v d p) :
    ∃ sv rv st rl, v = .agg #[sv, rv] ∧ SetSrc W sv st ∧ RulIn W rv rl := by
  obtain ⟨cs, rfl, _⟩ := okWide_struct Tryz.underlying27 hv
  obtain ⟨fuel, h⟩ := h
  obtain ⟨xs, n, _, _, hl, hxl, hf⟩ := DataW.trod_struct Tryz.underlying27 h
  have hl2 : cs.toList.length = 2 := by simpa [Value.cells] using hl.trans cProg8
  obtain ⟨cl⟩ := cs
  obtain ⟨sv, rv, rfl⟩ := len2 (l := cl) hl2
  obtain ⟨y0, y1, rfl⟩ := len2 hxl
  have g0 := hf 0 _ rfl
  have g1 := hf 1 _ rfl
  simp [Value.cells, cSets8, cRules8] at g0 g1
  obtain ⟨z, st, e0, hs⟩ := open_sets g0
  obtain ⟨y, rl, e1, hr⟩ := open_rules g1
  obtain rfl : sv = z := by simpa using e0
  obtain rfl : rv = y := by simpa using e1
  exact ⟨sv, rv, st, rl, rfl, hs, hr⟩
end
end Go.Proofs.YtfdjchnckjgapaaGreatDoor
