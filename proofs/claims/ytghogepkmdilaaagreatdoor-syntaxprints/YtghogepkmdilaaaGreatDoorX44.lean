/-
  What the document's hexa and Set answer: a set's text.
-/
import Derived.Test.YtghogepkmdilaaaGreatDoorX42
import Derived.BigQuiet
namespace Go.Proofs.YtghogepkmdilaaaGreatDoor
open Go.RowKit Go.Shelf S1
set_option linter.unusedVariables false

theorem dig_up (d : Nat) (h : d < 16) (h2 : d < (⟨(48 :: 49 :: 50 :: 51 :: 52 :: 53 :: 54 :: 55 :: 56 :: 57 :: 65 :: 66 :: 67 :: 68 :: 69 :: 70 :: []).toArray⟩ : ByteArray).size) : ((((⟨(48 :: 49 :: 50 :: 51 :: 52 :: 53 :: 54 :: 55 :: 56 :: 57 :: 65 :: 66 :: 67 :: 68 :: 69 :: 70 :: []).toArray⟩ : ByteArray))[d]'h2).toNat : Int) = upC d := by
  have key : ∀ d : Fin 16, ((((⟨(48 :: 49 :: 50 :: 51 :: 52 :: 53 :: 54 :: 55 :: 56 :: 57 :: 65 :: 66 :: 67 :: 68 :: 69 :: 70 :: []).toArray⟩ : ByteArray))[d.val]'d.isLt).toNat : Int) = upC d.val := by decide +kernel
  exact key ⟨d, h⟩
theorem hexa_small (n : Nat) (h : n < 16) (w : World) : Calls Tryz.prog 99 #[.int .i64 n] w fun e w' => e = .returned (.string (strOfNums [upC n])) ∧ Below w.heap.size w w' := by
  have hi : (n : Int) < 16 := by omega
  have hi0 : (0 : Int) ≤ (n : Int) := by omega
  have h2 : n < (⟨(48 :: 49 :: 50 :: 51 :: 52 :: 53 :: 54 :: 55 :: 56 :: 57 :: 65 :: 66 :: 67 :: 68 :: 69 :: 70 :: []).toArray⟩ : ByteArray).size := h
  have hb : Below w.heap.size w (w.alloc (.cells #[.int .u8 (upC n)] 5)) := (Below.refl _ w).alloc (Nat.le_refl _) _
  have hcv : (convert 22 9 (.slice (some ⟨w.heap.size, 0, none⟩) 1 1)).run Tryz.prog (w.alloc (.cells #[.int .u8 (upC n)] 5)) = .ok (.string (strOfNums [upC n])) (w.alloc (.cells #[.int .u8 (upC n)] 5)) := by
    refine TxtAt.conv (R := w.heap.size + 1) (l := [upC n]) ⟨_, 1, rfl, Nat.le_refl _, fun i hi => ⟨w.heap.size, 0, rfl, by omega, ?_⟩⟩
    obtain rfl : i = 0 := by simpa using hi
    exact cell_of_row _ _ 0 _ _ _ (heap_new' w _)
  obtain ⟨str, hstr⟩ : ∃ str, str = strOfNums [upC n] := ⟨_, rfl⟩
  rw [← hstr] at hcv ⊢
  rw [← dig_up n h h2] at hcv hb
  clear hstr
  go_enter Tryz.func99, Tryz.ntmps99
  go_wp2
  go_ret
  exact ⟨rfl, hb⟩
theorem hexa_any : ∀ (k n : Nat), n < 16 ^ (k + 1) → n < 16777216 → ∀ w : World, Calls Tryz.prog 99 #[.int .i64 n] w fun e w' => e = .returned (.string (strOfNums ((digF (k + 1) n).map upC))) ∧ Below w.heap.size w w'
  | 0, n, hn, hb, w => by
    have h : n < 16 := by simpa using hn
    rw [digF_small h]
    exact hexa_small n h w
  | j + 1, n, hn, hb, w => by
    by_cases h : n < 16
    · rw [digF_small h]
      exact hexa_small n h w
    · have h1 := fun W => hexa_any j (n / 16) (by rw [Nat.pow_succ] at hn; omega) (by omega) W
      have h2 := fun W => hexa_small (n % 16) (by omega) W
      rw [digF_great (by omega)]
      have e1 : ((n / 16 : Nat) : Int) = (n : Int) / 16 := by omega
      have e2 : ((n % 16 : Nat) : Int) = (n : Int) % 16 := by omega
      rw [e1] at h1
      rw [e2] at h2
      rw [List.map_append, strOf_append]
      have z1 : (strOfNums ((digF (j + 1) (n / 16)).map upC)).size ≤ j + 1 := by rw [strOf_size, List.length_map]; exact digF_len _ _
      have z1' : (strOfNums ((digF (j + 1) (n / 16)).map upC)).size ≤ 1000 := by
        rw [strOf_size, List.length_map]
        exact Nat.le_trans (digF_short _ _ (by omega)) (by omega)
      have z2 : (strOfNums ([n % 16].map upC)).size = 1 := by rw [strOf_size]; rfl
      have h2' : ∀ W, Calls Tryz.prog 99 #[.int .i64 ((n : Int) % 16)] W fun e w' => e = .returned (.string (strOfNums ([n % 16].map upC))) ∧ Below W.heap.size W w' := h2
      obtain ⟨s1, hs1⟩ : ∃ s1, s1 = strOfNums ((digF (j + 1) (n / 16)).map upC) := ⟨_, rfl⟩
      obtain ⟨s2, hs2⟩ : ∃ s2, s2 = strOfNums ([n % 16].map upC) := ⟨_, rfl⟩
      rw [← hs1] at h1 z1' ⊢
      rw [← hs2] at h2' z2 ⊢
      have hz : ¬ 9223372036854775807 < s1.size + s2.size := by omega
      have hlt : decide ((n : Int) < 16) = false := by simp; omega
      clear hs1 hs2 h2 z1 hn e1 e2 h
      go_enter Tryz.func99, Tryz.ntmps99
      go_wp2_with fail
      refine (h1 _).mono ?_
      rintro e w1 ⟨rfl, hB1⟩
      have hsz := hB1.size
      go_wp2_with fail
      refine (h2' _).mono ?_
      rintro e w2 ⟨rfl, hB2⟩
      go_wp2
      go_ret
      exact ⟨rfl, hB1.trans (hB2.mono hsz)⟩

theorem str_lit3 (a : List Int) (n : Nat) : strOfNums a ++ ⟨#[92, 120, 123]⟩ ++ strOfNums ((digL n).map upC) ++ ⟨#[125]⟩ = strOfNums (a ++ brL n) := by
  rw [show (⟨#[92, 120, 123]⟩ : ByteArray) = strOfNums [92, 120, 123] from rfl, show (⟨#[125]⟩ : ByteArray) = strOfNums [125] from rfl, ← strOf_append, ← strOf_append, ← strOf_append]
  congr 1
  simp [brL]
theorem str_lit4 (a : List Int) (n : Nat) : strOfNums a ++ ⟨#[45, 92, 120, 123]⟩ ++ strOfNums ((digL n).map upC) ++ ⟨#[125]⟩ = strOfNums (a ++ 45 :: brL n) := by
  rw [show (⟨#[45, 92, 120, 123]⟩ : ByteArray) = strOfNums [45, 92, 120, 123] from rfl, show (⟨#[125]⟩ : ByteArray) = strOfNums [125] from rfl, ← strOf_append, ← strOf_append, ← strOf_append]
  congr 1
  simp [brL]
theorem str_end (a : List Int) : strOfNums a ++ ⟨#[93]⟩ = strOfNums (a ++ [93]) := by
  rw [show (⟨#[93]⟩ : ByteArray) = strOfNums [93] from rfl, ← strOf_append]

set_option maxRecDepth 100000 in
set_option maxHeartbeats 4000000 in
theorem refSetTxt_any (l : List Rg) (hf : Fits l) (hl : l.length ≤ 400) (v : Value) (w : World) (hv : RngIn w v l) :
    Calls Tryz.prog 58 #[v] w fun e w' => e = .returned (.string (strOfNums (setL l))) ∧ Below w.heap.size w w' := by
  obtain ⟨a, cap, rfl, hc, hi⟩ := hv
  have HI : Hid (∀ i, (h : i < l.length) → ∃ g off, a = some ⟨g, off, none⟩ ∧ g < w.heap.size ∧ w.cell? ⟨g, off + i * 2, none⟩ = some (.int .i64 l[i].lo) ∧ w.cell? ⟨g, off + i * 2 + 1, none⟩ = some (.int .i64 l[i].hi)) := hi
  have HF : Hid (Fits l) := hf
  clear hi hf
  go_enter Tryz.func58, Tryz.ntmps58
  go_wp2
  go_loopw [3, 4] (fun xs xk wr => ∃ (k : Nat) (S : ByteArray), k ≤ l.length ∧ xs = .string S ∧ xk = .int .i64 k ∧ Hid (S = strOfNums (91 :: setLs (l.take k))) ∧ Below w.heap.size w wr) (fun _ xk _ => l.length - (intOf xk).toNat)
  case atStart => exact ⟨0, _, Nat.zero_le _, rfl, rfl, (by show _ = _; rfl), Below.refl _ _⟩
  case round =>
    obtain ⟨k, S, hk, rfl, rfl, HS, hB⟩ := hrel
    have hbs := hB.size
    have hln := setLs_len (l.take k)
    have hln2 : (l.take k).length ≤ 400 := by rw [List.length_take]; omega
    have hSz : S.size ≤ 8500 := by rw [HS.out, strOf_size, List.length_cons]; omega
    clear hln hln2
    by_cases hlt : k < l.length
    · obtain ⟨g, off, rfl, hg, c0, c1⟩ := HI.out k hlt
      obtain ⟨r, hr⟩ : ∃ r, r = l[k] := ⟨_, rfl⟩
      have hrf := HF.out r (by rw [hr]; exact List.getElem_mem hlt)
      have HST : Hid (setLs (l.take (k + 1)) = setLs (l.take k) ++ rgL r) := by
        show _ = _
        rw [List.take_succ_eq_append_getElem hlt, setLs_snoc, hr]
      rw [← hr] at c0 c1
      clear hr
      obtain ⟨lo, hlo⟩ : ∃ lo : Nat, lo = r.lo.toNat := ⟨_, rfl⟩
      obtain ⟨hi, hhi⟩ : ∃ hi : Nat, hi = r.hi.toNat := ⟨_, rfl⟩
      have elo : r.lo = (lo : Int) := by have := hrf.1; omega
      have ehi : r.hi = (hi : Int) := by have := hrf.1; have := hrf.2.1; omega
      have hlob : lo < 16777216 := by have := hrf.2.1; have := hrf.2.2; omega
      have hhib : hi < 16777216 := by have := hrf.2.2; omega
      have h66 : (16 ^ (5 + 1) : Nat) = 16777216 := by decide
      rw [elo] at c0
      rw [ehi] at c1
      have HRG : Hid (rgL r = brL lo ++ (if (hi : Int) = (lo : Int) then [] else 45 :: brL hi)) := by show _ = _; unfold rgL; rw [← hlo, ← hhi, elo, ehi]
      have hk0 : (0 : Int) ≤ (k : Int) := by omega
      have hk1 : (k : Int) < (l.length : Int) := by omega
      have d0 : wr.cell? ⟨g, off + k * 2, none⟩ = some (.int .i64 (lo : Int)) := (hB.cell (p := ⟨g, _, none⟩) hg).trans c0
      have hx1 := hexa_any 5 lo (by omega) hlob wr
      have HX2 : Hid (∀ W, Calls Tryz.prog 99 #[.int .i64 hi] W fun e w' => e = .returned (.string (strOfNums ((digL hi).map upC))) ∧ Below W.heap.size W w') := fun W => hexa_any 5 hi (by omega) hhib W
      have hx1' : Calls Tryz.prog 99 #[.int .i64 lo] wr fun e w' => e = .returned (.string (strOfNums ((digL lo).map upC))) ∧ Below wr.heap.size wr w' := hx1
      have HS1 : Hid (S ++ ⟨#[92, 120, 123]⟩ ++ strOfNums ((digL lo).map upC) ++ ⟨#[125]⟩ = strOfNums (91 :: setLs (l.take k) ++ brL lo)) := by show _ = _; rw [HS.out]; exact str_lit3 _ _
      have z1 : (strOfNums ((digL lo).map upC)).size ≤ 6 := by rw [strOf_size, List.length_map]; exact digF_len 6 lo
      obtain ⟨s1, hs1⟩ : ∃ s1, s1 = strOfNums ((digL lo).map upC) := ⟨_, rfl⟩
      rw [← hs1] at hx1' HS1 z1
      have y1 : ¬ 9223372036854775807 < S.size + 3 := by omega
      have y2 : ¬ 9223372036854775807 < S.size + 3 + s1.size := by omega
      have y3 : ¬ 9223372036854775807 < S.size + 3 + s1.size + 1 := by omega
      clear elo ehi hlo hhi hrf hx1 hs1
      go_wp2_with fail
      refine hx1'.mono ?_
      rintro e w2 ⟨rfl, hB2⟩
      have hs2 := hB2.size
      have hB02 : Below w.heap.size w w2 := hB.trans (hB2.mono hbs)
      have e0 : w2.cell? ⟨g, off + k * 2, none⟩ = some (.int .i64 (lo : Int)) := (hB02.cell (p := ⟨g, _, none⟩) hg).trans c0
      have e1 : w2.cell? ⟨g, off + k * 2 + 1, none⟩ = some (.int .i64 (hi : Int)) := (hB02.cell (p := ⟨g, _, none⟩) hg).trans c1
      clear hx1' d0 c0
      go_wp2
      obtain ⟨S1, hS1⟩ : ∃ S1, S1 = S ++ ⟨#[92, 120, 123]⟩ ++ s1 ++ ⟨#[125]⟩ := ⟨_, rfl⟩
      have HE1 : Hid (S1 = strOfNums (91 :: setLs (l.take k) ++ brL lo)) := hS1.trans HS1.out
      have hS1z : S1.size ≤ 8510 := by
        have h1 := setLs_len (l.take k)
        have h2 : (l.take k).length ≤ 400 := by rw [List.length_take]; omega
        have h3 := brL_len lo
        rw [HE1.out, strOf_size]
        simp only [List.length_append, List.length_cons]
        omega
      rw [← hS1]
      clear hS1
      by_cases hq : (hi : Int) = (lo : Int)
      · have hq' : ((hi : Int) != (lo : Int)) = false := by simpa using hq
        have HB4 : Hid (S1 = strOfNums (91 :: setLs (l.take (k + 1)))) := by
          show _ = _
          rw [HE1.out, HST.out, HRG.out, if_pos hq, List.append_nil]
          rfl
        clear hq
        go_quiet (fail)
        go_wp2
        go_roundw
        case rel => exact ⟨k + 1, S1, by omega, rfl, by go_num, HB4, below_drewN' hB02 _⟩
        case measure => simp [intOf]; omega
      · have hq' : ((hi : Int) != (lo : Int)) = true := by simpa using hq
        have HS2 : Hid (S1 ++ ⟨#[45, 92, 120, 123]⟩ ++ strOfNums ((digL hi).map upC) ++ ⟨#[125]⟩ = strOfNums (91 :: setLs (l.take (k + 1)))) := by
          show _ = _
          rw [HE1.out, HST.out, HRG.out, if_neg hq, str_lit4]
          congr 1
          simp
        have z2 : (strOfNums ((digL hi).map upC)).size ≤ 6 := by rw [strOf_size, List.length_map]; exact digF_len 6 hi
        have hx2 := HX2.out
        obtain ⟨s2, hs2'⟩ : ∃ s2, s2 = strOfNums ((digL hi).map upC) := ⟨_, rfl⟩
        rw [← hs2'] at hx2 HS2 z2
        have y4 : ¬ 9223372036854775807 < S1.size + 4 := by omega
        have y5 : ¬ 9223372036854775807 < S1.size + 4 + s2.size := by omega
        have y6 : ¬ 9223372036854775807 < S1.size + 4 + s2.size + 1 := by omega
        clear hq hs2' HX2
        go_quiet (fail)
        have hB02q : Below w.heap.size w (w2.drewN nq) := below_drewN' hB02 nq
        have hsq : w.heap.size ≤ (w2.drewN nq).heap.size := hB02q.size
        have f1 : (w2.drewN nq).cell? ⟨g, off + k * 2 + 1, none⟩ = some (.int .i64 (hi : Int)) := (hB02q.cell (p := ⟨g, _, none⟩) hg).trans c1
        go_wp2_with fail
        refine (hx2 _).mono ?_
        rintro e w5 ⟨rfl, hB5⟩
        have hB05 : Below w.heap.size w w5 := hB02q.trans (hB5.mono hsq)
        clear hx2 f1
        go_wp2
        go_roundw
        case rel => exact ⟨k + 1, _, by omega, rfl, by go_num, HS2, hB05⟩
        case measure => simp [intOf]; omega
    · obtain rfl : k = l.length := by omega
      have hid : decide ((l.length : Int) < (l.length : Int)) = false := by simp
      have y1 : ¬ 9223372036854775807 < S.size + 1 := by omega
      have HE : Hid (S ++ ⟨#[93]⟩ = strOfNums (setL l)) := by
        show _ = _
        rw [HS.out, str_end, List.take_length]
        rfl
      go_wp2
      go_ret
      exact ⟨by rw [← HE.out]; rfl, hB⟩
end Go.Proofs.YtghogepkmdilaaaGreatDoor
