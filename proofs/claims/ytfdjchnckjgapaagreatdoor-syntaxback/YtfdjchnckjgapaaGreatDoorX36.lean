/-
  Fmt16
-/
import Derived.Test.YtfdjchnckjgapaaGreatDoorX11
import Derived.Test.YtfdjchnckjgapaaGreatDoorX12
import Derived.BigQuiet
import Derived.Laws.BitsAllLaws
namespace Go.Proofs.YtfdjchnckjgapaaGreatDoor
open Go.RowKit Go.Shelf S1
set_option linter.unusedVariables false
def digF : Nat → Nat → List Nat
  | 0, _ => []
  | k + 1, n => if n < 16 then [n] else digF k (n / 16) ++ [n % 16]
def digL (n : Nat) : List Nat := digF 6 n
def lowC (d : Nat) : Int := if d < 10 then 48 + (d : Int) else 87 + (d : Int)
def upC (d : Nat) : Int := if d < 10 then 48 + (d : Int) else 55 + (d : Int)
theorem digF_small {k n : Nat} (h : n < 16) : digF (k + 1) n = [n] := by unfold digF; rw [if_pos h]
theorem digF_great {k n : Nat} (h : 16 ≤ n) : digF (k + 1) n = digF k (n / 16) ++ [n % 16] := by rw [digF]; rw [if_neg (by omega)]
theorem digF_lt : ∀ (k n : Nat), ∀ d ∈ digF k n, d < 16
  | 0, n, d, h => by cases h
  | k + 1, n, d, h => by
    by_cases q : n < 16
    · rw [digF_small q] at h
      obtain rfl : d = n := by simpa using h
      exact q
    · rw [digF_great (by omega)] at h
      rcases List.mem_append.1 h with h | h
      · exact digF_lt k (n / 16) d h
      · obtain rfl : d = n % 16 := by simpa using h
        omega
theorem digF_len : ∀ (k n : Nat), (digF k n).length ≤ k
  | 0, n => by simp [digF]
  | k + 1, n => by
    by_cases q : n < 16
    · rw [digF_small q]; simp
    · rw [digF_great (by omega)]
      have := digF_len k (n / 16)
      simp; omega
def DbV (w : World) : Prop := w.cell? ⟨6, 15, none⟩ = some (.int .u8 4) ∧ 6 < w.heap.size
theorem DbV.below {w w' : World} {B : Nat} (h : DbV w) (hb : Below B w w') (hB : 6 < B) : DbV w' :=
  ⟨(hb.cell (p := ⟨6, 15, none⟩) hB).trans h.1, Nat.lt_of_lt_of_le h.2 hb.size⟩
theorem pow2_any (w : World) : Calls Tryz.prog 194 #[.int .i64 16] w fun e w' => e = .returned (.bool true) ∧ w = w' := by
  go_enter Tryz.func194, Tryz.ntmps194
  go_wp2
  go_ret
  exact ⟨rfl, rfl⟩
theorem tz64_any (w : World) (h : DbV w) : Calls Tryz.prog 218 #[.int .u64 16] w fun e w' => e = .returned (.int .i64 4) ∧ w = w' := by
  have h1 := h.1
  have e1 : bits BinOp.and IntKind.u64 16 (IntKind.u64.wrap (-16)) = 16 := by decide +kernel
  have e2 : IntKind.u64.wrap (16 * 285870213051353865) / 288230376151711744 = 15 := by decide +kernel
  go_enter Tryz.func218, Tryz.ntmps218
  go_wp2
  go_ret
  exact ⟨rfl, rfl⟩
theorem tz_any (w : World) (h : DbV w) : Calls Tryz.prog 195 #[.int .u64 16] w fun e w' => e = .returned (.int .i64 4) ∧ w = w' := by
  go_enter Tryz.func195, Tryz.ntmps195
  go_wp2_with (go_at_call 218; refine (tz64_any _ h).mono ?_; rintro e w' ⟨rfl, rfl⟩)
  go_ret
  exact ⟨rfl, rfl⟩
theorem and15 (u : Nat) (h : u < 16777216) : bits BinOp.and IntKind.u64 (u : Int) 15 = ((u % 16 : Nat) : Int) := by
  have := u64_and_nat u 15 (by omega) (by omega)
  have e : u &&& 15 = u % 16 := Nat.and_two_pow_sub_one_eq_mod u 4
  rw [e] at this
  exact this
def FigAt (w : World) (A : Nat) (i : Nat) (S : List Nat) : Prop := ∃ cs : Array Value, w.heap[A]? = some (.cells cs 212) ∧ cs.size = 65 ∧ cs.toList.drop i = S.map (fun d => Value.int .u8 (lowC d))
theorem FigAt.put {w : World} {A i : Nat} {S : List Nat} (h : FigAt w A (i + 1) S) (hi : i < 65) (d : Nat) : FigAt (w.setCell ⟨A, i, none⟩ (.int .u8 (lowC d))) A i (d :: S) := by
  obtain ⟨cs, h1, h2, h3⟩ := h
  refine ⟨cs.setIfInBounds i (.int .u8 (lowC d)), heap_set h1 _, by simpa using h2, ?_⟩
  have hl : i < (cs.setIfInBounds i (.int .u8 (lowC d))).toList.length := by simp; omega
  rw [List.drop_eq_getElem_cons hl]
  simp only [Array.toList_setIfInBounds, List.map_cons]
  rw [List.getElem_set_self, List.drop_set, if_pos (by omega), h3]
theorem dig_low (d : Nat) (h : d < 16) (h2 : d < (⟨(48 :: 49 :: 50 :: 51 :: 52 :: 53 :: 54 :: 55 :: 56 :: 57 :: 97 :: 98 :: 99 :: 100 :: 101 :: 102 :: 103 :: 104 :: 105 :: 106 :: 107 :: 108 :: 109 :: 110 :: 111 :: 112 :: 113 :: 114 :: 115 :: 116 :: 117 :: 118 :: 119 :: 120 :: 121 :: 122 :: []).toArray⟩ : ByteArray).size) :
    (((⟨(48 :: 49 :: 50 :: 51 :: 52 :: 53 :: 54 :: 55 :: 56 :: 57 :: 97 :: 98 :: 99 :: 100 :: 101 :: 102 :: 103 :: 104 :: 105 :: 106 :: 107 :: 108 :: 109 :: 110 :: 111 :: 112 :: 113 :: 114 :: 115 :: 116 :: 117 :: 118 :: 119 :: 120 :: 121 :: 122 :: []).toArray⟩ : ByteArray)[d]'h2).toNat : Int) = lowC d := by
  have key : ∀ d : Fin 16, (((⟨(48 :: 49 :: 50 :: 51 :: 52 :: 53 :: 54 :: 55 :: 56 :: 57 :: 97 :: 98 :: 99 :: 100 :: 101 :: 102 :: 103 :: 104 :: 105 :: 106 :: 107 :: 108 :: 109 :: 110 :: 111 :: 112 :: 113 :: 114 :: 115 :: 116 :: 117 :: 118 :: 119 :: 120 :: 121 :: 122 :: []).toArray⟩ : ByteArray)[d.val]'(Nat.lt_trans d.isLt (by decide))).toNat : Int) = lowC d.val := by decide +kernel
  exact key ⟨d, h⟩
theorem cell_of_row' {w : World} {b : Nat} {cs : Array Value} {t : TypeId} {fr : Nat × Nat} (h : w.heap[b]? = some (.cells cs t fr)) (i : Nat) : w.cell? ⟨b, i, none⟩ = cs[i]? := by
  simp [World.cell?, h]
theorem FigAt.lt {w : World} {A p : Nat} {S : List Nat} (h : FigAt w A p S) : A < w.heap.size := by
  obtain ⟨cs, h1, _⟩ := h
  exact (Array.getElem?_eq_some_iff.1 h1).1
theorem FigAt.cell {w : World} {A i p : Nat} {S : List Nat} (h : FigAt w A p S) (hi : i < 65) : (∃ v, w.cell? ⟨A, i, none⟩ = some v) ∧ w.frozen? ⟨A, i, none⟩ = false := by
  obtain ⟨cs, h1, h2, h3⟩ := h
  refine ⟨⟨cs[i]'(by omega), ?_⟩, frozen_of_row _ _ i _ _ h1⟩
  rw [cell_of_row' h1 i, Array.getElem?_eq_getElem (by omega)]
theorem FigAt.txt {w : World} {A p : Nat} {S : List Nat} (h : FigAt w A p S) (hp : p + S.length = 65) (hA : A < w.heap.size) : TxtAt w.heap.size w (.slice (some ⟨A, p, none⟩) (65 - p) (65 - p)) (S.map lowC) := by
  obtain ⟨cs, h1, h2, h3⟩ := h
  refine ⟨_, 65 - p, by rw [List.length_map]; congr 1; omega, by rw [List.length_map]; omega, fun i hi => ⟨A, p, rfl, hA, ?_⟩⟩
  rw [List.length_map] at hi
  have e1 := congrArg (fun l => l[i]?) h3
  simp only [List.getElem?_drop, List.getElem?_map] at e1
  rw [List.getElem?_eq_getElem hi] at e1
  have e2 : w.cell? ⟨A, p + i, none⟩ = cs[p + i]? := cell_of_row' h1 (p + i)
  rw [e2]
  simpa using e1
set_option maxRecDepth 100000 in
set_option maxHeartbeats 4000000 in
theorem fbits_any (n : Nat) (hn : n < 16 ^ 6) (w : World) (hdb : DbV w) :
    Calls Tryz.prog 162 #[.slice none 0 0, .int .u64 n, .int .i64 16, .bool false, .bool false] w fun e w' => e = .returned (.tuple #[.slice none 0 0, .string (strOfNums ((digL n).map lowC))]) ∧ Below w.heap.size w w' := by
  go_enter Tryz.func162, Tryz.ntmps162
  go_wp2_with (first | (go_at_call 194; refine (pow2_any _).mono ?_; rintro e w' ⟨rfl, rfl⟩) | (go_at_call 195; refine (tz_any _ (by exact hdb.below ((Below.refl w.heap.size w).alloc (Nat.le_refl _) _) hdb.2)).mono ?_; rintro e w' ⟨rfl, rfl⟩))
  have HF0 : FigAt (w.alloc (.cells (Array.replicate 65 (.int .u8 0)) 212)) w.heap.size 65 [] := ⟨_, heap_new' w _, by simp, by simp⟩
  have hB0 : Below w.heap.size w (w.alloc (.cells (Array.replicate 65 (.int .u8 0)) 212)) := (Below.refl _ w).alloc (Nat.le_refl _) _
  go_loopw [1, 13] (fun xu xi wr => ∃ (k u p : Nat) (S : List Nat), xu = .int .u64 u ∧ xi = .int .i64 p ∧ p + S.length = 65 ∧ S.length + k = 6 ∧ 1 ≤ k ∧ u < 16 ^ k ∧ Hid (digF k u ++ S = digL n) ∧ FigAt wr w.heap.size p S ∧ Below w.heap.size w wr) (fun xu _ _ => (intOf xu).toNat)
  case atStart => exact ⟨6, n, 65, [], rfl, rfl, by simp, by simp, by omega, hn, by show _ = _; simp [digL], HF0, hB0⟩
  case round =>
    obtain ⟨k, u, p, S, rfl, rfl, hp, hk, hk1, hu, HD, hf, hB⟩ := hrel
    have hu24 : u < 16777216 := by
      have h1 : (16 ^ k : Nat) ≤ 16 ^ 6 := Nat.pow_le_pow_right (by omega) (by omega)
      have h2 : (16 ^ 6 : Nat) = 16777216 := by decide
      omega
    obtain ⟨j, rfl⟩ : ∃ j, k = j + 1 := ⟨k - 1, by omega⟩
    by_cases hge : 16 ≤ u
    · have hgi : (16 : Int) ≤ (u : Int) := by omega
      have HD2 : Hid (digF j (u / 16) ++ (u % 16 :: S) = digL n) := by
        show _ = _
        rw [← HD.out, digF_great hge, List.append_assoc]; rfl
      have hand := and15 u hu24
      have hd16 : u % 16 < 16 := Nat.mod_lt _ (by omega)
      obtain ⟨d, hd⟩ : ∃ d, d = u % 16 := ⟨_, rfl⟩
      rw [← hd] at hand hd16 HD2
      have hdi0 : (0 : Int) ≤ (d : Int) := by omega
      have hdi1 : (d : Int) < 36 := by omega
      obtain ⟨p', rfl⟩ : ∃ p', p = p' + 1 := ⟨p - 1, by omega⟩
      have hpi : ((p' + 1 : Nat) : Int) - 1 = (p' : Int) := by omega
      obtain ⟨⟨v0, c0⟩, g0⟩ := hf.cell (i := p') (by omega)
      have HFP : Hid (FigAt (wr.setCell ⟨w.heap.size, p', none⟩ (.int .u8 (lowC d))) w.heap.size p' (d :: S)) := hf.put (by omega) d
      have HBP : Hid (∀ v, Below w.heap.size w (wr.setCell ⟨w.heap.size, p', none⟩ v)) := fun v => hB.setCell (p := ⟨w.heap.size, p', none⟩) (Nat.le_refl _) v
      have hp0 : (0 : Int) ≤ (p' : Int) := by omega
      have hp1 : (p' : Int) < 65 := by omega
      have HU : Hid (u / 16 < 16 ^ j ∧ 1 ≤ j) := by
        show _ ∧ _
        rw [Nat.pow_succ] at hu
        refine ⟨by omega, ?_⟩
        rcases Nat.eq_zero_or_pos j with z | z
        · subst z; simp at hu; omega
        · exact z
      have HSZ : Hid (d < 16) := hd16
      clear hd hf hu hge
      go_wp2
      go_roundw
      case rel => exact ⟨j, u / 16, p', d :: S, by simp, rfl, by simp; omega, by simp; omega, HU.out.2, HU.out.1, HD2, by rw [dig_low d HSZ.out]; exact HFP.out, HBP.out _⟩
      case measure => simp [intOf]; omega
    · have hgi : decide ((16 : Int) ≤ (u : Int)) = false := by simp; omega
      have HD2 : Hid (u :: S = digL n) := by
        show _ = _
        rw [← HD.out, digF_small (by omega)]; rfl
      obtain ⟨p', rfl⟩ : ∃ p', p = p' + 1 := ⟨p - 1, by omega⟩
      have hpi : ((p' + 1 : Nat) : Int) - 1 = (p' : Int) := by omega
      obtain ⟨⟨v0, c0⟩, g0⟩ := hf.cell (i := p') (by omega)
      have hfp := hf.put (i := p') (by omega) u
      have hu16 : u < 16 := by omega
      have hBp := hB.setCell (p := ⟨w.heap.size, p', none⟩) (Nat.le_refl _) (.int .u8 (lowC u))
      have htx := (hfp.txt (by simp; omega) (by have := hB.size; have := hf.lt; simp [World.setCell]; omega)).conv
      have hu36' : u < (⟨(48 :: 49 :: 50 :: 51 :: 52 :: 53 :: 54 :: 55 :: 56 :: 57 :: 97 :: 98 :: 99 :: 100 :: 101 :: 102 :: 103 :: 104 :: 105 :: 106 :: 107 :: 108 :: 109 :: 110 :: 111 :: 112 :: 113 :: 114 :: 115 :: 116 :: 117 :: 118 :: 119 :: 120 :: 121 :: 122 :: []).toArray⟩ : ByteArray).size := by show u < 36; omega
      have e := dig_low u hu16 hu36'
      rw [← e] at htx hBp
      rw [show (List.map lowC (u :: S)) = (digL n).map lowC by rw [HD2.out]] at htx
      obtain ⟨str, hstr⟩ : ∃ str, str = strOfNums ((digL n).map lowC) := ⟨_, rfl⟩
      rw [← hstr] at htx
      have HSTR : Hid (str = strOfNums ((digL n).map lowC)) := hstr
      have HBP : Hid _ := hBp
      have hp0 : (0 : Int) ≤ (p' : Int) := by omega
      have hp1 : (p' : Int) < 65 := by omega
      have hp2 : (p' : Int) ≤ 65 := by omega
      have hu0 : (0 : Int) ≤ (u : Int) := by omega
      have hu36 : (u : Int) < 36 := by omega
      clear e hf hfp hBp hstr hu hge hB
      go_wp2
      go_ret2
      exact ⟨by rw [← HSTR.out]; rfl, HBP.out⟩
theorem fmtI_any (n : Nat) (hn : n < 16 ^ 6) (w : World) (hdb : DbV w) :
    Calls Tryz.prog 132 #[.int .i64 n, .int .i64 16] w fun e w' => e = .returned (.string (strOfNums ((digL n).map lowC))) ∧ Below w.heap.size w w' := by
  have h := fbits_any n hn w hdb
  have h24 : n < 16777216 := by have : (16 ^ 6 : Nat) = 16777216 := by decide
                                omega
  have hneg : decide ((n : Int) < 0) = false := by simp
  obtain ⟨str, hstr⟩ : ∃ str, str = strOfNums ((digL n).map lowC) := ⟨_, rfl⟩
  rw [← hstr] at h ⊢
  clear hstr hn
  go_enter Tryz.func132, Tryz.ntmps132
  go_wp2_with (go_at_call 162; refine h.mono ?_; rintro e w' ⟨rfl, hB⟩)
  go_ret
  exact ⟨rfl, hB⟩
theorem fmt_any (n : Nat) (hn : n < 16 ^ 6) (w : World) (hdb : DbV w) :
    Calls Tryz.prog 96 #[.int .i64 n, .int .i64 16] w fun e w' => e = .returned (.string (strOfNums ((digL n).map lowC))) ∧ Below w.heap.size w w' := by
  have h := fmtI_any n hn w hdb
  obtain ⟨str, hstr⟩ : ∃ str, str = strOfNums ((digL n).map lowC) := ⟨_, rfl⟩
  rw [← hstr] at h ⊢
  clear hstr hn
  go_enter Tryz.func96, Tryz.ntmps96
  go_wp2_with (go_at_call 132; refine h.mono ?_; rintro e w' ⟨rfl, hB⟩)
  go_ret
  exact ⟨rfl, hB⟩
end Go.Proofs.YtfdjchnckjgapaaGreatDoor
