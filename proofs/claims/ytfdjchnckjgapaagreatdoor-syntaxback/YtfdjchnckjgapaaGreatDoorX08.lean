/-
  What strconv.FormatInt answers at base 16: the figures of a number. The library's contracts of strings.ToUpper and of the builder's methods, laid at this program (the plain text of the shelf's own laying). What the row's listed variables give besides: the library's table of bits; and a world that holds all eight of them.
-/
import Derived.Test.YtfdjchnckjgapaaGreatDoorX07
import Derived.BigQuiet
import Derived.Laws.BitsAllLaws
import Derived.Shelf.Strings.Builder1
import Derived.Shelf.Strings.Builder2
import Derived.Shelf.Strings.OnBuilder
import Derived.Shelf.Strings.BuilderK
import Derived.Test.YtfdjchnckjgapaaGreatDoorProg
import Derived.Test.YtfdjchnckjgapaaGreatDoorX05
import Derived.Lib.LaidTab
import GoSem.PinnedTables
import Derived.Lib.LaidCaseMet
import Derived.Lib.LaidIn
import Derived.PinnedBridge
namespace Go.Proofs.YtfdjchnckjgapaaGreatDoor
open Go.RowKit Go.Shelf S1
set_option linter.unusedVariables false

/-- The figures of a number, as numbers. -/
def digF : Nat → Nat → List Nat
  | 0, _ => []
  | k + 1, n => if n < 16 then [n] else digF k (n / 16) ++ [n % 16]
def digL (n : Nat) : List Nat := digF 6 n
def lowC (d : Nat) : Int := if d < 10 then 48 + (d : Int) else 87 + (d : Int)
def upC (d : Nat) : Int := if d < 10 then 48 + (d : Int) else 55 + (d : Int)
theorem digF_small {k n : Nat} (h : n < 16) : digF (k + 1) n = [n] := by unfold digF; rw [if_pos h]
theorem digF_great {k n : Nat} (h : 16 ≤ n) : digF (k + 1) n = digF k (n / 16) ++ [n % 16] := by rw [digF]; rw [if_neg (by omega)]
theorem digF_lt : ∀ (k n : Nat), ∀ d ∈ digF k n, d < 16
  | 0, n, d, h => by cases h
  | k + 1, n, d, h => by
    by_cases q : n < 16
    · rw [digF_small q] at h
      obtain rfl : d = n := by simpa using h
      exact q
    · rw [digF_great (by omega)] at h
      rcases List.mem_append.1 h with h | h
      · exact digF_lt k (n / 16) d h
      · obtain rfl : d = n % 16 := by simpa using h
        omega
theorem digF_len : ∀ (k n : Nat), (digF k n).length ≤ k
  | 0, n => by simp [digF]
  | k + 1, n => by
    by_cases q : n < 16
    · rw [digF_small q]; simp
    · rw [digF_great (by omega)]
      have := digF_len k (n / 16)
      simp; omega

theorem digF_short : ∀ (k n : Nat), n < 16777216 → (digF k n).length ≤ 7
  | k, n, h => by
    rcases Nat.lt_or_ge k 7 with q | q
    · have := digF_len k n; omega
    · obtain ⟨j, rfl⟩ : ∃ j, k = j + 7 := ⟨k - 7, by omega⟩
      have s0 : ∀ (k n b : Nat), n < 16 * b → (∀ m, m < b → (digF k m).length ≤ 6) → (digF (k + 1) n).length ≤ 7 := fun k n b h1 h2 => by
        by_cases q : n < 16
        · rw [digF_small q]; simp
        · rw [digF_great (by omega)]
          have := h2 (n / 16) (by omega)
          simp; omega
      have step : ∀ (c : Nat) (k b : Nat), (∀ m, m < b → (digF k m).length ≤ c) → ∀ m, m < 16 * b → (digF (k + 1) m).length ≤ c + 1 := fun c k b h2 m hm => by
        by_cases q : m < 16
        · rw [digF_small q]; simp
        · rw [digF_great (by omega)]
          have := h2 (m / 16) (by omega)
          simp; omega
      have h1 : ∀ m, m < 16 → (digF (j + 1) m).length ≤ 1 := fun m hm => by rw [digF_small hm]; simp
      have h2 := step 1 (j + 1) 16 h1
      have h3 := step 2 (j + 2) (16 * 16) h2
      have h4 := step 3 (j + 3) (16 * (16 * 16)) h3
      have h5 := step 4 (j + 4) (16 * (16 * (16 * 16))) h4
      have h6 := step 5 (j + 5) (16 * (16 * (16 * (16 * 16)))) h5
      have := step 6 (j + 6) (16 * (16 * (16 * (16 * (16 * 16))))) h6 n (by omega)
      exact this

/-- The library's table, where it is read. -/
def DbV (w : World) : Prop := w.cell? ⟨6, 15, none⟩ = some (.int .u8 4) ∧ 6 < w.heap.size
theorem DbV.below {w w' : World} {B : Nat} (h : DbV w) (hb : Below B w w') (hB : 6 < B) : DbV w' :=
  ⟨(hb.cell (p := ⟨6, 15, none⟩) hB).trans h.1, Nat.lt_of_lt_of_le h.2 hb.size⟩

theorem pow2_any (w : World) : Calls Tryz.prog 194 #[.int .i64 16] w fun e w' => e = .returned (.bool true) ∧ w = w' := by
  go_enter Tryz.func194, Tryz.ntmps194
  go_wp2
  go_ret
  exact ⟨rfl, rfl⟩
theorem tz64_any (w : World) (h : DbV w) : Calls Tryz.prog 218 #[.int .u64 16] w fun e w' => e = .returned (.int .i64 4) ∧ w = w' := by
  have h1 := h.1
  have e1 : bits BinOp.and IntKind.u64 16 (IntKind.u64.wrap (-16)) = 16 := by decide +kernel
  have e2 : IntKind.u64.wrap (16 * 285870213051353865) / 288230376151711744 = 15 := by decide +kernel
  go_enter Tryz.func218, Tryz.ntmps218
  go_wp2
  go_ret
  exact ⟨rfl, rfl⟩
theorem tz_any (w : World) (h : DbV w) : Calls Tryz.prog 195 #[.int .u64 16] w fun e w' => e = .returned (.int .i64 4) ∧ w = w' := by
  go_enter Tryz.func195, Tryz.ntmps195
  go_wp2_with (go_at_call 218; refine (tz64_any _ h).mono ?_; rintro e w' ⟨rfl, rfl⟩)
  go_ret
  exact ⟨rfl, rfl⟩

theorem and15 (u : Nat) (h : u < 16777216) : bits BinOp.and IntKind.u64 (u : Int) 15 = ((u % 16 : Nat) : Int) := by
  have := u64_and_nat u 15 (by omega) (by omega)
  have e : u &&& 15 = u % 16 := Nat.and_two_pow_sub_one_eq_mod u 4
  rw [e] at this
  exact this

/-- The array's row holds the figures from a place on. -/
def FigAt (w : World) (A : Nat) (i : Nat) (S : List Nat) : Prop := ∃ cs : Array Value, w.heap[A]? = some (.cells cs 212) ∧ cs.size = 65 ∧ cs.toList.drop i = S.map (fun d => Value.int .u8 (lowC d))
theorem FigAt.put {w : World} {A i : Nat} {S : List Nat} (h : FigAt w A (i + 1) S) (hi : i < 65) (d : Nat) : FigAt (w.setCell ⟨A, i, none⟩ (.int .u8 (lowC d))) A i (d :: S) := by
  obtain ⟨cs, h1, h2, h3⟩ := h
  refine ⟨cs.setIfInBounds i (.int .u8 (lowC d)), heap_set h1 _, by simpa using h2, ?_⟩
  have hl : i < (cs.setIfInBounds i (.int .u8 (lowC d))).toList.length := by simp; omega
  rw [List.drop_eq_getElem_cons hl]
  simp only [Array.toList_setIfInBounds, List.map_cons]
  rw [List.getElem_set_self, List.drop_set, if_pos (by omega), h3]

/-- The figures, as the library writes them. -/
theorem dig_low (d : Nat) (h : d < 16) (h2 : d < (⟨(48 :: 49 :: 50 :: 51 :: 52 :: 53 :: 54 :: 55 :: 56 :: 57 :: 97 :: 98 :: 99 :: 100 :: 101 :: 102 :: 103 :: 104 :: 105 :: 106 :: 107 :: 108 :: 109 :: 110 :: 111 :: 112 :: 113 :: 114 :: 115 :: 116 :: 117 :: 118 :: 119 :: 120 :: 121 :: 122 :: []).toArray⟩ : ByteArray).size) :
    (((⟨(48 :: 49 :: 50 :: 51 :: 52 :: 53 :: 54 :: 55 :: 56 :: 57 :: 97 :: 98 :: 99 :: 100 :: 101 :: 102 :: 103 :: 104 :: 105 :: 106 :: 107 :: 108 :: 109 :: 110 :: 111 :: 112 :: 113 :: 114 :: 115 :: 116 :: 117 :: 118 :: 119 :: 120 :: 121 :: 122 :: []).toArray⟩ : ByteArray)[d]'h2).toNat : Int) = lowC d := by
  have key : ∀ d : Fin 16, (((⟨(48 :: 49 :: 50 :: 51 :: 52 :: 53 :: 54 :: 55 :: 56 :: 57 :: 97 :: 98 :: 99 :: 100 :: 101 :: 102 :: 103 :: 104 :: 105 :: 106 :: 107 :: 108 :: 109 :: 110 :: 111 :: 112 :: 113 :: 114 :: 115 :: 116 :: 117 :: 118 :: 119 :: 120 :: 121 :: 122 :: []).toArray⟩ : ByteArray)[d.val]'(Nat.lt_trans d.isLt (by decide))).toNat : Int) = lowC d.val := by decide +kernel
  exact key ⟨d, h⟩
theorem cell_of_row' {w : World} {b : Nat} {cs : Array Value} {t : TypeId} {fr : Nat × Nat} (h : w.heap[b]? = some (.cells cs t fr)) (i : Nat) : w.cell? ⟨b, i, none⟩ = cs[i]? := by
  simp [World.cell?, h]
theorem FigAt.lt {w : World} {A p : Nat} {S : List Nat} (h : FigAt w A p S) : A < w.heap.size := by
  obtain ⟨cs, h1, _⟩ := h
  exact (Array.getElem?_eq_some_iff.1 h1).1
theorem FigAt.cell {w : World} {A i p : Nat} {S : List Nat} (h : FigAt w A p S) (hi : i < 65) : (∃ v, w.cell? ⟨A, i, none⟩ = some v) ∧ w.frozen? ⟨A, i, none⟩ = false := by
  obtain ⟨cs, h1, h2, h3⟩ := h
  refine ⟨⟨cs[i]'(by omega), ?_⟩, frozen_of_row _ _ i _ _ h1⟩
  rw [cell_of_row' h1 i, Array.getElem?_eq_getElem (by omega)]
theorem FigAt.txt {w : World} {A p : Nat} {S : List Nat} (h : FigAt w A p S) (hp : p + S.length = 65) (hA : A < w.heap.size) : TxtAt w.heap.size w (.slice (some ⟨A, p, none⟩) (65 - p) (65 - p)) (S.map lowC) := by
  obtain ⟨cs, h1, h2, h3⟩ := h
  refine ⟨_, 65 - p, by rw [List.length_map]; congr 1; omega, by rw [List.length_map]; omega, fun i hi => ⟨A, p, rfl, hA, ?_⟩⟩
  rw [List.length_map] at hi
  have e1 := congrArg (fun l => l[i]?) h3
  simp only [List.getElem?_drop, List.getElem?_map] at e1
  rw [List.getElem?_eq_getElem hi] at e1
  have e2 : w.cell? ⟨A, p + i, none⟩ = cs[p + i]? := cell_of_row' h1 (p + i)
  rw [e2]
  simpa using e1

set_option maxRecDepth 100000 in
set_option maxHeartbeats 4000000 in
theorem fbits_any (n : Nat) (hn : n < 16 ^ 6) (w : World) (hdb : DbV w) :
    Calls Tryz.prog 162 #[.slice none 0 0, .int .u64 n, .int .i64 16, .bool false, .bool false] w fun e w' => e = .returned (.tuple #[.slice none 0 0, .string (strOfNums ((digL n).map lowC))]) ∧ Below w.heap.size w w' := by
  go_enter Tryz.func162, Tryz.ntmps162
  go_wp2_with (first | (go_at_call 194; refine (pow2_any _).mono ?_; rintro e w' ⟨rfl, rfl⟩) | (go_at_call 195; refine (tz_any _ (by exact hdb.below ((Below.refl w.heap.size w).alloc (Nat.le_refl _) _) hdb.2)).mono ?_; rintro e w' ⟨rfl, rfl⟩))
  have HF0 : FigAt (w.alloc (.cells (Array.replicate 65 (.int .u8 0)) 212)) w.heap.size 65 [] := ⟨_, heap_new' w _, by simp, by simp⟩
  have hB0 : Below w.heap.size w (w.alloc (.cells (Array.replicate 65 (.int .u8 0)) 212)) := (Below.refl _ w).alloc (Nat.le_refl _) _
  go_loopw [1, 13] (fun xu xi wr => ∃ (k u p : Nat) (S : List Nat), xu = .int .u64 u ∧ xi = .int .i64 p ∧ p + S.length = 65 ∧ S.length + k = 6 ∧ 1 ≤ k ∧ u < 16 ^ k ∧ Hid (digF k u ++ S = digL n) ∧ FigAt wr w.heap.size p S ∧ Below w.heap.size w wr) (fun xu _ _ => (intOf xu).toNat)
  case atStart => exact ⟨6, n, 65, [], rfl, rfl, by simp, by simp, by omega, hn, by show _ = _; simp [digL], HF0, hB0⟩
  case round =>
    obtain ⟨k, u, p, S, rfl, rfl, hp, hk, hk1, hu, HD, hf, hB⟩ := hrel
    have hu24 : u < 16777216 := by
      have h1 : (16 ^ k : Nat) ≤ 16 ^ 6 := Nat.pow_le_pow_right (by omega) (by omega)
      have h2 : (16 ^ 6 : Nat) = 16777216 := by decide
      omega
    obtain ⟨j, rfl⟩ : ∃ j, k = j + 1 := ⟨k - 1, by omega⟩
    by_cases hge : 16 ≤ u
    · have hgi : (16 : Int) ≤ (u : Int) := by omega
      have HD2 : Hid (digF j (u / 16) ++ (u % 16 :: S) = digL n) := by
        show _ = _
        rw [← HD.out, digF_great hge, List.append_assoc]; rfl
      have hand := and15 u hu24
      have hd16 : u % 16 < 16 := Nat.mod_lt _ (by omega)
      obtain ⟨d, hd⟩ : ∃ d, d = u % 16 := ⟨_, rfl⟩
      rw [← hd] at hand hd16 HD2
      have hdi0 : (0 : Int) ≤ (d : Int) := by omega
      have hdi1 : (d : Int) < 36 := by omega
      obtain ⟨p', rfl⟩ : ∃ p', p = p' + 1 := ⟨p - 1, by omega⟩
      have hpi : ((p' + 1 : Nat) : Int) - 1 = (p' : Int) := by omega
      obtain ⟨⟨v0, c0⟩, g0⟩ := hf.cell (i := p') (by omega)
      have HFP : Hid (FigAt (wr.setCell ⟨w.heap.size, p', none⟩ (.int .u8 (lowC d))) w.heap.size p' (d :: S)) := hf.put (by omega) d
      have HBP : Hid (∀ v, Below w.heap.size w (wr.setCell ⟨w.heap.size, p', none⟩ v)) := fun v => hB.setCell (p := ⟨w.heap.size, p', none⟩) (Nat.le_refl _) v
      have hp0 : (0 : Int) ≤ (p' : Int) := by omega
      have hp1 : (p' : Int) < 65 := by omega
      have HU : Hid (u / 16 < 16 ^ j ∧ 1 ≤ j) := by
        show _ ∧ _
        rw [Nat.pow_succ] at hu
        refine ⟨by omega, ?_⟩
        rcases Nat.eq_zero_or_pos j with z | z
        · subst z; simp at hu; omega
        · exact z
      have HSZ : Hid (d < 16) := hd16
      clear hd hf hu hge
      go_wp2
      go_roundw
      case rel => exact ⟨j, u / 16, p', d :: S, by simp, rfl, by simp; omega, by simp; omega, HU.out.2, HU.out.1, HD2, by rw [dig_low d HSZ.out]; exact HFP.out, HBP.out _⟩
      case measure => simp [intOf]; omega
    · have hgi : decide ((16 : Int) ≤ (u : Int)) = false := by simp; omega
      have HD2 : Hid (u :: S = digL n) := by
        show _ = _
        rw [← HD.out, digF_small (by omega)]; rfl
      obtain ⟨p', rfl⟩ : ∃ p', p = p' + 1 := ⟨p - 1, by omega⟩
      have hpi : ((p' + 1 : Nat) : Int) - 1 = (p' : Int) := by omega
      obtain ⟨⟨v0, c0⟩, g0⟩ := hf.cell (i := p') (by omega)
      have hfp := hf.put (i := p') (by omega) u
      have hu16 : u < 16 := by omega
      have hBp := hB.setCell (p := ⟨w.heap.size, p', none⟩) (Nat.le_refl _) (.int .u8 (lowC u))
      have htx := (hfp.txt (by simp; omega) (by have := hB.size; have := hf.lt; simp [World.setCell]; omega)).conv
      have hu36' : u < (⟨(48 :: 49 :: 50 :: 51 :: 52 :: 53 :: 54 :: 55 :: 56 :: 57 :: 97 :: 98 :: 99 :: 100 :: 101 :: 102 :: 103 :: 104 :: 105 :: 106 :: 107 :: 108 :: 109 :: 110 :: 111 :: 112 :: 113 :: 114 :: 115 :: 116 :: 117 :: 118 :: 119 :: 120 :: 121 :: 122 :: []).toArray⟩ : ByteArray).size := by show u < 36; omega
      have e := dig_low u hu16 hu36'
      rw [← e] at htx hBp
      rw [show (List.map lowC (u :: S)) = (digL n).map lowC by rw [HD2.out]] at htx
      obtain ⟨str, hstr⟩ : ∃ str, str = strOfNums ((digL n).map lowC) := ⟨_, rfl⟩
      rw [← hstr] at htx
      have HSTR : Hid (str = strOfNums ((digL n).map lowC)) := hstr
      have HBP : Hid _ := hBp
      have hp0 : (0 : Int) ≤ (p' : Int) := by omega
      have hp1 : (p' : Int) < 65 := by omega
      have hp2 : (p' : Int) ≤ 65 := by omega
      have hu0 : (0 : Int) ≤ (u : Int) := by omega
      have hu36 : (u : Int) < 36 := by omega
      clear e hf hfp hBp hstr hu hge hB
      go_wp2
      go_ret2
      exact ⟨by rw [← HSTR.out]; rfl, HBP.out⟩

theorem fmtI_any (n : Nat) (hn : n < 16 ^ 6) (w : World) (hdb : DbV w) :
    Calls Tryz.prog 132 #[.int .i64 n, .int .i64 16] w fun e w' => e = .returned (.string (strOfNums ((digL n).map lowC))) ∧ Below w.heap.size w w' := by
  have h := fbits_any n hn w hdb
  have h24 : n < 16777216 := by have : (16 ^ 6 : Nat) = 16777216 := by decide
                                omega
  have hneg : decide ((n : Int) < 0) = false := by simp
  obtain ⟨str, hstr⟩ : ∃ str, str = strOfNums ((digL n).map lowC) := ⟨_, rfl⟩
  rw [← hstr] at h ⊢
  clear hstr hn
  go_enter Tryz.func132, Tryz.ntmps132
  go_wp2_with (go_at_call 162; refine h.mono ?_; rintro e w' ⟨rfl, hB⟩)
  go_ret
  exact ⟨rfl, hB⟩
theorem fmt_any (n : Nat) (hn : n < 16 ^ 6) (w : World) (hdb : DbV w) :
    Calls Tryz.prog 96 #[.int .i64 n, .int .i64 16] w fun e w' => e = .returned (.string (strOfNums ((digL n).map lowC))) ∧ Below w.heap.size w w' := by
  have h := fmtI_any n hn w hdb
  obtain ⟨str, hstr⟩ : ∃ str, str = strOfNums ((digL n).map lowC) := ⟨_, rfl⟩
  rw [← hstr] at h ⊢
  clear hstr hn
  go_enter Tryz.func96, Tryz.ntmps96
  go_wp2_with (go_at_call 132; refine h.mono ?_; rintro e w' ⟨rfl, hB⟩)
  go_ret
  exact ⟨rfl, hB⟩
end Go.Proofs.YtfdjchnckjgapaaGreatDoor

namespace Go.Proofs.YtfdjchnckjgapaaGreatDoor
open Go.Shelf Go.RowKit
def upLay_ren : Go.Shelf.Ren := ⟨fun | 158 => 95 | 165 => 129 | 166 => 52 | 167 => 51 | 169 => 54 | 230 => 130 | 203 => 131 | 240 => 94 | 241 => 153 | 197 => 154 | 118 => 155 | 168 => 156 | 270 => 157 | 262 => 158 | 276 => 128 | 277 => 188 | 260 => 189 | 242 => 190 | 313 => 191 | 278 => 214 | 274 => 215 | 275 => 216 | n => n, fun | 9 => 9 | 4 => 4 | 3 => 3 | 5 => 5 | 72 => 97 | 0 => 0 | 76 => 101 | 75 => 99 | 107 => 163 | 70 => 95 | 20 => 20 | 37 => 22 | 127 => 134 | 21 => 21 | 105 => 182 | 164 => 159 | 162 => 209 | 203 => 207 | 119 => 225 | 46 => 166 | 139 => 228 | 138 => 227 | 51 => 201 | 160 => 229 | 208 => 242 | 206 => 240 | 80 => 104 | n => n, fun | 13 => 0 | 3 => 3 | 4 => 4 | n => n⟩
theorem upLay : Go.Proofs.Lays.n158 Tryz.prog upLay_ren := {
  mixed := by kernel_rfl
  f118 := Tryz.func155.trans (congrArg some (by kernel_rfl))
  f158 := Tryz.func95.trans (congrArg some (by kernel_rfl))
  f165 := Tryz.func129.trans (congrArg some (by kernel_rfl))
  f166 := Tryz.func52.trans (congrArg some (by kernel_rfl))
  f167 := Tryz.func51.trans (congrArg some (by kernel_rfl))
  f168 := Tryz.func156.trans (congrArg some (by kernel_rfl))
  f169 := Tryz.func54.trans (congrArg some (by kernel_rfl))
  f197 := Tryz.func154.trans (congrArg some (by kernel_rfl))
  f203 := Tryz.func131.trans (congrArg some (by kernel_rfl))
  f230 := Tryz.func130.trans (congrArg some (by kernel_rfl))
  f240 := Tryz.func94.trans (congrArg some (by kernel_rfl))
  f241 := Tryz.func153.trans (congrArg some (by kernel_rfl))
  f242 := Tryz.func190.trans (congrArg some (by kernel_rfl))
  f260 := Tryz.func189.trans (congrArg some (by kernel_rfl))
  f262 := Tryz.func158.trans (congrArg some (by kernel_rfl))
  f270 := Tryz.func157.trans (congrArg some (by kernel_rfl))
  f274 := Tryz.func215.trans (congrArg some (by kernel_rfl))
  f275 := Tryz.func216.trans (congrArg some (by kernel_rfl))
  f276 := Tryz.func128.trans (congrArg some (by kernel_rfl))
  f277 := Tryz.func188.trans (congrArg some (by kernel_rfl))
  f278 := Tryz.func214.trans (congrArg some (by kernel_rfl))
  f313 := Tryz.func191.trans (congrArg some (by kernel_rfl))
  t0 := Tryz.underlying0
  a0 := Tryz.isAgg0
  z0 := Tryz.sizeOf0
  v0 := Tryz.zeroValue0
  t3 := Tryz.underlying3
  a3 := Tryz.isAgg3
  z3 := Tryz.sizeOf3
  v3 := Tryz.zeroValue3
  t4 := Tryz.underlying4
  a4 := Tryz.isAgg4
  z4 := Tryz.sizeOf4
  v4 := Tryz.zeroValue4
  t5 := Tryz.underlying5
  a5 := Tryz.isAgg5
  z5 := Tryz.sizeOf5
  v5 := Tryz.zeroValue5
  t9 := Tryz.underlying9
  a9 := Tryz.isAgg9
  z9 := Tryz.sizeOf9
  v9 := Tryz.zeroValue9
  t20 := Tryz.underlying20
  a20 := Tryz.isAgg20
  z20 := Tryz.sizeOf20
  v20 := Tryz.zeroValue20
  t21 := Tryz.underlying21
  a21 := Tryz.isAgg21
  z21 := Tryz.sizeOf21
  v21 := Tryz.zeroValue21
  t37 := Tryz.underlying22
  a37 := Tryz.isAgg22
  z37 := Tryz.sizeOf22
  v37 := Tryz.zeroValue22
  t46 := Tryz.underlying166
  a46 := Tryz.isAgg166
  z46 := Tryz.sizeOf166
  v46 := Tryz.zeroValue166
  t51 := Tryz.underlying201
  a51 := Tryz.isAgg201
  z51 := Tryz.sizeOf201
  v51 := Tryz.zeroValue201
  t70 := Tryz.underlying95
  a70 := Tryz.isAgg95
  z70 := Tryz.sizeOf95
  v70 := Tryz.zeroValue95
  t72 := Tryz.underlying97
  a72 := Tryz.isAgg97
  z72 := Tryz.sizeOf97
  v72 := Tryz.zeroValue97
  t75 := Tryz.underlying99
  a75 := Tryz.isAgg99
  z75 := Tryz.sizeOf99
  v75 := Tryz.zeroValue99
  t76 := Tryz.underlying101
  a76 := Tryz.isAgg101
  z76 := Tryz.sizeOf101
  v76 := Tryz.zeroValue101
  t105 := Tryz.underlying182
  a105 := Tryz.isAgg182
  z105 := Tryz.sizeOf182
  v105 := Tryz.zeroValue182
  t107 := Tryz.underlying163
  a107 := Tryz.isAgg163
  z107 := Tryz.sizeOf163
  v107 := Tryz.zeroValue163
  t119 := Tryz.underlying225
  a119 := Tryz.isAgg225
  z119 := Tryz.sizeOf225
  t127 := Tryz.underlying134
  a127 := Tryz.isAgg134
  z127 := Tryz.sizeOf134
  v127 := Tryz.zeroValue134
  t138 := Tryz.underlying227
  a138 := Tryz.isAgg227
  z138 := Tryz.sizeOf227
  v138 := Tryz.zeroValue227
  t139 := Tryz.underlying228
  a139 := Tryz.isAgg228
  z139 := Tryz.sizeOf228
  v139 := Tryz.zeroValue228
  t160 := Tryz.underlying229
  a160 := Tryz.isAgg229
  z160 := Tryz.sizeOf229
  v160 := Tryz.zeroValue229
  t162 := Tryz.underlying209
  a162 := Tryz.isAgg209
  z162 := Tryz.sizeOf209
  v162 := Tryz.zeroValue209
  t164 := Tryz.underlying159
  a164 := Tryz.isAgg159
  z164 := Tryz.sizeOf159
  v164 := Tryz.zeroValue159
  t203 := Tryz.underlying207
  a203 := Tryz.isAgg207
  z203 := Tryz.sizeOf207
  v203 := Tryz.zeroValue207
  t206 := Tryz.underlying240
  a206 := Tryz.isAgg240
  z206 := Tryz.sizeOf240
  v206 := Tryz.zeroValue240
  t208 := Tryz.underlying242
  a208 := Tryz.isAgg242
  z208 := Tryz.sizeOf242
  v208 := Tryz.zeroValue242
  g3 := by kernel_rfl
  g4 := by kernel_rfl
  g13 := by kernel_rfl }
theorem upExtra : Builder.Extra Tryz.prog upLay_ren := {
  sizeBuilder := by kernel_rfl
  liesBuilder := by kernel_rfl
  t5 := Tryz.underlying5
  a5 := Tryz.isAgg5
  z5 := Tryz.sizeOf5
  v5 := Tryz.zeroValue5
  infoByte := by kernel_rfl
  cellsByte := by kernel_rfl
  sizeByte := by kernel_rfl
  neB5 := by decide }
theorem wsLay : Go.Proofs.Lays.n166 Tryz.prog upLay_ren := {
  mixed := upLay.mixed
  f166 := upLay.f166
  f240 := upLay.f240
  f276 := upLay.f276
  t0 := upLay.t0
  a0 := upLay.a0
  z0 := upLay.z0
  v0 := upLay.v0
  t3 := upLay.t3
  a3 := upLay.a3
  z3 := upLay.z3
  v3 := upLay.v3
  t4 := upLay.t4
  a4 := upLay.a4
  z4 := upLay.z4
  v4 := upLay.v4
  t9 := upLay.t9
  a9 := upLay.a9
  z9 := upLay.z9
  v9 := upLay.v9
  t20 := upLay.t20
  a20 := upLay.a20
  z20 := upLay.z20
  v20 := upLay.v20
  t37 := upLay.t37
  a37 := upLay.a37
  z37 := upLay.z37
  v37 := upLay.v37
  t70 := upLay.t70
  a70 := upLay.a70
  z70 := upLay.z70
  v70 := upLay.v70
  t72 := upLay.t72
  a72 := upLay.a72
  z72 := upLay.z72
  v72 := upLay.v72
  t75 := upLay.t75
  a75 := upLay.a75
  z75 := upLay.z75
  v75 := upLay.v75
  t164 := upLay.t164
  a164 := upLay.a164
  z164 := upLay.z164
  v164 := upLay.v164
}
theorem wbLay : Go.Proofs.Lays.n167 Tryz.prog upLay_ren := {
  mixed := upLay.mixed
  f167 := upLay.f167
  f240 := upLay.f240
  f276 := upLay.f276
  t0 := upLay.t0
  a0 := upLay.a0
  z0 := upLay.z0
  v0 := upLay.v0
  t4 := upLay.t4
  a4 := upLay.a4
  z4 := upLay.z4
  v4 := upLay.v4
  t5 := upLay.t5
  a5 := upLay.a5
  z5 := upLay.z5
  v5 := upLay.v5
  t9 := upLay.t9
  a9 := upLay.a9
  z9 := upLay.z9
  v9 := upLay.v9
  t20 := upLay.t20
  a20 := upLay.a20
  z20 := upLay.z20
  v20 := upLay.v20
  t37 := upLay.t37
  a37 := upLay.a37
  z37 := upLay.z37
  v37 := upLay.v37
  t70 := upLay.t70
  a70 := upLay.a70
  z70 := upLay.z70
  v70 := upLay.v70
  t72 := upLay.t72
  a72 := upLay.a72
  z72 := upLay.z72
  v72 := upLay.v72
  t75 := upLay.t75
  a75 := upLay.a75
  z75 := upLay.z75
  v75 := upLay.v75
  t164 := upLay.t164
  a164 := upLay.a164
  z164 := upLay.z164
  v164 := upLay.v164
}
theorem stLay : Go.Proofs.Lays.n169 Tryz.prog upLay_ren := {
  mixed := upLay.mixed
  f169 := upLay.f169
  t0 := upLay.t0
  a0 := upLay.a0
  z0 := upLay.z0
  v0 := upLay.v0
  t3 := upLay.t3
  a3 := upLay.a3
  z3 := upLay.z3
  v3 := upLay.v3
  t9 := upLay.t9
  a9 := upLay.a9
  z9 := upLay.z9
  v9 := upLay.v9
  t37 := upLay.t37
  a37 := upLay.a37
  z37 := upLay.z37
  v37 := upLay.v37
  t70 := upLay.t70
  a70 := upLay.a70
  z70 := upLay.z70
  v70 := upLay.v70
  t72 := upLay.t72
  a72 := upLay.a72
  z72 := upLay.z72
  v72 := upLay.v72
  t127 := upLay.t127
  a127 := upLay.a127
  z127 := upLay.z127
  v127 := upLay.v127
}

theorem toUpper_any (s : ByteArray) (w : World) (hs : s.size ≤ 140737488355328) (hascii : ∀ (j : Nat) (b : UInt8), s.data.toList[j]? = some b → b.toNat < 128) :
    Calls Tryz.prog 95 #[.string s] w fun e w' => e = .returned (.string ⟨(Lib.toUpperA s.data.toList).toArray⟩) ∧ Below w.heap.size w w' := Any.strings_ToUpper_ascii upLay upExtra s w hs hascii
theorem writeByte_any (B b : Nat) (bs : List Value) (c : Int) (w : World) (h : Lib.IsBuilderF 97 5 B b bs w) (hlen : bs.length + 1 ≤ 140737488355328) (hBw : B ≤ w.heap.size) :
    Calls Tryz.prog 51 #[.pointer (some ⟨b, 0, none⟩), .int .u8 c] w fun e w' => e = .returned .nilIface ∧ (Lib.BuilderAtF 97 5 B b (.pointer (some ⟨b, 0, none⟩)) (bs ++ [.int .u8 c]) w' ∧ Below B w w' ∧ Lib.OthersKept 5 (some b) w w') := Any.Builder_WriteByte_k wbLay upExtra B b bs c w h hlen hBw
theorem writeString_any (B b : Nat) (bs : List Value) (s : ByteArray) (w : World) (h : Lib.IsBuilderF 97 5 B b bs w) (hlen : bs.length + s.size ≤ 140737488355328) (hBw : B ≤ w.heap.size) :
    Calls Tryz.prog 52 #[.pointer (some ⟨b, 0, none⟩), .string s] w fun e w' => e = .returned (.tuple #[.int .i64 s.size, .nilIface]) ∧ (Lib.BuilderAtF 97 5 B b (.pointer (some ⟨b, 0, none⟩)) (bs ++ Lib.strCells s) w' ∧ Below B w w' ∧ Lib.OthersKept 5 (some b) w w') := Any.Builder_WriteString_k wsLay upExtra B b bs s w h hlen hBw
theorem string_any (B b : Nat) (l : List UInt8) (w : World) (h : Lib.IsBuilderF 97 5 B b (Lib.byteCells l) w) (hBw : B ≤ w.heap.size) :
    Calls Tryz.prog 54 #[.pointer (some ⟨b, 0, none⟩)] w fun e w' => e = .returned (.string ⟨l.toArray⟩) ∧ Below B w w' := (Any.Builder_String_any_k stLay upExtra B b l w h hBw).mono fun _ _ h => ⟨h.1, h.2.2.1⟩
end Go.Proofs.YtfdjchnckjgapaaGreatDoor

namespace Go.Proofs.YtfdjchnckjgapaaGreatDoor
open Go.ChangeShapes Go.WideShapes Go.ChangeAt Go.RowKit Go.Shelf Go.Lib
set_option linter.unusedVariables false

theorem gDb : Tryz.prog.globalNamed "math/bits.deBruijn64tab" = some 6 := by kernel_rfl
theorem gDbType : (Tryz.prog.globals[6]?).map (·.type) = some 244 := by kernel_rfl
theorem cellsDb : Tryz.prog.cellsOf 244 = 64 := by kernel_rfl
theorem cellsByteDb : Tryz.prog.cellsOf 5 = 1 := by kernel_rfl
/-- What the row's list gives of the table of bits. -/
theorem db_of {W : World} {r : List (String × DataW Unit)} (h : laidMet Tryz.prog (("math/bits.deBruijn64tab", Rows.laid_math_bits_deBruijn64tab) :: r) W) : DbV W := by
  have t : Lib.TabIs Tryz.prog W "math/bits.deBruijn64tab" .u8 [0, 1, 56, 2, 57, 49, 28, 3, 61, 58, 42, 50, 38, 29, 17, 4, 62, 47, 59, 36, 45, 43, 51, 22, 53, 39, 33, 30, 24, 18, 12, 5, 63, 55, 48, 27, 60, 41, 37, 16, 46, 35, 44, 21, 52, 32, 23, 11, 54, 26, 40, 15, 34, 20, 31, 10, 25, 14, 19, 9, 13, 8, 7, 6] := Lib.tabIs_of_head (rest := r) gDb gDbType Tryz.underlying244 Tryz.underlying5 cellsByteDb cellsDb h
  have hc := t.cell gDb 15 (by simp)
  refine ⟨hc, ?_⟩
  rcases Nat.lt_or_ge 6 W.heap.size with q | q
  · exact q
  · simp [World.cell?, Array.getElem?_eq_none q] at hc

theorem caseX : CaseExtra Tryz.prog upLay_ren := ⟨by kernel_rfl, by kernel_rfl, by kernel_rfl, by kernel_rfl, by kernel_rfl, by kernel_rfl⟩
set_option maxRecDepth 1000000 in
/-- The table of cases reads as it is, in a world that holds its rows. -/
theorem laidIn_case {w : World} (R : Nat) (t : TypeId) (hgR : upLay_ren.g 13 ≠ R) (hvar : w.heap[upLay_ren.g 13]? = some (.cells #[.slice (some ⟨R, 0, none⟩) caseA.size caseA.size] (upLay_ren.t 162) (0, 0)))
    (hblk : w.heap[R]? = some (.cells caseCells5 t (0, 0))) : LaidIn Tryz.prog w [("unicode.CaseRanges", caseData)] [upLay_ren.g 13, R] := by
  have hT := caseTab_of_block hblk
  have hread := case_slice_reads (ρ := upLay_ren) { upLay with } upLay.t206 caseX hT caseA_wf (by rw [caseA_size]; unfold maxLen; omega) 0
  rw [case_rows_data] at hread
  have hv : w.var? Tryz.prog "unicode.CaseRanges" = some #[.slice (some ⟨R, 0, none⟩) caseA.size caseA.size] := by simp [World.var?, caseX.n13, hvar]
  refine LaidIn.one _ caseX.n13 caseX.y13 hv hread ?_ ?_ ?_
  · refine List.nodup_append.2 ⟨row_nodup _ _, row_nodup _ _, fun a ha b hb e => ?_⟩
    obtain ⟨i, _, rfl⟩ := MemPlace.mem_row.1 ha
    obtain ⟨j, _, rfl⟩ := MemPlace.mem_row.1 hb
    simp at e
    exact hgR e.1
  · intro b off hp
    rcases List.mem_append.1 hp with hp | hp
    · obtain ⟨i, hi, e⟩ := MemPlace.mem_row.1 hp
      cases e
      refine ⟨⟨_, _, hvar⟩, fun u v hc => ?_⟩
      obtain rfl : i = 0 := by simpa using hi
      rw [Lib.cell_of_heap hvar] at hc
      simp at hc
    · obtain ⟨i, hi, e⟩ := MemPlace.mem_row.1 hp
      cases e
      refine ⟨⟨_, _, hblk⟩, fun u v hc => ?_⟩
      obtain ⟨c0, c1, c2, c3, c4⟩ := hT (i / 5) (by omega)
      have hi5 : 0 + i = 0 + i / 5 * 5 + i % 5 := by omega
      simp only at hc
      rw [hi5] at hc
      have hm : i % 5 < 5 := Nat.mod_lt _ (by omega)
      match hk : i % 5, hm with
      | 0, _ => rw [hk, Nat.add_zero, c0] at hc; cases hc
      | 1, _ => rw [hk, c1] at hc; cases hc
      | 2, _ => rw [hk, c2] at hc; cases hc
      | 3, _ => rw [hk, c3] at hc; cases hc
      | 4, _ => rw [hk, c4] at hc; cases hc
  · intro x hx
    rcases List.mem_append.1 hx with hx | hx
    · obtain ⟨i, _, rfl⟩ := MemPlace.mem_row.1 hx
      simp [MemPlace.block]
    · obtain ⟨i, _, rfl⟩ := MemPlace.mem_row.1 hx
      simp [MemPlace.block]

/-- The cells of the pinned tables. -/
def firstCells : Array Value := (Go.Pinned.utf8FirstZ.map fun (n : Nat) => Value.int .u8 (n : Int)).toArray

/-- The variables laid into a world: for the witness. -/
def withVars8 (W : World) : World :=
  { W with heap := ((((((((((W.heap.modify 5 fun
      | .cells _ t frozen => .cells #[.int .u8 0, .int .u8 1, .int .u8 28, .int .u8 2, .int .u8 29, .int .u8 14, .int .u8 24, .int .u8 3, .int .u8 30, .int .u8 22, .int .u8 20, .int .u8 15, .int .u8 25, .int .u8 17, .int .u8 4, .int .u8 8, .int .u8 31, .int .u8 27, .int .u8 13, .int .u8 23, .int .u8 21, .int .u8 19, .int .u8 16, .int .u8 7, .int .u8 26, .int .u8 12, .int .u8 18, .int .u8 6, .int .u8 11, .int .u8 5, .int .u8 10, .int .u8 9] t frozen
      | o => o).modify 6 fun
      | .cells _ t frozen => .cells #[.int .u8 0, .int .u8 1, .int .u8 56, .int .u8 2, .int .u8 57, .int .u8 49, .int .u8 28, .int .u8 3, .int .u8 61, .int .u8 58, .int .u8 42, .int .u8 50, .int .u8 38, .int .u8 29, .int .u8 17, .int .u8 4, .int .u8 62, .int .u8 47, .int .u8 59, .int .u8 36, .int .u8 45, .int .u8 43, .int .u8 51, .int .u8 22, .int .u8 53, .int .u8 39, .int .u8 33, .int .u8 30, .int .u8 24, .int .u8 18, .int .u8 12, .int .u8 5, .int .u8 63, .int .u8 55, .int .u8 48, .int .u8 27, .int .u8 60, .int .u8 41, .int .u8 37, .int .u8 16, .int .u8 46, .int .u8 35, .int .u8 44, .int .u8 21, .int .u8 52, .int .u8 32, .int .u8 23, .int .u8 11, .int .u8 54, .int .u8 26, .int .u8 40, .int .u8 15, .int .u8 34, .int .u8 20, .int .u8 31, .int .u8 10, .int .u8 25, .int .u8 14, .int .u8 19, .int .u8 9, .int .u8 13, .int .u8 8, .int .u8 7, .int .u8 6] t frozen
      | o => o).modify 1 fun
      | .cells _ t frozen => .cells #[.int .u64 1, .int .u64 10, .int .u64 100, .int .u64 1000, .int .u64 10000, .int .u64 100000, .int .u64 1000000, .int .u64 10000000, .int .u64 100000000, .int .u64 1000000000, .int .u64 10000000000, .int .u64 100000000000, .int .u64 1000000000000, .int .u64 10000000000000, .int .u64 100000000000000, .int .u64 1000000000000000, .int .u64 10000000000000000, .int .u64 100000000000000000, .int .u64 1000000000000000000, .int .u64 10000000000000000000] t frozen
      | o => o).modify 4 fun
      | .cells _ t frozen => .cells #[.int .u8 128, .int .u8 191, .int .u8 160, .int .u8 191, .int .u8 128, .int .u8 159, .int .u8 144, .int .u8 191, .int .u8 128, .int .u8 143, .int .u8 0, .int .u8 0, .int .u8 0, .int .u8 0, .int .u8 0, .int .u8 0, .int .u8 0, .int .u8 0, .int .u8 0, .int .u8 0, .int .u8 0, .int .u8 0, .int .u8 0, .int .u8 0, .int .u8 0, .int .u8 0, .int .u8 0, .int .u8 0, .int .u8 0, .int .u8 0, .int .u8 0, .int .u8 0] t frozen
      | o => o).modify 8 fun
      | .cells _ t frozen => .cells #[.iface 255 (.pointer (some ⟨W.heap.size, 0, none⟩))] t frozen
      | o => o).modify 7 fun
      | .cells _ t frozen => .cells #[.iface 255 (.pointer (some ⟨W.heap.size + 1, 0, none⟩))] t frozen
      | o => o).modify 0 fun
      | .cells _ t frozen => .cells #[.slice (some ⟨W.heap.size + 2, 0, none⟩) 336 336] t frozen
      | o => o).modify 3 fun
      | .cells _ t frozen => .cells firstCells t frozen
      | o => o).push (.cells #[.string ⟨#[118, 97, 108, 117, 101, 32, 111, 117, 116, 32, 111, 102, 32, 114, 97, 110, 103, 101]⟩] 257)).push (.cells #[.string ⟨#[105, 110, 118, 97, 108, 105, 100, 32, 115, 121, 110, 116, 97, 120]⟩] 257)).push (.cells Lib.caseCells5 242) }
end Go.Proofs.YtfdjchnckjgapaaGreatDoor
