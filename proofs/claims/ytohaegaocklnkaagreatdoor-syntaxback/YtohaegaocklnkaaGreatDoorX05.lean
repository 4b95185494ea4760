/-
  What the rows' listed variables give: the library's sentinel, as the program's text lays it; and a world that holds them. An argument of type []uint8. What the library's ParseInt answers of at most six hexadecimal figures, at base 16 and size 0: the number they are; of none: an error. What the rules for signs answer, of every number.
-/
import Derived.Test.YtohaegaocklnkaaGreatDoorX04
import Derived.WalkKit
import Derived.ProofKit
import Derived.OpenShut
import Derived.ChangeOld
import Derived.Below
import Derived.Deep.DeepHandedRow
import Derived.Stop.LaidErr
import Derived.Deep.SlicePairs
import Derived.Lib.ConvBytes
import Derived.Laws.BytesArg
import Derived.Laws.Strings3
import Derived.Laws.Closers25
import Derived.Laws.Closers25b
import Derived.BigCall
import Derived.BigGuard
import Derived.BigRegion
import Derived.RegionTactic
import Derived.Deep.RegionHeld3
import Derived.Lib.IfaceEq
import Derived.Shelf.Abstract
namespace Go.Proofs.YtohaegaocklnkaaGreatDoor
open Go.ChangeShapes Go.WideShapes Go.ChangeAt Go.RowKit
set_option linter.unusedVariables false

theorem own7 : ownKnob Tryz.prog.godebug = none := by kernel_rfl
theorem laidOut7 : laidOutB Tryz.prog = true := by kernel_rfl
theorem gSyn : Tryz.prog.globalNamed "strconv.ErrSyntax" = some 7 := by kernel_rfl
theorem gSynType : (Tryz.prog.globals[7]?).map (·.type) = some 77 := by kernel_rfl
theorem cellsErr : Tryz.prog.cellsOf 257 = 1 := by kernel_rfl
theorem cellsStr : Tryz.prog.cellsOf 9 = 1 := by kernel_rfl
theorem starErr : "*" ++ "errors.errorString" = "*errors.errorString" := by decide
theorem rowErr (u : TypeId) (h : Tryz.prog.typeName? 3 u = some "*errors.errorString") : u = 255 :=
  typeName_ptr_named (nm := "errors.errorString") (by rw [starErr]; kernel_rfl) (by kernel_rfl) (by decide) u (by rw [starErr]; exact h)
/-- What the rows' list gives. -/
theorem syn_of {W : World} {r : List (String × DataW Unit)} (h : laidMet Tryz.prog (("strconv.ErrSyntax", Rows.laid_strconv_ErrSyntax) :: r) W) : SynV W := by
  obtain ⟨a, s, hv, _⟩ := laid_sentinel h gSyn gSynType Tryz.underlying77 rowErr Tryz.underlying255 Tryz.underlying257 rfl rfl Tryz.underlying9 cellsErr cellsStr
  exact ⟨_, _, World.var?_cell gSyn hv 0⟩

/-- The variables laid into a world: for the witnesses. -/
def withVars (W : World) : World :=
  { W with heap := ((((((W.heap.modify 5 fun
      | .cells _ t frozen => .cells #[.int .u8 0, .int .u8 1, .int .u8 28, .int .u8 2, .int .u8 29, .int .u8 14, .int .u8 24, .int .u8 3, .int .u8 30, .int .u8 22, .int .u8 20, .int .u8 15, .int .u8 25, .int .u8 17, .int .u8 4, .int .u8 8, .int .u8 31, .int .u8 27, .int .u8 13, .int .u8 23, .int .u8 21, .int .u8 19, .int .u8 16, .int .u8 7, .int .u8 26, .int .u8 12, .int .u8 18, .int .u8 6, .int .u8 11, .int .u8 5, .int .u8 10, .int .u8 9] t frozen
      | o => o).modify 6 fun
      | .cells _ t frozen => .cells #[.int .u8 0, .int .u8 1, .int .u8 56, .int .u8 2, .int .u8 57, .int .u8 49, .int .u8 28, .int .u8 3, .int .u8 61, .int .u8 58, .int .u8 42, .int .u8 50, .int .u8 38, .int .u8 29, .int .u8 17, .int .u8 4, .int .u8 62, .int .u8 47, .int .u8 59, .int .u8 36, .int .u8 45, .int .u8 43, .int .u8 51, .int .u8 22, .int .u8 53, .int .u8 39, .int .u8 33, .int .u8 30, .int .u8 24, .int .u8 18, .int .u8 12, .int .u8 5, .int .u8 63, .int .u8 55, .int .u8 48, .int .u8 27, .int .u8 60, .int .u8 41, .int .u8 37, .int .u8 16, .int .u8 46, .int .u8 35, .int .u8 44, .int .u8 21, .int .u8 52, .int .u8 32, .int .u8 23, .int .u8 11, .int .u8 54, .int .u8 26, .int .u8 40, .int .u8 15, .int .u8 34, .int .u8 20, .int .u8 31, .int .u8 10, .int .u8 25, .int .u8 14, .int .u8 19, .int .u8 9, .int .u8 13, .int .u8 8, .int .u8 7, .int .u8 6] t frozen
      | o => o).modify 1 fun
      | .cells _ t frozen => .cells #[.int .u64 1, .int .u64 10, .int .u64 100, .int .u64 1000, .int .u64 10000, .int .u64 100000, .int .u64 1000000, .int .u64 10000000, .int .u64 100000000, .int .u64 1000000000, .int .u64 10000000000, .int .u64 100000000000, .int .u64 1000000000000, .int .u64 10000000000000, .int .u64 100000000000000, .int .u64 1000000000000000, .int .u64 10000000000000000, .int .u64 100000000000000000, .int .u64 1000000000000000000, .int .u64 10000000000000000000] t frozen
      | o => o).modify 8 fun
      | .cells _ t frozen => .cells #[.iface 255 (.pointer (some ⟨W.heap.size, 0, none⟩))] t frozen
      | o => o).modify 7 fun
      | .cells _ t frozen => .cells #[.iface 255 (.pointer (some ⟨W.heap.size + 1, 0, none⟩))] t frozen
      | o => o).push (.cells #[.string ⟨#[118, 97, 108, 117, 101, 32, 111, 117, 116, 32, 111, 102, 32, 114, 97, 110, 103, 101]⟩] 257)).push (.cells #[.string ⟨#[105, 110, 118, 97, 108, 105, 100, 32, 115, 121, 110, 116, 97, 120]⟩] 257) }
end Go.Proofs.YtohaegaocklnkaaGreatDoor

namespace Go.Proofs.YtohaegaocklnkaaGreatDoor
open Go.ChangeShapes Go.WideShapes Go.ChangeAt Go.RowKit Go.Deep S1
set_option linter.unusedVariables false

/-- WHAT IS KNOWN OF BYTES THAT CAME IN: the slice holds the bytes l. -/
def ArgB (W : World) (v : Value) (l : List Int) : Prop := Byt l ∧ BytesAt W.heap.size W v l ∧ ∃ a cap, v = .slice a l.length cap ∧ (a = none → cap = 0)
theorem addr_add7 (b off j : Nat) : (⟨b, off, none⟩ : Addr).add j = ⟨b, off + j, none⟩ := by unfold Addr.add; split <;> simp_all
theorem cell_lt7 {w : World} {a : Addr} {v : Value} (h : w.cell? a = some v) : a.block < w.heap.size := by
  rcases Nat.lt_or_ge a.block w.heap.size with q | q
  · exact q
  · simp [World.cell?, Array.getElem?_eq_none q] at h
theorem open_bytesS {H : Type} {enc : TypeId × Value → H} {W : World} {a : Option Addr} {len cap : Nat} {d : DataW H} {p : List MemPlace}
    (h : DataW.Trod enc Tryz.prog W 0 (fun _ => true) true 22 (.slice a len cap) d p) : ∃ l : List Int, l.length = len ∧ ArgB W (.slice a len cap) l := by
  obtain ⟨fuel, hf⟩ := h
  rcases open_ints Tryz.underlying22 Tryz.underlying5 (by kernel_rfl) hf with ⟨hcs, _⟩ | ⟨x, l, c, zs, hcs, _, hl, hmx, hz, _, hcell, hwz⟩
  · simp [Value.cells] at hcs
    obtain ⟨rfl, rfl, rfl⟩ := hcs
    exact ⟨[], rfl, (fun c hc => by cases hc), .inl ⟨none, 0, rfl, rfl⟩, none, 0, rfl, fun _ => rfl⟩
  · simp [Value.cells] at hcs
    obtain ⟨rfl, rfl, rfl⟩ := hcs
    have hzl : zs.length = cap := by simpa using hz
    have hlen : (zs.take len).length = len := by rw [List.length_take]; omega
    refine ⟨zs.take len, hlen, fun c hc => ?_, ?_, some x, cap, by rw [hlen], fun h => by cases h⟩
    · have := hwz c (List.mem_of_mem_take hc)
      simpa [Lit.wf, IntKind.min, IntKind.max, IntKind.signed, IntKind.bits] using this
    · by_cases h0 : len = 0
      · left
        exact ⟨some x, cap, by rw [h0], by rw [h0]; rfl⟩
      · right
        obtain ⟨b, off, spot⟩ := x
        have hc0 := hcell 0 (by omega)
        obtain rfl : spot = none := by simpa [Addr.add] using World.cell?_spot hc0
        refine ⟨b, off, cap, by rw [hlen], by rw [hlen]; exact hl, ?_, fun j hj => ?_⟩
        · have := cell_lt7 hc0
          rwa [addr_add7] at this
        · have hci := hcell j (by omega)
          rw [addr_add7] at hci
          rw [hci]
          have hjz : j < zs.length := by omega
          have hjl : j < len := by omega
          simp [hjl]
end Go.Proofs.YtohaegaocklnkaaGreatDoor

namespace Go.Proofs.YtohaegaocklnkaaGreatDoor
open Go.RowKit Go.Shelf S1
set_option linter.unusedVariables false

theorem figR_cases {c : Int} (h : figR c = true) : (48 ≤ c ∧ c ≤ 57) ∨ (65 ≤ c ∧ c ≤ 70) := by
  simp [figR, decB] at h; omega
theorem figV_dec {c : Int} (h : 48 ≤ c ∧ c ≤ 57) : figV c = c - 48 := by unfold figV; rw [if_pos h.2]
theorem figV_let {c : Int} (h : 65 ≤ c ∧ c ≤ 70) : figV c = c - 55 := by unfold figV; rw [if_neg (by omega)]
theorem figV_range {c : Int} (h : figR c = true) : 0 ≤ figV c ∧ figV c ≤ 15 := by
  rcases figR_cases h with q | q
  · rw [figV_dec q]; omega
  · rw [figV_let q]; omega
theorem hexV_snoc (l : List Int) (c : Int) : hexV (l ++ [c]) = hexV l * 16 + figV c := by simp [hexV]
theorem hexV_range : ∀ (n : Nat) (l : List Int), l.length ≤ n → (∀ c ∈ l, figR c = true) → 0 ≤ hexV l ∧ hexV l < 16 ^ n
  | n, l, hl, h => by
    rcases list_last l with rfl | ⟨a, c, rfl⟩
    · simp [hexV]; exact_mod_cast Nat.pos_of_ne_zero (by simp)
    · match n, hl with
      | 0, hl => simp at hl
      | n + 1, hl =>
        have ih := hexV_range n a (by simp at hl; omega) (fun d hd => h d (by simp [hd]))
        have hc := figV_range (h c (by simp))
        rw [hexV_snoc, Int.pow_succ]
        omega

theorem below_bytes (w : World) (e : TypeId) (s : ByteArray) : Below w.heap.size w (Lib.bytesWorld w e s) :=
  ⟨rfl, rfl, rfl, by rw [Lib.bytesWorld_size]; omega, fun k hk => Lib.bytesWorld_at_old w e s k hk⟩

theorem lower_any (c : Int) (h : 65 ≤ c ∧ c ≤ 70) (w : World) : Calls Tryz.prog 235 #[.int .u8 c] w fun e w' => e = .returned (.int .u8 (c + 32)) ∧ w = w' := by
  have : c = 65 ∨ c = 66 ∨ c = 67 ∨ c = 68 ∨ c = 69 ∨ c = 70 := by omega
  rcases this with rfl | rfl | rfl | rfl | rfl | rfl
  all_goals
    go_enter Tryz.func235, Tryz.ntmps235
    go_wp2
    go_ret
    exact ⟨rfl, rfl⟩

theorem str_getD (l : List Int) (hb : ∀ c ∈ l, 0 ≤ c ∧ c ≤ 255) (k : Nat) (h : k < l.length) : (((strOfNums l).data.toList.getD k 0).toNat : Int) = l[k] := by
  have hk := hb l[k] (List.getElem_mem h)
  rw [strOfNums_data]
  simp only [List.getD, List.getElem?_map, List.getElem?_eq_getElem h, Option.map_some, Option.getD_some]
  rw [UInt8.toNat_ofNat']
  omega

set_option maxRecDepth 100000 in
set_option maxHeartbeats 8000000 in
theorem puint_any (l : List Int) (hf : ∀ c ∈ l, figR c = true) (h1 : 1 ≤ l.length) (h6 : l.length ≤ 6) (w : World) :
    Calls Tryz.prog 227 #[.string (strOfNums l), .int .i64 16, .int .i64 0] w fun e w' => e = .returned (.tuple #[.int .u64 (hexV l), .nilIface]) ∧ Below w.heap.size w w' := by
  obtain ⟨t, ht⟩ : ∃ t, t = strOfNums l := ⟨_, rfl⟩
  have hsz : t.size = l.length := by rw [ht, strOfNums_size]
  have hB : ∀ j, (h : j < l.length) → (Lib.bytesWorld w 5 t).cell? ⟨w.heap.size, j, none⟩ = some (.int .u8 l[j]) := fun j hj => by
    rw [Lib.bytesWorld_cell w 5 t j (by omega), ht, str_getD l (fun c hc => by rcases figR_cases (hf c hc) with q | q <;> omega) j hj]
  rw [← ht]
  have hemp : t.toList.isEmpty = false := by
    rw [← decide_eq_emptyBytes]
    exact decide_eq_false (fun h => by rw [h] at hsz; have : (ByteArray.empty).size = 0 := rfl; simp at hsz; omega)
  have hcv := Lib.run_convert_string_bytes (P := Tryz.prog) w 9 22 5 t (u := .string) Tryz.underlying9 Tryz.underlying22 Tryz.underlying5
  have hbel := below_bytes w 5 t
  obtain ⟨W1, hW1⟩ : ∃ W1, W1 = Lib.bytesWorld w 5 t := ⟨_, rfl⟩
  rw [← hW1] at hcv hB hbel
  clear hW1 ht
  have hmv : IntKind.u64.wrap (IntKind.u64.wrap 18446744073709551616 - 1) = 18446744073709551615 := by
    rw [IntKind.wrap_u64, IntKind.wrap_u64]
    decide
  have HB : Hid (∀ j, (h : j < l.length) → W1.cell? ⟨w.heap.size, j, none⟩ = some (.int .u8 l[j])) := hB
  have HF : Hid (∀ c ∈ l, figR c = true) := hf
  have HBL : Hid (Below w.heap.size w W1) := hbel
  clear hB hf hbel
  go_enter Tryz.func227, Tryz.ntmps227
  go_wp2
  go_loop [12, 13, 101] (fun vu vn vi => ∃ (k : Nat) (a : Int), vu = .bool false ∧ vn = .int .u64 a ∧ vi = .int .i64 k ∧ k ≤ l.length ∧ Hid (a = hexV (l.take k))) (fun _ _ vi => l.length - (intOf vi).toNat)
  case atStart => exact ⟨0, 0, rfl, rfl, rfl, by omega, rfl⟩
  case round =>
    obtain ⟨k, a, rfl, rfl, rfl, hk, hh⟩ := hrel
    have ha := hexV_range 6 (l.take k) (by rw [List.length_take]; omega) (fun c hc => HF.out c (List.mem_of_mem_take hc))
    rw [← hh.out] at ha
    have a0 : 0 ≤ a := ha.1
    have a1 : a < 16777216 := ha.2
    clear ha
    by_cases hkn : k < l.length
    · have hc := HB.out k hkn
      obtain ⟨c, hcd⟩ : ∃ c, c = l[k] := ⟨_, rfl⟩
      rw [← hcd] at hc
      have hfc : figR c = true := by rw [hcd]; exact HF.out _ (List.getElem_mem hkn)
      have HN : Hid (a * 16 + figV c = hexV (l.take (k + 1))) := by
        show _ = _
        rw [List.take_succ_eq_append_getElem hkn, hexV_snoc, hh.out, hcd]
      clear hcd
      rcases figR_cases hfc with q | q
      · have ev := figV_dec q
        obtain ⟨q0, q1⟩ := q
        rw [ev] at HN
        clear ev hfc hh
        have hkt : k < t.size := by omega
        go_wp2
        refine ⟨⟨k + 1, a * 16 + (c - 48), rfl, (by first | rfl | (congr 1; omega)), (by first | rfl | (congr 1; omega)), by omega, HN⟩, by simp [intOf]; omega⟩
      · have ev := figV_let q
        have hlow := lower_any c q
        obtain ⟨q0, q1⟩ := q
        have EN : Hid (a * 16 + (c - 55) = hexV (l.take (k + 1))) := by show _ = _; rw [← HN.out, ev]
        clear ev hfc hh HN
        have hkt : k < t.size := by omega
        have hn57 : decide (c ≤ 57) = false := by simp; omega
        go_wp2_with (go_at_call 235; refine (hlow _).mono ?_; rintro e w' ⟨rfl, rfl⟩)
        refine ⟨⟨k + 1, a * 16 + (c - 55), rfl, (by first | rfl | (congr 1; omega)), (by first | rfl | (congr 1; omega)), by omega, EN⟩, by simp [intOf]; omega⟩
    · obtain rfl : k = l.length := by omega
      have HE : Hid (a = hexV l) := by show _ = _; rw [hh.out, List.take_length]
      clear hh
      go_wp2
      go_ret2
      have e := HE.out
      subst e
      exact ⟨rfl, HBL.out⟩

set_option maxRecDepth 100000 in
set_option maxHeartbeats 8000000 in
theorem pint_any (l : List Int) (hf : ∀ c ∈ l, figR c = true) (h1 : 1 ≤ l.length) (h6 : l.length ≤ 6) (w : World) :
    Calls Tryz.prog 222 #[.string (strOfNums l), .int .i64 16, .int .i64 0] w fun e w' => e = .returned (.tuple #[.int .i64 (hexV l), .nilIface]) ∧ Below w.heap.size w w' := by
  have HP := puint_any l hf h1 h6 w
  have ha := hexV_range 6 l h6 hf
  obtain ⟨t, ht⟩ : ∃ t, t = strOfNums l := ⟨_, rfl⟩
  have hsz : t.size = l.length := by rw [ht, strOfNums_size]
  obtain ⟨c, hc⟩ : ∃ c, c = l[0] := ⟨_, rfl⟩
  have hf0 : figR c = true := by rw [hc]; exact hf _ (List.getElem_mem (by omega))
  have hx : ((t.data.toList.getD 0 0).toNat : Int) = c := by
    rw [ht, str_getD l (fun c hc => by rcases figR_cases (hf c hc) with q | q <;> omega) 0 (by omega), hc]
  rw [← ht] at HP
  rw [← ht]
  have hemp : t.toList.isEmpty = false := by
    rw [← decide_eq_emptyBytes]
    exact decide_eq_false (fun h => by rw [h] at hsz; simp at hsz; omega)
  have hpos : 0 < t.size := by omega
  have hy : ((t[0]'hpos).toNat : Int) = c := by
    rw [← hx]
    have e : t[0]'hpos = t.data[0]'hpos := rfl
    rw [e]
    simp only [List.getD, Array.getElem?_toList]
    rw [Array.getElem?_eq_getElem hpos]
    rfl
  have k43 : (((t[0]'hpos).toNat : Int) == 43) = false := by rw [hy]; rcases figR_cases hf0 with q | q <;> (simp; omega)
  have k45 : (((t[0]'hpos).toNat : Int) == 45) = false := by rw [hy]; rcases figR_cases hf0 with q | q <;> (simp; omega)
  obtain ⟨v, hv⟩ : ∃ v, v = hexV l := ⟨_, rfl⟩
  rw [← hv] at HP ha
  rw [← hv]
  have a0 : 0 ≤ v := ha.1
  have a1 : v < 16777216 := ha.2
  clear ha hv hf hc hf0 ht hx hy
  go_enter Tryz.func222, Tryz.ntmps222
  go_wp2_with fail
  refine HP.mono ?_
  rintro e w' ⟨rfl, hB⟩
  go_wp2
  go_ret2
  exact ⟨rfl, hB⟩

set_option maxRecDepth 100000 in
set_option maxHeartbeats 4000000 in
theorem parse_any (l : List Int) (hf : ∀ c ∈ l, figR c = true) (h1 : 1 ≤ l.length) (h6 : l.length ≤ 6) (w : World) :
    Calls Tryz.prog 209 #[.string (strOfNums l), .int .i64 16, .int .i64 0] w fun e w' => e = .returned (.tuple #[.int .i64 (hexV l), .nilIface]) ∧ Below w.heap.size w w' := by
  have HP := pint_any l hf h1 h6 w
  obtain ⟨v, hv⟩ : ∃ v, v = hexV l := ⟨_, rfl⟩
  obtain ⟨t, ht⟩ : ∃ t, t = strOfNums l := ⟨_, rfl⟩
  rw [← hv, ← ht] at HP
  rw [← hv, ← ht]
  clear hv ht
  go_enter Tryz.func209, Tryz.ntmps209
  go_wp2_with fail
  refine HP.mono ?_
  rintro e w' ⟨rfl, hB⟩
  go_wp2
  go_ret2
  exact ⟨rfl, hB⟩

theorem clone_none (w : World) : Calls Tryz.prog 237 #[.string ⟨#[]⟩] w fun e w' => e = .returned (.string ⟨#[]⟩) ∧ w = w' := by
  go_enter Tryz.func237, Tryz.ntmps237
  go_wp2
  go_ret
  exact ⟨rfl, rfl⟩

set_option maxRecDepth 100000 in
set_option maxHeartbeats 4000000 in
theorem syntaxError_any (s : ByteArray) (w : World) (hv : SynV w) : Calls Tryz.prog 228 #[.string s, .string ⟨#[]⟩] w fun e w' => (∃ a, e = .returned (.pointer (some a))) ∧ Below w.heap.size w w' := by
  obtain ⟨te, pe, hv⟩ := hv
  go_enter Tryz.func228, Tryz.ntmps228
  go_wp2
  go_region_held3 (fun w' => w'.cell? ⟨7, 0, none⟩ = some (.iface te pe)) (go_keep) ((go_at_call 237; refine (clone_none _).mono ?_; rintro e w' ⟨rfl, rfl⟩))
  all_goals go_wp2
  all_goals
    go_ret
    exact ⟨⟨_, rfl⟩, ((Below.refl _ w).alloc (Nat.le_refl _) _).drew⟩

set_option maxRecDepth 100000 in
set_option maxHeartbeats 4000000 in
theorem toError_any (s : ByteArray) (w : World) (hv : SynV w) : Calls Tryz.prog 223 #[.string s, .string ⟨#[]⟩, .int .i64 16, .int .i64 0, .iface 245 (.int .i64 2)] w fun e w' => (∃ a, e = .returned (.iface 248 (.pointer (some a)))) ∧ Below w.heap.size w w' := by
  have HS := syntaxError_any s w hv
  have heq : ∀ W, (binOp .eql 77 (.iface 245 (.int .i64 2)) (.iface 245 (.int .i64 2))).run Tryz.prog W = .ok (.bool true) W := fun W => Lib.run_eql_iface_int W 2 2 Tryz.underlying77 (by kernel_rfl) Tryz.underlying245
  go_enter Tryz.func223, Tryz.ntmps223
  go_wp2_with fail
  refine HS.mono ?_
  rintro e w' ⟨⟨a, rfl⟩, hB⟩
  go_wp2
  go_ret
  exact ⟨⟨_, rfl⟩, hB⟩

set_option maxRecDepth 100000 in
set_option maxHeartbeats 4000000 in
theorem parse_none (w : World) (hv : SynV w) :
    Calls Tryz.prog 209 #[.string ⟨#[]⟩, .int .i64 16, .int .i64 0] w fun e w' => (∃ a, e = .returned (.tuple #[.int .i64 0, .iface 248 (.pointer (some a))])) ∧ Below w.heap.size w w' := by
  have HP : Calls Tryz.prog 222 #[.string ⟨#[]⟩, .int .i64 16, .int .i64 0] w fun e w' => e = .returned (.tuple #[.int .i64 0, .iface 245 (.int .i64 2)]) ∧ w = w' := by
    go_enter Tryz.func222, Tryz.ntmps222
    go_wp2
    go_ret2
    exact ⟨rfl, rfl⟩
  have HT := toError_any ⟨#[80, 97, 114, 115, 101, 73, 110, 116]⟩ w hv
  go_enter Tryz.func209, Tryz.ntmps209
  go_wp2_with fail
  refine HP.mono ?_
  rintro e w' ⟨rfl, rfl⟩
  go_wp2_with fail
  refine HT.mono ?_
  rintro e w' ⟨⟨a, rfl⟩, hB⟩
  go_wp2
  go_ret2
  exact ⟨⟨_, rfl⟩, hB⟩
end Go.Proofs.YtohaegaocklnkaaGreatDoor

namespace Go.Proofs.YtohaegaocklnkaaGreatDoor
open Go.RowKit Go.Shelf S1
set_option linter.unusedVariables false

/-- The function g answers the rule p, and turns nothing. -/
def RuleF (g : Nat) (p : Int → Bool) : Prop := ∀ (r : Int) (w : World), Calls Tryz.prog g #[.int .i64 r] w fun e w' => e = .returned (.bool (p r)) ∧ w = w'

theorem beginsName_any : RuleF 80 nameB := fun r w => by
  by_cases h1 : 97 ≤ r
  · by_cases h2 : r ≤ 122
    · have e : nameB r = true := by simp [nameB, h1, h2]
      rw [e]
      go_enter Tryz.func80, Tryz.ntmps80
      go_wp2
      go_ret
      exact ⟨rfl, rfl⟩
    · have e : nameB r = false := by simp [nameB, h1, h2]
      rw [e]
      have h2' : decide (r ≤ 122) = false := by simpa using h2
      go_enter Tryz.func80, Tryz.ntmps80
      go_wp2
      go_ret
      exact ⟨rfl, rfl⟩
  · have e : nameB r = false := by simp [nameB, h1]
    rw [e]
    have h1' : decide (97 ≤ r) = false := by simpa using h1
    go_enter Tryz.func80, Tryz.ntmps80
    go_wp2
    go_ret
    exact ⟨rfl, rfl⟩

theorem isDecimal_any : RuleF 116 decB := fun r w => by
  by_cases h1 : 48 ≤ r
  · by_cases h2 : r ≤ 57
    · have e : decB r = true := by simp [decB, h1, h2]
      rw [e]
      go_enter Tryz.func116, Tryz.ntmps116
      go_wp2
      go_ret
      exact ⟨rfl, rfl⟩
    · have e : decB r = false := by simp [decB, h1, h2]
      rw [e]
      have h2' : decide (r ≤ 57) = false := by simpa using h2
      go_enter Tryz.func116, Tryz.ntmps116
      go_wp2
      go_ret
      exact ⟨rfl, rfl⟩
  · have e : decB r = false := by simp [decB, h1]
    rw [e]
    have h1' : decide (48 ≤ r) = false := by simpa using h1
    go_enter Tryz.func116, Tryz.ntmps116
    go_wp2
    go_ret
    exact ⟨rfl, rfl⟩

theorem isBlank_any : RuleF 75 blankR := fun r w => by
  by_cases h32 : r = 32
  · subst h32
    go_enter Tryz.func75, Tryz.ntmps75
    go_wp2
    go_ret
    exact ⟨rfl, rfl⟩
  by_cases h9 : r = 9
  · subst h9
    go_enter Tryz.func75, Tryz.ntmps75
    go_wp2
    go_ret
    exact ⟨rfl, rfl⟩
  by_cases h13 : r = 13
  · subst h13
    go_enter Tryz.func75, Tryz.ntmps75
    go_wp2
    go_ret
    exact ⟨rfl, rfl⟩
  by_cases h10 : r = 10
  · subst h10
    go_enter Tryz.func75, Tryz.ntmps75
    go_wp2
    go_ret
    exact ⟨rfl, rfl⟩
  have k32 : (r == 32) = false := by simpa using h32
  have k9 : (r == 9) = false := by simpa using h9
  have k13 : (r == 13) = false := by simpa using h13
  have k10 : (r == 10) = false := by simpa using h10
  have e : blankR r = false := by simp [blankR, h32, h9, h13, h10]
  rw [e]
  clear e h32 h9 h13 h10
  go_enter Tryz.func75, Tryz.ntmps75
  go_wp2
  go_ret
  exact ⟨rfl, rfl⟩

theorem isToken_any : RuleF 83 tokR := fun r w => by
  by_cases h61 : r = 61
  · subst h61
    go_enter Tryz.func83, Tryz.ntmps83
    go_wp2
    go_ret
    exact ⟨rfl, rfl⟩
  by_cases h59 : r = 59
  · subst h59
    go_enter Tryz.func83, Tryz.ntmps83
    go_wp2
    go_ret
    exact ⟨rfl, rfl⟩
  by_cases h47 : r = 47
  · subst h47
    go_enter Tryz.func83, Tryz.ntmps83
    go_wp2
    go_ret
    exact ⟨rfl, rfl⟩
  by_cases h124 : r = 124
  · subst h124
    go_enter Tryz.func83, Tryz.ntmps83
    go_wp2
    go_ret
    exact ⟨rfl, rfl⟩
  by_cases h42 : r = 42
  · subst h42
    go_enter Tryz.func83, Tryz.ntmps83
    go_wp2
    go_ret
    exact ⟨rfl, rfl⟩
  by_cases h43 : r = 43
  · subst h43
    go_enter Tryz.func83, Tryz.ntmps83
    go_wp2
    go_ret
    exact ⟨rfl, rfl⟩
  by_cases h63 : r = 63
  · subst h63
    go_enter Tryz.func83, Tryz.ntmps83
    go_wp2
    go_ret
    exact ⟨rfl, rfl⟩
  by_cases h40 : r = 40
  · subst h40
    go_enter Tryz.func83, Tryz.ntmps83
    go_wp2
    go_ret
    exact ⟨rfl, rfl⟩
  by_cases h41 : r = 41
  · subst h41
    go_enter Tryz.func83, Tryz.ntmps83
    go_wp2
    go_ret
    exact ⟨rfl, rfl⟩
  by_cases h46 : r = 46
  · subst h46
    go_enter Tryz.func83, Tryz.ntmps83
    go_wp2
    go_ret
    exact ⟨rfl, rfl⟩
  by_cases h126 : r = 126
  · subst h126
    go_enter Tryz.func83, Tryz.ntmps83
    go_wp2
    go_ret
    exact ⟨rfl, rfl⟩
  by_cases h38 : r = 38
  · subst h38
    go_enter Tryz.func83, Tryz.ntmps83
    go_wp2
    go_ret
    exact ⟨rfl, rfl⟩
  by_cases h45 : r = 45
  · subst h45
    go_enter Tryz.func83, Tryz.ntmps83
    go_wp2
    go_ret
    exact ⟨rfl, rfl⟩
  have k61 : (r == 61) = false := by simpa using h61
  have k59 : (r == 59) = false := by simpa using h59
  have k47 : (r == 47) = false := by simpa using h47
  have k124 : (r == 124) = false := by simpa using h124
  have k42 : (r == 42) = false := by simpa using h42
  have k43 : (r == 43) = false := by simpa using h43
  have k63 : (r == 63) = false := by simpa using h63
  have k40 : (r == 40) = false := by simpa using h40
  have k41 : (r == 41) = false := by simpa using h41
  have k46 : (r == 46) = false := by simpa using h46
  have k126 : (r == 126) = false := by simpa using h126
  have k38 : (r == 38) = false := by simpa using h38
  have k45 : (r == 45) = false := by simpa using h45
  have e : tokR r = false := by simp [tokR, h61, h59, h47, h124, h42, h43, h63, h40, h41, h46, h126, h38, h45]
  rw [e]
  clear e h61 h59 h47 h124 h42 h43 h63 h40 h41 h46 h126 h38 h45
  go_enter Tryz.func83, Tryz.ntmps83
  go_wp2
  go_ret
  exact ⟨rfl, rfl⟩

theorem isGuarded_any : RuleF 184 guardR := fun r w => by
  by_cases h91 : r = 91
  · subst h91
    go_enter Tryz.func184, Tryz.ntmps184
    go_wp2
    go_ret
    exact ⟨rfl, rfl⟩
  by_cases h93 : r = 93
  · subst h93
    go_enter Tryz.func184, Tryz.ntmps184
    go_wp2
    go_ret
    exact ⟨rfl, rfl⟩
  by_cases h45 : r = 45
  · subst h45
    go_enter Tryz.func184, Tryz.ntmps184
    go_wp2
    go_ret
    exact ⟨rfl, rfl⟩
  by_cases h92 : r = 92
  · subst h92
    go_enter Tryz.func184, Tryz.ntmps184
    go_wp2
    go_ret
    exact ⟨rfl, rfl⟩
  have k91 : (r == 91) = false := by simpa using h91
  have k93 : (r == 93) = false := by simpa using h93
  have k45 : (r == 45) = false := by simpa using h45
  have k92 : (r == 92) = false := by simpa using h92
  have e : guardR r = false := by simp [guardR, h91, h93, h45, h92]
  rw [e]
  clear e h91 h93 h45 h92
  go_enter Tryz.func184, Tryz.ntmps184
  go_wp2
  go_ret
  exact ⟨rfl, rfl⟩

theorem isInNote_any : RuleF 78 noteR := fun r w => by
  go_enter Tryz.func78, Tryz.ntmps78
  go_wp2
  go_ret
  exact ⟨rfl, rfl⟩

theorem isInName_any : RuleF 81 nameR := fun r w => by
  cases h1 : nameB r with
  | true =>
    have e : nameR r = true := by simp [nameR, h1]
    rw [e]
    have c1 := beginsName_any r w
    rw [h1] at c1
    go_enter Tryz.func81, Tryz.ntmps81
    go_wp2_with (go_at_call 80; refine c1.mono ?_; rintro e w' ⟨rfl, rfl⟩)
    go_ret
    exact ⟨rfl, rfl⟩
  | false =>
    have c1 := beginsName_any r w
    rw [h1] at c1
    cases h2 : decB r with
    | true =>
      have e : nameR r = true := by simp [nameR, h2]
      rw [e]
      have c2 := isDecimal_any r w
      rw [h2] at c2
      go_enter Tryz.func81, Tryz.ntmps81
      go_wp2_with (first | (go_at_call 80; refine c1.mono ?_; rintro e w' ⟨rfl, rfl⟩) | (go_at_call 116; refine c2.mono ?_; rintro e w' ⟨rfl, rfl⟩))
      go_ret
      exact ⟨rfl, rfl⟩
    | false =>
      have e : nameR r = (r == 95) := by simp [nameR, h1, h2]
      rw [e]
      have c2 := isDecimal_any r w
      rw [h2] at c2
      go_enter Tryz.func81, Tryz.ntmps81
      go_wp2_with (first | (go_at_call 80; refine c1.mono ?_; rintro e w' ⟨rfl, rfl⟩) | (go_at_call 116; refine c2.mono ?_; rintro e w' ⟨rfl, rfl⟩))
      go_ret
      exact ⟨rfl, rfl⟩

theorem isFigure_any : RuleF 208 figR := fun r w => by
  cases h1 : decB r with
  | true =>
    have e : figR r = true := by simp [figR, h1]
    rw [e]
    have c1 := isDecimal_any r w
    rw [h1] at c1
    go_enter Tryz.func208, Tryz.ntmps208
    go_wp2_with (go_at_call 116; refine c1.mono ?_; rintro e w' ⟨rfl, rfl⟩)
    go_ret
    exact ⟨rfl, rfl⟩
  | false =>
    have c1 := isDecimal_any r w
    rw [h1] at c1
    by_cases h2 : 65 ≤ r
    · have e : figR r = decide (r ≤ 70) := by simp [figR, h1, h2]
      rw [e]
      go_enter Tryz.func208, Tryz.ntmps208
      go_wp2_with (go_at_call 116; refine c1.mono ?_; rintro e w' ⟨rfl, rfl⟩)
      go_ret
      exact ⟨rfl, rfl⟩
    · have e : figR r = false := by simp [figR, h1, h2]
      rw [e]
      have h2' : decide (65 ≤ r) = false := by simpa using h2
      go_enter Tryz.func208, Tryz.ntmps208
      go_wp2_with (go_at_call 116; refine c1.mono ?_; rintro e w' ⟨rfl, rfl⟩)
      go_ret
      exact ⟨rfl, rfl⟩

theorem isPlain_any : RuleF 183 plainR := fun r w => by
  by_cases h1 : 32 ≤ r
  · have c1 := isGuarded_any r w
    have e : plainR r = !guardR r := by simp [plainR, h1]
    rw [e]
    cases h2 : guardR r with
    | true =>
      rw [h2] at c1
      go_enter Tryz.func183, Tryz.ntmps183
      go_wp2_with (go_at_call 184; refine c1.mono ?_; rintro e w' ⟨rfl, rfl⟩)
      go_ret
      exact ⟨rfl, rfl⟩
    | false =>
      rw [h2] at c1
      go_enter Tryz.func183, Tryz.ntmps183
      go_wp2_with (go_at_call 184; refine c1.mono ?_; rintro e w' ⟨rfl, rfl⟩)
      go_ret
      exact ⟨rfl, rfl⟩
  · have e : plainR r = false := by simp [plainR, h1]
    rw [e]
    have h1' : decide (32 ≤ r) = false := by simpa using h1
    go_enter Tryz.func183, Tryz.ntmps183
    go_wp2
    go_ret
    exact ⟨rfl, rfl⟩

set_option maxHeartbeats 1000000 in
/-- lex.is(c): a closure over a box of its own. -/
theorem is_any (c : Int) (w : World) : Calls Tryz.prog 76 #[.int .i64 c] w fun e w' => e = .returned (.func (.func 115) #[] #[.pointer (some ⟨w.heap.size, 0, none⟩)]) ∧ w.alloc (.cells #[.int .i64 c] 3) = w' := by
  go_enter Tryz.func76, Tryz.ntmps76
  go_wp2
  go_ret
  exact ⟨rfl, rfl⟩
theorem is1_any (c r : Int) (B : Nat) (w : World) (hc : w.cell? ⟨B, 0, none⟩ = some (.int .i64 c)) : Calls Tryz.prog 115 #[.int .i64 r, .pointer (some ⟨B, 0, none⟩)] w fun e w' => e = .returned (.bool (isC c r)) ∧ w = w' := by
  go_enter Tryz.func115, Tryz.ntmps115
  go_wp2
  go_ret
  exact ⟨rfl, rfl⟩
end Go.Proofs.YtohaegaocklnkaaGreatDoor
