/-
  The reader in memory: its text, and the units that it has not taken yet. What the rows' listed variables give: the library's sentinel, as the program's text lays it; and a world that holds them. An argument of type []uint8. What the library's ParseInt answers of at most six hexadecimal figures, at base 16 and size 0: the number they are; of none: an error.
-/
import Derived.Test.YtfdjchnckjgapaaGreatDoorX02
import Derived.Test.YtfdjchnckjgapaaGreatDoorX03
import Derived.Test.YtfdjchnckjgapaaGreatDoorX04
import Derived.Maps.RangeWalk
import Derived.WalkKit
import Derived.ProofKit
import Derived.OpenShut
import Derived.ChangeOld
import Derived.Below
import Derived.Deep.DeepHandedRow
import Derived.Stop.LaidErr
import Derived.Deep.SlicePairs
import Derived.Lib.ConvBytes
import Derived.Laws.BytesArg
import Derived.Laws.Strings3
import Derived.Laws.Closers25
import Derived.Laws.Closers25b
import Derived.BigCall
import Derived.BigGuard
import Derived.BigRegion
import Derived.RegionTactic
import Derived.Deep.RegionHeld3
import Derived.Lib.IfaceEq
namespace Go.Proofs.YtfdjchnckjgapaaGreatDoor
open Go.RowKit S1
set_option linter.unusedVariables false

/-- The slice value v holds the units us, in a block below R. -/
def UniAt (R : Nat) (w : World) (v : Value) (us : List U) : Prop :=
  ∃ a cap, v = .slice a us.length cap ∧ us.length ≤ cap ∧ ∀ i, (h : i < us.length) → ∃ g off, a = some ⟨g, off, none⟩ ∧ g < R ∧
    w.cell? ⟨g, off + i * 4, none⟩ = some (.int .i64 us[i].r) ∧ w.cell? ⟨g, off + i * 4 + 1, none⟩ = some (.int .i64 (us[i].p : Int)) ∧ w.cell? ⟨g, off + i * 4 + 3, none⟩ = some (.bool us[i].bad)
/-- The slice value v holds the bytes zs, in a block below R. -/
def TxtAt (R : Nat) (w : World) (v : Value) (zs : List Int) : Prop :=
  ∃ a cap, v = .slice a zs.length cap ∧ zs.length ≤ cap ∧ ∀ i, (h : i < zs.length) → ∃ g off, a = some ⟨g, off, none⟩ ∧ g < R ∧ w.cell? ⟨g, off + i, none⟩ = some (.int .u8 zs[i])

theorem UniAt.grown {R : Nat} {w w' : World} {v : Value} {us : List U} (h : UniAt R w v us) (hg : w.grownBy w' (some R)) : UniAt R w' v us := by
  obtain ⟨a, cap, rfl, hc, hi⟩ := h
  refine ⟨a, cap, rfl, hc, fun i hlt => ?_⟩
  obtain ⟨g, off, rfl, hgl, h0, h1, h3⟩ := hi i hlt
  exact ⟨g, off, rfl, hgl, hg.cell h0 (by simp; omega), hg.cell h1 (by simp; omega), hg.cell h3 (by simp; omega)⟩
theorem TxtAt.grown {R : Nat} {w w' : World} {v : Value} {zs : List Int} (h : TxtAt R w v zs) (hg : w.grownBy w' (some R)) : TxtAt R w' v zs := by
  obtain ⟨a, cap, rfl, hc, hi⟩ := h
  refine ⟨a, cap, rfl, hc, fun i hlt => ?_⟩
  obtain ⟨g, off, rfl, hgl, h0⟩ := hi i hlt
  exact ⟨g, off, rfl, hgl, hg.cell h0 (by simp; omega)⟩

/-- The library's sentinel is an error value. -/
def SynV (w : World) : Prop := ∃ te pe, w.cell? ⟨7, 0, none⟩ = some (.iface te pe)
theorem SynV.lt {w : World} (h : SynV w) : 7 < w.heap.size := by
  obtain ⟨te, pe, h⟩ := h
  rcases Nat.lt_or_ge 7 w.heap.size with q | q
  · exact q
  · simp [World.cell?, Array.getElem?_eq_none q] at h
theorem SynV.grown {w w' : World} {row : Option Nat} (h : SynV w) (hg : w.grownBy w' row) (hr : some 7 ≠ row) : SynV w' := by
  obtain ⟨te, pe, h⟩ := h
  exact ⟨te, pe, hg.cell h hr⟩

/-- The reader at R: its text, and the units that are left. -/
def Rd (w : World) (R : Nat) (tv : Value) (us : List U) : Prop :=
  ∃ uv, w.cell? ⟨R, 0, none⟩ = some tv ∧ w.cell? ⟨R, 1, none⟩ = some uv ∧ w.frozen? ⟨R, 1, none⟩ = false ∧ R < w.heap.size ∧ (SynV w ∧ 7 < R) ∧ UniAt R w uv us

theorem Rd.kept {w w' : World} {R : Nat} {tv : Value} {us : List U} (h : Rd w R tv us) (hg : w.grownBy w' none) : Rd w' R tv us := by
  obtain ⟨uv, h0, h1, hf, hl, hsv, hu⟩ := h
  refine ⟨uv, hg.cell h0 (by simp), hg.cell h1 (by simp), ?_, Nat.lt_of_lt_of_le hl hg.size, ⟨hsv.1.grown hg (by simp), hsv.2⟩, hu.grown (hg.but _)⟩
  rw [← hf]
  exact World.frozen?_of_block (a := ⟨R, 1, none⟩) (hg.block R hl (by simp))
theorem Rd.alloc {w : World} {R : Nat} {tv : Value} {us : List U} (h : Rd w R tv us) (o : Obj) : Rd (w.alloc o) R tv us := h.kept (World.grownBy_alloc w o none)
theorem grownR_below {w w' : World} (h : Below w.heap.size w w') (row : Option Nat) : w.grownBy w' row := ⟨h.os, h.tape, h.output, h.size, fun k hk _ => h.block k hk⟩
theorem grownR_set (w : World) (R i : Nat) (v : Value) : w.grownBy (w.setCell ⟨R, i, none⟩ v) (some R) :=
  ⟨rfl, rfl, rfl, by simp [World.setCell], fun k _ hne => Below.heap_setCell w ⟨R, i, none⟩ v k (by simpa using hne)⟩
theorem grownR_drew {a w : World} {row : Option Nat} (h : a.grownBy w row) : a.grownBy w.drew row := ⟨h.os, h.tape, h.output, h.size, h.block⟩
theorem grownR_drewN {a w : World} {row : Option Nat} (h : a.grownBy w row) : ∀ k, a.grownBy (w.drewN k) row
  | 0 => h
  | k + 1 => grownR_drew (grownR_drewN h k)

/-- The units' slice behind the first one. -/
theorem UniAt.tail {R : Nat} {w : World} {g off cap : Nat} {u : U} {t : List U} (h : UniAt R w (.slice (some ⟨g, off, none⟩) (t.length + 1) cap) (u :: t)) (a' : Option Addr) (ha : t.length ≠ 0 → a' = some ⟨g, off + 4, none⟩) : UniAt R w (.slice a' t.length (cap - 1)) t := by
  obtain ⟨a, c, e, hc, hi⟩ := h
  obtain ⟨rfl, _, rfl⟩ : some ⟨g, off, none⟩ = a ∧ t.length + 1 = (u :: t).length ∧ cap = c := by simpa using e
  refine ⟨a', _, rfl, by simp at hc; omega, fun i hlt => ?_⟩
  obtain ⟨g', off', e2, hg, h0, h1, h3⟩ := hi (i + 1) (by simpa using hlt)
  obtain ⟨rfl, rfl⟩ : g = g' ∧ off = off' := by simpa using e2
  have q : off + 4 + i * 4 = off + (i + 1) * 4 := by omega
  refine ⟨g, off + 4, ha (by omega), hg, ?_, ?_, ?_⟩
  · rw [q]; simpa using h0
  · rw [q]; simpa using h1
  · rw [q]; simpa using h3

theorem UniAt.tail' {R : Nat} {w : World} {g off cap : Nat} {u : U} {t : List U} (h : UniAt R w (.slice (some ⟨g, off, none⟩) (t.length + 1) cap) (u :: t)) (a' : Option Addr) (c' : Nat) (ha : t.length ≠ 0 → a' = some ⟨g, off + 4, none⟩ ∧ c' = cap - 1) : UniAt R w (.slice a' t.length c') t := by
  by_cases q : t.length = 0
  · exact ⟨a', c', rfl, by omega, fun i hi => by omega⟩
  · obtain ⟨e1, e2⟩ := ha q
    rw [e2]
    exact h.tail a' (fun _ => e1)

/-- The reader takes a unit: the world behind it. -/
theorem Rd.took {w : World} {R : Nat} {tv : Value} {u : U} {t : List U} (h : Rd w R tv (u :: t)) (v : Value) (hv : UniAt R w v t) : Rd (w.setCell ⟨R, 1, none⟩ v) R tv t := by
  obtain ⟨uv, h0, h1, hf, hl, hsv, hu⟩ := h
  refine ⟨v, ?_, ?_, ?_, by simpa [World.setCell] using hl, ⟨hsv.1.grown (grownR_set w R 1 v) (by simp; omega), hsv.2⟩, hv.grown (grownR_set w R 1 v)⟩
  · exact (World.cell?_setCell_other w ⟨R, 1, none⟩ ⟨R, 0, none⟩ v (by simp)).trans h0
  · exact World.cell?_setCell_same' w ⟨R, 1, none⟩ v (by rw [h1]; rfl)
  · rw [World.frozen?_setCell]; exact hf
theorem Rd.set {w : World} {B R : Nat} {tv : Value} {us : List U} (h : Rd w R tv us) (hB : R < B) (i : Nat) (v : Value) : Rd (w.setCell ⟨B, i, none⟩ v) R tv us := by
  obtain ⟨uv, h0, h1, hf, hl, hsv, hu⟩ := h
  have hg := grownR_set w B i v
  refine ⟨uv, hg.cell h0 (by simp; omega), hg.cell h1 (by simp; omega), by rw [World.frozen?_setCell]; exact hf, by simpa [World.setCell] using hl, ⟨hsv.1.grown hg (by simp; omega), hsv.2⟩, ?_⟩
  obtain ⟨a, cap, rfl, hc, hi⟩ := hu
  refine ⟨a, cap, rfl, hc, fun j hlt => ?_⟩
  obtain ⟨g, off, rfl, hgl, d0, d1, d3⟩ := hi j hlt
  exact ⟨g, off, rfl, hgl, hg.cell d0 (by simp; omega), hg.cell d1 (by simp; omega), hg.cell d3 (by simp; omega)⟩
theorem TxtAt.set {w : World} {B R : Nat} {tv : Value} {zs : List Int} (h : TxtAt R w tv zs) (hB : R < B) (i : Nat) (v : Value) : TxtAt R (w.setCell ⟨B, i, none⟩ v) tv zs := by
  have hg := grownR_set w B i v
  obtain ⟨a, cap, rfl, hc, hi⟩ := h
  refine ⟨a, cap, rfl, hc, fun j hlt => ?_⟩
  obtain ⟨g, off, rfl, hgl, d0⟩ := hi j hlt
  exact ⟨g, off, rfl, hgl, hg.cell d0 (by simp; omega)⟩
theorem Rd.cons {w : World} {R : Nat} {tv : Value} {u : U} {t : List U} (h : Rd w R tv (u :: t)) : ∃ g off cap, w.cell? ⟨R, 1, none⟩ = some (.slice (some ⟨g, off, none⟩) (t.length + 1) cap) ∧ t.length + 1 ≤ cap ∧ w.frozen? ⟨R, 1, none⟩ = false ∧ R < w.heap.size ∧ g ≠ R ∧ g < w.heap.size ∧
    w.cell? ⟨g, off, none⟩ = some (.int .i64 u.r) ∧ w.cell? ⟨g, off + 1, none⟩ = some (.int .i64 (u.p : Int)) ∧ w.cell? ⟨g, off + 3, none⟩ = some (.bool u.bad) ∧ UniAt R w (.slice (some ⟨g, off, none⟩) (t.length + 1) cap) (u :: t) := by
  obtain ⟨uv, h0, h1, hf, hl, hsv, hu⟩ := h
  have hu' := hu
  obtain ⟨a, cap, rfl, hc, hi⟩ := hu
  obtain ⟨g, off, rfl, hg, d0, d1, d3⟩ := hi 0 (by simp)
  exact ⟨g, off, cap, h1, by simpa using hc, hf, hl, by omega, by omega, by simpa using d0, by simpa using d1, by simpa using d3, hu'⟩
theorem Rd.nil {w : World} {R : Nat} {tv : Value} (h : Rd w R tv []) : ∃ a cap, w.cell? ⟨R, 1, none⟩ = some (.slice a 0 cap) ∧ w.cell? ⟨R, 0, none⟩ = some tv ∧ R < w.heap.size := by
  obtain ⟨uv, h0, h1, hf, hl, hsv, hu⟩ := h
  obtain ⟨a, cap, rfl, hc, hi⟩ := hu
  exact ⟨a, cap, h1, h0, hl⟩
theorem Rd.text {w : World} {R : Nat} {tv : Value} {us : List U} (h : Rd w R tv us) : w.cell? ⟨R, 0, none⟩ = some tv ∧ R < w.heap.size := by
  obtain ⟨uv, h0, h1, hf, hl, hsv, hu⟩ := h
  exact ⟨h0, hl⟩
theorem Rd.syn {w : World} {R : Nat} {tv : Value} {us : List U} (h : Rd w R tv us) : SynV w ∧ 7 < R := by
  obtain ⟨uv, h0, h1, hf, hl, hsv, hu⟩ := h
  exact hsv
/-- How many units are left. -/
def leftN (w : World) (R : Nat) : Nat := match w.cell? ⟨R, 1, none⟩ with
  | some (.slice _ n _) => n
  | _ => 0
theorem Rd.left {w : World} {R : Nat} {tv : Value} {us : List U} (h : Rd w R tv us) : leftN w R = us.length := by
  obtain ⟨uv, h0, h1, hf, hl, hsv, a, cap, rfl, hu⟩ := h
  unfold leftN
  rw [h1]
end Go.Proofs.YtfdjchnckjgapaaGreatDoor

namespace Go.Proofs.YtfdjchnckjgapaaGreatDoor
open Go.ChangeShapes Go.WideShapes Go.ChangeAt Go.RowKit
set_option linter.unusedVariables false

theorem own7 : ownKnob Tryz.prog.godebug = none := by kernel_rfl
theorem laidOut7 : laidOutB Tryz.prog = true := by kernel_rfl
theorem gSyn : Tryz.prog.globalNamed "strconv.ErrSyntax" = some 7 := by kernel_rfl
theorem gSynType : (Tryz.prog.globals[7]?).map (·.type) = some 99 := by kernel_rfl
theorem cellsErr : Tryz.prog.cellsOf 257 = 1 := by kernel_rfl
theorem cellsStr : Tryz.prog.cellsOf 9 = 1 := by kernel_rfl
theorem starErr : "*" ++ "errors.errorString" = "*errors.errorString" := by decide
theorem rowErr (u : TypeId) (h : Tryz.prog.typeName? 3 u = some "*errors.errorString") : u = 255 :=
  typeName_ptr_named (nm := "errors.errorString") (by rw [starErr]; kernel_rfl) (by kernel_rfl) (by decide) u (by rw [starErr]; exact h)
/-- What the rows' list gives. -/
theorem syn_of {W : World} {r : List (String × DataW Unit)} (h : laidMet Tryz.prog (("strconv.ErrSyntax", Rows.laid_strconv_ErrSyntax) :: r) W) : SynV W := by
  obtain ⟨a, s, hv, _⟩ := laid_sentinel h gSyn gSynType Tryz.underlying99 rowErr Tryz.underlying255 Tryz.underlying257 rfl rfl Tryz.underlying9 cellsErr cellsStr
  exact ⟨_, _, World.var?_cell gSyn hv 0⟩

/-- The variables laid into a world: for the witnesses. -/
def withVars (W : World) : World :=
  { W with heap := ((((((W.heap.modify 5 fun
      | .cells _ t frozen => .cells #[.int .u8 0, .int .u8 1, .int .u8 28, .int .u8 2, .int .u8 29, .int .u8 14, .int .u8 24, .int .u8 3, .int .u8 30, .int .u8 22, .int .u8 20, .int .u8 15, .int .u8 25, .int .u8 17, .int .u8 4, .int .u8 8, .int .u8 31, .int .u8 27, .int .u8 13, .int .u8 23, .int .u8 21, .int .u8 19, .int .u8 16, .int .u8 7, .int .u8 26, .int .u8 12, .int .u8 18, .int .u8 6, .int .u8 11, .int .u8 5, .int .u8 10, .int .u8 9] t frozen
      | o => o).modify 6 fun
      | .cells _ t frozen => .cells #[.int .u8 0, .int .u8 1, .int .u8 56, .int .u8 2, .int .u8 57, .int .u8 49, .int .u8 28, .int .u8 3, .int .u8 61, .int .u8 58, .int .u8 42, .int .u8 50, .int .u8 38, .int .u8 29, .int .u8 17, .int .u8 4, .int .u8 62, .int .u8 47, .int .u8 59, .int .u8 36, .int .u8 45, .int .u8 43, .int .u8 51, .int .u8 22, .int .u8 53, .int .u8 39, .int .u8 33, .int .u8 30, .int .u8 24, .int .u8 18, .int .u8 12, .int .u8 5, .int .u8 63, .int .u8 55, .int .u8 48, .int .u8 27, .int .u8 60, .int .u8 41, .int .u8 37, .int .u8 16, .int .u8 46, .int .u8 35, .int .u8 44, .int .u8 21, .int .u8 52, .int .u8 32, .int .u8 23, .int .u8 11, .int .u8 54, .int .u8 26, .int .u8 40, .int .u8 15, .int .u8 34, .int .u8 20, .int .u8 31, .int .u8 10, .int .u8 25, .int .u8 14, .int .u8 19, .int .u8 9, .int .u8 13, .int .u8 8, .int .u8 7, .int .u8 6] t frozen
      | o => o).modify 1 fun
      | .cells _ t frozen => .cells #[.int .u64 1, .int .u64 10, .int .u64 100, .int .u64 1000, .int .u64 10000, .int .u64 100000, .int .u64 1000000, .int .u64 10000000, .int .u64 100000000, .int .u64 1000000000, .int .u64 10000000000, .int .u64 100000000000, .int .u64 1000000000000, .int .u64 10000000000000, .int .u64 100000000000000, .int .u64 1000000000000000, .int .u64 10000000000000000, .int .u64 100000000000000000, .int .u64 1000000000000000000, .int .u64 10000000000000000000] t frozen
      | o => o).modify 8 fun
      | .cells _ t frozen => .cells #[.iface 255 (.pointer (some ⟨W.heap.size, 0, none⟩))] t frozen
      | o => o).modify 7 fun
      | .cells _ t frozen => .cells #[.iface 255 (.pointer (some ⟨W.heap.size + 1, 0, none⟩))] t frozen
      | o => o).push (.cells #[.string ⟨#[118, 97, 108, 117, 101, 32, 111, 117, 116, 32, 111, 102, 32, 114, 97, 110, 103, 101]⟩] 257)).push (.cells #[.string ⟨#[105, 110, 118, 97, 108, 105, 100, 32, 115, 121, 110, 116, 97, 120]⟩] 257) }
end Go.Proofs.YtfdjchnckjgapaaGreatDoor

namespace Go.Proofs.YtfdjchnckjgapaaGreatDoor
open Go.ChangeShapes Go.WideShapes Go.ChangeAt Go.RowKit Go.Deep S1
set_option linter.unusedVariables false

/-- WHAT IS KNOWN OF BYTES THAT CAME IN: the slice holds the bytes l. -/
def ArgB (W : World) (v : Value) (l : List Int) : Prop := Byt l ∧ BytesAt W.heap.size W v l ∧ ∃ a cap, v = .slice a l.length cap ∧ (a = none → cap = 0)
theorem addr_add7 (b off j : Nat) : (⟨b, off, none⟩ : Addr).add j = ⟨b, off + j, none⟩ := by unfold Addr.add; split <;> simp_all
theorem cell_lt7 {w : World} {a : Addr} {v : Value} (h : w.cell? a = some v) : a.block < w.heap.size := by
  rcases Nat.lt_or_ge a.block w.heap.size with q | q
  · exact q
  · simp [World.cell?, Array.getElem?_eq_none q] at h
theorem open_bytesS {H : Type} {enc : TypeId × Value → H} {W : World} {a : Option Addr} {len cap : Nat} {d : DataW H} {p : List MemPlace}
    (h : DataW.Trod enc Tryz.prog W 0 (fun _ => true) true 22 (.slice a len cap) d p) : ∃ l : List Int, l.length = len ∧ ArgB W (.slice a len cap) l := by
  obtain ⟨fuel, hf⟩ := h
  rcases open_ints Tryz.underlying22 Tryz.underlying5 (by kernel_rfl) hf with ⟨hcs, _⟩ | ⟨x, l, c, zs, hcs, _, hl, hmx, hz, _, hcell, hwz⟩
  · simp [Value.cells] at hcs
    obtain ⟨rfl, rfl, rfl⟩ := hcs
    exact ⟨[], rfl, (fun c hc => by cases hc), .inl ⟨none, 0, rfl, rfl⟩, none, 0, rfl, fun _ => rfl⟩
  · simp [Value.cells] at hcs
    obtain ⟨rfl, rfl, rfl⟩ := hcs
    have hzl : zs.length = cap := by simpa using hz
    have hlen : (zs.take len).length = len := by rw [List.length_take]; omega
    refine ⟨zs.take len, hlen, fun c hc => ?_, ?_, some x, cap, by rw [hlen], fun h => by cases h⟩
    · have := hwz c (List.mem_of_mem_take hc)
      simpa [Lit.wf, IntKind.min, IntKind.max, IntKind.signed, IntKind.bits] using this
    · by_cases h0 : len = 0
      · left
        exact ⟨some x, cap, by rw [h0], by rw [h0]; rfl⟩
      · right
        obtain ⟨b, off, spot⟩ := x
        have hc0 := hcell 0 (by omega)
        obtain rfl : spot = none := by simpa [Addr.add] using World.cell?_spot hc0
        refine ⟨b, off, cap, by rw [hlen], by rw [hlen]; exact hl, ?_, fun j hj => ?_⟩
        · have := cell_lt7 hc0
          rwa [addr_add7] at this
        · have hci := hcell j (by omega)
          rw [addr_add7] at hci
          rw [hci]
          have hjz : j < zs.length := by omega
          have hjl : j < len := by omega
          simp [hjl]
end Go.Proofs.YtfdjchnckjgapaaGreatDoor

namespace Go.Proofs.YtfdjchnckjgapaaGreatDoor
open Go.RowKit Go.Shelf S1
set_option linter.unusedVariables false

theorem figR_cases {c : Int} (h : figR c = true) : (48 ≤ c ∧ c ≤ 57) ∨ (65 ≤ c ∧ c ≤ 70) := by
  simp [figR, decB] at h; omega
theorem figV_dec {c : Int} (h : 48 ≤ c ∧ c ≤ 57) : figV c = c - 48 := by unfold figV; rw [if_pos h.2]
theorem figV_let {c : Int} (h : 65 ≤ c ∧ c ≤ 70) : figV c = c - 55 := by unfold figV; rw [if_neg (by omega)]
theorem figV_range {c : Int} (h : figR c = true) : 0 ≤ figV c ∧ figV c ≤ 15 := by
  rcases figR_cases h with q | q
  · rw [figV_dec q]; omega
  · rw [figV_let q]; omega
theorem hexV_snoc (l : List Int) (c : Int) : hexV (l ++ [c]) = hexV l * 16 + figV c := by simp [hexV]
theorem hexV_range : ∀ (n : Nat) (l : List Int), l.length ≤ n → (∀ c ∈ l, figR c = true) → 0 ≤ hexV l ∧ hexV l < 16 ^ n
  | n, l, hl, h => by
    rcases list_last l with rfl | ⟨a, c, rfl⟩
    · simp [hexV]; exact_mod_cast Nat.pos_of_ne_zero (by simp)
    · match n, hl with
      | 0, hl => simp at hl
      | n + 1, hl =>
        have ih := hexV_range n a (by simp at hl; omega) (fun d hd => h d (by simp [hd]))
        have hc := figV_range (h c (by simp))
        rw [hexV_snoc, Int.pow_succ]
        omega

theorem below_bytes (w : World) (e : TypeId) (s : ByteArray) : Below w.heap.size w (Lib.bytesWorld w e s) :=
  ⟨rfl, rfl, rfl, by rw [Lib.bytesWorld_size]; omega, fun k hk => Lib.bytesWorld_at_old w e s k hk⟩

theorem lower_any (c : Int) (h : 65 ≤ c ∧ c ≤ 70) (w : World) : Calls Tryz.prog 234 #[.int .u8 c] w fun e w' => e = .returned (.int .u8 (c + 32)) ∧ w = w' := by
  have : c = 65 ∨ c = 66 ∨ c = 67 ∨ c = 68 ∨ c = 69 ∨ c = 70 := by omega
  rcases this with rfl | rfl | rfl | rfl | rfl | rfl
  all_goals
    go_enter Tryz.func234, Tryz.ntmps234
    go_wp2
    go_ret
    exact ⟨rfl, rfl⟩

theorem str_getD (l : List Int) (hb : ∀ c ∈ l, 0 ≤ c ∧ c ≤ 255) (k : Nat) (h : k < l.length) : (((strOfNums l).data.toList.getD k 0).toNat : Int) = l[k] := by
  have hk := hb l[k] (List.getElem_mem h)
  rw [strOfNums_data]
  simp only [List.getD, List.getElem?_map, List.getElem?_eq_getElem h, Option.map_some, Option.getD_some]
  rw [UInt8.toNat_ofNat']
  omega

set_option maxRecDepth 100000 in
set_option maxHeartbeats 8000000 in
theorem puint_any (l : List Int) (hf : ∀ c ∈ l, figR c = true) (h1 : 1 ≤ l.length) (h6 : l.length ≤ 6) (w : World) :
    Calls Tryz.prog 226 #[.string (strOfNums l), .int .i64 16, .int .i64 0] w fun e w' => e = .returned (.tuple #[.int .u64 (hexV l), .nilIface]) ∧ Below w.heap.size w w' := by
  obtain ⟨t, ht⟩ : ∃ t, t = strOfNums l := ⟨_, rfl⟩
  have hsz : t.size = l.length := by rw [ht, strOfNums_size]
  have hB : ∀ j, (h : j < l.length) → (Lib.bytesWorld w 5 t).cell? ⟨w.heap.size, j, none⟩ = some (.int .u8 l[j]) := fun j hj => by
    rw [Lib.bytesWorld_cell w 5 t j (by omega), ht, str_getD l (fun c hc => by rcases figR_cases (hf c hc) with q | q <;> omega) j hj]
  rw [← ht]
  have hemp : t.toList.isEmpty = false := by
    rw [← decide_eq_emptyBytes]
    exact decide_eq_false (fun h => by rw [h] at hsz; have : (ByteArray.empty).size = 0 := rfl; simp at hsz; omega)
  have hcv := Lib.run_convert_string_bytes (P := Tryz.prog) w 9 22 5 t (u := .string) Tryz.underlying9 Tryz.underlying22 Tryz.underlying5
  have hbel := below_bytes w 5 t
  obtain ⟨W1, hW1⟩ : ∃ W1, W1 = Lib.bytesWorld w 5 t := ⟨_, rfl⟩
  rw [← hW1] at hcv hB hbel
  clear hW1 ht
  have hmv : IntKind.u64.wrap (IntKind.u64.wrap 18446744073709551616 - 1) = 18446744073709551615 := by
    rw [IntKind.wrap_u64, IntKind.wrap_u64]
    decide
  have HB : Hid (∀ j, (h : j < l.length) → W1.cell? ⟨w.heap.size, j, none⟩ = some (.int .u8 l[j])) := hB
  have HF : Hid (∀ c ∈ l, figR c = true) := hf
  have HBL : Hid (Below w.heap.size w W1) := hbel
  clear hB hf hbel
  go_enter Tryz.func226, Tryz.ntmps226
  go_wp2
  go_loop [12, 13, 101] (fun vu vn vi => ∃ (k : Nat) (a : Int), vu = .bool false ∧ vn = .int .u64 a ∧ vi = .int .i64 k ∧ k ≤ l.length ∧ Hid (a = hexV (l.take k))) (fun _ _ vi => l.length - (intOf vi).toNat)
  case atStart => exact ⟨0, 0, rfl, rfl, rfl, by omega, rfl⟩
  case round =>
    obtain ⟨k, a, rfl, rfl, rfl, hk, hh⟩ := hrel
    have ha := hexV_range 6 (l.take k) (by rw [List.length_take]; omega) (fun c hc => HF.out c (List.mem_of_mem_take hc))
    rw [← hh.out] at ha
    have a0 : 0 ≤ a := ha.1
    have a1 : a < 16777216 := ha.2
    clear ha
    by_cases hkn : k < l.length
    · have hc := HB.out k hkn
      obtain ⟨c, hcd⟩ : ∃ c, c = l[k] := ⟨_, rfl⟩
      rw [← hcd] at hc
      have hfc : figR c = true := by rw [hcd]; exact HF.out _ (List.getElem_mem hkn)
      have HN : Hid (a * 16 + figV c = hexV (l.take (k + 1))) := by
        show _ = _
        rw [List.take_succ_eq_append_getElem hkn, hexV_snoc, hh.out, hcd]
      clear hcd
      rcases figR_cases hfc with q | q
      · have ev := figV_dec q
        obtain ⟨q0, q1⟩ := q
        rw [ev] at HN
        clear ev hfc hh
        have hkt : k < t.size := by omega
        go_wp2
        refine ⟨⟨k + 1, a * 16 + (c - 48), rfl, (by first | rfl | (congr 1; omega)), (by first | rfl | (congr 1; omega)), by omega, HN⟩, by simp [intOf]; omega⟩
      · have ev := figV_let q
        have hlow := lower_any c q
        obtain ⟨q0, q1⟩ := q
        have EN : Hid (a * 16 + (c - 55) = hexV (l.take (k + 1))) := by show _ = _; rw [← HN.out, ev]
        clear ev hfc hh HN
        have hkt : k < t.size := by omega
        have hn57 : decide (c ≤ 57) = false := by simp; omega
        go_wp2_with (go_at_call 234; refine (hlow _).mono ?_; rintro e w' ⟨rfl, rfl⟩)
        refine ⟨⟨k + 1, a * 16 + (c - 55), rfl, (by first | rfl | (congr 1; omega)), (by first | rfl | (congr 1; omega)), by omega, EN⟩, by simp [intOf]; omega⟩
    · obtain rfl : k = l.length := by omega
      have HE : Hid (a = hexV l) := by show _ = _; rw [hh.out, List.take_length]
      clear hh
      go_wp2
      go_ret2
      have e := HE.out
      subst e
      exact ⟨rfl, HBL.out⟩

set_option maxRecDepth 100000 in
set_option maxHeartbeats 8000000 in
theorem pint_any (l : List Int) (hf : ∀ c ∈ l, figR c = true) (h1 : 1 ≤ l.length) (h6 : l.length ≤ 6) (w : World) :
    Calls Tryz.prog 221 #[.string (strOfNums l), .int .i64 16, .int .i64 0] w fun e w' => e = .returned (.tuple #[.int .i64 (hexV l), .nilIface]) ∧ Below w.heap.size w w' := by
  have HP := puint_any l hf h1 h6 w
  have ha := hexV_range 6 l h6 hf
  obtain ⟨t, ht⟩ : ∃ t, t = strOfNums l := ⟨_, rfl⟩
  have hsz : t.size = l.length := by rw [ht, strOfNums_size]
  obtain ⟨c, hc⟩ : ∃ c, c = l[0] := ⟨_, rfl⟩
  have hf0 : figR c = true := by rw [hc]; exact hf _ (List.getElem_mem (by omega))
  have hx : ((t.data.toList.getD 0 0).toNat : Int) = c := by
    rw [ht, str_getD l (fun c hc => by rcases figR_cases (hf c hc) with q | q <;> omega) 0 (by omega), hc]
  rw [← ht] at HP
  rw [← ht]
  have hemp : t.toList.isEmpty = false := by
    rw [← decide_eq_emptyBytes]
    exact decide_eq_false (fun h => by rw [h] at hsz; simp at hsz; omega)
  have hpos : 0 < t.size := by omega
  have hy : ((t[0]'hpos).toNat : Int) = c := by
    rw [← hx]
    have e : t[0]'hpos = t.data[0]'hpos := rfl
    rw [e]
    simp only [List.getD, Array.getElem?_toList]
    rw [Array.getElem?_eq_getElem hpos]
    rfl
  have k43 : (((t[0]'hpos).toNat : Int) == 43) = false := by rw [hy]; rcases figR_cases hf0 with q | q <;> (simp; omega)
  have k45 : (((t[0]'hpos).toNat : Int) == 45) = false := by rw [hy]; rcases figR_cases hf0 with q | q <;> (simp; omega)
  obtain ⟨v, hv⟩ : ∃ v, v = hexV l := ⟨_, rfl⟩
  rw [← hv] at HP ha
  rw [← hv]
  have a0 : 0 ≤ v := ha.1
  have a1 : v < 16777216 := ha.2
  clear ha hv hf hc hf0 ht hx hy
  go_enter Tryz.func221, Tryz.ntmps221
  go_wp2_with fail
  refine HP.mono ?_
  rintro e w' ⟨rfl, hB⟩
  go_wp2
  go_ret2
  exact ⟨rfl, hB⟩

set_option maxRecDepth 100000 in
set_option maxHeartbeats 4000000 in
theorem parse_any (l : List Int) (hf : ∀ c ∈ l, figR c = true) (h1 : 1 ≤ l.length) (h6 : l.length ≤ 6) (w : World) :
    Calls Tryz.prog 203 #[.string (strOfNums l), .int .i64 16, .int .i64 0] w fun e w' => e = .returned (.tuple #[.int .i64 (hexV l), .nilIface]) ∧ Below w.heap.size w w' := by
  have HP := pint_any l hf h1 h6 w
  obtain ⟨v, hv⟩ : ∃ v, v = hexV l := ⟨_, rfl⟩
  obtain ⟨t, ht⟩ : ∃ t, t = strOfNums l := ⟨_, rfl⟩
  rw [← hv, ← ht] at HP
  rw [← hv, ← ht]
  clear hv ht
  go_enter Tryz.func203, Tryz.ntmps203
  go_wp2_with fail
  refine HP.mono ?_
  rintro e w' ⟨rfl, hB⟩
  go_wp2
  go_ret2
  exact ⟨rfl, hB⟩

theorem clone_none (w : World) : Calls Tryz.prog 236 #[.string ⟨#[]⟩] w fun e w' => e = .returned (.string ⟨#[]⟩) ∧ w = w' := by
  go_enter Tryz.func236, Tryz.ntmps236
  go_wp2
  go_ret
  exact ⟨rfl, rfl⟩

set_option maxRecDepth 100000 in
set_option maxHeartbeats 4000000 in
theorem syntaxError_any (s : ByteArray) (w : World) (hv : SynV w) : Calls Tryz.prog 227 #[.string s, .string ⟨#[]⟩] w fun e w' => (∃ a, e = .returned (.pointer (some a))) ∧ Below w.heap.size w w' := by
  obtain ⟨te, pe, hv⟩ := hv
  go_enter Tryz.func227, Tryz.ntmps227
  go_wp2
  go_region_held3 (fun w' => w'.cell? ⟨7, 0, none⟩ = some (.iface te pe)) (go_keep) ((go_at_call 236; refine (clone_none _).mono ?_; rintro e w' ⟨rfl, rfl⟩))
  all_goals go_wp2
  all_goals
    go_ret
    exact ⟨⟨_, rfl⟩, ((Below.refl _ w).alloc (Nat.le_refl _) _).drew⟩

set_option maxRecDepth 100000 in
set_option maxHeartbeats 4000000 in
theorem toError_any (s : ByteArray) (w : World) (hv : SynV w) : Calls Tryz.prog 222 #[.string s, .string ⟨#[]⟩, .int .i64 16, .int .i64 0, .iface 245 (.int .i64 2)] w fun e w' => (∃ a, e = .returned (.iface 248 (.pointer (some a)))) ∧ Below w.heap.size w w' := by
  have HS := syntaxError_any s w hv
  have heq : ∀ W, (binOp .eql 99 (.iface 245 (.int .i64 2)) (.iface 245 (.int .i64 2))).run Tryz.prog W = .ok (.bool true) W := fun W => Lib.run_eql_iface_int W 2 2 Tryz.underlying99 (by kernel_rfl) Tryz.underlying245
  go_enter Tryz.func222, Tryz.ntmps222
  go_wp2_with fail
  refine HS.mono ?_
  rintro e w' ⟨⟨a, rfl⟩, hB⟩
  go_wp2
  go_ret
  exact ⟨⟨_, rfl⟩, hB⟩

set_option maxRecDepth 100000 in
set_option maxHeartbeats 4000000 in
theorem parse_none (w : World) (hv : SynV w) :
    Calls Tryz.prog 203 #[.string ⟨#[]⟩, .int .i64 16, .int .i64 0] w fun e w' => (∃ a, e = .returned (.tuple #[.int .i64 0, .iface 248 (.pointer (some a))])) ∧ Below w.heap.size w w' := by
  have HP : Calls Tryz.prog 221 #[.string ⟨#[]⟩, .int .i64 16, .int .i64 0] w fun e w' => e = .returned (.tuple #[.int .i64 0, .iface 245 (.int .i64 2)]) ∧ w = w' := by
    go_enter Tryz.func221, Tryz.ntmps221
    go_wp2
    go_ret2
    exact ⟨rfl, rfl⟩
  have HT := toError_any ⟨#[80, 97, 114, 115, 101, 73, 110, 116]⟩ w hv
  go_enter Tryz.func203, Tryz.ntmps203
  go_wp2_with fail
  refine HP.mono ?_
  rintro e w' ⟨rfl, rfl⟩
  go_wp2_with fail
  refine HT.mono ?_
  rintro e w' ⟨⟨a, rfl⟩, hB⟩
  go_wp2
  go_ret2
  exact ⟨⟨_, rfl⟩, hB⟩
end Go.Proofs.YtfdjchnckjgapaaGreatDoor
