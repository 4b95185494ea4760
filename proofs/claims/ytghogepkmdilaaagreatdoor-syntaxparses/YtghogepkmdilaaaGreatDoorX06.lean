/-
  The reader in memory: its text, and the units that it has not taken yet. What the rows' listed variables give: the library's sentinel, as the program's text lays it; and a world that holds them. An argument of type []uint8. Plain mathematics of parsing: what the tokens of a text are as a program; no program is named here.
-/
import Derived.Test.YtghogepkmdilaaaGreatDoorX03
import Derived.Test.YtghogepkmdilaaaGreatDoorX05
import Derived.Maps.RangeWalk
import Derived.WalkKit
import Derived.ProofKit
import Derived.OpenShut
import Derived.ChangeOld
import Derived.Below
import Derived.Deep.DeepHandedRow
import Derived.Stop.LaidErr
import Derived.Deep.SlicePairs
namespace Go.Proofs.YtghogepkmdilaaaGreatDoor
open Go.RowKit S1
set_option linter.unusedVariables false

/-- The slice value v holds the units us, in a block below R. -/
def UniAt (R : Nat) (w : World) (v : Value) (us : List U) : Prop :=
  ∃ a cap, v = .slice a us.length cap ∧ us.length ≤ cap ∧ ∀ i, (h : i < us.length) → ∃ g off, a = some ⟨g, off, none⟩ ∧ g < R ∧
    w.cell? ⟨g, off + i * 4, none⟩ = some (.int .i64 us[i].r) ∧ w.cell? ⟨g, off + i * 4 + 1, none⟩ = some (.int .i64 (us[i].p : Int)) ∧ w.cell? ⟨g, off + i * 4 + 3, none⟩ = some (.bool us[i].bad)
/-- The slice value v holds the bytes zs, in a block below R. -/
def TxtAt (R : Nat) (w : World) (v : Value) (zs : List Int) : Prop :=
  ∃ a cap, v = .slice a zs.length cap ∧ zs.length ≤ cap ∧ ∀ i, (h : i < zs.length) → ∃ g off, a = some ⟨g, off, none⟩ ∧ g < R ∧ w.cell? ⟨g, off + i, none⟩ = some (.int .u8 zs[i])

theorem UniAt.grown {R : Nat} {w w' : World} {v : Value} {us : List U} (h : UniAt R w v us) (hg : w.grownBy w' (some R)) : UniAt R w' v us := by
  obtain ⟨a, cap, rfl, hc, hi⟩ := h
  refine ⟨a, cap, rfl, hc, fun i hlt => ?_⟩
  obtain ⟨g, off, rfl, hgl, h0, h1, h3⟩ := hi i hlt
  exact ⟨g, off, rfl, hgl, hg.cell h0 (by simp; omega), hg.cell h1 (by simp; omega), hg.cell h3 (by simp; omega)⟩
theorem TxtAt.grown {R : Nat} {w w' : World} {v : Value} {zs : List Int} (h : TxtAt R w v zs) (hg : w.grownBy w' (some R)) : TxtAt R w' v zs := by
  obtain ⟨a, cap, rfl, hc, hi⟩ := h
  refine ⟨a, cap, rfl, hc, fun i hlt => ?_⟩
  obtain ⟨g, off, rfl, hgl, h0⟩ := hi i hlt
  exact ⟨g, off, rfl, hgl, hg.cell h0 (by simp; omega)⟩

/-- The library's sentinel is an error value. -/
def SynV (w : World) : Prop := ∃ te pe, w.cell? ⟨7, 0, none⟩ = some (.iface te pe)
theorem SynV.lt {w : World} (h : SynV w) : 7 < w.heap.size := by
  obtain ⟨te, pe, h⟩ := h
  rcases Nat.lt_or_ge 7 w.heap.size with q | q
  · exact q
  · simp [World.cell?, Array.getElem?_eq_none q] at h
theorem SynV.grown {w w' : World} {row : Option Nat} (h : SynV w) (hg : w.grownBy w' row) (hr : some 7 ≠ row) : SynV w' := by
  obtain ⟨te, pe, h⟩ := h
  exact ⟨te, pe, hg.cell h hr⟩

/-- The reader at R: its text, and the units that are left. -/
def Rd (w : World) (R : Nat) (tv : Value) (us : List U) : Prop :=
  ∃ uv, w.cell? ⟨R, 0, none⟩ = some tv ∧ w.cell? ⟨R, 1, none⟩ = some uv ∧ w.frozen? ⟨R, 1, none⟩ = false ∧ R < w.heap.size ∧ (SynV w ∧ 7 < R) ∧ UniAt R w uv us

theorem Rd.kept {w w' : World} {R : Nat} {tv : Value} {us : List U} (h : Rd w R tv us) (hg : w.grownBy w' none) : Rd w' R tv us := by
  obtain ⟨uv, h0, h1, hf, hl, hsv, hu⟩ := h
  refine ⟨uv, hg.cell h0 (by simp), hg.cell h1 (by simp), ?_, Nat.lt_of_lt_of_le hl hg.size, ⟨hsv.1.grown hg (by simp), hsv.2⟩, hu.grown (hg.but _)⟩
  rw [← hf]
  exact World.frozen?_of_block (a := ⟨R, 1, none⟩) (hg.block R hl (by simp))
theorem Rd.alloc {w : World} {R : Nat} {tv : Value} {us : List U} (h : Rd w R tv us) (o : Obj) : Rd (w.alloc o) R tv us := h.kept (World.grownBy_alloc w o none)
theorem grownR_below {w w' : World} (h : Below w.heap.size w w') (row : Option Nat) : w.grownBy w' row := ⟨h.os, h.tape, h.output, h.size, fun k hk _ => h.block k hk⟩
theorem grownR_set (w : World) (R i : Nat) (v : Value) : w.grownBy (w.setCell ⟨R, i, none⟩ v) (some R) :=
  ⟨rfl, rfl, rfl, by simp [World.setCell], fun k _ hne => Below.heap_setCell w ⟨R, i, none⟩ v k (by simpa using hne)⟩
theorem grownR_drew {a w : World} {row : Option Nat} (h : a.grownBy w row) : a.grownBy w.drew row := ⟨h.os, h.tape, h.output, h.size, h.block⟩
theorem grownR_drewN {a w : World} {row : Option Nat} (h : a.grownBy w row) : ∀ k, a.grownBy (w.drewN k) row
  | 0 => h
  | k + 1 => grownR_drew (grownR_drewN h k)

/-- The units' slice behind the first one. -/
theorem UniAt.tail {R : Nat} {w : World} {g off cap : Nat} {u : U} {t : List U} (h : UniAt R w (.slice (some ⟨g, off, none⟩) (t.length + 1) cap) (u :: t)) (a' : Option Addr) (ha : t.length ≠ 0 → a' = some ⟨g, off + 4, none⟩) : UniAt R w (.slice a' t.length (cap - 1)) t := by
  obtain ⟨a, c, e, hc, hi⟩ := h
  obtain ⟨rfl, _, rfl⟩ : some ⟨g, off, none⟩ = a ∧ t.length + 1 = (u :: t).length ∧ cap = c := by simpa using e
  refine ⟨a', _, rfl, by simp at hc; omega, fun i hlt => ?_⟩
  obtain ⟨g', off', e2, hg, h0, h1, h3⟩ := hi (i + 1) (by simpa using hlt)
  obtain ⟨rfl, rfl⟩ : g = g' ∧ off = off' := by simpa using e2
  have q : off + 4 + i * 4 = off + (i + 1) * 4 := by omega
  refine ⟨g, off + 4, ha (by omega), hg, ?_, ?_, ?_⟩
  · rw [q]; simpa using h0
  · rw [q]; simpa using h1
  · rw [q]; simpa using h3

theorem UniAt.tail' {R : Nat} {w : World} {g off cap : Nat} {u : U} {t : List U} (h : UniAt R w (.slice (some ⟨g, off, none⟩) (t.length + 1) cap) (u :: t)) (a' : Option Addr) (c' : Nat) (ha : t.length ≠ 0 → a' = some ⟨g, off + 4, none⟩ ∧ c' = cap - 1) : UniAt R w (.slice a' t.length c') t := by
  by_cases q : t.length = 0
  · exact ⟨a', c', rfl, by omega, fun i hi => by omega⟩
  · obtain ⟨e1, e2⟩ := ha q
    rw [e2]
    exact h.tail a' (fun _ => e1)

/-- The reader takes a unit: the world behind it. -/
theorem Rd.took {w : World} {R : Nat} {tv : Value} {u : U} {t : List U} (h : Rd w R tv (u :: t)) (v : Value) (hv : UniAt R w v t) : Rd (w.setCell ⟨R, 1, none⟩ v) R tv t := by
  obtain ⟨uv, h0, h1, hf, hl, hsv, hu⟩ := h
  refine ⟨v, ?_, ?_, ?_, by simpa [World.setCell] using hl, ⟨hsv.1.grown (grownR_set w R 1 v) (by simp; omega), hsv.2⟩, hv.grown (grownR_set w R 1 v)⟩
  · exact (World.cell?_setCell_other w ⟨R, 1, none⟩ ⟨R, 0, none⟩ v (by simp)).trans h0
  · exact World.cell?_setCell_same' w ⟨R, 1, none⟩ v (by rw [h1]; rfl)
  · rw [World.frozen?_setCell]; exact hf
theorem Rd.set {w : World} {B R : Nat} {tv : Value} {us : List U} (h : Rd w R tv us) (hB : R < B) (i : Nat) (v : Value) : Rd (w.setCell ⟨B, i, none⟩ v) R tv us := by
  obtain ⟨uv, h0, h1, hf, hl, hsv, hu⟩ := h
  have hg := grownR_set w B i v
  refine ⟨uv, hg.cell h0 (by simp; omega), hg.cell h1 (by simp; omega), by rw [World.frozen?_setCell]; exact hf, by simpa [World.setCell] using hl, ⟨hsv.1.grown hg (by simp; omega), hsv.2⟩, ?_⟩
  obtain ⟨a, cap, rfl, hc, hi⟩ := hu
  refine ⟨a, cap, rfl, hc, fun j hlt => ?_⟩
  obtain ⟨g, off, rfl, hgl, d0, d1, d3⟩ := hi j hlt
  exact ⟨g, off, rfl, hgl, hg.cell d0 (by simp; omega), hg.cell d1 (by simp; omega), hg.cell d3 (by simp; omega)⟩
theorem TxtAt.set {w : World} {B R : Nat} {tv : Value} {zs : List Int} (h : TxtAt R w tv zs) (hB : R < B) (i : Nat) (v : Value) : TxtAt R (w.setCell ⟨B, i, none⟩ v) tv zs := by
  have hg := grownR_set w B i v
  obtain ⟨a, cap, rfl, hc, hi⟩ := h
  refine ⟨a, cap, rfl, hc, fun j hlt => ?_⟩
  obtain ⟨g, off, rfl, hgl, d0⟩ := hi j hlt
  exact ⟨g, off, rfl, hgl, hg.cell d0 (by simp; omega)⟩
theorem Rd.cons {w : World} {R : Nat} {tv : Value} {u : U} {t : List U} (h : Rd w R tv (u :: t)) : ∃ g off cap, w.cell? ⟨R, 1, none⟩ = some (.slice (some ⟨g, off, none⟩) (t.length + 1) cap) ∧ t.length + 1 ≤ cap ∧ w.frozen? ⟨R, 1, none⟩ = false ∧ R < w.heap.size ∧ g ≠ R ∧ g < w.heap.size ∧
    w.cell? ⟨g, off, none⟩ = some (.int .i64 u.r) ∧ w.cell? ⟨g, off + 1, none⟩ = some (.int .i64 (u.p : Int)) ∧ w.cell? ⟨g, off + 3, none⟩ = some (.bool u.bad) ∧ UniAt R w (.slice (some ⟨g, off, none⟩) (t.length + 1) cap) (u :: t) := by
  obtain ⟨uv, h0, h1, hf, hl, hsv, hu⟩ := h
  have hu' := hu
  obtain ⟨a, cap, rfl, hc, hi⟩ := hu
  obtain ⟨g, off, rfl, hg, d0, d1, d3⟩ := hi 0 (by simp)
  exact ⟨g, off, cap, h1, by simpa using hc, hf, hl, by omega, by omega, by simpa using d0, by simpa using d1, by simpa using d3, hu'⟩
theorem Rd.nil {w : World} {R : Nat} {tv : Value} (h : Rd w R tv []) : ∃ a cap, w.cell? ⟨R, 1, none⟩ = some (.slice a 0 cap) ∧ w.cell? ⟨R, 0, none⟩ = some tv ∧ R < w.heap.size := by
  obtain ⟨uv, h0, h1, hf, hl, hsv, hu⟩ := h
  obtain ⟨a, cap, rfl, hc, hi⟩ := hu
  exact ⟨a, cap, h1, h0, hl⟩
theorem Rd.text {w : World} {R : Nat} {tv : Value} {us : List U} (h : Rd w R tv us) : w.cell? ⟨R, 0, none⟩ = some tv ∧ R < w.heap.size := by
  obtain ⟨uv, h0, h1, hf, hl, hsv, hu⟩ := h
  exact ⟨h0, hl⟩
theorem Rd.syn {w : World} {R : Nat} {tv : Value} {us : List U} (h : Rd w R tv us) : SynV w ∧ 7 < R := by
  obtain ⟨uv, h0, h1, hf, hl, hsv, hu⟩ := h
  exact hsv
/-- How many units are left. -/
def leftN (w : World) (R : Nat) : Nat := match w.cell? ⟨R, 1, none⟩ with
  | some (.slice _ n _) => n
  | _ => 0
theorem Rd.left {w : World} {R : Nat} {tv : Value} {us : List U} (h : Rd w R tv us) : leftN w R = us.length := by
  obtain ⟨uv, h0, h1, hf, hl, hsv, a, cap, rfl, hu⟩ := h
  unfold leftN
  rw [h1]
end Go.Proofs.YtghogepkmdilaaaGreatDoor

namespace Go.Proofs.YtghogepkmdilaaaGreatDoor
open Go.ChangeShapes Go.WideShapes Go.ChangeAt Go.RowKit
set_option linter.unusedVariables false

theorem own7 : ownKnob Tryz.prog.godebug = none := by kernel_rfl
theorem laidOut7 : laidOutB Tryz.prog = true := by kernel_rfl
theorem gSyn : Tryz.prog.globalNamed "strconv.ErrSyntax" = some 7 := by kernel_rfl
theorem gSynType : (Tryz.prog.globals[7]?).map (·.type) = some 77 := by kernel_rfl
theorem cellsErr : Tryz.prog.cellsOf 257 = 1 := by kernel_rfl
theorem cellsStr : Tryz.prog.cellsOf 9 = 1 := by kernel_rfl
theorem starErr : "*" ++ "errors.errorString" = "*errors.errorString" := by decide
theorem rowErr (u : TypeId) (h : Tryz.prog.typeName? 3 u = some "*errors.errorString") : u = 255 :=
  typeName_ptr_named (nm := "errors.errorString") (by rw [starErr]; kernel_rfl) (by kernel_rfl) (by decide) u (by rw [starErr]; exact h)
/-- What the rows' list gives. -/
theorem syn_of {W : World} {r : List (String × DataW Unit)} (h : laidMet Tryz.prog (("strconv.ErrSyntax", Rows.laid_strconv_ErrSyntax) :: r) W) : SynV W := by
  obtain ⟨a, s, hv, _⟩ := laid_sentinel h gSyn gSynType Tryz.underlying77 rowErr Tryz.underlying255 Tryz.underlying257 rfl rfl Tryz.underlying9 cellsErr cellsStr
  exact ⟨_, _, World.var?_cell gSyn hv 0⟩

/-- The variables laid into a world: for the witnesses. -/
def withVars (W : World) : World :=
  { W with heap := ((((((W.heap.modify 5 fun
      | .cells _ t frozen => .cells #[.int .u8 0, .int .u8 1, .int .u8 28, .int .u8 2, .int .u8 29, .int .u8 14, .int .u8 24, .int .u8 3, .int .u8 30, .int .u8 22, .int .u8 20, .int .u8 15, .int .u8 25, .int .u8 17, .int .u8 4, .int .u8 8, .int .u8 31, .int .u8 27, .int .u8 13, .int .u8 23, .int .u8 21, .int .u8 19, .int .u8 16, .int .u8 7, .int .u8 26, .int .u8 12, .int .u8 18, .int .u8 6, .int .u8 11, .int .u8 5, .int .u8 10, .int .u8 9] t frozen
      | o => o).modify 6 fun
      | .cells _ t frozen => .cells #[.int .u8 0, .int .u8 1, .int .u8 56, .int .u8 2, .int .u8 57, .int .u8 49, .int .u8 28, .int .u8 3, .int .u8 61, .int .u8 58, .int .u8 42, .int .u8 50, .int .u8 38, .int .u8 29, .int .u8 17, .int .u8 4, .int .u8 62, .int .u8 47, .int .u8 59, .int .u8 36, .int .u8 45, .int .u8 43, .int .u8 51, .int .u8 22, .int .u8 53, .int .u8 39, .int .u8 33, .int .u8 30, .int .u8 24, .int .u8 18, .int .u8 12, .int .u8 5, .int .u8 63, .int .u8 55, .int .u8 48, .int .u8 27, .int .u8 60, .int .u8 41, .int .u8 37, .int .u8 16, .int .u8 46, .int .u8 35, .int .u8 44, .int .u8 21, .int .u8 52, .int .u8 32, .int .u8 23, .int .u8 11, .int .u8 54, .int .u8 26, .int .u8 40, .int .u8 15, .int .u8 34, .int .u8 20, .int .u8 31, .int .u8 10, .int .u8 25, .int .u8 14, .int .u8 19, .int .u8 9, .int .u8 13, .int .u8 8, .int .u8 7, .int .u8 6] t frozen
      | o => o).modify 1 fun
      | .cells _ t frozen => .cells #[.int .u64 1, .int .u64 10, .int .u64 100, .int .u64 1000, .int .u64 10000, .int .u64 100000, .int .u64 1000000, .int .u64 10000000, .int .u64 100000000, .int .u64 1000000000, .int .u64 10000000000, .int .u64 100000000000, .int .u64 1000000000000, .int .u64 10000000000000, .int .u64 100000000000000, .int .u64 1000000000000000, .int .u64 10000000000000000, .int .u64 100000000000000000, .int .u64 1000000000000000000, .int .u64 10000000000000000000] t frozen
      | o => o).modify 8 fun
      | .cells _ t frozen => .cells #[.iface 255 (.pointer (some ⟨W.heap.size, 0, none⟩))] t frozen
      | o => o).modify 7 fun
      | .cells _ t frozen => .cells #[.iface 255 (.pointer (some ⟨W.heap.size + 1, 0, none⟩))] t frozen
      | o => o).push (.cells #[.string ⟨#[118, 97, 108, 117, 101, 32, 111, 117, 116, 32, 111, 102, 32, 114, 97, 110, 103, 101]⟩] 257)).push (.cells #[.string ⟨#[105, 110, 118, 97, 108, 105, 100, 32, 115, 121, 110, 116, 97, 120]⟩] 257) }
end Go.Proofs.YtghogepkmdilaaaGreatDoor

namespace Go.Proofs.YtghogepkmdilaaaGreatDoor
open Go.ChangeShapes Go.WideShapes Go.ChangeAt Go.RowKit Go.Deep S1
set_option linter.unusedVariables false

/-- WHAT IS KNOWN OF BYTES THAT CAME IN: the slice holds the bytes l. -/
def ArgB (W : World) (v : Value) (l : List Int) : Prop := Byt l ∧ BytesAt W.heap.size W v l ∧ ∃ a cap, v = .slice a l.length cap ∧ (a = none → cap = 0)
theorem addr_add7 (b off j : Nat) : (⟨b, off, none⟩ : Addr).add j = ⟨b, off + j, none⟩ := by unfold Addr.add; split <;> simp_all
theorem cell_lt7 {w : World} {a : Addr} {v : Value} (h : w.cell? a = some v) : a.block < w.heap.size := by
  rcases Nat.lt_or_ge a.block w.heap.size with q | q
  · exact q
  · simp [World.cell?, Array.getElem?_eq_none q] at h
theorem open_bytesS {H : Type} {enc : TypeId × Value → H} {W : World} {a : Option Addr} {len cap : Nat} {d : DataW H} {p : List MemPlace}
    (h : DataW.Trod enc Tryz.prog W 0 (fun _ => true) true 22 (.slice a len cap) d p) : ∃ l : List Int, l.length = len ∧ ArgB W (.slice a len cap) l := by
  obtain ⟨fuel, hf⟩ := h
  rcases open_ints Tryz.underlying22 Tryz.underlying5 (by kernel_rfl) hf with ⟨hcs, _⟩ | ⟨x, l, c, zs, hcs, _, hl, hmx, hz, _, hcell, hwz⟩
  · simp [Value.cells] at hcs
    obtain ⟨rfl, rfl, rfl⟩ := hcs
    exact ⟨[], rfl, (fun c hc => by cases hc), .inl ⟨none, 0, rfl, rfl⟩, none, 0, rfl, fun _ => rfl⟩
  · simp [Value.cells] at hcs
    obtain ⟨rfl, rfl, rfl⟩ := hcs
    have hzl : zs.length = cap := by simpa using hz
    have hlen : (zs.take len).length = len := by rw [List.length_take]; omega
    refine ⟨zs.take len, hlen, fun c hc => ?_, ?_, some x, cap, by rw [hlen], fun h => by cases h⟩
    · have := hwz c (List.mem_of_mem_take hc)
      simpa [Lit.wf, IntKind.min, IntKind.max, IntKind.signed, IntKind.bits] using this
    · by_cases h0 : len = 0
      · left
        exact ⟨some x, cap, by rw [h0], by rw [h0]; rfl⟩
      · right
        obtain ⟨b, off, spot⟩ := x
        have hc0 := hcell 0 (by omega)
        obtain rfl : spot = none := by simpa [Addr.add] using World.cell?_spot hc0
        refine ⟨b, off, cap, by rw [hlen], by rw [hlen]; exact hl, ?_, fun j hj => ?_⟩
        · have := cell_lt7 hc0
          rwa [addr_add7] at this
        · have hci := hcell j (by omega)
          rw [addr_add7] at hci
          rw [hci]
          have hjz : j < zs.length := by omega
          have hjl : j < len := by omega
          simp [hjl]
end Go.Proofs.YtghogepkmdilaaaGreatDoor

namespace Go.Proofs.YtghogepkmdilaaaGreatDoor
open Go.RowKit S1
set_option linter.unusedVariables false

/-- Sets, joined: the one list of the numbers that are asked for. -/
def pickS (g : Bool → Bool → Bool) (a b : List Rg) : List Rg := pickGo (fun x => g (hasR a x) (hasR b x)) (edgesL (a ++ b)) []
def orS (a b : List Rg) : List Rg := pickS (fun x y => x || y) a b
def andS (a b : List Rg) : List Rg := pickS (fun x y => x && y) a b
def lessS (a b : List Rg) : List Rg := pickS (fun x y => x && !y) a b
def notS (a : List Rg) : List Rg := pickS (fun x _ => !x) a []
def mkS (a : List Rg) : List Rg := pickS (fun x _ => x) a []
def allS : List Rg := [⟨0, 1114111⟩]

/-- A token with its entries made a set. -/
def canT (t : Tok) : Tok := ⟨t.k, t.p, t.t, mkS t.s⟩

/-- What a token is. -/
def tkSign (c : Int) (t : Tok) : Bool := t.k == 2 && t.t == [c]
def tkWord (s : List Int) (t : Tok) : Bool := t.k == 1 && t.t == s
def wSet : List Int := [115, 101, 116]
def wBreak : List Int := [98, 114, 101, 97, 107]
def wKeep : List Int := [107, 101, 101, 112]
def tkRule (t : Tok) : Bool := tkWord wBreak t || tkWord wKeep t
def tkName (t : Tok) : Bool := t.k == 1 && !tkWord wSet t && !tkRule t
def tkTells (t : Tok) : Bool := t.k == 3 || tkName t || tkSign 46 t
def tkPart (t : Tok) : Bool := tkTells t || tkSign 40 t

/-- The next token. -/
def hdT : List Tok → Tok
  | [] => ⟨4, 0, [], []⟩
  | t :: _ => t
/-- There is an end, and it is the last one. -/
def EndsT : List Tok → Prop
  | [] => False
  | [t] => t.k = 4
  | t :: u :: l => t.k ≠ 4 ∧ EndsT (u :: l)
theorem EndsT.cons {ts : List Tok} (h : EndsT ts) : ∃ t r, ts = t :: r := by
  match ts, h with
  | t :: r, _ => exact ⟨t, r, rfl⟩
theorem EndsT.tail {t : Tok} {r : List Tok} (h : EndsT (t :: r)) (hk : t.k ≠ 4) : EndsT r := by
  match r, h with
  | [], h => exact absurd h hk
  | u :: l, h => exact h.2
theorem EndsT.pos {ts : List Tok} (h : EndsT ts) : 0 < ts.length := by
  obtain ⟨t, r, rfl⟩ := h.cons
  simp

theorem sign_k {c : Int} {t : Tok} (h : tkSign c t = true) : t.k = 2 ∧ t.t = [c] := by simpa [tkSign] using h
theorem word_k {s : List Int} {t : Tok} (h : tkWord s t = true) : t.k = 1 ∧ t.t = s := by simpa [tkWord] using h
theorem name_k {t : Tok} (h : tkName t = true) : t.k = 1 := by
  simp only [tkName, Bool.and_eq_true, beq_iff_eq] at h; exact h.1.1
theorem sign_end {c : Int} {t : Tok} (h : tkSign c t = true) : t.k ≠ 4 := by rw [(sign_k h).1]; decide
theorem rule_end {t : Tok} (h : tkRule t = true) : t.k ≠ 4 := by
  simp only [tkRule, Bool.or_eq_true] at h
  rcases h with h | h
  · rw [(word_k h).1]; decide
  · rw [(word_k h).1]; decide
theorem word_end {s : List Int} {t : Tok} (h : tkWord s t = true) : t.k ≠ 4 := by rw [(word_k h).1]; decide
theorem name_end {t : Tok} (h : tkName t = true) : t.k ≠ 4 := by rw [name_k h]; decide
theorem tells_end {t : Tok} (h : tkTells t = true) : t.k ≠ 4 := by
  simp only [tkTells, Bool.or_eq_true, beq_iff_eq] at h
  rcases h with (h | h) | h
  · rw [h]; decide
  · exact name_end h
  · exact sign_end h

/-- What names tell. -/
abbrev Nms := List Int → Option (List Rg)

/-- The set that a token tells, or the error. -/
def setM (N : Nms) (t : Tok) : Int ⊕ List Rg :=
  if t.k = 3 then .inr t.s
  else if tkSign 46 t = true then .inr allS
  else if tkName t = true then (match N t.t with
    | some s => .inr s
    | none => .inl 4)
  else .inl 6

/-- A set, or an error at what is left. -/
abbrev QR := (List Tok × Int) ⊕ (List Rg × List Tok)

/-- What joins two terms. -/
def opOf (t : Tok) : Option (List Rg → List Rg → List Rg) :=
  if tkSign 43 t = true then some orS
  else if tkSign 45 t = true then some lessS
  else if tkSign 38 t = true then some andS
  else none

def sumF (f : List Tok → QR) : Nat → List Rg → List Tok → QR
  | 0, acc, ts => .inr (acc, ts)
  | n + 1, acc, ts => match opOf (hdT ts) with
    | none => .inr (acc, ts)
    | some op => match f ts.tail with
      | .inl e => .inl e
      | .inr (s, r) => sumF f n (op acc s) r
def sumG (f : List Tok → QR) (ts : List Tok) : QR := match f ts with
  | .inl e => .inl e
  | .inr (s, r) => sumF f (r.length + 1) s r
/-- A sign must stand behind. -/
def endQ (c : Int) : QR → QR
  | .inl e => .inl e
  | .inr (s, r) => if tkSign c (hdT r) = true then .inr (s, r.tail) else .inl (r, 6)
def notQ : QR → QR
  | .inl e => .inl e
  | .inr (s, r) => .inr (notS s, r)
def termG (N : Nms) (f : Option (List Tok → QR)) (ts : List Tok) : QR :=
  if tkSign 126 (hdT ts) = true then (match f with
    | none => .inl (ts, 3)
    | some f => notQ (f ts.tail))
  else if tkSign 40 (hdT ts) = true then (match f with
    | none => .inl (ts, 3)
    | some f => endQ 41 (sumG f ts.tail))
  else match setM N (hdT ts) with
    | .inl e => .inl (ts, e)
    | .inr s => .inr (s, ts.tail)
def termM (N : Nms) : Nat → List Tok → QR
  | 0, ts => termG N none ts
  | b + 1, ts => termG N (some (termM N b)) ts
def sumM (N : Nms) (b : Nat) (ts : List Tok) : QR := sumG (termM N b) ts

/-- An expression. -/
structure Nd where
  k : Int
  s : Int
  kids : List Nd

/-- The sets of a program. -/
abbrev Sts := List (List Rg)
def sameS : List Rg → List Rg → Bool
  | [], [] => true
  | a :: l, b :: m => a.lo == b.lo && a.hi == b.hi && sameS l m
  | _, _ => false
theorem sameS_iff : ∀ {a b : List Rg}, sameS a b = true ↔ a = b
  | [], [] => by simp [sameS]
  | [], b :: m => by simp [sameS]
  | a :: l, [] => by simp [sameS]
  | a :: l, b :: m => by
    simp only [sameS, Bool.and_eq_true, beq_iff_eq, sameS_iff (a := l) (b := m), List.cons.injEq]
    constructor
    · rintro ⟨⟨h1, h2⟩, h3⟩
      refine ⟨?_, h3⟩
      cases a; cases b; simp_all
    · rintro ⟨rfl, rfl⟩; exact ⟨⟨rfl, rfl⟩, rfl⟩
def idxS (s : List Rg) : Sts → Option Nat
  | [] => none
  | x :: l => if sameS x s = true then some 0 else (idxS s l).map (· + 1)
/-- The place of a set among those of the program; a new one stands behind all. -/
def placeM (st : Sts) (s : List Rg) : Option (Nat × Sts) := match idxS s st with
  | some i => some (i, st)
  | none => if st.length = 60 then none else some (st.length, st ++ [s])

/-- An expression, or an error at what is left. -/
abbrev NR (α : Type) := (List Tok × Int) ⊕ (α × List Tok × Sts)
def endN (c : Int) : NR Nd → NR Nd
  | .inl e => .inl e
  | .inr (n, r, st) => if tkSign c (hdT r) = true then .inr (n, r.tail, st) else .inl (r, 6)
def partM (N : Nms) (f : Option (List Tok → Sts → NR Nd)) (ts : List Tok) (st : Sts) : NR Nd :=
  if tkSign 40 (hdT ts) = true then (match f with
    | none => .inl (ts, 3)
    | some f => endN 41 (f ts.tail st))
  else match setM N (hdT ts) with
    | .inl e => .inl (ts, e)
    | .inr s => match placeM st s with
      | none => .inl (ts, 3)
      | some (i, st') => .inr (⟨1, i, []⟩, ts.tail, st')
/-- The kind of expression that a token makes of the part ahead of it. -/
def kindT (t : Tok) : Int := if tkSign 42 t = true then 3 else if tkSign 43 t = true then 4 else if tkSign 63 t = true then 5 else 0
def signK (k : Int) : Bool := k == 3 || k == 4 || k == 5
/-- With how many signs an expression ends. -/
def cntN : Nat → Nd → Nat
  | 0, _ => 0
  | f + 1, n => if signK n.k = true then (match n.kids with
    | [] => 1
    | x :: _ => cntN f x + 1) else 0
def signF : Nat → Nat → Nd → List Tok → Sts → NR Nd
  | 0, _, n, ts, st => .inr (n, ts, st)
  | f + 1, c, n, ts, st => if kindT (hdT ts) = 0 then .inr (n, ts, st)
    else if c = 3 then .inl (ts, 3)
    else signF f (c + 1) ⟨kindT (hdT ts), 0, [n]⟩ ts.tail st
def signedM (p : List Tok → Sts → NR Nd) (ts : List Tok) (st : Sts) : NR Nd := match p ts st with
  | .inl e => .inl e
  | .inr (n, r, st') => signF 4 (cntN 4 n) n r st'
def catF (p : List Tok → Sts → NR Nd) : Nat → List Nd → List Tok → Sts → NR (List Nd)
  | 0, acc, ts, st => .inr (acc, ts, st)
  | f + 1, acc, ts, st => if tkPart (hdT ts) = true then (match p ts st with
      | .inl e => .inl e
      | .inr (n, r, st') => catF p f (acc ++ [n]) r st')
    else .inr (acc, ts, st)
/-- One part is that itself. -/
def joinN (k : Int) (l : List Nd) : Nd := match l with
  | [x] => x
  | l => ⟨k, 0, l⟩
def catM (p : List Tok → Sts → NR Nd) (ts : List Tok) (st : Sts) : NR Nd := match catF p (ts.length + 1) [] ts st with
  | .inl e => .inl e
  | .inr (l, r, st') => .inr (joinN 0 l, r, st')
def altF (p : List Tok → Sts → NR Nd) : Nat → List Nd → List Tok → Sts → NR (List Nd)
  | 0, acc, ts, st => .inr (acc, ts, st)
  | f + 1, acc, ts, st => if tkSign 124 (hdT ts) = true then (match p ts.tail st with
      | .inl e => .inl e
      | .inr (n, r, st') => altF p f (acc ++ [n]) r st')
    else .inr (acc, ts, st)
def regexG (p : List Tok → Sts → NR Nd) (ts : List Tok) (st : Sts) : NR Nd := match p ts st with
  | .inl e => .inl e
  | .inr (n, r, st') => match altF p (r.length + 1) [n] r st' with
    | .inl e => .inl e
    | .inr (l, r2, st2) => .inr (joinN 2 l, r2, st2)
def regexM (N : Nms) : Nat → List Tok → Sts → NR Nd
  | 0, ts, st => regexG (catM (signedM (partM N none))) ts st
  | b + 1, ts, st => regexG (catM (signedM (partM N (some (regexM N b))))) ts st
/-- What stands in brackets at such a depth. -/
def inner (N : Nms) : Nat → Option (List Tok → Sts → NR Nd)
  | 0 => none
  | b + 1 => some (regexM N b)
theorem regexM_eq (N : Nms) (b : Nat) (ts : List Tok) (st : Sts) : regexM N b ts st = regexG (catM (signedM (partM N (inner N b)))) ts st := by
  cases b <;> rfl
def innerT (N : Nms) : Nat → Option (List Tok → QR)
  | 0 => none
  | b + 1 => some (termM N b)
theorem termM_eq (N : Nms) (b : Nat) (ts : List Tok) : termM N b ts = termG N (innerT N b) ts := by
  cases b <;> rfl

/-- A rule. -/
structure Rl where
  b : Bool
  l : Nd
  r : Nd
def ruleM (N : Nms) (ts : List Tok) (st : Sts) : NR Rl := match endN 47 (regexM N 20 ts.tail st) with
  | .inl e => .inl e
  | .inr (l, r, st1) => match endN 59 (regexM N 20 r st1) with
    | .inl e => .inl e
    | .inr (n, r2, st2) => .inr (⟨tkWord wBreak (hdT ts), l, n⟩, r2, st2)
def giveN (N : Nms) (x : List Int) (s : List Rg) : Nms := fun y => if y = x then some s else N y
/-- A name is given a set, behind the word for that. -/
def nameM (N : Nms) (ts : List Tok) : (List Tok × Int) ⊕ (Nms × List Tok) :=
  if tkName (hdT ts) = false then .inl (ts, 6)
  else match N (hdT ts).t with
    | some _ => .inl (ts, 5)
    | none => if tkSign 61 (hdT ts.tail) = false then .inl (ts.tail, 6)
      else match endQ 59 (sumM N 20 ts.tail.tail) with
        | .inl e => .inl e
        | .inr (s, r) => .inr (giveN N (hdT ts).t s, r)
/-- All of a text. -/
def textF : Nat → Nms → List Rl → List Tok → Sts → (List Tok × Int) ⊕ (List Rl × Sts)
  | 0, _, rs, _, st => .inr (rs, st)
  | f + 1, N, rs, ts, st =>
    if (hdT ts).k = 4 then .inr (rs, st)
    else if tkWord wSet (hdT ts) = true then (match nameM N ts.tail with
      | .inl e => .inl e
      | .inr (N', r) => textF f N' rs r st)
    else if tkRule (hdT ts) = false then .inl (ts, 6)
    else if rs.length = 64 then .inl (ts, 3)
    else match ruleM N ts st with
      | .inl e => .inl e
      | .inr (x, r, st') => textF f N (rs ++ [x]) r st'
/-- The program of tokens: an error and its place, or the rules and sets. -/
def parseL : TR → (Nat × Int) ⊕ (List Rl × Sts)
  | .inl e => .inl e
  | .inr l => match textF (l.length + 1) (fun _ => none) [] (l.map canT) [] with
    | .inl (r, e) => .inl ((hdT r).p, e)
    | .inr x => .inr x
end Go.Proofs.YtghogepkmdilaaaGreatDoor
