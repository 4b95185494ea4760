/-
  The reader in memory: its text, and the units that it has not taken yet.
-/
import Derived.Test.YtdjhgjnhfmggjabGreatDoorLxMath
import Derived.Test.YtdjhgjnhfmggjabGreatDoorMem
import Derived.Test.YtdjhgjnhfmggjabGreatDoorS1Decode
import Derived.Maps.RangeWalk
namespace Go.Proofs.YtdjhgjnhfmggjabGreatDoor
open Go.RowKit S1
set_option linter.unusedVariables false

/-- The slice value v holds the units us, in a block below R. -/
def UniAt (R : Nat) (w : World) (v : Value) (us : List U) : Prop :=
  ∃ a cap, v = .slice a us.length cap ∧ us.length ≤ cap ∧ ∀ i, (h : i < us.length) → ∃ g off, a = some ⟨g, off, none⟩ ∧ g < R ∧
    w.cell? ⟨g, off + i * 4, none⟩ = some (.int .i64 us[i].r) ∧ w.cell? ⟨g, off + i * 4 + 1, none⟩ = some (.int .i64 (us[i].p : Int)) ∧ w.cell? ⟨g, off + i * 4 + 3, none⟩ = some (.bool us[i].bad)
/-- The slice value v holds the bytes zs, in a block below R. -/
def TxtAt (R : Nat) (w : World) (v : Value) (zs : List Int) : Prop :=
  ∃ a cap, v = .slice a zs.length cap ∧ zs.length ≤ cap ∧ ∀ i, (h : i < zs.length) → ∃ g off, a = some ⟨g, off, none⟩ ∧ g < R ∧ w.cell? ⟨g, off + i, none⟩ = some (.int .u8 zs[i])

theorem UniAt.grown {R : Nat} {w w' : World} {v : Value} {us : List U} (h : UniAt R w v us) (hg : w.grownBy w' (some R)) : UniAt R w' v us := by
  obtain ⟨a, cap, rfl, hc, hi⟩ := h
  refine ⟨a, cap, rfl, hc, fun i hlt => ?_⟩
  obtain ⟨g, off, rfl, hgl, h0, h1, h3⟩ := hi i hlt
  exact ⟨g, off, rfl, hgl, hg.cell h0 (by simp; omega), hg.cell h1 (by simp; omega), hg.cell h3 (by simp; omega)⟩
theorem TxtAt.grown {R : Nat} {w w' : World} {v : Value} {zs : List Int} (h : TxtAt R w v zs) (hg : w.grownBy w' (some R)) : TxtAt R w' v zs := by
  obtain ⟨a, cap, rfl, hc, hi⟩ := h
  refine ⟨a, cap, rfl, hc, fun i hlt => ?_⟩
  obtain ⟨g, off, rfl, hgl, h0⟩ := hi i hlt
  exact ⟨g, off, rfl, hgl, hg.cell h0 (by simp; omega)⟩

/-- The library's sentinel is an error value. -/
def SynV (w : World) : Prop := ∃ te pe, w.cell? ⟨7, 0, none⟩ = some (.iface te pe)
theorem SynV.lt {w : World} (h : SynV w) : 7 < w.heap.size := by
  obtain ⟨te, pe, h⟩ := h
  rcases Nat.lt_or_ge 7 w.heap.size with q | q
  · exact q
  · simp [World.cell?, Array.getElem?_eq_none q] at h
theorem SynV.grown {w w' : World} {row : Option Nat} (h : SynV w) (hg : w.grownBy w' row) (hr : some 7 ≠ row) : SynV w' := by
  obtain ⟨te, pe, h⟩ := h
  exact ⟨te, pe, hg.cell h hr⟩

/-- The reader at R: its text, and the units that are left. -/
def Rd (w : World) (R : Nat) (tv : Value) (us : List U) : Prop :=
  ∃ uv, w.cell? ⟨R, 0, none⟩ = some tv ∧ w.cell? ⟨R, 1, none⟩ = some uv ∧ w.frozen? ⟨R, 1, none⟩ = false ∧ R < w.heap.size ∧ (SynV w ∧ 7 < R) ∧ UniAt R w uv us

theorem Rd.kept {w w' : World} {R : Nat} {tv : Value} {us : List U} (h : Rd w R tv us) (hg : w.grownBy w' none) : Rd w' R tv us := by
  obtain ⟨uv, h0, h1, hf, hl, hsv, hu⟩ := h
  refine ⟨uv, hg.cell h0 (by simp), hg.cell h1 (by simp), ?_, Nat.lt_of_lt_of_le hl hg.size, ⟨hsv.1.grown hg (by simp), hsv.2⟩, hu.grown (hg.but _)⟩
  rw [← hf]
  exact World.frozen?_of_block (a := ⟨R, 1, none⟩) (hg.block R hl (by simp))
theorem Rd.alloc {w : World} {R : Nat} {tv : Value} {us : List U} (h : Rd w R tv us) (o : Obj) : Rd (w.alloc o) R tv us := h.kept (World.grownBy_alloc w o none)
theorem grownR_below {w w' : World} (h : Below w.heap.size w w') (row : Option Nat) : w.grownBy w' row := ⟨h.os, h.tape, h.output, h.size, fun k hk _ => h.block k hk⟩
theorem grownR_set (w : World) (R i : Nat) (v : Value) : w.grownBy (w.setCell ⟨R, i, none⟩ v) (some R) :=
  ⟨rfl, rfl, rfl, by simp [World.setCell], fun k _ hne => Below.heap_setCell w ⟨R, i, none⟩ v k (by simpa using hne)⟩
theorem grownR_drew {a w : World} {row : Option Nat} (h : a.grownBy w row) : a.grownBy w.drew row := ⟨h.os, h.tape, h.output, h.size, h.block⟩
theorem grownR_drewN {a w : World} {row : Option Nat} (h : a.grownBy w row) : ∀ k, a.grownBy (w.drewN k) row
  | 0 => h
  | k + 1 => grownR_drew (grownR_drewN h k)

/-- The units' slice behind the first one. -/
theorem UniAt.tail {R : Nat} {w : World} {g off cap : Nat} {u : U} {t : List U} (h : UniAt R w (.slice (some ⟨g, off, none⟩) (t.length + 1) cap) (u :: t)) (a' : Option Addr) (ha : t.length ≠ 0 → a' = some ⟨g, off + 4, none⟩) : UniAt R w (.slice a' t.length (cap - 1)) t := by
  obtain ⟨a, c, e, hc, hi⟩ := h
  obtain ⟨rfl, _, rfl⟩ : some ⟨g, off, none⟩ = a ∧ t.length + 1 = (u :: t).length ∧ cap = c := by simpa using e
  refine ⟨a', _, rfl, by simp at hc; omega, fun i hlt => ?_⟩
  obtain ⟨g', off', e2, hg, h0, h1, h3⟩ := hi (i + 1) (by simpa using hlt)
  obtain ⟨rfl, rfl⟩ : g = g' ∧ off = off' := by simpa using e2
  have q : off + 4 + i * 4 = off + (i + 1) * 4 := by omega
  refine ⟨g, off + 4, ha (by omega), hg, ?_, ?_, ?_⟩
  · rw [q]; simpa using h0
  · rw [q]; simpa using h1
  · rw [q]; simpa using h3

theorem UniAt.tail' {R : Nat} {w : World} {g off cap : Nat} {u : U} {t : List U} (h : UniAt R w (.slice (some ⟨g, off, none⟩) (t.length + 1) cap) (u :: t)) (a' : Option Addr) (c' : Nat) (ha : t.length ≠ 0 → a' = some ⟨g, off + 4, none⟩ ∧ c' = cap - 1) : UniAt R w (.slice a' t.length c') t := by
  by_cases q : t.length = 0
  · exact ⟨a', c', rfl, by omega, fun i hi => by omega⟩
  · obtain ⟨e1, e2⟩ := ha q
    rw [e2]
    exact h.tail a' (fun _ => e1)

/-- The reader takes a unit: the world behind it. -/
theorem Rd.took {w : World} {R : Nat} {tv : Value} {u : U} {t : List U} (h : Rd w R tv (u :: t)) (v : Value) (hv : UniAt R w v t) : Rd (w.setCell ⟨R, 1, none⟩ v) R tv t := by
  obtain ⟨uv, h0, h1, hf, hl, hsv, hu⟩ := h
  refine ⟨v, ?_, ?_, ?_, by simpa [World.setCell] using hl, ⟨hsv.1.grown (grownR_set w R 1 v) (by simp; omega), hsv.2⟩, hv.grown (grownR_set w R 1 v)⟩
  · exact (World.cell?_setCell_other w ⟨R, 1, none⟩ ⟨R, 0, none⟩ v (by simp)).trans h0
  · exact World.cell?_setCell_same' w ⟨R, 1, none⟩ v (by rw [h1]; rfl)
  · rw [World.frozen?_setCell]; exact hf
theorem Rd.set {w : World} {B R : Nat} {tv : Value} {us : List U} (h : Rd w R tv us) (hB : R < B) (i : Nat) (v : Value) : Rd (w.setCell ⟨B, i, none⟩ v) R tv us := by
  obtain ⟨uv, h0, h1, hf, hl, hsv, hu⟩ := h
  have hg := grownR_set w B i v
  refine ⟨uv, hg.cell h0 (by simp; omega), hg.cell h1 (by simp; omega), by rw [World.frozen?_setCell]; exact hf, by simpa [World.setCell] using hl, ⟨hsv.1.grown hg (by simp; omega), hsv.2⟩, ?_⟩
  obtain ⟨a, cap, rfl, hc, hi⟩ := hu
  refine ⟨a, cap, rfl, hc, fun j hlt => ?_⟩
  obtain ⟨g, off, rfl, hgl, d0, d1, d3⟩ := hi j hlt
  exact ⟨g, off, rfl, hgl, hg.cell d0 (by simp; omega), hg.cell d1 (by simp; omega), hg.cell d3 (by simp; omega)⟩
theorem TxtAt.set {w : World} {B R : Nat} {tv : Value} {zs : List Int} (h : TxtAt R w tv zs) (hB : R < B) (i : Nat) (v : Value) : TxtAt R (w.setCell ⟨B, i, none⟩ v) tv zs := by
  have hg := grownR_set w B i v
  obtain ⟨a, cap, rfl, hc, hi⟩ := h
  refine ⟨a, cap, rfl, hc, fun j hlt => ?_⟩
  obtain ⟨g, off, rfl, hgl, d0⟩ := hi j hlt
  exact ⟨g, off, rfl, hgl, hg.cell d0 (by simp; omega)⟩
theorem Rd.cons {w : World} {R : Nat} {tv : Value} {u : U} {t : List U} (h : Rd w R tv (u :: t)) : ∃ g off cap, w.cell? ⟨R, 1, none⟩ = some (.slice (some ⟨g, off, none⟩) (t.length + 1) cap) ∧ t.length + 1 ≤ cap ∧ w.frozen? ⟨R, 1, none⟩ = false ∧ R < w.heap.size ∧ g ≠ R ∧ g < w.heap.size ∧
    w.cell? ⟨g, off, none⟩ = some (.int .i64 u.r) ∧ w.cell? ⟨g, off + 1, none⟩ = some (.int .i64 (u.p : Int)) ∧ w.cell? ⟨g, off + 3, none⟩ = some (.bool u.bad) ∧ UniAt R w (.slice (some ⟨g, off, none⟩) (t.length + 1) cap) (u :: t) := by
  obtain ⟨uv, h0, h1, hf, hl, hsv, hu⟩ := h
  have hu' := hu
  obtain ⟨a, cap, rfl, hc, hi⟩ := hu
  obtain ⟨g, off, rfl, hg, d0, d1, d3⟩ := hi 0 (by simp)
  exact ⟨g, off, cap, h1, by simpa using hc, hf, hl, by omega, by omega, by simpa using d0, by simpa using d1, by simpa using d3, hu'⟩
theorem Rd.nil {w : World} {R : Nat} {tv : Value} (h : Rd w R tv []) : ∃ a cap, w.cell? ⟨R, 1, none⟩ = some (.slice a 0 cap) ∧ w.cell? ⟨R, 0, none⟩ = some tv ∧ R < w.heap.size := by
  obtain ⟨uv, h0, h1, hf, hl, hsv, hu⟩ := h
  obtain ⟨a, cap, rfl, hc, hi⟩ := hu
  exact ⟨a, cap, h1, h0, hl⟩
theorem Rd.text {w : World} {R : Nat} {tv : Value} {us : List U} (h : Rd w R tv us) : w.cell? ⟨R, 0, none⟩ = some tv ∧ R < w.heap.size := by
  obtain ⟨uv, h0, h1, hf, hl, hsv, hu⟩ := h
  exact ⟨h0, hl⟩
theorem Rd.syn {w : World} {R : Nat} {tv : Value} {us : List U} (h : Rd w R tv us) : SynV w ∧ 7 < R := by
  obtain ⟨uv, h0, h1, hf, hl, hsv, hu⟩ := h
  exact hsv
/-- How many units are left. -/
def leftN (w : World) (R : Nat) : Nat := match w.cell? ⟨R, 1, none⟩ with
  | some (.slice _ n _) => n
  | _ => 0
theorem Rd.left {w : World} {R : Nat} {tv : Value} {us : List U} (h : Rd w R tv us) : leftN w R = us.length := by
  obtain ⟨uv, h0, h1, hf, hl, hsv, a, cap, rfl, hu⟩ := h
  unfold leftN
  rw [h1]
end Go.Proofs.YtdjhgjnhfmggjabGreatDoor
