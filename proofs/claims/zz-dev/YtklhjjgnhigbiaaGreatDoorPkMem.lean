/-
  Bytes in memory.
-/
import Derived.Test.YtklhjjgnhigbiaaGreatDoorLsMem
import Derived.Test.YtklhjjgnhigbiaaGreatDoorPkMath
import Derived.Laws.BytesArg
namespace Go.Proofs.YtklhjjgnhigbiaaGreatDoor
open Go.RowKit Go.Shelf
set_option linter.unusedVariables false

theorem Tryz.infoU14 : (Tryz.prog.info? 5).map (fun i => (i.zero, i.size, i.bytes)) = some (some (.int .u8 0), 1, 1) := by kernel_rfl
def cellY (l : List Nat) : List Value := l.map fun (c : Nat) => Value.int .u8 (c : Int)
theorem cellY_app (a b : List Nat) : cellY (a ++ b) = cellY a ++ cellY b := by simp [cellY]
theorem cellY_snoc (l : List Nat) (x : Nat) : cellY (l ++ [x]) = cellY l ++ [.int .u8 (x : Int)] := by simp [cellY]
theorem cellY_len (l : List Nat) : (cellY l).length = l.length := by simp [cellY]
theorem cellY_one (l : List Nat) : ∀ u ∈ cellY l, u.oneCell' = true := fun u hu => by
  unfold cellY at hu
  obtain ⟨x, _, rfl⟩ := List.mem_map.1 hu
  rfl
/-- The slice value v holds the bytes l. -/
def BytAt (w : World) (v : Value) (l : List Nat) : Prop :=
  ∃ a cap, v = .slice a l.length cap ∧ l.length ≤ cap ∧ (a = none → cap = 0) ∧ ∀ i, (h : i < l.length) → ∃ g off, a = some ⟨g, off, none⟩ ∧ g < w.heap.size ∧ w.cell? ⟨g, off + i, none⟩ = some (.int .u8 ((l[i] : Nat) : Int))
section
variable {w w' : World} {v : Value} {l : List Nat}
theorem BytAt.below (h : BytAt w v l) (hb : Below w.heap.size w w') : BytAt w' v l := by
  obtain ⟨a, cap, rfl, hc, hn, hi⟩ := h
  refine ⟨a, cap, rfl, hc, hn, fun i hlt => ?_⟩
  obtain ⟨g, off, rfl, hg, h0⟩ := hi i hlt
  exact ⟨g, off, rfl, Nat.lt_of_lt_of_le hg hb.size, (hb.cell (p := ⟨g, _, none⟩) hg).trans h0⟩
theorem BytAt.nil (w : World) : BytAt w (.slice none 0 0) [] := ⟨none, 0, rfl, Nat.le_refl _, fun _ => rfl, fun i h => (by cases h)⟩
theorem BytAt.slice (h : BytAt w v l) : ∃ a cap, v = .slice a l.length cap ∧ l.length ≤ cap := by
  obtain ⟨a, cap, rfl, hc, _⟩ := h
  exact ⟨a, cap, rfl, hc⟩
theorem BytAt.at {a : Option Addr} {n cap : Nat} (h : BytAt w (.slice a n cap) l) {i : Nat} (hi : i < l.length) : ∃ g off, a = some ⟨g, off, none⟩ ∧ g < w.heap.size ∧ w.cell? ⟨g, off + i, none⟩ = some (.int .u8 ((l[i] : Nat) : Int)) := by
  obtain ⟨a', cap', e, _, _, hx⟩ := h
  injection e with e1 e2 e3
  subst e1
  exact hx i hi
theorem BytAt.len {a : Option Addr} {n cap : Nat} (h : BytAt w (.slice a n cap) l) : n = l.length ∧ n ≤ cap ∧ (a = none → cap = 0) := by
  obtain ⟨a', cap', e, hc, hn, _⟩ := h
  injection e with e1 e2 e3
  subst e1 e2 e3
  exact ⟨rfl, hc, hn⟩
/-- What stands behind the first k. -/
theorem BytAt.drop {g off n cap : Nat} (h : BytAt w (.slice (some ⟨g, off, none⟩) n cap) l) {k : Nat} (hk : k ≤ l.length) : BytAt w (.slice (if cap = k then some ⟨g, off, none⟩ else some ⟨g, off + k, none⟩) (n - k) (cap - k)) (l.drop k) := by
  obtain ⟨a', cap', e, hc, hn, hx⟩ := h
  injection e with e1 e2 e3
  subst e2 e3
  by_cases hck : cap = k
  · rw [if_pos hck]
    refine ⟨some ⟨g, off, none⟩, cap - k, by simp, by simp; omega, fun e => (by cases e), fun i hi => ?_⟩
    simp at hi
    omega
  rw [if_neg hck]
  refine ⟨some ⟨g, off + k, none⟩, cap - k, by simp, by simp; omega, fun e => (by cases e), fun i hi => ?_⟩
  have hi2 : k + i < l.length := by simp at hi; omega
  obtain ⟨g', off', e4, h1, h2⟩ := hx (k + i) hi2
  rw [← e1] at e4
  injection e4 with e4
  injection e4 with e5 e6 _
  subst e5 e6
  refine ⟨g, off + k, rfl, h1, ?_⟩
  rw [show off + k + i = off + (k + i) by omega, h2, List.getElem_drop]
theorem byt_of_row {base : Nat} (h : w.ownsRow base 5 1 v l.length (cellY l)) : BytAt w v l := by
  rcases h.2 with ⟨rfl, h0⟩ | ⟨g, cap, cur, rfl, hb, hg, hc, hm, hs, ht⟩
  · obtain rfl : l = [] := List.length_eq_zero_iff.1 h0
    exact BytAt.nil _
  · refine ⟨_, cap, rfl, hc, fun e => (by cases e), fun i hi => ⟨g, 0, rfl, lt_of_heap hg, ?_⟩⟩
    have := h.cells (g := g) rfl i (.int .u8 ((l[i] : Nat) : Int)) (by simp [cellY, hi])
    rw [add_lit'] at this
    exact this
theorem BytAt.src (h : BytAt w v l) : SrcIs w v l.length 1 (cellY l) := by
  obtain ⟨a, cap, rfl, hc, hn, hi⟩ := h
  cases a with
  | none =>
    have h0 : l = [] := by
      have := hn rfl
      exact List.length_eq_zero_iff.1 (by omega)
    subst h0
    exact .inl ⟨by rw [hn rfl]; rfl, rfl, rfl⟩
  | some ad =>
    refine .inr ⟨ad, cap, rfl, by simp [cellY], fun j u hj => ?_, cellY_one l⟩
    have hlt : j < l.length := by
      have := (List.getElem?_eq_some_iff.1 hj).1
      simpa [cellY] using this
    obtain ⟨g', off', e, _, hcell⟩ := hi j hlt
    cases e
    rw [addr_add, hcell]
    have : (cellY l)[j]? = some (.int .u8 ((l[j] : Nat) : Int)) := by simp [cellY, hlt]
    rw [this] at hj
    exact hj
/-- The text of bytes. -/
def strY (l : List Nat) : List Int := l.map fun c : Nat => (c : Int)
theorem BytAt.conv (h : BytAt w v l) : (convert 42 9 v).run Tryz.prog w = .ok (.string (strOfNums (strY l))) w := by
  obtain ⟨a, cap, rfl, hc, hn, hi⟩ := h
  have hl : (strY l).length = l.length := by simp [strY]
  by_cases h0 : l.length = 0
  · obtain rfl : l = [] := List.length_eq_zero_iff.1 h0
    cases a with
    | none =>
      rw [run_convert_bytes_nil w 42 5 Tryz.underlying42 Tryz.underlying5 _ _ 9 Tryz.underlying9]
      rfl
    | some ad =>
      have hl : (loadCells ad 0).run Tryz.prog w = .ok (([] : List Int).map (Value.int .u8)).toArray w := by
        simpa using run_loadCells_list (P := Tryz.prog) w ad [] (fun j v hj => by simp at hj)
      show (convert 42 9 (.slice (some ad) 0 cap)).run Tryz.prog w = _
      rw [run_convert_bytes_string w 42 9 5 _ 0 cap Tryz.underlying42 Tryz.underlying5 Tryz.underlying9, run_bytesToString w _ 0 cap [] hl, foldl_push_bytes]
      simp [strOfNums, strY, ByteArray.empty, ByteArray.emptyWithCapacity]
      rfl
  · obtain ⟨g, off, rfl, _, _⟩ := hi 0 (by omega)
    have := run_convert_bytes_arg w 42 5 Tryz.underlying42 Tryz.underlying5 g off l.length cap (strY l) hl (fun i hlt => ?_) 9 Tryz.underlying9
    · exact this
    · obtain ⟨g', off', e, _, hcc⟩ := hi i hlt
      obtain ⟨rfl, rfl⟩ : g = g' ∧ off = off' := by simpa using e
      rw [hcc]
      simp [strY, hlt]
end
end Go.Proofs.YtklhjjgnhigbiaaGreatDoor
