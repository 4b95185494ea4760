/-
  An expression's parts in the other order, in place.
-/
import Derived.Test.YtlllmoelhholfaaMtClone
import Derived.Shelf.SlSortFuncK.RowK2
namespace Go.Proofs.Ytlllmoelhholfaa
open Go.RowKit Go.Shelf Go.Sort
set_option linter.unusedVariables false

/-- A part's cells, in plain words. -/
abbrev Cl := Int × Int × Option Addr × Nat × Nat
def encC (x : Cl) : List Value := [.int .i64 x.1, .int .i64 x.2.1, .slice x.2.2.1 x.2.2.2.1 x.2.2.2.2]
theorem encC_of {Q : Nat → Prop} {w : World} : ∀ {lz : List (Nd × Value)}, KidsX Q w lz → ∃ d : List Cl, d.map encC = lz.map cellsN
  | [], _ => ⟨[], rfl⟩
  | x :: lz, h => by
    obtain ⟨d, hd⟩ := encC_of (lz := lz) (fun y hy => h y (by simp [hy]))
    obtain ⟨a, c, e, _⟩ := (h x (by simp)).slice
    refine ⟨(x.1.k, x.1.s, a, x.1.kids.length, c) :: d, ?_⟩
    rw [List.map_cons, List.map_cons, hd]
    congr 1
    show [_, _, _] = [_, _, _]
    rw [e]
theorem rev_any (w : World) (base : Nat) (v : Value) (lz : List (Nd × Value)) (Q : Nat → Prop) (hb : base ≤ w.heap.size) (hl : lz.length ≤ 1000) (h : w.ownsRow base 24 3 v lz.length (cellsNs lz)) (hk : KidsX (fun k => Q k ∧ v.ownBlock ≠ some k) w lz) (hq : ∀ g, v.ownBlock = some g → Q g) :
    Calls Try.prog 36 #[v] w fun e w' => e = .returned (.tuple #[]) ∧ KdX Q w' v (lz.map Prod.fst).reverse ∧ (∀ k, v.ownBlock ≠ some k → w'.heap[k]? = w.heap[k]?) ∧ w'.heap.size = w.heap.size ∧ Below base w w' := by
  obtain ⟨d, hd⟩ := encC_of hk
  have hdl : d.length = lz.length := by have := congrArg List.length hd; simpa using this
  rcases h.2 with ⟨rfl, h0⟩ | ⟨g, cap, cur, rfl, hbg, hg, hc, hm, hs, ht⟩
  · have h0' : lz = [] := List.length_eq_zero_iff.1 h0
    subst h0'
    refine Calls.mono (@AnyQ.slices_Reverse_empty _ _ revN none 0 w) ?_
    rintro e w' ⟨rfl, rfl⟩
    exact ⟨rfl, KdX.nil _ _, fun k _ => rfl, rfl, Below.refl _ _⟩
  · have hcell : ∀ i c, i < d.length → c < 3 → w.cell? ⟨g, 0 + (i * 3 + c), none⟩ = some (encC d[i]!)[c]! := fun i c hi hc3 => by
      have hi' : i < lz.length := by omega
      have e1 : encC d[i]! = cellsN lz[i] := by
        have := congrArg (fun l => l[i]?) hd
        simp only [List.getElem?_map, List.getElem?_eq_getElem hi, List.getElem?_eq_getElem hi', Option.map_some, Option.some.injEq] at this
        rw [← this]
        simp [hi]
      have h3 : c < (cellsN lz[i]).length := by simpa [cellsN] using hc3
      have := h.cells (g := g) rfl (i * 3 + c) (cellsN lz[i])[c] (by rw [cellsNs_at lz i c hi' hc3, List.getElem?_eq_getElem h3])
      rw [add_lit'] at this
      rw [this, e1]
      simp [h3]
    have hH : HoldsK encC 3 w g 0 d.toArray := fun j hj => by
      rw [size_flatK] at hj
      have hj' : j < d.length * 3 := by simpa using hj
      obtain ⟨i, c, hc3, rfl⟩ : ∃ i c, c < 3 ∧ j = i * 3 + c := ⟨j / 3, j % 3, Nat.mod_lt _ (by omega), by omega⟩
      have e1 : (i * 3 + c) / 3 = i := by omega
      have e2 : (i * 3 + c) % 3 = c := by omega
      rw [get_flatK _ _ _ _ hj, e1, e2]
      refine ⟨?_, by simp [World.frozen?, hg]⟩
      have := hcell i c (by omega) hc3
      simpa using this
    have hcall := AnyQ.slices_Reverse revN 3 Try.isAgg24 Try.sizeOf24 encC (fun _ => rfl) (fun x v hv => by simp [encC] at hv; rcases hv with rfl | rfl | rfl <;> rfl) g 0 cap d.toArray w hH (by simp; omega)
    have hcall' : Calls Try.prog 36 #[.slice (some ⟨g, 0, none⟩) lz.length cap] w fun e w' => e = .returned (.tuple #[]) ∧ ∃ n, w' = putRowK encC 3 (Sort.ahead w n) g 0 d.toArray.reverse := by
      rw [← hdl]; exact hcall
    refine Calls.mono hcall' ?_
    rintro e w' ⟨rfl, n, hw'⟩
    have hsz : w'.heap.size = w.heap.size := by rw [hw']; simp [putRowK, putRow, mapBlock, Sort.ahead]
    have hblk : ∀ k, k ≠ g → w'.heap[k]? = w.heap[k]? := fun k hkg => by
      rw [hw']; simp [putRowK, putRow, mapBlock, Sort.ahead, Array.getElem?_modify, Ne.symm hkg]
    have hown : (Value.slice (some ⟨g, 0, none⟩) lz.length cap).ownBlock = some g := rfl
    have hR : HoldsK encC 3 w' g 0 d.toArray.reverse := by
      rw [hw']
      exact holdsK_putRowK encC 3 _ _ _ d.toArray _ (holdsK_ahead encC 3 _ _ _ _ _ hH) (by simp)
    have hkr : KidsX (fun k => Q k ∧ k ≠ g) w' lz := hk.to (fun k hk => ⟨hblk k (fun q => hk.2 (by rw [q]; rfl)), hk.1, fun q => hk.2 (by rw [q]; rfl)⟩)
    refine ⟨rfl, ?_, fun k hkk => hblk k (fun q => hkk (by rw [q]; rfl)), hsz, ?_⟩
    · obtain ⟨f, hf⟩ := kids_fuel (l := lz) (hkr.to (Q' := Q) (fun k hk => ⟨rfl, hk.1⟩))
      refine ⟨f + 1, some ⟨g, 0, none⟩, cap, by simp, by simpa using hc, fun i hi => ?_⟩
      have hi' : i < lz.length := by simpa using hi
      have hr : lz.length - 1 - i < lz.length := by omega
      have hrd : lz.length - 1 - i < d.length := by omega
      have el : (lz.map Prod.fst).reverse[i] = lz[lz.length - 1 - i].1 := by simp
      have e1 : encC d[lz.length - 1 - i] = cellsN lz[lz.length - 1 - i] := by
        have := congrArg (fun l => l[lz.length - 1 - i]?) hd
        simpa only [List.getElem?_map, List.getElem?_eq_getElem hrd, List.getElem?_eq_getElem hr, Option.map_some, Option.some.injEq] using this
      have e2 : encC d.toArray.reverse[i]! = cellsN lz[lz.length - 1 - i] := by
        rw [← e1]
        have hid : i < d.length := by omega
        have e3 : d.toArray.reverse[i]? = some d[lz.length - 1 - i] := by
          rw [Array.getElem?_reverse (by simpa using hid)]
          simp [hdl]
        rw [getElem!_def, e3]
      have key : ∀ c, c < 3 → w'.cell? ⟨g, 0 + i * 3 + c, none⟩ = some (cellsN lz[lz.length - 1 - i])[c]! := fun c hc3 => by
        rw [(hR.cell (i := i) (c := c) (by simp; omega) hc3).1, e2]
      rw [el]
      exact ⟨g, 0, lz[lz.length - 1 - i].2, rfl, hq g rfl, key 0 (by omega), key 1 (by omega), key 2 (by omega), hf _ (List.getElem_mem hr)⟩
    · refine ⟨by rw [hw']; rfl, by rw [hw']; rfl, by rw [hw']; rfl, by rw [hsz]; exact Nat.le_refl _, fun k hk => hblk k (by omega)⟩
end Go.Proofs.Ytlllmoelhholfaa
