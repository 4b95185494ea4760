/-
  Places sorted, each once: slices.Sort, slices.Compact, slices.Contains by the library's contracts.
-/
import Derived.Test.YtklhjjgnhigbiaaGreatDoorMtPut
import Derived.Test.YtklhjjgnhigbiaaGreatDoorLib10
namespace Go.Proofs.YtklhjjgnhigbiaaGreatDoor
open Go.RowKit Go.Shelf
set_option linter.unusedVariables false

theorem cellP_int (l : List Nat) : cellP l = (l.map (fun n : Nat => (n : Int))).map (Value.int .i64) := by simp [cellP, Function.comp]
theorem own_same {w w' : World} {base e size n : Nat} {v : Value} {xs : List Value} (h : w.ownsRow base e size v n xs) (hk : ∀ k, v.ownBlock = some k → w'.heap[k]? = w.heap[k]?) : w'.ownsRow base e size v n xs := by
  obtain ⟨h1, h2⟩ := h
  refine ⟨h1, ?_⟩
  rcases h2 with h2 | ⟨g, cap, cur, rfl, hg, hh, r⟩
  · exact .inl h2
  · exact .inr ⟨g, cap, cur, rfl, hg, (hk g rfl).trans hh, r⟩
/-- A list of ints that are all places. -/
theorem nat_list {zs : List Int} {l : List Nat} (h : ∀ z ∈ zs, ∃ n ∈ l, z = (n : Nat)) : ∃ ms : List Nat, zs = ms.map (fun n : Nat => (n : Int)) := by
  induction zs with
  | nil => exact ⟨[], rfl⟩
  | cons z zs ih =>
    obtain ⟨ms, e⟩ := ih (fun y hy => h y (by simp [hy]))
    obtain ⟨n, _, rfl⟩ := h z (by simp)
    exact ⟨n :: ms, by rw [e]; rfl⟩

theorem mem_cast (l : List Nat) (x : Nat) : (x : Int) ∈ l.map (fun n : Nat => (n : Int)) ↔ x ∈ l := by
  rw [List.mem_map]
  exact ⟨fun ⟨n, hn, e⟩ => by obtain rfl : n = x := by omega
                              exact hn, fun h => ⟨x, h, rfl⟩⟩
theorem sort_any (w : World) (base : Nat) (v : Value) (tl : List Nat) (h : w.ownsRow base 3 1 v tl.length (cellP tl)) (hl : tl.length ≤ 100000) :
    Calls Tryz.prog 90 #[v] w fun e w' => ∃ sl : List Nat, e = .returned (.tuple #[]) ∧ sl.length = tl.length ∧ (∀ x, x ∈ sl ↔ x ∈ tl) ∧ sl.Pairwise (· ≤ ·) ∧ w'.ownsRow base 3 1 v sl.length (cellP sl) ∧ w.grownBy w' v.ownBlock := by
  by_cases h0 : tl.length = 0
  · obtain rfl := List.length_eq_zero_iff.1 h0
    have hv : ∃ a cap, v = .slice a 0 cap := by
      rcases h.2 with ⟨rfl, _⟩ | ⟨g, cap, cur, rfl, _⟩
      · exact ⟨_, _, rfl⟩
      · exact ⟨_, _, rfl⟩
    obtain ⟨a, cap, rfl⟩ := hv
    refine (AnyM.slices_Sort_int_none sortI a cap w).mono ?_
    rintro e w' ⟨rfl, rfl⟩
    exact ⟨[], rfl, rfl, fun _ => Iff.rfl, List.Pairwise.nil, h, ⟨rfl, rfl, rfl, Nat.le_refl _, fun _ _ _ => rfl⟩⟩
  · have hv : v ≠ .slice none 0 0 := fun e => by
      rcases h.2 with ⟨_, h1⟩ | ⟨g, cap, cur, e2, _⟩
      · exact h0 h1
      · rw [e] at e2; cases e2
    rw [cellP_int] at h
    obtain ⟨g, cap, rfl, hb, hg, hc, hm, hz, hH⟩ := Go.Lib.holds_of_ownsRow h hv
    have hc1 := AnyM.slices_Sort_int sortI g 0 cap (tl.map (fun n : Nat => (n : Int))) w hH hg (by simp; omega)
    have e1 : (tl.map (fun n : Nat => (n : Int))).length = tl.length := by simp
    rw [e1] at hc1
    refine Calls.mono hc1 ?_
    rintro e w' ⟨rfl, n, os, rfl⟩
    obtain ⟨zs, hzs⟩ : ∃ zs, zs = (tl.map (fun n : Nat => (n : Int))).mergeSort fun x y => decide (x ≤ y) := ⟨_, rfl⟩
    rw [← hzs]
    have hp : zs.Perm (tl.map (fun n : Nat => (n : Int))) := by rw [hzs]; exact List.mergeSort_perm _ _
    have hso : zs.Pairwise (fun x y => x ≤ y) := by
      have := List.pairwise_mergeSort (le := fun (x y : Int) => decide (x ≤ y)) (fun a b c h1 h2 => by simp at h1 h2 ⊢; omega) (fun a b => by simp; omega) (tl.map (fun n : Nat => (n : Int)))
      rw [← hzs] at this
      exact this.imp (fun h => by simpa using h)
    obtain ⟨sl, rfl⟩ := nat_list (l := tl) (fun z hz => by
      obtain ⟨n, hn, e⟩ := List.mem_map.1 (hp.mem_iff.1 hz)
      exact ⟨n, hn, e.symm⟩)
    have hlen : sl.length = tl.length := by simpa using hp.length_eq
    have hmem : ∀ x, x ∈ sl ↔ x ∈ tl := fun x => by
      have := hp.mem_iff (a := (x : Int))
      rwa [mem_cast, mem_cast] at this
    refine ⟨sl, rfl, hlen, hmem, ?_, ?_, ?_⟩
    · rw [List.pairwise_map] at hso
      exact hso.imp (fun h => by omega)
    · have := Go.Lib.ownsRow_putRow (q := n) (k := tl.length) h (ys := sl.map (fun n : Nat => (n : Int))) (by simpa using hlen) (Nat.le_refl _)
      rw [List.take_of_length_le (by simp [hlen]), ← cellP_int] at this
      rw [hlen]
      exact own_same this (fun k hk => by
        obtain rfl : g = k := by simpa [Value.ownBlock] using hk
        show (_ ++ os)[g]? = _
        rw [Array.getElem?_append_left (by simpa [Go.Sort.putRow, Go.Sort.mapBlock, Go.Sort.ahead] using hg)])
    · refine ⟨rfl, rfl, rfl, by simp [Go.Sort.grow, Go.Sort.putRow, Go.Sort.mapBlock, Go.Sort.ahead], fun k hk hne => ?_⟩
      have hkg : g ≠ k := fun e => hne (by simp [Value.ownBlock, e])
      show (_ ++ os)[k]? = _
      rw [Array.getElem?_append_left (by simpa [Go.Sort.putRow, Go.Sort.mapBlock, Go.Sort.ahead] using hk)]
      simp [Go.Sort.putRow, Go.Sort.mapBlock, Go.Sort.ahead, Array.getElem?_modify, hkg]

theorem compact_ris (d : Array Int) (hs : ∀ i j, i < j → j < d.size → d[i]! ≤ d[j]!) : ∀ m, m ≤ d.size → (Go.Lib.compactUpTo d m).Pairwise (· < ·) ∧ (∀ x ∈ Go.Lib.compactUpTo d m, ∃ j, j < m ∧ x = d[j]!) ∧ ∀ j, j < m → d[j]! ∈ Go.Lib.compactUpTo d m
  | 0, _ => ⟨by simp [Go.Lib.compactUpTo], fun x hx => by simp [Go.Lib.compactUpTo] at hx, fun j hj => by omega⟩
  | m + 1, hm => by
    obtain ⟨h1, h2, h3⟩ := compact_ris d hs m (by omega)
    rw [Go.Lib.compactUpTo_succ]
    by_cases hk : Go.Lib.keeps d m = true
    · rw [if_pos hk]
      have hk2 : m = 0 ∨ d[m]! ≠ d[m - 1]! := by simpa [Go.Lib.keeps] using hk
      refine ⟨?_, ?_, ?_⟩
      · rw [List.pairwise_append]
        refine ⟨h1, by simp, fun x hx y hy => ?_⟩
        obtain rfl : y = d[m]! := by simpa using hy
        obtain ⟨j, hj, rfl⟩ := h2 x hx
        rcases hk2 with e | e
        · omega
        · have a := hs (m - 1) m (by omega) (by omega)
          by_cases q : j = m - 1
          · subst q; omega
          · have b := hs j (m - 1) (by omega) (by omega)
            omega
      · intro x hx
        rcases List.mem_append.1 hx with h | h
        · obtain ⟨j, hj, e⟩ := h2 x h
          exact ⟨j, by omega, e⟩
        · exact ⟨m, by omega, by simpa using h⟩
      · intro j hj
        by_cases q : j = m
        · subst q; simp
        · exact List.mem_append.2 (.inl (h3 j (by omega)))
    · rw [if_neg hk, List.append_nil]
      have hk2 : ¬ m = 0 ∧ d[m]! = d[m - 1]! := by simpa [Go.Lib.keeps] using hk
      refine ⟨h1, fun x hx => ?_, fun j hj => ?_⟩
      · obtain ⟨j, hj, e⟩ := h2 x hx
        exact ⟨j, by omega, e⟩
      · by_cases q : j = m
        · subst q; rw [hk2.2]; exact h3 _ (by omega)
        · exact h3 j (by omega)

theorem comp_any (w : World) (base : Nat) (v : Value) (tl : List Nat) (h : w.ownsRow base 3 1 v tl.length (cellP tl)) (hl : tl.length ≤ 100000) (hs : tl.Pairwise (· ≤ ·)) :
    Calls Tryz.prog 91 #[v] w fun e w' => ∃ (v' : Value) (cl : List Nat), e = .returned v' ∧ (∀ x, x ∈ cl ↔ x ∈ tl) ∧ cl.Pairwise (· < ·) ∧ w'.ownsRow base 3 1 v' cl.length (cellP cl) ∧ w.grownBy w' v.ownBlock := by
  by_cases h0 : tl.length = 0
  · obtain rfl := List.length_eq_zero_iff.1 h0
    have hv : ∃ a cap, v = .slice a 0 cap := by
      rcases h.2 with ⟨rfl, _⟩ | ⟨g, cap, cur, rfl, _⟩
      · exact ⟨_, _, rfl⟩
      · exact ⟨_, _, rfl⟩
    obtain ⟨a, cap, rfl⟩ := hv
    refine (AnyG.slices_Compact_int_empty compI a cap w).mono ?_
    rintro e w' ⟨rfl, rfl⟩
    exact ⟨_, [], rfl, fun _ => Iff.rfl, List.Pairwise.nil, h, ⟨rfl, rfl, rfl, Nat.le_refl _, fun _ _ _ => rfl⟩⟩
  · have hv : v ≠ .slice none 0 0 := fun e => by
      rcases h.2 with ⟨_, h1⟩ | ⟨g, cap, cur, e2, _⟩
      · exact h0 h1
      · rw [e] at e2; cases e2
    rw [cellP_int] at h
    obtain ⟨g, cap, rfl, hb, hg, hc, hm, hz, hH⟩ := Go.Lib.holds_of_ownsRow h hv
    obtain ⟨zs, hzs⟩ : ∃ zs, zs = tl.map (fun n : Nat => (n : Int)) := ⟨_, rfl⟩
    have hzl : zs.length = tl.length := by rw [hzs]; simp
    rw [← hzs] at hH h
    have hc1 := AnyG.slices_Compact_int compI g 0 cap zs w hH (by omega) (by omega)
    rw [hzl] at hc1
    refine Calls.mono hc1 ?_
    rintro e w' ⟨rfl, n, rfl⟩
    have hle := Go.Lib.compact_length_le zs
    have key := compact_ris zs.toArray (fun i j hij hj => by
      have hj' : j < zs.length := by simpa using hj
      have hp : zs.Pairwise (· ≤ ·) := by
        rw [hzs, List.pairwise_map]
        exact hs.imp (fun h => by omega)
      rw [List.pairwise_iff_getElem] at hp
      have := hp i j (by omega) hj' hij
      simpa [getElem!_pos, hj', show i < zs.length by omega] using this) zs.length (by simp)
    have hcm : Go.Lib.compactUpTo zs.toArray zs.length = Go.Lib.compact zs := rfl
    rw [hcm] at key
    obtain ⟨cs, hcs⟩ : ∃ cs, cs = Go.Lib.compact zs := ⟨_, rfl⟩
    rw [← hcs] at key hle ⊢
    have hmz : ∀ z, z ∈ cs ↔ z ∈ zs := fun z => by
      constructor
      · intro hz
        obtain ⟨j, hj, rfl⟩ := key.2.1 z hz
        simp [getElem!_pos, hj]
      · intro hz
        obtain ⟨j, hj, rfl⟩ := List.getElem_of_mem hz
        have := key.2.2 j hj
        simpa [getElem!_pos, hj] using this
    obtain ⟨cl, rfl⟩ := nat_list (l := tl) (fun z hz => by
      have := (hmz z).1 hz
      rw [hzs] at this
      obtain ⟨n, hn, e⟩ := List.mem_map.1 this
      exact ⟨n, hn, e.symm⟩)
    have hcl : (cl.map (fun n : Nat => (n : Int))).length = cl.length := by simp
    refine ⟨_, cl, rfl, fun x => ?_, ?_, ?_, ?_⟩
    · have := hmz (x : Int)
      rwa [hzs, mem_cast, mem_cast] at this
    · have := key.1
      rw [List.pairwise_map] at this
      exact this.imp (fun h => by omega)
    · have := Go.Lib.ownsRow_putRow (q := n) (k := cl.length) h (ys := cl.map (fun n : Nat => (n : Int)) ++ List.replicate (tl.length - (cl.map (fun n : Nat => (n : Int))).length) 0) (by simp at hle ⊢; omega) (by simp at hle; omega)
      rw [List.take_append_of_le_length (by simp), List.take_of_length_le (by simp), ← cellP_int] at this
      simpa using this
    · refine ⟨rfl, rfl, rfl, by simp [Go.Sort.putRow, Go.Sort.mapBlock, Go.Sort.ahead], fun k hk hne => ?_⟩
      have hkg : g ≠ k := fun e => hne (by simp [Value.ownBlock, e])
      simp [Go.Sort.putRow, Go.Sort.mapBlock, Go.Sort.ahead, Array.getElem?_modify, hkg]

theorem cont_any (w : World) (b0 B : Nat) (v : Value) (l : List Nat) (x : Nat) (h : PlcAt b0 B w v l) (hl : l.length ≤ 100000) :
    Calls Tryz.prog 36 #[v, .int .i64 (x : Int)] w fun e w' => e = .returned (.bool (decide (x ∈ l))) ∧ w' = w := by
  obtain ⟨a, cap, rfl, hc, hn, hi⟩ := h
  cases l with
  | nil =>
    refine (AnyG.slices_Contains_int_empty contI a cap x w).mono ?_
    rintro e w' ⟨rfl, rfl⟩
    exact ⟨by simp, rfl⟩
  | cons y l =>
    obtain ⟨g, off, rfl, _, _, _⟩ := hi 0 (by simp)
    have hc1 := AnyG.slices_Contains_int contI g off (y :: l).length cap ((y :: l).map (fun n : Nat => (n : Int))) x w (by simp) (by simp at hl ⊢; omega) (fun j hj => by
      obtain ⟨g', off', e, _, _, h3⟩ := hi j (by simpa using hj)
      cases e
      rw [h3]
      have hj' : j < (y :: l).length := by simpa using hj
      rw [List.getD_eq_getElem?_getD, List.getElem?_map, List.getElem?_eq_getElem hj']
      rfl)
    refine Calls.mono hc1 ?_
    rintro e w' ⟨rfl, rfl⟩
    refine ⟨?_, rfl⟩
    congr 2
    rw [List.take_of_length_le (by simp), Bool.eq_iff_iff]
    simp only [List.contains_iff_mem, decide_eq_true_eq, List.mem_map]
    constructor
    · rintro ⟨n, hn, e⟩
      obtain rfl : n = x := by omega
      exact hn
    · intro h; exact ⟨x, h, rfl⟩
end Go.Proofs.YtklhjjgnhigbiaaGreatDoor
