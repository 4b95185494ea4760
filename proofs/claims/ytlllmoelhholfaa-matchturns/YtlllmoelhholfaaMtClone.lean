/-
  A copy of an expression's parts.
-/
import Derived.Test.YtlllmoelhholfaaMtTurnR
import Derived.Test.YtlllmoelhholfaaLibT10
namespace Go.Proofs.Ytlllmoelhholfaa
open Go.RowKit Go.Shelf
set_option linter.unusedVariables false

/-- Parts, each with its slice. -/
theorem kids_list {Q : Nat → Prop} {w : World} {z : Value} {l : List Nd} (h : KdX Q w z l) : ∃ lz : List (Nd × Value), lz.map Prod.fst = l ∧ KidsX Q w lz ∧ ∀ g off n cap, z = .slice (some ⟨g, off, none⟩) n cap → ∀ j u, (cellsNs lz)[j]? = some u → w.cell? ⟨g, off + j, none⟩ = some u := by
  have hc : ∀ i : Fin l.length, ∃ zi : Value, KdX Q w zi l[i].kids ∧ ∀ g off n cap, z = .slice (some ⟨g, off, none⟩) n cap → ∀ j, j < 3 → w.cell? ⟨g, off + (i.1 * 3 + j), none⟩ = (cellsN (l[i], zi))[j]? := fun i => by
    obtain ⟨g, off, cap, z', e1, e2, e3, e4, e5, e6, e7⟩ := h.at i.1 i.2
    refine ⟨z', e7, fun g' off' n' cap' e j hj => ?_⟩
    rw [e1] at e
    obtain ⟨⟨rfl, rfl⟩, _, _⟩ : (g = g' ∧ off = off') ∧ _ ∧ _ := by simpa using e
    have hj3 : j = 0 ∨ j = 1 ∨ j = 2 := by omega
    rcases hj3 with rfl | rfl | rfl
    · exact e4
    · rw [← Nat.add_assoc]; exact e5
    · rw [← Nat.add_assoc]; exact e6
  let f := fun i => Classical.choose (hc i)
  have hf := fun i => Classical.choose_spec (hc i)
  refine ⟨List.ofFn (fun i : Fin l.length => (l[i], f i)), ?_, ?_, ?_⟩
  · refine List.ext_getElem (by simp) (fun i h1 h2 => by simp)
  · intro x hx
    obtain ⟨i, rfl⟩ := List.mem_ofFn.1 hx
    exact (hf i).1
  · intro g off n cap e j u hj
    have hlen : (List.ofFn (fun i : Fin l.length => (l[i], f i))).length = l.length := by simp
    have hjl : j < l.length * 3 := by
      have := (List.getElem?_eq_some_iff.1 hj).1
      rw [cellsNs_length, hlen] at this
      exact this
    obtain ⟨i, c, hc3, rfl⟩ : ∃ i c, c < 3 ∧ j = i * 3 + c := ⟨j / 3, j % 3, Nat.mod_lt _ (by omega), by omega⟩
    have hi : i < l.length := by omega
    rw [cellsNs_at _ _ _ (by rw [hlen]; exact hi) hc3] at hj
    rw [(hf ⟨i, hi⟩).2 g off n cap e c hc3, ← hj]
    simp [f]

set_option maxRecDepth 100000 in
set_option maxHeartbeats 4000000 in
theorem clone_any (Q : Nat → Prop) (z : Value) (l : List Nd) (w : World) (hQ : ∀ k, Q k → k < w.heap.size) (hz : KdX Q w z l) (hl : l.length ≤ 1000) :
    Calls Try.prog 35 #[z] w fun e w' => ∃ v' lz, e = .returned v' ∧ w'.ownsRow w.heap.size 24 3 v' l.length (cellsNs lz) ∧ lz.map Prod.fst = l ∧ KidsX Q w' lz ∧ Below w.heap.size w w' := by
  obtain ⟨i0, hi0, hz0, hz1, hz2⟩ := info_parts Try.infoNode10
  obtain ⟨lz, h1, h2, h3⟩ := kids_list hz
  have hll : lz.length = l.length := by rw [← h1]; simp
  obtain ⟨a, ca, rfl, hcap⟩ := hz.slice
  cases a with
  | none =>
    have h0 : l = [] := by
      cases l with
      | nil => rfl
      | cons x l =>
        obtain ⟨g, off, cap, z', e1, _⟩ := hz.at 0 (by simp)
        simp at e1
    subst h0
    have h := AnyE.slices_Clone_nil cloneN 0 ca w
    refine Calls.mono h ?_
    rintro e w' ⟨rfl, rfl⟩
    have hl0 : lz = [] := List.length_eq_zero_iff.1 hll
    subst hl0
    exact ⟨_, [], rfl, by simpa [cellsNs] using World.ownsRow_nil _ _ _ _, rfl, (fun x hx => by cases hx), Below.refl _ _⟩
  | some ad =>
    by_cases h0 : l = []
    · subst h0
      have hl0 : lz = [] := List.length_eq_zero_iff.1 hll
      subst hl0
      show Calls _ _ #[.slice (some ad) 0 ca] w _
      clear h1 h2 h3 hz
      have HM : Hid ((w.alloc (.cells #[] 24)).ownsRow w.heap.size 24 3 (.slice (some ⟨w.heap.size, 0, none⟩) 0 0) 0 []) := World.ownsRow_made w #[] 0 (Nat.le_refl _) (Nat.zero_le _) (by simp)
      have q22 : ∀ (w : World) (a : Option Addr) (n c n' c' : Nat), (binOp .eql 22 (.slice a n c) (.slice none n' c')).run Try.prog w = .ok (.bool a.isNone) w := fun w a n c n' c' => Lib.run_eql_slice_nil w _ _ a n c n' c' Try.underlying22
      go_enter Try.func35, Try.ntmps35
      go_wp2_with (at_builtin; refine wpList_append_own _ rfl _ _ 22 rfl w.heap.size 24 i0 (.agg #[.int .i64 0, .int .i64 0, .slice none 0 0]) 3 40 Try.underlying22 hi0 hz0 hz1 hz2 rfl (by decide) _ _ _ rfl (World.ownsRow_made w #[] 0 (Nat.le_refl _) (Nat.zero_le _) (by simp)) ad 0 ca [] rfl rfl (by simp) (by simp) (by unfold maxLen; omega) (by omega) (by simp) ?_; intro v' w1 hown hgrow hnil)
      go_wp2
      go_ret
      refine ⟨v', rfl, [], by simpa [cellsNs] using hown, rfl, (fun x hx => by cases hx), ?_⟩
      exact ((Below.refl _ w).alloc (Nat.le_refl _) _).grown hgrow (by simp) (fun k hk => by first | exact (HM.out.lt k hk).1 | (have hk' : w.heap.size = k := by simpa [Value.ownBlock] using hk
                                                                                                                                 omega))
    · obtain ⟨g, off, rfl⟩ : ∃ g off, ad = ⟨g, off, none⟩ := by
        have hp : 0 < l.length := by cases l with
          | nil => exact absurd rfl h0
          | cons x l => simp
        obtain ⟨g, off, cap, z', e1, _⟩ := hz.at 0 hp
        exact ⟨g, off, by simp at e1; exact e1.1⟩
      have hone : ∀ u ∈ cellsNs lz, u.oneCell' = true := fun u hu => by
        obtain ⟨x, hx, hu⟩ := List.mem_flatMap.1 hu
        obtain ⟨xa, xc, e, _⟩ := (h2 x hx).slice
        simp [cellsN] at hu
        rcases hu with rfl | rfl | rfl
        · rfl
        · rfl
        · rw [e]; rfl
      have h := AnyE.slices_Clone cloneN i0 (.agg #[.int .i64 0, .int .i64 0, .slice none 0 0]) 3 40 hi0 hz0 hz1 hz2 rfl (by decide) Try.sizeOf24 g off l.length ca (cellsNs lz) w (by rw [cellsNs_length, hll]) (by unfold maxLen; omega) (by omega) (h3 g off l.length ca rfl) hone
      refine Calls.mono h ?_
      rintro e w' ⟨v', rfl, ho, _, hB⟩
      exact ⟨v', lz, rfl, ho, h1, h2.to (fun k hk => ⟨hB.block k (hQ k hk), hk⟩), hB⟩
end Go.Proofs.Ytlllmoelhholfaa
