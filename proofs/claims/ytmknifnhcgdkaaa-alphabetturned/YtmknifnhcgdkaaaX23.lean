/-
  trie.newDraft: the draft of the value 0.
-/
import Derived.Test.YtmknifnhcgdkaaaX22
namespace Go.Proofs.Ytmknifnhcgdkaaa.S3
open Go.RowKit
set_option linter.unusedVariables false

theorem wpList_build_run {P : Program} {w : World} {ops : Array Oper} {rest : List Oper} {o : Oper} {a : Act} {Q : Exit → Act → World → Prop} (hg : o.guard = none) (t : TypeId) (parts : Array (Nat × Operand)) (ho : o.op = .build t parts) (cells : Array Value)
    (hb : P.built t (parts.map fun (i, x) => (i, a.eval x)).toList = some cells) (h : wpList P ops Q rest (a.put o.dst (.agg cells)) w) : wpList P ops Q (o :: rest) a w :=
  wpList_build hg t parts ho (by rw [hb]; rfl) (by rw [hb]; exact h)

def zeros : List Nat := List.replicate 4352 0
theorem zeros_length : zeros.length = 4352 := by unfold zeros; rw [List.length_replicate]
theorem drCells_zeros (v : Value) (g : Nat) : drCells zeros v g = List.replicate 4352 (Value.int .i64 0) ++ [v, .map (some g)] := by
  unfold drCells zeros; rw [List.map_replicate]; rfl
theorem Try.zeroDraft (w : World) : (zeroValue 116).run Try.prog w = .ok (.agg (List.replicate 4352 (Value.int .i64 0) ++ [Value.slice none 0 0, Value.map none]).toArray) w := by
  refine (zero_of_info (n := 4354) ?_).1 w
  have := Try.infoDraft
  revert this
  cases Try.prog.info? 116 with
  | none => intro h; cases h
  | some i => intro h; simp only [Option.map_some, Option.some.injEq, Prod.mk.injEq] at h ⊢; exact ⟨h.1, h.2.1⟩
theorem isB_zero : IsB zeroB := ⟨zeroB_length, fun x hx => by
  unfold zeroB at hx
  rw [List.eq_of_mem_replicate hx]
  omega⟩

set_option maxRecDepth 100000 in
set_option maxHeartbeats 2000000 in
theorem newDraft_any (w : World) :
    Calls Try.prog 54 #[] w fun e w' => ∃ gd, e = .returned (.pointer (some ⟨gd, 0, none⟩)) ∧ DrAt w.heap.size w' gd zeros [zeroB] ∧ Below w.heap.size w w' := by
  have hmm := @run_makeMap Try.prog
  have hzd := Try.zeroDraft
  have hzb := Try.zeroBlock
  obtain ⟨cs, hcs⟩ : ∃ cs, cs = (List.replicate 4352 (Value.int .i64 0) ++ [Value.slice none 0 0, Value.map none]).toArray := ⟨_, rfl⟩
  obtain ⟨zb, hzB⟩ : ∃ zb, zb = (i8 zeroB).toArray := ⟨_, rfl⟩
  rw [← hcs] at hzd
  rw [← hzB] at hzb
  have hsz : cs.size = 4354 := by rw [hcs, List.size_toArray, List.length_append, List.length_replicate]; rfl
  obtain ⟨HCS, HZB⟩ : Hid (cs = (List.replicate 4352 (Value.int .i64 0) ++ [Value.slice none 0 0, Value.map none]).toArray) ∧ Hid (zb = (i8 zeroB).toArray) := ⟨hcs, hzB⟩
  have HDR : Hid (cs.setIfInBounds 4353 (.map (some w.heap.size)) = (drCells zeros (.slice none 0 0) w.heap.size).toArray) := by
    show _ = _
    rw [hcs, drCells_zeros]
    simp only [List.setIfInBounds_toArray]
    rw [List.set_append_right _ _ (by rw [List.length_replicate]; omega), List.length_replicate]
    rfl
  clear hcs hzB
  go_enter Try.func54, Try.ntmps54
  go_wp2_with fail
  have hd : DrAt w.heap.size ((w.alloc (.map #[] 0)).alloc (.cells (cs.setIfInBounds 4353 (.map (some w.heap.size))) 116)) (w.heap.size + 1) zeros [] := by
    refine ⟨w.heap.size, .slice none 0 0, .map [], by omega, Nat.le_refl _, zeros_length, List.nodup_nil, (fun b hb => by cases hb), ?_, World.ownsRow_nil _ _ _ _, (World.ownsMap_made w _ _ _).alloc _, (fun b hb => ?_), (fun b hb => by cases hb)⟩
    · rw [← HDR.out]; exact heap_alloc2_new w _ _
    · simp [Maps.has]
  rw [HZB.out]
  refine (number_any _ _ _ _ zeroB _ hd isB_zero (by simp) (by simp; omega)).mono ?_
  rintro e w2 ⟨rfl, hd2, hB2, _⟩
  go_wp2
  go_ret
  refine ⟨w.heap.size + 1, rfl, hd2, ?_⟩
  exact (((Below.refl _ w).alloc (Nat.le_refl _) _).alloc (by simp) _).trans hB2
end Go.Proofs.Ytmknifnhcgdkaaa.S3
