/-
  What scansionref01.Decode answers: the units of the bytes, in a slice of its own.
-/
import Derived.Test.YtghogepkmdilaaaGreatDoorX47
import Derived.Test.YtghogepkmdilaaaGreatDoorX05
namespace Go.Proofs.YtghogepkmdilaaaGreatDoor.S1
open Go.RowKit
set_option linter.unusedVariables false

theorem firstV_unit (b : List Int) (p : Nat) : firstV (b.drop p) = .agg #[.int .i64 (unitAt b p).r, .int .i64 0, .int .i64 ((unitAt b p).w : Int), .bool (unitAt b p).bad] := rfl

theorem first_at (zs : List Int) (hby : Byt zs) (hlen : zs.length ≤ 10000) (p : Nat) (h : p < zs.length) (b off cap len : Nat) (hl : len = zs.length - p) (hcap : len ≤ cap) (w : World) (hb : b < w.heap.size) (hc : ∀ j, j < zs.length → w.cell? ⟨b, off + j, none⟩ = some (.int .u8 (zs[j]?.getD 0))) :
    Calls Tryz.prog 90 #[.slice (some ⟨b, off + p, none⟩) len cap] w fun e w' => e = .returned (.agg #[.int .i64 (unitAt zs p).r, .int .i64 0, .int .i64 ((unitAt zs p).w : Int), .bool (unitAt zs p).bad]) ∧ Below w.heap.size w w' := by
  have e : len = (zs.drop p).length := by rw [List.length_drop]; exact hl
  rw [← firstV_unit]
  refine first_any (zs.drop p) (fun c hc => hby c (List.mem_of_mem_drop hc)) (by rw [List.length_drop]; omega) (by rw [List.length_drop]; omega) b (off + p) cap len e hcap w hb (fun j hj => ?_)
  rw [List.length_drop] at hj
  have := hc (p + j) (by omega)
  rw [← Nat.add_assoc] at this
  rw [this, List.getElem?_drop]

theorem heap_new2 (w : World) (o o' : Obj) : ((w.alloc o).alloc o').heap[w.heap.size + 1]? = some o' := by
  have := heap_new' (w.alloc o) o'
  rwa [World.size_alloc] at this
theorem heap_new1 (w : World) (o o' : Obj) : ((w.alloc o).alloc o').heap[w.heap.size]? = some o :=
  (Below.heap_alloc (w.alloc o) o' w.heap.size (by simp)).trans (heap_new' w o)

theorem ownsRow_below {w w' : World} {base e size n : Nat} {v : Value} {xs : List Value} (h : w.ownsRow base e size v n xs) (hb : Below w.heap.size w w') : w'.ownsRow base e size v n xs :=
  World.ownsRow.kept (row := none) h ⟨hb.os, hb.tape, hb.output, hb.size, fun k hk _ => hb.block k hk⟩ (by cases v.ownBlock <;> simp)

set_option maxRecDepth 100000 in
set_option maxHeartbeats 2000000 in
theorem refDecode_core (zs : List Int) (hby : Byt zs) (hlen : zs.length ≤ 10000) (b off cap : Nat) (hcap : zs.length ≤ cap) (w : World) (hb : b < w.heap.size) (hc : ∀ j, j < zs.length → w.cell? ⟨b, off + j, none⟩ = some (.int .u8 (zs[j]?.getD 0))) :
    Calls Tryz.prog 44 #[.slice (some ⟨b, off, none⟩) zs.length cap] w fun e w' => ∃ v us, e = .returned v ∧ Run zs 0 us zs.length ∧ w'.ownsRow w.heap.size 95 4 v us.length (cellsUs us) ∧ Below w.heap.size w w' := by
  obtain ⟨i0, hi, hz0, hz1, hz2⟩ := info_parts Tryz.infoUnit
  have HC : Hid (∀ j, j < zs.length → w.cell? ⟨b, off + j, none⟩ = some (.int .u8 (zs[j]?.getD 0))) := hc
  clear hc
  go_enter Tryz.func44, Tryz.ntmps44
  go_wp2
  go_loopw [3, 4] (fun v i wr => ∃ (us : List U) (p : Nat), Run zs 0 us p ∧ i = .int .i64 p ∧ wr.ownsRow w.heap.size 95 4 v us.length (cellsUs us) ∧ Below w.heap.size w wr) (fun _ i _ => zs.length - (intOf i).toNat)
  case atStart => exact ⟨[], 0, rfl, rfl, World.ownsRow_nil _ _ _ _, Below.refl _ _⟩
  case round =>
    obtain ⟨us, p, hrun, rfl, hrow, hB⟩ := hrel
    have hle := Run.le hrun (Nat.zero_le _)
    have hbs := hB.size
    by_cases hlt : p < zs.length
    · have hrun' := hrun.snoc hlt
      have hwu := unitAt_w hlt
      have HF : Hid (∀ len, len = zs.length - p → Calls Tryz.prog 90 #[.slice (some ⟨b, off + p, none⟩) len (cap - p)] wr fun e w' => e = .returned (.agg #[.int .i64 (unitAt zs p).r, .int .i64 0, .int .i64 ((unitAt zs p).w : Int), .bool (unitAt zs p).bad]) ∧ Below wr.heap.size wr w') := by
        intro len hl
        exact first_at zs hby hlen p hlt b off (cap - p) len hl (by omega) wr (by omega) (fun j hj => (hB.cell (p := ⟨b, off + j, none⟩) hb).trans (HC.out j hj))
      obtain ⟨u, hu⟩ : ∃ u, u = unitAt zs p := ⟨_, rfl⟩
      have HUp : Hid (u.p = p) := by rw [hu]; rfl
      rw [← hu] at HF hwu hrun'
      clear hu
      have hul : Hid (∀ k, u3.ownBlock = some k → w.heap.size ≤ k ∧ k < wr.heap.size) := fun k e => hrow.lt k e
      go_wp2_with (first | (go_at_call 90; refine (HF.out _ (by omega)).mono ?_; rintro e w1 ⟨rfl, hB1⟩; have hrow1 := ownsRow_below hrow hB1; have hs1 := hB1.size) | (at_builtin; refine wpList_append_lies _ rfl _ _ 85 rfl w.heap.size 95 i0 (.agg #[.int .i64 0, .int .i64 0, .int .i64 0, .bool false]) 4 32 Tryz.underlying85 hi hz0 hz1 hz2 rfl (by decide) _ _ _ rfl ((hrow1.alloc _).alloc _) ⟨w1.heap.size + 1, 0, none⟩ 1 1 [.int .i64 u.r, .int .i64 (p : Int), .int .i64 (u.w : Int), .bool u.bad] rfl rfl (World.news_of_block (heap_new2 _ _ _)) (by simp [Value.oneCell']) (by omega) (by unfold maxLen; omega) (by omega) (by simp; omega) _ rfl ?_; intro g cap2 w2 hown2 hgrow2 hat2 hlt2; have hc2 : w2.cell? ⟨w1.heap.size, 2, none⟩ = some (.int .i64 (u.w : Int)) := (hgrow2.cell_far ⟨w1.heap.size, 2, none⟩ (by simp; omega) (fun e => by have := (hul.out _ e.symm).2; simp at this; omega)).trans (cell_of_row _ _ 2 _ _ _ (heap_new1 _ _ _))))
      have hB2 : Below w.heap.size w w2 := (((hB.trans (hB1.mono hbs)).alloc (by omega) _).alloc (by simp; omega) _).grown hgrow2 (by simp; omega) (fun k e => (hul.out k e).1)
      have hc4 : cellsU u = [.int .i64 u.r, .int .i64 (p : Int), .int .i64 (u.w : Int), .bool u.bad] := by unfold cellsU; rw [HUp.out]
      go_roundw
      case rel => exact ⟨us ++ [u], p + u.w, hrun', by go_num, by rw [cellsUs_snoc, hc4]; simpa using hown2, hB2⟩
      case measure => simp [intOf]; omega
    · obtain rfl : p = zs.length := by omega
      go_wp2
      go_ret
      exact ⟨_, us, rfl, hrun, hrow, hB⟩
end Go.Proofs.YtghogepkmdilaaaGreatDoor.S1
