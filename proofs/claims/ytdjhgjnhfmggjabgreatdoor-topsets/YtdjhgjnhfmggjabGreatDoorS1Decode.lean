/-
  What utf.Decode answers: the units of the bytes, in a slice of its own.
-/
import Derived.Test.YtdjhgjnhfmggjabGreatDoorS1Units
import Derived.WalkSpells
import Derived.Deep.AppendLies
namespace Go.Proofs.YtdjhgjnhfmggjabGreatDoor.S1
open Go.RowKit Go.Shelf
set_option linter.unusedVariables false
attribute [local go_sem] Oper.semAt_some

theorem Tryz.infoUnit : (Tryz.prog.info? 88).map (fun i => (i.zero, i.size, i.bytes)) = some (some (.agg #[.int .i64 0, .int .i64 0, .int .i64 0, .bool false]), 4, 32) := by kernel_rfl

/-- The cells of a unit. -/
def cellsU (u : U) : List Value := [.int .i64 u.r, .int .i64 (u.p : Int), .int .i64 (u.w : Int), .bool u.bad]
def cellsUs (us : List U) : List Value := us.flatMap cellsU

theorem cellsUs_snoc (us : List U) (u : U) : cellsUs (us ++ [u]) = cellsUs us ++ cellsU u := by simp [cellsUs]

set_option maxRecDepth 100000 in
set_option maxHeartbeats 4000000 in
theorem decode_in (n : Nat) (hn : 3 ≤ n) (sv : Value) (a : Option Addr) (len cap : Nat) (hsv : sv = .slice a len cap) (zs : List Int) (hby : Byt zs) (hlen : zs.length ≤ 10000) (w : World) (hI : BytesAt w.heap.size w sv zs) :
    CallsIn Fence.wide n Tryz.prog 18 #[sv] w fun e W' => ∃ v us, e = .returned v ∧ Run zs 0 us zs.length ∧ W'.ownsRow w.heap.size 88 4 v us.length (cellsUs us) ∧ Below w.heap.size w W' := by
  subst hsv
  have h1 : 1 ≤ n := by omega
  obtain ⟨i0, hi, hz0, hz1, hz2⟩ := info_parts Tryz.infoUnit
  refine callsIn_of_wp_marks Tryz.func18 rfl trivial ?_ rfl
  simp only [Tryz.ntmps18, List.size_toArray, List.length_cons, List.length_nil, Nat.reduceAdd, Nat.reduceSub, Array.replicate_succ, Array.replicate_zero, List.push_toArray, List.append_toArray, List.nil_append, List.cons_append]
  gi_wp2_with (refine ⟨trivial, ?_⟩; gi_at_call 33; refine (units_in (n - 1) _ _ _ _).mono ?_; rintro e w' ⟨rfl, rfl⟩)
  have bO := Boxed.new w 51 (.slice none 0 0)
  have bN := Boxed.new (w.alloc (.cells #[.slice none 0 0] 51)) 32 (.slice a len cap)
  rw [World.size_alloc] at bN
  have hB0 : Below w.heap.size w ((w.alloc (.cells #[.slice none 0 0] 51)).alloc (.cells #[.slice a len cap] 32)) := ((Below.refl _ w).alloc (Nat.le_refl _) _).alloc (by simp) _
  have hsz : ((w.alloc (.cells #[.slice none 0 0] 51)).alloc (.cells #[.slice a len cap] 32)).heap.size = w.heap.size + 2 := by simp
  have bO2 := bO.alloc (.cells #[.slice a len cap] 32)
  obtain ⟨W0, hW0⟩ : ∃ W0, (w.alloc (.cells #[.slice none 0 0] 51)).alloc (.cells #[.slice a len cap] 32) = W0 := ⟨_, rfl⟩
  rw [hW0] at bO2 bN hB0 hsz ⊢
  clear hW0 bO
  have hfit : Fit1 w.heap.size W0 := ⟨bO2.lt, fun k n c h => by rw [bO2.cell] at h; simp at h⟩
  have hlies : Lies w.heap.size W0 (w.heap.size + 1) #[.slice a len cap] 32 := ⟨bN, fun o => by
    rcases o with h | ⟨n, c, h⟩
    · omega
    · rw [bO2.cell] at h; simp at h⟩
  refine wpIn_rangeFunc_ownH rfl h1 (gf := 62) (lb := #[.pointer (some ⟨w.heap.size + 1, 0, none⟩)]) rfl trivial (enters_of Tryz.func62 (by kernel_rfl) rfl)
    (units_stops (n - 1) (by omega) (w.heap.size + 1) w.heap.size w.heap.size (.slice a len cap) zs hby hlen W0 (by omega) hfit hlies (hI.below hB0)) kp1_t (kp1_b (by omega) (by omega)) (Below.refl _ _) (fun _ => rfl)
    (fun pre W => (∃ v, Boxed W w.heap.size 51 v ∧ W.ownsRow w.heap.size 88 4 v pre.length (cellsUs pre) ∧ True) ∧ Below w.heap.size w W)
    (fun _ _ _ => False)
    (OwnFrom.and (Own.from (holdsRow_own w.heap.size w.heap.size 51 88 4 (fun pre : List U => pre.length) (fun pre => cellsUs pre) (fun _ _ => True)) _) (ownFrom_below (Nat.le_refl _) (by omega)))
    (fun _ _ _ _ _ hs _ _ => hs)
    ⟨⟨_, bO2, World.ownsRow_nil _ _ _ _, trivial⟩, hB0⟩
    (fun x a' W => ∃ Bx, W.heap[Bx]? = some (.cells (cellsU x).toArray 88 (0, 0)) ∧ a' = { tmps := #[.slice a len cap, undef, .slice none 0 0, .pointer (some ⟨w.heap.size, 0, none⟩), .pointer (some ⟨Bx, 0, none⟩), .slice a len cap, .func (.func 62) #[] #[.pointer (some ⟨w.heap.size + 1, 0, none⟩)], .agg #[.int .i64 x.r, .int .i64 (x.p : Int), .int .i64 (x.w : Int), .bool x.bad], undef, undef, undef, undef, undef], defers := [] })
    (fun x a' _ X Y row hs hg hr => by
      obtain ⟨Bx, h1, h3⟩ := hs
      refine ⟨Bx, (hg.block Bx (Array.getElem?_eq_some_iff.1 h1).1 (fun e => ?_)).trans h1, h3⟩
      obtain ⟨_, o, h4, h5⟩ := hr Bx e.symm
      rw [h1] at h4; cases h4; cases h5)
    ?assign ?body ?done ?stop
  case assign =>
    rintro l pre x W K ⟨⟨v, hv, hrow, _⟩, hB⟩ hK
    unfold encU
    gi_wp2
    exact hK _ _ ((KeepsOthers.alloc _ _).from _) (kp1_alloc _ _ hB.size) ⟨⟨v, hv.alloc _, hrow.alloc _, trivial⟩, hB.alloc hB.size _⟩ ⟨W.heap.size, heap_new W _, rfl⟩
  case body =>
    rintro l pre x a' W hl _ ⟨⟨v, hv, hrow, _⟩, hB⟩ ⟨Bx, hBx, rfl⟩ hlt
    have hc := hv.cell
    have hbs := hB.size
    have c0 : W.cell? ⟨Bx, 0, none⟩ = some (.int .i64 x.r) := cell_of_row W Bx 0 _ _ _ hBx
    have c1 : W.cell? ⟨Bx, 1, none⟩ = some (.int .i64 (x.p : Int)) := cell_of_row W Bx 1 _ _ _ hBx
    have c2 : W.cell? ⟨Bx, 2, none⟩ = some (.int .i64 (x.w : Int)) := cell_of_row W Bx 2 _ _ _ hBx
    have c3 : W.cell? ⟨Bx, 3, none⟩ = some (.bool x.bad) := cell_of_row W Bx 3 _ _ _ hBx
    gi_wp2_with (gi_at_builtin; go_must (refine wpListIn_append_own_at _ rfl _ _ 51 rfl w.heap.size 88 i0 (.agg #[.int .i64 0, .int .i64 0, .int .i64 0, .bool false]) 4 32 Tryz.underlying51 hi hz0 hz1 hz2 rfl (by decide) _ _ _ rfl (hrow.alloc _) ⟨W.heap.size, 0, none⟩ 1 1 (cellsU x) rfl rfl (World.news_of_block (heap_new _ _)) (by simp [cellsU, Value.oneCell']) (by unfold maxLen; omega) (by omega) (by simp; omega) ?_); intro v' w1 hown' hgrow hnil hat; obtain ⟨g', cap', rfl⟩ := ownsRow_succ hown'; have hkp := kp1_appended hv (by decide) hrow hbs (Nat.le_refl _) hown' hgrow hat; obtain ⟨hv1, hv2, hr2, hk2, hb2⟩ := hv.appended (by decide) hrow hbs (Nat.le_refl _) hown' hgrow; have hc1 := hv1.cell; have hf1 := hv1.frozen)
    exact ⟨hk2.from _, hkp, ⟨_, hv2, by rw [cellsUs_snoc]; simpa using hr2, trivial⟩, hB.trans hb2⟩
  case done =>
    rintro D ys W hD hrun ⟨⟨v, hv, hrow, _⟩, hB⟩ hK
    have hc := hv.cell
    gi_wp2
    refine ⟨by simp, .inl ⟨_, _, rfl, run_takeDeferred hK, ?_⟩⟩
    exact ⟨_, results_tmp rfl _ _ _, v, ys, rfl, hrun, ownsRow_putObj hrow _ hK rfl, hB.trans (belowK_b (w := w) (Nat.le_refl _) W D _ _ (by omega) hK rfl rfl)⟩
  case stop =>
    rintro D c pre W _ _ h _
    exact h.elim
end Go.Proofs.YtdjhgjnhfmggjabGreatDoor.S1
