/-
  Memory of states, where the texts of stages 10 to 12 are at hand: what they do not have.
-/
import Derived.Test.YtklhjjgnhigbiaaGreatDoorGA
import Derived.Test.YtklhjjgnhigbiaaGreatDoorFlAut
import Derived.Test.YtklhjjgnhigbiaaGreatDoorGB
import Derived.Test.YtklhjjgnhigbiaaGreatDoorGC
import Derived.Test.YtklhjjgnhigbiaaGreatDoorFlLaw
import Derived.Test.YtklhjjgnhigbiaaGreatDoorGJ
import Derived.Test.YtklhjjgnhigbiaaGreatDoorFlRStep
import Derived.Test.YtklhjjgnhigbiaaGreatDoorGH
import Derived.Test.YtklhjjgnhigbiaaGreatDoorGK
import Derived.Test.YtklhjjgnhigbiaaGreatDoorGG
import Derived.Below
import Derived.Deep.RegionLaw
import Derived.Deep.CutRange
import Derived.Shelf.Abstract
import Derived.WalkKit
import Derived.WalkSpells
import Derived.OwnWalk
import Derived.Outline
import Derived.Deep.RegionHeld3
import Derived.Laws.AppendOwnNone
import Derived.Maps.AppendAt
import Derived.Deep.AppendLies
import Derived.Laws.Rows
import Derived.BigQuiet
import Derived.Lib.OwnBridge
import Derived.Laws.Bits64b
import Derived.Lib.AppendZeros
import Derived.Lib.SliceRun
import Derived.Laws.ResultCell
import Derived.Maps.OwnSet
import Derived.Maps.Views
namespace Go.Proofs.YtklhjjgnhigbiaaGreatDoor
open Go.RowKit
set_option linter.unusedVariables false

theorem drewN_heap (w : World) : ∀ k, (w.drewN k).heap = w.heap
  | 0 => rfl
  | k + 1 => drewN_heap w.drew k
theorem IntsAt.drewN {w : World} {v : Value} {l : List Int} (h : IntsAt w v l) (k : Nat) : IntsAt (w.drewN k) v l := h.below (below_drewN' (Below.refl _ _) k)
theorem LstAt.blk {hi : Nat} {w w' : World} {v : Value} {l : List Nat} (h : LstAt hi w v l) (hk : ∀ (k : Nat) (cs : Array Value) (fr : Nat × Nat), v.ownBlock = some k → w.heap[k]? = some (.cells cs 3 fr) → w'.heap[k]? = w.heap[k]?) : LstAt hi w' v l := by
  obtain ⟨a, c, e, hc, hn, hx⟩ := h
  refine ⟨a, c, e, hc, hn, fun h0 => ?_⟩
  obtain ⟨g, off, cs', fr', e2, q1, q2, q3⟩ := hx h0
  exact ⟨g, off, cs', fr', e2, q1, (hk g cs' fr' (by rw [e, e2]; rfl) q2).trans q2, q3⟩
theorem typ_ne {w : World} {k : Nat} {c1 c2 : Array Value} {t1 t2 : TypeId} {f1 f2 : Nat × Nat} (h1 : w.heap[k]? = some (.cells c1 t1 f1)) (h2 : w.heap[k]? = some (.cells c2 t2 f2)) : t1 = t2 := by
  rw [h1] at h2
  injection h2 with h2
  injection h2 with _ h2 _
theorem drewN_add' (b a : Nat) (w : World) : (w.drewN a).drewN b = w.drewN (a + b) := by simp [World.drewN, Nat.add_assoc]
theorem upI_inj {a b : List Nat} (h : upI a = upI b) : a = b := by
  unfold upI at h
  refine List.map_inj_right (fun x y e => ?_) |>.1 h
  exact Int.ofNat.inj e
theorem own_empty12 (w : World) (base e size : Nat) (hb : base ≤ w.heap.size) : (w.alloc (.cells #[] e)).ownsRow base e size (.slice (some ⟨w.heap.size, 0, none⟩) 0 0) 0 [] :=
  ⟨by simp, .inr ⟨w.heap.size, 0, #[], rfl, hb, heap_new' w _, Nat.le_refl _, by unfold maxLen; omega, by simp, by simp⟩⟩
theorem wp_append_src12 {P : Program} (w : World) {o : Oper} {a : Act} {K : Act → World → Prop} {Q : Exit → Act → World → Prop} (s x : Operand) (t : TypeId)
    (ho : o.op = .call { callee := .builtin .append, args := #[s, x], argTypes := #[t, t] })
    (base : Nat) (e : TypeId) (i : TypeInfo) (z : Value) (size bytes : Nat) (ht : P.underlying t = some (.slice e)) (hi : P.info? e = some i) (hz : i.zero = some z)
    (hsize : i.size = size) (hby : i.bytes = bytes) (hzs : z.cells.size = size) (hsz : 0 < size)
    (v : Value) (n : Nat) (xs : List Value) (hs : a.eval s = v) (hown : w.ownsRow base e size v n xs) (y : Value) (hx : a.eval x = y)
    (m : Nat) (news : List Value) (hsrc : SrcIs w y m size news) (h63 : n + m ≤ maxLen) (hbytes : (n + m) * bytes ≤ 140737488355328) (hbase : base ≤ w.heap.size)
    (h : ∀ v' w', w'.ownsRow base e size v' (n + m) (xs ++ news) → w.grownBy w' v.ownBlock → K (a.put o.dst v') w') : o.wp P a w K Q := by
  subst hx
  rcases hsrc with ⟨hx, rfl, rfl⟩ | ⟨ad, c, hx, hl, hc, h1⟩
  · have hrun := run_append_owned_none (P := P) (w := w) base t o.type e i size ht hi v n xs hown
    have h2 := h v w (by simpa using hown) ⟨rfl, rfl, rfl, Nat.le_refl _, fun _ _ _ => rfl⟩
    unfold Oper.wp
    simp [execOp, ho, resolve, invoke, builtin, hs, hx, hrun, Result.andThen]
    exact h2
  · exact wp_append_own w s x t ho base e i z size bytes ht hi hz hsize hby hzs hsz v n xs hs hown ad m c news hx hl hc h1 h63 hbytes hbase (fun v' w' h2 h3 _ => h v' w' h2 h3)
/-- As an operation of a region that draws its order. -/
theorem step_append_src12 {P : Program} (w : World) {ops : Array Oper} {o : Oper} {a : Act} {K : Act → World → Prop} {Q : Exit → Act → World → Prop} {E : Prop} (hgd : o.guard = none) (s x : Operand) (t : TypeId)
    (ho : o.op = .call { callee := .builtin .append, args := #[s, x], argTypes := #[t, t] })
    (base : Nat) (e : TypeId) (i : TypeInfo) (z : Value) (size bytes : Nat) (ht : P.underlying t = some (.slice e)) (hi : P.info? e = some i) (hz : i.zero = some z)
    (hsize : i.size = size) (hby : i.bytes = bytes) (hzs : z.cells.size = size) (hsz : 0 < size)
    (v : Value) (n : Nat) (xs : List Value) (hs : a.eval s = v) (hown : w.ownsRow base e size v n xs) (y : Value) (hx : a.eval x = y)
    (m : Nat) (news : List Value) (hsrc : SrcIs w y m size news) (h63 : n + m ≤ maxLen) (hbytes : (n + m) * bytes ≤ 140737488355328) (hbase : base ≤ w.heap.size)
    (h : ∀ v' w', w'.ownsRow base e size v' (n + m) (xs ++ news) → w.grownBy w' v.ownBlock → K (a.put o.dst v') w') : if Region.wanted o (yielded ops a.tmps) = true then Oper.wp P o a w K Q else E := by
  have hw : Region.wanted o (yielded ops a.tmps) = true := by simp [Region.wanted, hgd]
  rw [if_pos hw]
  exact wp_append_src12 w s x t ho base e i z size bytes ht hi hz hsize hby hzs hsz v n xs hs hown y hx m news hsrc h63 hbytes hbase h
theorem cellI_one (l : List Int) : ∀ u ∈ cellI l, u.oneCell' = true := fun u hu => by
  obtain ⟨n, _, rfl⟩ := List.mem_map.1 hu
  rfl
theorem IntsAt.src {w : World} {v : Value} {l : List Int} (h : IntsAt w v l) : SrcIs w v l.length 1 (cellI l) := by
  obtain ⟨a, cap, rfl, hc, hn, hi⟩ := h
  cases a with
  | none =>
    have h0 : l = [] := by
      cases l with
      | nil => rfl
      | cons x l => obtain ⟨g, off, e, _⟩ := hi 0 (by simp); cases e
    subst h0
    exact .inl ⟨by rw [hn rfl]; rfl, rfl, rfl⟩
  | some ad =>
    refine .inr ⟨ad, cap, rfl, by simp [cellI], fun j u hj => ?_, cellI_one l⟩
    have hlt : j < l.length := by
      have := (List.getElem?_eq_some_iff.1 hj).1
      simpa [cellI] using this
    obtain ⟨g', off', e, _, hcell⟩ := hi j hlt
    cases e
    rw [addr_add, hcell]
    simp only [cellI, List.getElem?_map, List.getElem?_eq_getElem hlt, Option.map_some] at hj
    exact hj
theorem two_ints {w : World} {base : Nat} {v : Value} {a b : List Int} (h : w.ownsRow base 3 1 v (0 + a.length + b.length) ([] ++ cellI a ++ cellI b)) : IntsAt w v (a ++ b) := by
  refine ints_of_row (base := base) ?_
  have e : cellI (a ++ b) = cellI a ++ cellI b := by simp [cellI]
  rw [List.nil_append, Nat.zero_add] at h
  rw [e, List.length_append]
  exact h
/-- Running through both lists, and through one behind the other. -/
theorem run_app (N : List (List Int)) (x : Int) (a b : List Int) : runD N x (a ++ b) = runD N (runD N x a) b := by
  unfold runD; rw [List.foldl_append]
theorem parts_run (N : List (List Int)) (F : List Bool) (a b : List Int) :
    (runE N F 0 (a ++ b) = 1 ∧ runE N F 0 a = 1) ∨ (runE N F 0 (a ++ b) = 1 ∧ runE N F 0 a = 0 ∧ runE N F (runV N F 0 a) b = 1) ∨ (runE N F 0 (a ++ b) = 0 ∧ runE N F 0 a = 0 ∧ runE N F (runV N F 0 a) b = 0 ∧ runV N F 0 (a ++ b) = runV N F (runV N F 0 a) b) := by
  have hE : ∀ x l, runE N F x l = if runOk N F x l = true then 0 else 1 := fun _ _ => rfl
  have hV : ∀ x l, runV N F x l = if runOk N F x l = true then runD N x l else 0 := fun _ _ => rfl
  have hall : (a ++ b).all (inB (N.getD 0 []).length) = (a.all (inB (N.getD 0 []).length) && b.all (inB (N.getD 0 []).length)) := List.all_append
  cases h1 : runOk N F 0 a with
  | false =>
    left
    have h0 : runOk N F 0 (a ++ b) = false := by
      unfold runOk at h1 ⊢
      rw [hall]
      revert h1
      cases rightD N F <;> cases inB N.length 0 <;> cases a.all (inB (N.getD 0 []).length) <;> simp
    rw [hE, hE, h0, h1]
    exact ⟨rfl, rfl⟩
  | true =>
    right
    have h1' := h1
    unfold runOk at h1
    rw [Bool.and_eq_true, Bool.and_eq_true] at h1
    obtain ⟨⟨r, i⟩, al⟩ := h1
    have hv : runV N F 0 a = runD N 0 a := by rw [hV, if_pos h1']
    have hin : inB N.length (runD N 0 a) = true := run_inB r a 0 i al
    cases hb : b.all (inB (N.getD 0 []).length) with
    | false =>
      left
      have h0 : runOk N F 0 (a ++ b) = false := by unfold runOk; rw [hall, hb]; simp
      have h2 : runOk N F (runV N F 0 a) b = false := by unfold runOk; rw [hb]; simp
      rw [hE, hE, hE, h0, h1', h2]
      exact ⟨rfl, rfl, rfl⟩
    | true =>
      right
      have h0 : runOk N F 0 (a ++ b) = true := by unfold runOk; rw [hall, hb, r, i, al]; rfl
      have h2 : runOk N F (runV N F 0 a) b = true := by unfold runOk; rw [hb, r, hv, hin]; rfl
      rw [hE, hE, hE, h0, h1', h2]
      refine ⟨rfl, rfl, rfl, ?_⟩
      rw [hV _ b, if_pos h2, hV _ (a ++ b), if_pos h0, hv, run_app]
theorem dfa_parts {w : World} {dv : Value} {N : List (List Int)} {F : List Bool} (h : DfaAt w dv N F) : ∃ na nc fa fc, dv = .agg #[.slice na N.length nc, .slice fa F.length fc] ∧ N.length ≤ nc ∧ F.length ≤ fc ∧
    (∀ i, (h : i < N.length) → ∃ g off x, na = some ⟨g, off, none⟩ ∧ g < w.heap.size ∧ w.cell? ⟨g, off + i, none⟩ = some x ∧ IntsAt w x N[i]) ∧ (∀ i, (h : i < F.length) → ∃ g off, fa = some ⟨g, off, none⟩ ∧ g < w.heap.size ∧ w.cell? ⟨g, off + i, none⟩ = some (.bool F[i])) := by
  obtain ⟨nv, fv, rfl, ⟨a, cap, rfl, hc, hn, hx⟩, fa, fc, rfl, hfc, hf0, hfx⟩ := h
  exact ⟨a, cap, fa, fc, rfl, hc, hfc, hx, hfx⟩
end Go.Proofs.YtklhjjgnhigbiaaGreatDoor
