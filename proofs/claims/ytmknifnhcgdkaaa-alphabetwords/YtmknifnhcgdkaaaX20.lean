/-
  The draft in memory: which block each is like, the blocks, and where each stands. Whole values laid into new memory: a slice of one array; a struct with one field.
-/
import Derived.Test.YtmknifnhcgdkaaaX19
namespace Go.Proofs.Ytmknifnhcgdkaaa.S3
open Go.RowKit
set_option linter.unusedVariables false

/-- 256 bytes. -/
def IsB (b : List Int) : Prop := b.length = 256 ∧ ∀ x ∈ b, 0 ≤ x ∧ x ≤ 255
/-- A block as the key of a map. -/
def kB (b : List Int) : Lit := .string (keyBytes (b.map (Lit.int .u8)))

theorem mapM_some {α β : Type} (f : α → Option β) (g : α → β) : ∀ (l : List α), (∀ x ∈ l, f x = some (g x)) → l.mapM f = some (l.map g)
  | [], _ => rfl
  | x :: l, h => by
    rw [List.mapM_cons, h x (by simp), mapM_some f g l (fun y hy => h y (by simp [hy]))]
    rfl
theorem wf_u8 {x : Int} (h : 0 ≤ x ∧ x ≤ 255) : (Lit.int .u8 x).wf = true := by
  have e1 : IntKind.u8.min = 0 := by decide
  have e2 : IntKind.u8.max = 255 := by decide
  simp [Lit.wf, e1, e2]
  omega
theorem flat_one {β : Type} : ∀ (l : List β), (l.map fun x => [x]).flatten = l
  | [] => rfl
  | x :: l => by rw [List.map_cons, List.flatten_cons, flat_one l]; rfl

set_option maxRecDepth 100000 in
theorem Try.keyBlock {b : List Int} (h : IsB b) : keyOf Try.prog 93 (.agg (i8 b).toArray) = some (kB b) := by
  have hs : (i8 b).toArray.size = 256 := by rw [List.size_toArray, i8_length, h.1]
  have hl : (i8 b).length = 256 := by rw [i8_length, h.1]
  unfold keyOf
  rw [Try.undB]
  have hf : (Value.agg (i8 b).toArray).formed Try.prog 93 = true := by
    show (match Try.prog.underlying 93 with | some (.struct _) | some (.array _ _) => (i8 b).toArray.size == Try.prog.cellsOf 93 | _ => false) = true
    rw [Try.undB, Try.cellsB, hs]
    rfl
  simp only [Try.keyTypeC, hf, Bool.and_self, if_true]
  have hu : ∀ d, ∀ x ∈ b, Try.prog.keyLits (d + 1) 5 [Value.int .u8 x] = some [Lit.int .u8 x] := fun d x hx => by
    unfold Program.keyLits
    rw [Try.undU]
    simp only [wf_u8 (h.2 x hx), and_self, if_true]
  have hk : ∀ d, Try.prog.keyLits (d + 2) 93 (i8 b) = some (b.map (Lit.int .u8)) := fun d => by
    unfold Program.keyLits
    rw [Try.undB]
    simp only [Try.cellsB, Try.cellsU, hl, if_true, Nat.mul_one]
    rw [mapM_some _ (fun i => [Lit.int .u8 (b[i]?.getD 0)]) _ (fun i hi => ?_)]
    · rw [Option.map_some]
      congr 1
      have e : (List.range 256).map (fun i => [Lit.int .u8 (b[i]?.getD 0)]) = (b.map (Lit.int .u8)).map (fun x => [x]) := by
        apply List.ext_getElem
        · simp [h.1]
        · intro i h1 h2
          have hib : i < b.length := by simpa using h2
          simp [hib]
      rw [e, flat_one]
    · have hib : i < b.length := by have := List.mem_range.1 hi; rw [h.1]; exact this
      have e : ((i8 b).drop i).take 1 = [Value.int .u8 b[i]] := by
        rw [List.drop_eq_getElem_cons (by rw [i8_length]; exact hib)]
        simp [i8]
      rw [e, List.getElem?_eq_getElem hib]
      exact hu d _ (List.getElem_mem hib)
  have e2 : ∃ d, Try.prog.types.size + 1 = d + 2 := ⟨Try.prog.types.size - 1, by have := of_decide_eq_true Try.typesPos; omega⟩
  obtain ⟨d, hd⟩ := e2
  rw [hd]
  show Option.map _ (Try.prog.keyLits (d + 2) 93 (i8 b).toArray.toList) = _
  rw [List.toList_toArray, hk]
  rfl
theorem i8_inj {a b : List Int} (h : i8 a = i8 b) : a = b := by
  unfold i8 at h
  exact (List.map_inj_right (fun x y e => by cases e; rfl)).1 h
theorem Try.kB_inj {a b : List Int} (ha : IsB a) (hb : IsB b) (h : kB a = kB b) : a = b := by
  have h1 := Try.keyBlock ha
  have h2 := Try.keyBlock hb
  rw [← h] at h2
  have := Try.keyLawB.inj h1 h2
  have e : (i8 a).toArray = (i8 b).toArray := by simpa using this
  exact i8_inj (by simpa using e)
theorem kB_key (b : List Int) : WideAt.IsKeyLit (kB b) := trivial

/-- The cells of blocks. -/
def cellsBl (bl : List (List Int)) : List Value := i8 bl.flatten
theorem cellsBl_snoc (bl : List (List Int)) (b : List Int) : cellsBl (bl ++ [b]) = cellsBl bl ++ i8 b := by simp [cellsBl, i8]
theorem cellsBl_length {bl : List (List Int)} (h : Even bl) : (cellsBl bl).length = bl.length * 256 := by
  unfold cellsBl; rw [i8_length, flat_length h]; omega
theorem i8_append (a b : List Int) : i8 (a ++ b) = i8 a ++ i8 b := by simp [i8]
theorem i8_drop (a : List Int) (n : Nat) : (i8 a).drop n = i8 (a.drop n) := by simp [i8]
theorem i8_take (a : List Int) (n : Nat) : (i8 a).take n = i8 (a.take n) := by simp [i8]
/-- The cells of the i-th block. -/
theorem cellsBl_at {bl : List (List Int)} (h : Even bl) {i : Nat} (hi : i < bl.length) {j : Nat} {u : Value} (hj : (i8 bl[i])[j]? = some u) : (cellsBl bl)[i * 256 + j]? = some u := by
  have hj' : j < 256 := by
    have := (List.getElem?_eq_some_iff.1 hj).1
    rw [i8_length, h _ (List.getElem_mem hi)] at this
    exact this
  have e := flat_block h i hi
  rw [← e] at hj
  unfold cellsBl
  rw [← i8_take, ← i8_drop, List.getElem?_take, if_pos hj', List.getElem?_drop, Nat.mul_comm] at hj
  exact hj

/-- The cells of the draft. -/
def drCells (like : List Nat) (v : Value) (gm : Nat) : List Value := like.map (fun k : Nat => Value.int .i64 (k : Int)) ++ [v, .map (some gm)]
/-- What the map of the draft says of blocks. -/
def Knows (D : DataW Unit) (bl : List (List Int)) : Prop :=
  (∀ b, IsB b → (Maps.has D (kB b) = true ↔ b ∈ bl)) ∧ ∀ b ∈ bl, D.atKey (kB b) (.lit (.int .i64 0)) = .lit (.int .i64 (bl.idxOf b : Nat))
/-- The draft at block gd, all its blocks from n on. -/
def DrAt (n : Nat) (w : World) (gd : Nat) (like : List Nat) (bl : List (List Int)) : Prop :=
  ∃ gm v D, n ≤ gd ∧ n ≤ gm ∧ like.length = 4352 ∧ bl.Nodup ∧ (∀ b ∈ bl, IsB b) ∧ w.heap[gd]? = some (.cells (drCells like v gm).toArray 116 (0, 0)) ∧
    w.ownsRow n 93 256 v bl.length (cellsBl bl) ∧ w.ownsMap Try.prog 93 (plainElem Try.prog 3) gm bl.length D ∧ Knows D bl

theorem isB_even {bl : List (List Int)} (h : ∀ b ∈ bl, IsB b) : Even bl := fun b hb => (h b hb).1
theorem idx_addF {bl : List (List Int)} {b : List Int} (hn : ¬ b ∈ bl) : (addF bl b).idxOf b = bl.length := by
  unfold addF; rw [if_neg hn, List.idxOf_append, if_neg hn]; simp
theorem addF_of_mem {bl : List (List Int)} {b : List Int} (hn : b ∈ bl) : addF bl b = bl := by unfold addF; rw [if_pos hn]
theorem addF_new {bl : List (List Int)} {b : List Int} (hn : ¬ b ∈ bl) : addF bl b = bl ++ [b] := by unfold addF; rw [if_neg hn]
theorem addF_len (bl : List (List Int)) (b : List Int) : (addF bl b).length ≤ bl.length + 1 := by
  unfold addF; split <;> simp

theorem knows_put {D : DataW Unit} {bl : List (List Int)} {b : List Int} (hD : Maps.IsMap D) (h : Knows D bl) (hb : IsB b) (hbl : ∀ x ∈ bl, IsB x) (hn : ¬ b ∈ bl) : Knows (D.put (kB b) (.lit (.int .i64 (bl.length : Nat)))) (bl ++ [b]) := by
  constructor
  · intro x hx
    by_cases e : x = b
    · subst e
      simp [Maps.has_put_same hD (kB_key _)]
    · have hne : kB x ≠ kB b := fun q => e (Try.kB_inj hx hb q)
      rw [Maps.has_put_other hne, h.1 x hx]
      simp [e]
  · intro x hx
    by_cases e : x = b
    · subst e
      rw [Maps.atKey_put_same hD (kB_key _), List.idxOf_append, if_neg hn]
      simp
    · have hx' : x ∈ bl := by
        rcases List.mem_append.1 hx with q | q
        · exact q
        · exact absurd (List.mem_singleton.1 q) e
      have hne : kB x ≠ kB b := fun q => e (Try.kB_inj (hbl x hx') hb q)
      rw [Maps.atKey_put_other hne, h.2 x hx', List.idxOf_append, if_pos hx']

theorem look_run {P : Program} {w : World} {t k e : TypeId} {q : IntKind} {b n : Nat} {D : DataW Unit} (h : w.ownsMap P k (plainElem P e) b n D) (K : Maps.Keyed P k) (ht : P.underlying t = some (.map k e)) (he : P.underlying e = some (.int q)) (hz : (zeroValue e).run P w = .ok (.int q 0) w)
    {key : Value} {kl : Lit} (hkey : keyOf P k key = some kl) {c : Int} (hat : D.atKey kl (.lit (.int q 0)) = .lit (.int q c)) :
    (Instr.lookup t (.map (some b)) key true).run P w = .ok (.tuple #[.int q c, .bool (Maps.has D kl)]) w := by
  have hw0 : (Lit.int q 0).wf = true := by cases q <;> decide
  obtain ⟨v, ps, hrun, hv⟩ := h.look_ok K ht hz (plainElem_int he hw0) hkey
  obtain ⟨c', rfl, hc, hwc⟩ := plainElem_int_inv he hv
  simp only [Prod.mk.injEq] at hc
  rw [hat] at hc
  have : c = c' := by simpa using hc.1
  rw [this]
  exact hrun
theorem Try.zeroInt (w : World) : (zeroValue 3).run Try.prog w = .ok (.int .i64 0) w := by
  refine (zero_of_info (n := 1) ?_).1 w
  have := Try.infoInt
  revert this
  cases Try.prog.info? 3 with
  | none => intro h; cases h
  | some i => intro h; simp only [Option.map_some, Option.some.injEq, Prod.mk.injEq] at h ⊢; exact ⟨h.1, h.2.1⟩
/-- A look-up in a region that draws its order. -/
theorem yields_lookup {P : Program} {ops : Array Oper} {S : World → Prop} {op : Oper} {a : Act} (hw : Region.wanted op (yielded ops a.tmps) = true) {t : TypeId} {m x : Operand} (ho : op.op = .lookup t m x true) {mv key res : Value}
    (hm : a.eval m = mv) (hx : a.eval x = key) (hS : ∀ w, S w → (Instr.lookup t mv key true).run P w = .ok res w) : YieldsIf P ops S op res a :=
  .inl ⟨hw, fun w hw' => by
    unfold execOp
    simp [ho, hm, hx, hS w hw', Result.andThen]⟩
end Go.Proofs.Ytmknifnhcgdkaaa.S3

namespace Go.Proofs.Ytmknifnhcgdkaaa.S3
open Go.RowKit
set_option linter.unusedVariables false

theorem set_fold (off : Nat) : ∀ (l : List Value) (k : Nat) (A : Array Value), ((l.zipIdx k).foldl (fun (cs : Array Value) (p : Value × Nat) => cs.setIfInBounds (off + p.2) p.1) A).size = A.size ∧
    ∀ i, ((l.zipIdx k).foldl (fun (cs : Array Value) (p : Value × Nat) => cs.setIfInBounds (off + p.2) p.1) A)[i]? = if off + k ≤ i ∧ i < off + k + l.length ∧ i < A.size then l[i - (off + k)]? else A[i]?
  | [], k, A => by
    refine ⟨rfl, fun i => ?_⟩
    rw [if_neg (by simp; omega)]
    rfl
  | x :: l, k, A => by
    obtain ⟨h1, h2⟩ := set_fold off l (k + 1) (A.setIfInBounds (off + k) x)
    rw [List.zipIdx_cons, List.foldl_cons]
    refine ⟨by rw [h1]; simp, fun i => ?_⟩
    rw [h2 i]
    simp only [Array.size_setIfInBounds, List.length_cons]
    by_cases q : i = off + k
    · subst q
      rw [if_neg (by omega)]
      by_cases q2 : off + k < A.size
      · rw [if_pos (by omega), Array.getElem?_setIfInBounds_self_of_lt q2]
        simp
      · rw [if_neg (by omega), Array.getElem?_eq_none (by simp; omega), Array.getElem?_eq_none (by omega)]
    · by_cases q2 : off + (k + 1) ≤ i ∧ i < off + (k + 1) + l.length ∧ i < A.size
      · rw [if_pos q2, if_pos (by omega)]
        have e : i - (off + k) = (i - (off + (k + 1))) + 1 := by omega
        rw [e, List.getElem?_cons_succ]
      · rw [if_neg q2, if_neg (by omega), Array.getElem?_setIfInBounds_ne (by omega)]

theorem fill_whole (cs A : Array Value) (h : A.size = cs.size) : cs.zipIdx.foldl (fun (c : Array Value) (p : Value × Nat) => c.setIfInBounds (0 + p.2) p.1) A = cs := by
  obtain ⟨l⟩ := cs
  have h0 := set_fold 0 l 0 A
  have e : (⟨l⟩ : Array Value).zipIdx.foldl (fun (c : Array Value) (p : Value × Nat) => c.setIfInBounds (0 + p.2) p.1) A = (l.zipIdx 0).foldl (fun (c : Array Value) (p : Value × Nat) => c.setIfInBounds (0 + p.2) p.1) A := by
    simp
  rw [e]
  apply Array.ext_getElem?
  intro i
  rw [h0.2 i]
  have hs : A.size = l.length := h
  by_cases q : i < A.size
  · rw [if_pos (by omega)]
    simp
  · rw [if_neg (by omega), Array.getElem?_eq_none (by omega), Array.getElem?_eq_none (by simp; omega)]

/-- A slice of one array. -/
theorem run_buildSlice_one {P : Program} (w : World) {t e : TypeId} {i : TypeInfo} (cs z : Array Value) (ht : P.underlying t = some (.slice e)) (hi : P.info? e = some i) (hs : i.size = cs.size) (hz : i.zero = some (.agg z)) (hzs : z.size = cs.size) (h0 : 0 < cs.size) (hb : cs.size ≤ 16777216) :
    (Instr.buildSlice t 1 #[(0, .agg cs)]).run P w = .ok (.slice (some ⟨w.heap.size, 0, none⟩) 1 1) (w.alloc (.cells cs e)) := by
  have h1 : ¬ (i.size > 16777216) := by omega
  have h2 : i.size ≠ 0 := by omega
  have hmap : ((Array.range i.size).map (fun x => z[x % z.size]!)).size = cs.size := by simp [hs]
  have hf := fill_whole cs ((Array.range i.size).map (fun x => z[x % z.size]!)) hmap
  have hfill : Instr.fill (fun k => some (k * i.size, i.size)) ((Array.range i.size).map (fun x => z[x % z.size]!)) [(0, Value.agg cs)] = some cs := by
    unfold Instr.fill
    simp only [Nat.zero_mul, Value.cells]
    rw [if_neg (by simp [hs])]
    unfold Instr.fill
    congr 1
  simp [Instr.buildSlice, run_underlying ht, sizeOf, typeInfo, zeroValue, hi, hz, h2, Value.cells, Result.andThen, hfill, newRow, Nat.one_mul]
  omega
theorem wp_mapUpdate_run {P : Program} {o : Oper} {a : Act} {w w' : World} {K : Act → World → Prop} {Q : Exit → Act → World → Prop} (t : TypeId) (m x v : Operand) (ho : o.op = .mapUpdate t m x v) (mv key val : Value)
    (hm : a.eval m = mv) (hx : a.eval x = key) (hv : a.eval v = val) (hrun : (Instr.mapUpdate t mv key val).run P w = .ok () w') (h : K (a.put o.dst undef) w') : o.wp P a w K Q := by
  unfold Oper.wp
  simp [execOp, ho, hm, hx, hv, hrun, Result.andThen]
  exact h
theorem wp_buildSlice_run {P : Program} {o : Oper} {a : Act} {w w' : World} {K : Act → World → Prop} {Q : Exit → Act → World → Prop} (t : TypeId) (x : Operand) (ho : o.op = .buildSlice t 1 #[(0, x)]) (xv res : Value)
    (hx : a.eval x = xv) (hrun : (Instr.buildSlice t 1 #[(0, xv)]).run P w = .ok res w') (h : K (a.put o.dst res) w') : o.wp P a w K Q := by
  unfold Oper.wp
  simp [execOp, ho, hx, hrun, Result.andThen]
  exact h
end Go.Proofs.Ytmknifnhcgdkaaa.S3
