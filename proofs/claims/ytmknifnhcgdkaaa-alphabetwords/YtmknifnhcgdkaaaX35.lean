/-
  Plain mathematics of Load: first blocks that are counted as they come, none left over, no two alike; the parts of bytes. trie.Trie.counted, unlike. trie.Load: the trie that bytes are.
-/
import Derived.Test.YtmknifnhcgdkaaaX31
import Derived.Test.YtmknifnhcgdkaaaX32
namespace Go.Proofs.Ytmknifnhcgdkaaa.S3
open Go.RowKit
set_option linter.unusedVariables false

def ByL (l : List Int) : Prop := ∀ x ∈ l, 0 ≤ x ∧ x ≤ 255
/-- Counted as they come. -/
def cntFrom : Int → List Int → Option Int
  | m, [] => some m
  | m, n :: l => if m < n then none else if n = m then cntFrom (m + 1) l else cntFrom m l
def cnt1 (m n : Int) : Option Int := if m < n then none else if n = m then some (m + 1) else some m
theorem cnt_snoc : ∀ (l : List Int) (m n : Int), cntFrom m (l ++ [n]) = (cntFrom m l).bind (fun k => cnt1 k n)
  | [], m, n => by
    show cntFrom m [n] = cnt1 m n
    unfold cntFrom cnt1
    split
    · rfl
    · split <;> rfl
  | x :: l, m, n => by
    show cntFrom m (x :: (l ++ [n])) = _
    unfold cntFrom
    split
    · rfl
    · split
      · exact cnt_snoc l (m + 1) n
      · exact cnt_snoc l m n
theorem cnt_none : ∀ (l t : List Int) (m : Int), cntFrom m l = none → cntFrom m (l ++ t) = none
  | [], t, m, h => by cases h
  | x :: l, t, m, h => by
    unfold cntFrom at h
    show cntFrom m (x :: (l ++ t)) = none
    unfold cntFrom
    by_cases q : m < x
    · rw [if_pos q]
    · rw [if_neg q] at h ⊢
      by_cases q2 : x = m
      · rw [if_pos q2] at h ⊢; exact cnt_none l t (m + 1) h
      · rw [if_neg q2] at h ⊢; exact cnt_none l t m h
theorem cnt_bounds : ∀ (l : List Int) (m k : Int), cntFrom m l = some k → m ≤ k ∧ k ≤ m + l.length ∧ ∀ x ∈ l, x < k
  | [], m, k, h => by
    obtain rfl : m = k := by simpa [cntFrom] using h
    exact ⟨Int.le_refl _, by simp, fun x hx => by cases hx⟩
  | x :: l, m, k, h => by
    unfold cntFrom at h
    by_cases q : m < x
    · rw [if_pos q] at h; cases h
    · rw [if_neg q] at h
      by_cases q2 : x = m
      · rw [if_pos q2] at h
        obtain ⟨h1, h2, h3⟩ := cnt_bounds l (m + 1) k h
        refine ⟨by omega, by simp; omega, fun y hy => ?_⟩
        rcases List.mem_cons.1 hy with e | e
        · rw [e]; omega
        · exact h3 y e
      · rw [if_neg q2] at h
        obtain ⟨h1, h2, h3⟩ := cnt_bounds l m k h
        refine ⟨by omega, by simp; omega, fun y hy => ?_⟩
        rcases List.mem_cons.1 hy with e | e
        · rw [e]; omega
        · exact h3 y e
/-- The numbers of likeOf are counted as they come. -/
theorem cnt_like (bs : List (List Int)) : ∀ i, i ≤ bs.length → cntFrom 0 (((likeOf bs).take i).map (fun k : Nat => (k : Int))) = some ((firstsOf (bs.take i)).length : Int)
  | 0, _ => by simp [cntFrom, firstsOf, firstsF]
  | i + 1, h => by
    have hi : i < bs.length := h
    have hl : i < (likeOf bs).length := by rw [like_length]; exact hi
    obtain ⟨h1, h2⟩ := firsts_step hi
    rw [List.take_succ_eq_append_getElem hl, List.map_append, List.map_cons, List.map_nil, cnt_snoc, cnt_like bs i (by omega), h2, h1]
    show cnt1 _ _ = _
    unfold cnt1
    by_cases q : bs[i] ∈ firstsOf (bs.take i)
    · have e1 : addF (firstsOf (bs.take i)) bs[i] = firstsOf (bs.take i) := addF_of_mem q
      have e2 := List.idxOf_lt_length_of_mem q
      rw [e1, if_neg (by omega), if_neg (by omega)]
    · have e1 : (addF (firstsOf (bs.take i)) bs[i]).idxOf bs[i] = (firstsOf (bs.take i)).length := idx_addF q
      have e2 : (addF (firstsOf (bs.take i)) bs[i]).length = (firstsOf (bs.take i)).length + 1 := by rw [addF_new q]; simp
      rw [e1, e2, if_neg (by omega), if_pos rfl]
      rfl

/-- The parts of bytes. -/
def cntL (l : List Int) : Nat := (l[0]?.getD 0).toNat + 1
def likeL (l : List Int) : List Int := (l.drop 1).take 4352
def blkL (l : List Int) (i : Nat) : List Int := (l.drop (4353 + 256 * i)).take 256
def firstL (l : List Int) : List (List Int) := (List.range (cntL l)).map (blkL l)
def lenL (l : List Int) : Prop := l ≠ [] ∧ l.length = 4353 + 256 * cntL l
def okL (l : List Int) : Prop := lenL l ∧ cntFrom 0 (likeL l) = some (cntL l : Int) ∧ (firstsOf (firstL l)).length = cntL l
theorem firstL_length (l : List Int) : (firstL l).length = cntL l := by unfold firstL; rw [List.length_map, List.length_range]
theorem likeL_length {l : List Int} (h : lenL l) : (likeL l).length = 4352 := by
  unfold likeL
  rw [List.length_take, List.length_drop, h.2]; omega
theorem blkL_length {l : List Int} (h : lenL l) {i : Nat} (hi : i < cntL l) : (blkL l i).length = 256 := by
  unfold blkL
  rw [List.length_take, List.length_drop, h.2]
  have : 256 * (i + 1) ≤ 256 * cntL l := Nat.mul_le_mul_left 256 hi
  omega
theorem ByL.take {l : List Int} (h : ByL l) (n : Nat) : ByL (l.take n) := fun x hx => h x (List.mem_of_mem_take hx)
theorem ByL.drop {l : List Int} (h : ByL l) (n : Nat) : ByL (l.drop n) := fun x hx => h x (List.mem_of_mem_drop hx)
theorem firstL_isB {l : List Int} (h : lenL l) (hb : ByL l) : ∀ b ∈ firstL l, IsB b := fun b hm => by
  obtain ⟨i, hi, rfl⟩ := List.mem_map.1 hm
  exact ⟨blkL_length h (List.mem_range.1 hi), (hb.drop _).take _⟩
theorem cntL_le {l : List Int} (hb : ByL l) : cntL l ≤ 256 := by
  unfold cntL
  cases h : l[0]? with
  | none => simp
  | some x =>
    have := hb x (List.mem_of_getElem? h)
    simp only [Option.getD_some]
    omega
theorem fineL {l : List Int} (hb : ByL l) (h : okL l) : Fine (likeL l) (firstL l) where
  len := likeL_length h.1
  lt := fun x hx => by
    have h1 := (cnt_bounds _ _ _ h.2.1).2.2 x hx
    have h2 := ((hb.drop 1).take 4352) x hx
    rw [firstL_length]
    exact ⟨h2.1, h1⟩
  isB := firstL_isB h.1 hb
  pos := by rw [firstL_length]; unfold cntL; omega
  le := by rw [firstL_length]; exact cntL_le hb
theorem flat_blks (l : List Int) : ∀ n, ((List.range n).map (blkL l)).flatten = (l.drop 4353).take (256 * n)
  | 0 => by simp
  | n + 1 => by
    rw [List.range_succ, List.map_append, List.flatten_append, flat_blks l n]
    have e : blkL l n = ((l.drop 4353).drop (256 * n)).take 256 := by unfold blkL; rw [List.drop_drop]
    simp only [List.map_cons, List.map_nil, List.flatten_cons, List.flatten_nil, List.append_nil]
    rw [e, Nat.mul_add, Nat.mul_one, List.take_add]
/-- What is loaded is saved as it stood there. -/
theorem raw_back {l : List Int} (hb : ByL l) (h : lenL l) : rawSave (likeL l) (firstL l) = l := by
  unfold rawSave
  rw [firstL_length]
  unfold firstL
  rw [flat_blks, List.take_of_length_le (by rw [List.length_drop, h.2]; omega)]
  cases l with
  | nil => exact absurd rfl h.1
  | cons x t =>
    have hx := hb x (by simp)
    have e1 : ((cntL (x :: t) : Nat) : Int) - 1 = x := by
      unfold cntL
      simp only [List.getElem?_cons_zero, Option.getD_some]
      omega
    have e2 : likeL (x :: t) = t.take 4352 := rfl
    have e3 : (x :: t).drop 4353 = t.drop 4352 := rfl
    rw [e1, e2, e3, List.take_append_drop]
theorem nodup_firsts {F : List (List Int)} : F.Nodup → firstsOf F = F := by
  have key : ∀ (F acc : List (List Int)), (acc ++ F).Nodup → firstsF acc F = acc ++ F := by
    intro F
    induction F with
    | nil => intro acc _; simp [firstsF]
    | cons b F ih =>
      intro acc h
      have hb : ¬ b ∈ acc := by
        intro q
        have := List.nodup_append.1 h
        exact this.2.2 b q b (by simp) rfl
      show firstsF (addF acc b) F = _
      rw [addF_new hb, ih (acc ++ [b]) (by simpa using h)]
      simp
  intro h
  exact (key F [] (by simpa using h)).trans (by simp)
/-- What was saved is loaded. -/
theorem saved_parts {bs : List (List Int)} (he : Even bs) (hl : bs.length = 4352) : cntL (saveL bs) = (firstsOf bs).length ∧ likeL (saveL bs) = (likeOf bs).map (fun k : Nat => (k : Int)) ∧ firstL (saveL bs) = firstsOf bs ∧ lenL (saveL bs) := by
  have hp : 1 ≤ (firstsOf bs).length := firsts_pos (fun e => by rw [e] at hl; simp at hl)
  have hc : cntL (saveL bs) = (firstsOf bs).length := by
    unfold cntL saveL
    simp only [List.getElem?_cons_zero, Option.getD_some]
    omega
  have h2 : likeL (saveL bs) = (likeOf bs).map (fun k : Nat => (k : Int)) := by
    unfold likeL saveL
    rw [List.drop_succ_cons, List.drop_zero, List.take_append_of_le_length (by rw [List.length_map, like_length, hl]; omega), List.take_of_length_le (by rw [List.length_map, like_length, hl]; omega)]
  refine ⟨hc, h2, ?_, ⟨(fun e => by unfold saveL at e; cases e), by rw [save_length he hl, hc]⟩⟩
  unfold firstL
  rw [hc]
  apply List.ext_getElem
  · rw [List.length_map, List.length_range]
  · intro i h3 h4
    rw [List.getElem_map, List.getElem_range]
    exact save_block he hl h4
theorem okL_save {bs : List (List Int)} (he : Even bs) (hl : bs.length = 4352) : okL (saveL bs) := by
  obtain ⟨h1, h2, h3, h4⟩ := saved_parts he hl
  refine ⟨h4, ?_, ?_⟩
  · rw [h1, h2]
    have := cnt_like bs bs.length (Nat.le_refl _)
    rw [List.take_of_length_le (by rw [like_length]; exact Nat.le_refl _), List.take_length] at this
    exact this
  · rw [h3, nodup_firsts (firsts_nodup bs), h1]
end Go.Proofs.Ytmknifnhcgdkaaa.S3

namespace Go.Proofs.Ytmknifnhcgdkaaa.S3
open Go.RowKit
set_option linter.unusedVariables false

theorem Try.undL8 : Try.prog.underlying 94 = some (.array 4352 5) := by kernel_rfl


/-- len in a region that draws its order. -/
theorem yields_len {P : Program} {ops : Array Oper} {S : World → Prop} {op : Oper} {a : Act} (hw : Region.wanted op (yielded ops a.tmps) = true) {t : TypeId} {m : Operand} (ho : op.op = .call { callee := .builtin .len, args := #[m], argTypes := #[t] }) {mv res : Value}
    (hm : a.eval m = mv) (hS : ∀ w, S w → ∀ ty, (Builtin.len_ #[t] ty #[mv]).run P w = .ok res w) : YieldsIf P ops S op res a :=
  .inl ⟨hw, fun w hw' => by
    have h := hS w hw' op.type
    unfold execOp
    simp [ho, resolve, invoke, builtin, hm, h, Result.andThen]⟩
/-- What the map of unlike says. -/
def Kn (D : DataW Unit) (F : List (List Int)) : Prop := ∀ b, IsB b → (Maps.has D (kB b) = true ↔ b ∈ F)
theorem kn_put {D : DataW Unit} {F : List (List Int)} {b : List Int} (d : DataW Unit) (hD : Maps.IsMap D) (h : Kn D F) (hb : IsB b) : Kn (D.put (kB b) d) (F ++ [b]) := fun x hx => by
  by_cases e : x = b
  · subst e
    simp [Maps.has_put_same hD (kB_key _)]
  · have hne : kB x ≠ kB b := fun q => e (Try.kB_inj hx hb q)
    rw [Maps.has_put_other hne, h x hx]
    simp [e]

end Go.Proofs.Ytmknifnhcgdkaaa.S3

namespace Go.Proofs.Ytmknifnhcgdkaaa.S3
open Go.RowKit
set_option linter.unusedVariables false

def okLb (l : List Int) : Bool := decide (l ≠ []) && decide (l.length = 4353 + 256 * cntL l) && decide (cntFrom 0 (likeL l) = some (cntL l : Int)) && decide ((firstsOf (firstL l)).length = cntL l)
theorem okLb_iff {l : List Int} : okLb l = true ↔ okL l := by
  unfold okLb okL lenL
  simp [and_assoc]
def errL (l : List Int) : Int := if okLb l = true then 0 else 2

theorem wpList_make_full {P : Program} (w : World) {ops : Array Oper} {rest : List Oper} {o : Oper} {a : Act} {Q : Exit → Act → World → Prop} (hgd : o.guard = none) (x y : Operand) (t : TypeId) (hop : o.op = Op.makeSlice t x y)
    (e : TypeId) (i : TypeInfo) (z : Value) (h1 : P.underlying t = some (.slice e)) (h2 : P.info? e = some i) (h3 : i.zero = some z) (n : Nat) (hx : a.eval x = .int .i64 (n : Int)) (hy : a.eval y = .int .i64 (n : Int)) (b2 : i.bytes * n ≤ 281474976710656) (b3 : n ≤ maxLen)
    (h : wpList P ops Q rest (a.put o.dst (.slice (some ⟨w.heap.size, 0, none⟩) n n)) (w.alloc (.cells (madeCells z.cells (n * i.size)) e))) : wpList P ops Q (o :: rest) a w := by
  refine wpList_plain hgd fun K hK' => ?_
  have hrun := run_make (P := P) w t e i z h1 h2 h3 .i64 .i64 (n : Int) (n : Int) (by omega) (by omega) (by
    have : ((i.bytes * n : Nat) : Int) ≤ 281474976710656 := by omega
    simpa using this) (by unfold maxLen at b3; omega)
  simp only [Int.toNat_natCast] at hrun
  have h2 := hK' _ _ h
  unfold Oper.wp
  simp [execOp, hop, hx, hy, hrun, Result.andThen]
  exact h2
theorem wp_copy_run {P : Program} {o : Oper} {a : Act} {w w' : World} {K : Act → World → Prop} {Q : Exit → Act → World → Prop} (x y : Operand) (dT sT : TypeId) (ho : o.op = .call { callee := .builtin .copy, args := #[x, y], argTypes := #[dT, sT] }) (xv yv res : Value)
    (hx : a.eval x = xv) (hy : a.eval y = yv) (hrun : ∀ ty, (Builtin.copy_ #[dT, sT] ty #[xv, yv]).run P w = .ok res w') (h : K (a.put o.dst res) w') : o.wp P a w K Q := by
  have hr := hrun o.type
  unfold Oper.wp
  simp [execOp, ho, resolve, invoke, builtin, hx, hy, hr, Result.andThen]
  exact h
def zeros8 : List Int := List.replicate 4352 0
theorem zeros8_length : zeros8.length = 4352 := by unfold zeros8; rw [List.length_replicate]
theorem trCells_zeros (v : Value) : trCells zeros8 v = List.replicate 4352 (Value.int .u8 0) ++ [v] := by unfold trCells zeros8 i8; rw [List.map_replicate]

end Go.Proofs.Ytmknifnhcgdkaaa.S3
