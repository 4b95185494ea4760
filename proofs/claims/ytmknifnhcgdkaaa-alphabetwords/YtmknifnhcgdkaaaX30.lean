/-
  Entries that came in: what the walks are told of them. More of regions that draw their order: two operations that may come up; what stands behind them said once; append from whatever slice.
-/
import Derived.Test.YtmknifnhcgdkaaaX29
import Derived.WalkKit
import Derived.ProofKit
import Derived.OpenShut
import Derived.ChangeOld
import Derived.Below
import Derived.SizedLaws
import Derived.Deep.SlicePairs
import Derived.Deep.Strs
namespace Go.Proofs.Ytmknifnhcgdkaaa.S3
open Go.ChangeShapes Go.WideShapes Go.ChangeAt Go.RowKit Go.Deep
set_option linter.unusedVariables false

theorem own : ownKnob Try.prog.godebug = none := by kernel_rfl
theorem laidOut : laidOutB Try.prog = true := by kernel_rfl
theorem cell_some_lt {w : World} {a : Addr} {v : Value} (h : w.cell? a = some v) : a.block < w.heap.size := by
  rcases Nat.lt_or_ge a.block w.heap.size with q | q
  · exact q
  · simp [World.cell?, Array.getElem?_eq_none q] at h
/-- What is appended: nothing, of a nil slice; or the cells news. -/
def SrcIs (w : World) (x : Value) (m size : Nat) (news : List Value) : Prop :=
  (x = .slice none 0 0 ∧ m = 0 ∧ news = []) ∨ ∃ ad c, x = .slice (some ad) m c ∧ news.length = m * size ∧ (∀ j u, news[j]? = some u → w.cell? (ad.add j) = some u) ∧ ∀ u ∈ news, u.oneCell' = true
theorem SrcIs.below {w w' : World} {x : Value} {m size : Nat} {news : List Value} (h : SrcIs w x m size news) (hb : Below w.heap.size w w') : SrcIs w' x m size news := by
  rcases h with h | ⟨ad, c, e, hl, hc, h1⟩
  · exact .inl h
  · refine .inr ⟨ad, c, e, hl, fun j u hj => ?_, h1⟩
    have := hc j u hj
    rw [hb.cell (cell_some_lt this)]
    exact this
theorem addr_add (g off j : Nat) : (⟨g, off, none⟩ : Addr).add j = ⟨g, off + j, none⟩ := by unfold Addr.add; split <;> simp_all
theorem byte_of_wf {x : Int} (h : (Lit.int .u8 x).wf = true) : 0 ≤ x ∧ x ≤ 255 := by
  have e1 : IntKind.u8.min = 0 := by decide
  have e2 : IntKind.u8.max = 255 := by decide
  simp [Lit.wf, e1, e2] at h
  omega
theorem Try.cellsProp : Try.prog.cellsOf 66 = 3 := by kernel_rfl

/- A struct of an int, an int and a byte is an entry. -/
set_option maxRecDepth 100000 in
theorem open_cells {H : Type} {enc : TypeId × Value → H} {W : World} {base : Nat} {sp : Nat → Bool} {held : Bool} {n : Nat} {cs : List Value} {x : DataW H × List MemPlace}
    (h : DataW.trod enc Try.prog W base sp held n 66 cs = some x) : ∃ p : Pp, cs = cellsP p ∧ (Lit.int .i64 p.lo).wf = true ∧ (Lit.int .i64 p.hi).wf = true ∧ (Lit.int .u8 p.v).wf = true ∧ x = (.agg [.lit (.int .i64 p.lo), .lit (.int .i64 p.hi), .lit (.int .u8 p.v)], []) := by
  obtain ⟨y0, y1, y2, m, rfl, hlen, t0, t1, t2⟩ := trod_struct3 Try.underlying66 h
  rw [Try.cellsProp] at hlen
  match cs, hlen with
  | [v0, v1, v2], _ =>
    have c1 : Try.prog.cellsOf 3 = 1 := by kernel_rfl
    have c5 : Try.prog.cellsOf 5 = 1 := by kernel_rfl
    simp only [c1, c5, List.drop_zero, List.drop_succ_cons, List.take_succ_cons, List.take_zero] at t0 t1 t2
    obtain ⟨n0, e0, f0, w0⟩ := DataW.trod_int Try.underlying3 t0
    obtain ⟨n1, e1, f1, w1⟩ := DataW.trod_int Try.underlying3 t1
    obtain ⟨n2, e2, f2, w2⟩ := DataW.trod_int Try.underlying5 t2
    obtain rfl : v0 = .int .i64 n0 := by simpa using e0
    obtain rfl : v1 = .int .i64 n1 := by simpa using e1
    obtain rfl : v2 = .int .u8 n2 := by simpa using e2
    exact ⟨⟨n0, n1, n2⟩, rfl, w0, w1, w2, by rw [f0, f1, f2]; rfl⟩

theorem open_props {H : Type} {enc : TypeId × Value → H} {W : World} {a : Option Addr} {len cap : Nat} {d : DataW H} {p : List MemPlace}
    (h : DataW.Trod enc Try.prog W 0 (fun _ => true) true 62 (.slice a len cap) d p) :
    ∃ l : List Pp, l.length = len ∧ PropsIn W (.slice a len cap) l ∧ Bytes l ∧ SrcIs W (.slice a len cap) l.length 3 (cellsPs l) ∧ ((d = .nil ∧ len = 0) ∨ ∃ es sp, d = .slice es sp ∧ es.length = len) := by
  obtain ⟨fuel, hf⟩ := h
  rcases open_slice Try.underlying62 hf with ⟨hcs, hx⟩ | ⟨x, l, c, m, n, D, Pl, hcs, _, hl, hm, hmm, hx, hcell⟩
  · simp [Value.cells] at hcs
    obtain ⟨rfl, rfl, rfl⟩ := hcs
    exact ⟨[], rfl, ⟨none, 0, rfl, Nat.le_refl _, (fun i hi => by cases hi)⟩, (fun p hp => by cases hp), .inl ⟨rfl, rfl, rfl⟩, .inl ⟨(Prod.mk.inj hx).1, rfl⟩⟩
  · simp [Value.cells] at hcs
    obtain ⟨rfl, rfl, rfl⟩ := hcs
    have hmc : m = cap := by simpa using hmm
    subst hmc
    rw [Try.cellsProp] at hcell
    have hz : ∀ i, i < m → ∃ q : Int × Int × Int, (W.cell? (x.add (i * 3)) = some (.int .i64 q.1) ∧ W.cell? (x.add (i * 3 + 1)) = some (.int .i64 q.2.1) ∧ W.cell? (x.add (i * 3 + 2)) = some (.int .u8 q.2.2)) ∧ 0 ≤ q.2.2 ∧ q.2.2 ≤ 255 := fun i hi => by
      obtain ⟨cs', h1, h2⟩ := hcell i hi
      obtain ⟨p, rfl, w0, w1, w2, _⟩ := open_cells h2
      obtain ⟨_, hlen, hc⟩ := World.cells?_some h1
      have e0 := hc 0 (by omega)
      have e1 := hc 1 (by omega)
      have e2 := hc 2 (by omega)
      rw [Deep.add_add] at e0 e1 e2
      exact ⟨(p.lo, p.hi, p.v), ⟨by simpa [cellsP] using e0, by simpa [cellsP] using e1, by simpa [cellsP] using e2⟩, byte_of_wf w2⟩
    obtain ⟨q, hq⟩ := choose_lt hz
    obtain ⟨b, off, spot⟩ := x
    have hlen : ((List.range len).map fun i => (⟨(q i).1, (q i).2.1, (q i).2.2⟩ : Pp)).length = len := by simp
    have hget : ∀ i, (h : i < ((List.range len).map fun i => (⟨(q i).1, (q i).2.1, (q i).2.2⟩ : Pp)).length) → ((List.range len).map fun i => (⟨(q i).1, (q i).2.1, (q i).2.2⟩ : Pp))[i] = ⟨(q i).1, (q i).2.1, (q i).2.2⟩ := fun i h => by simp
    have hsp : 0 < len → spot = none := fun h0 => by
      have hc0 := (hq 0 (by omega)).1.1
      simpa [Addr.add] using World.cell?_spot hc0
    have hps : PropsIn W (.slice (some ⟨b, off, spot⟩) len m) ((List.range len).map fun i => (⟨(q i).1, (q i).2.1, (q i).2.2⟩ : Pp)) := by
      refine ⟨_, m, by rw [hlen], by rw [hlen]; exact hl, fun i hi => ?_⟩
      rw [hlen] at hi
      obtain rfl := hsp (by omega)
      obtain ⟨⟨c0, c1, c2⟩, _⟩ := hq i (by omega)
      rw [addr_add] at c0 c1 c2
      rw [hget i (by rw [hlen]; exact hi)]
      exact ⟨b, off, rfl, cell_some_lt c0, c0, by rw [Nat.add_assoc]; exact c1, by rw [Nat.add_assoc]; exact c2⟩
    refine ⟨_, hlen, hps, fun p hp => ?_, .inr ⟨_, m, by rw [hlen], by rw [cellsPs_length], fun j u hj => ?_, cellsPs_one _⟩, .inr ⟨_, _, (Prod.mk.inj hx).1, by simp⟩⟩
    · obtain ⟨i, hi, rfl⟩ := List.mem_map.1 hp
      exact (hq i (by have := List.mem_range.1 hi; omega)).2
    · have hjl : j < len * 3 := by
        have := (List.getElem?_eq_some_iff.1 hj).1
        rwa [cellsPs_length, hlen] at this
      have hlt : j / 3 < len := by omega
      have hxx := cellsPs_at ((List.range len).map fun i => (⟨(q i).1, (q i).2.1, (q i).2.2⟩ : Pp)) (j / 3) (j % 3) (by rw [hlen]; exact hlt) (by omega)
      have e1 : j / 3 * 3 + j % 3 = j := by omega
      rw [e1, hj, hget _ (by rw [hlen]; exact hlt)] at hxx
      obtain ⟨⟨c0, c1, c2⟩, _⟩ := hq (j / 3) (by omega)
      have hm3 : j % 3 = 0 ∨ j % 3 = 1 ∨ j % 3 = 2 := by omega
      rcases hm3 with z | z | z
      · rw [z] at hxx
        have e : j / 3 * 3 = j := by omega
        rw [e] at c0
        rw [c0]
        simpa [cellsP] using hxx.symm
      · rw [z] at hxx
        have e : j / 3 * 3 + 1 = j := by omega
        rw [e] at c1
        rw [c1]
        simpa [cellsP] using hxx.symm
      · rw [z] at hxx
        have e : j / 3 * 3 + 2 = j := by omega
        rw [e] at c2
        rw [c2]
        simpa [cellsP] using hxx.symm
/-- An entry by value. -/
theorem open_prop {H : Type} {enc : TypeId × Value → H} {W : World} {v : Value} {d : DataW H} {p : List MemPlace} (hv : ∃ cs, v = .agg cs)
    (h : DataW.Trod enc Try.prog W 0 (fun _ => true) true 66 v d p) : ∃ q : Pp, v = .agg #[.int .i64 q.lo, .int .i64 q.hi, .int .u8 q.v] ∧ 0 ≤ q.v ∧ q.v ≤ 255 := by
  obtain ⟨cs, rfl⟩ := hv
  obtain ⟨n, hn⟩ := h
  obtain ⟨q, e, _, _, w2, _⟩ := open_cells hn
  refine ⟨q, ?_, byte_of_wf w2⟩
  have : cs.toList = cellsP q := by simpa [Value.cells] using e
  rw [← Array.toArray_toList (xs := cs), this]
  rfl
theorem bytes_prop : Try.prog.bytesOf 66 = 24 := by kernel_rfl
end Go.Proofs.Ytmknifnhcgdkaaa.S3

namespace Go.Proofs.Ytmknifnhcgdkaaa.S3
open Go.RowKit
set_option linter.unusedVariables false

section
variable {P : Program} {ops : Array Oper} {Q : Exit → Act → World → Prop} {md : Region.Mode} {S : World → Prop} {bad : List Nat}
theorem abs_region {fuel : Nat} {listed : Array Bool} {a : Act} {w : World} (h : ∀ ops' Q', ops' = ops → Q' = Q → wpAnyB P md ops' Q' S bad fuel listed a w) : wpAnyB P md ops Q S bad fuel listed a w := h ops Q rfl rfl
/-- Numbers i and j may come up. -/
theorem wpAnyB_two {i j : Nat} {o o' : Oper} {fuel : Nat} {listed : Array Bool} {a : Act} {w : World} (ho : ops[i]? = some o) (ho' : ops[j]? = some o') (hr : (Region.ready md ops listed == [i, j]) = true)
    (h : ∀ K' : Act → World → Prop, Shut (∀ a w, S w → wpAnyB P md ops Q S bad fuel (listed.setIfInBounds i true) a w → K' a w) → if Region.wanted o (yielded ops a.tmps) = true then Oper.wp P o a w K' Q else K' (a.put o.dst undef) w)
    (h' : ∀ K' : Act → World → Prop, Shut (∀ a w, S w → wpAnyB P md ops Q S bad fuel (listed.setIfInBounds j true) a w → K' a w) → if Region.wanted o' (yielded ops a.tmps) = true then Oper.wp P o' a w K' Q else K' (a.put o'.dst undef) w) : wpAnyB P md ops Q S bad (fuel + 1) listed a w := by
  have hr' : Region.ready md ops listed = [i, j] := by simpa using hr
  refine ⟨fun h0 => (by rw [hr'] at h0; cases h0), fun k hk => ?_⟩
  rw [hr'] at hk
  rcases List.mem_cons.1 hk with rfl | hk
  · exact wpOp_step ho (fun K' hK => h K' (fun a w hS hW => hK a w ⟨fun _ => hS, hW⟩))
  · obtain rfl := List.mem_singleton.1 hk
    exact wpOp_step ho' (fun K' hK => h' K' (fun a w hS hW => hK a w ⟨fun _ => hS, hW⟩))
end

theorem wp_append_src {P : Program} (w : World) {o : Oper} {a : Act} {K : Act → World → Prop} {Q : Exit → Act → World → Prop} (s x : Operand) (t : TypeId)
    (ho : o.op = .call { callee := .builtin .append, args := #[s, x], argTypes := #[t, t] })
    (base : Nat) (e : TypeId) (i : TypeInfo) (z : Value) (size bytes : Nat) (ht : P.underlying t = some (.slice e)) (hi : P.info? e = some i) (hz : i.zero = some z)
    (hsize : i.size = size) (hby : i.bytes = bytes) (hzs : z.cells.size = size) (hsz : 0 < size)
    (v : Value) (n : Nat) (xs : List Value) (hs : a.eval s = v) (hown : w.ownsRow base e size v n xs) (y : Value) (hx : a.eval x = y)
    (m : Nat) (news : List Value) (hsrc : SrcIs w y m size news) (h63 : n + m ≤ maxLen) (hbytes : (n + m) * bytes ≤ 140737488355328) (hbase : base ≤ w.heap.size)
    (h : ∀ v' w', w'.ownsRow base e size v' (n + m) (xs ++ news) → w.grownBy w' v.ownBlock → K (a.put o.dst v') w') : o.wp P a w K Q := by
  subst hx
  rcases hsrc with ⟨hx, rfl, rfl⟩ | ⟨ad, c, hx, hl, hc, h1⟩
  · have hrun := run_append_owned_none (P := P) (w := w) base t o.type e i size ht hi v n xs hown
    have h2 := h v w (by simpa using hown) ⟨rfl, rfl, rfl, Nat.le_refl _, fun _ _ _ => rfl⟩
    unfold Oper.wp
    simp [execOp, ho, resolve, invoke, builtin, hs, hx, hrun, Result.andThen]
    exact h2
  · exact wp_append_own w s x t ho base e i z size bytes ht hi hz hsize hby hzs hsz v n xs hs hown ad m c news hx hl hc h1 h63 hbytes hbase (fun v' w' h2 h3 _ => h v' w' h2 h3)
/-- An empty slice. -/
theorem run_buildSlice_none {P : Program} (w : World) {t e : TypeId} {i : TypeInfo} (ht : P.underlying t = some (.slice e)) (hi : P.info? e = some i) :
    (Instr.buildSlice t 0 #[]).run P w = .ok (.slice (some ⟨w.heap.size, 0, none⟩) 0 0) (w.alloc (.cells #[] e)) := by
  simp [Instr.buildSlice, run_underlying ht, sizeOf, typeInfo, hi, Instr.fill, newRow, Result.andThen]
  congr 2
  apply Array.ext <;> simp
theorem wp_buildSlice_none {P : Program} {o : Oper} {a : Act} {w w' : World} {K : Act → World → Prop} {Q : Exit → Act → World → Prop} (t : TypeId) (ho : o.op = .buildSlice t 0 #[]) (res : Value)
    (hrun : (Instr.buildSlice t 0 #[]).run P w = .ok res w') (h : K (a.put o.dst res) w') : o.wp P a w K Q := by
  unfold Oper.wp
  simp [execOp, ho, hrun, Result.andThen]
  exact h
theorem owns_empty (w : World) (base e size : Nat) (hb : base ≤ w.heap.size) : (w.alloc (.cells #[] e)).ownsRow base e size (.slice (some ⟨w.heap.size, 0, none⟩) 0 0) 0 [] :=
  ⟨by simp, .inr ⟨w.heap.size, 0, #[], rfl, hb, heap_new' w _, Nat.le_refl _, by unfold maxLen; omega, by simp, by simp⟩⟩
theorem firstB_nil : (firstB []).length ≤ 1 := by
  have h := says_zero
  have := firsts_le (bs := blocksF (valP [])) (m := [zeroB]) (fun x hx => by
    obtain ⟨k, hk, rfl⟩ := List.mem_map.1 hx
    obtain ⟨m, h1, h2⟩ := h.2 k (List.mem_range.1 hk)
    exact List.mem_of_getElem? h2)
  exact this
theorem firstB_le : ∀ (l : List Pp), (firstB l).length ≤ 1 + 3 * l.length := by
  intro l
  refine snoc_ind (P := fun l => (firstB l).length ≤ 1 + 3 * l.length) (by have := firstB_nil; simpa using this) (fun l x ih => ?_) l
  have := blocks_more l x
  rw [List.length_append]
  simp only [List.length_cons, List.length_nil]
  unfold firstB at ih ⊢
  omega
/-- Few entries: Build fails just where one is no entry. -/
theorem errB_small {l : List Pp} (h : l.length ≤ 80) : errB l = if l.all good1 = true then 0 else 1 := by
  have := firstB_le l
  unfold errB
  rw [if_neg (by omega)]
  cases q : l.all good1 with
  | false => simp
  | true => rw [if_neg (by simp), if_neg (by omega)]; simp
end Go.Proofs.Ytmknifnhcgdkaaa.S3
