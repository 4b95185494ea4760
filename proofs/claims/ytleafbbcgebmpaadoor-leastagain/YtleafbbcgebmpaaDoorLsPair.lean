/-
  Pairs of states as the keys of a map, and how they were met.
-/
import Derived.Test.YtleafbbcgebmpaaDoorLsRev
import Derived.DeepKeys4
import Derived.MapViews
import Derived.Carry
namespace Go.Proofs.YtleafbbcgebmpaaDoor
open Go.RowKit Go.Shelf
set_option linter.unusedVariables false

theorem Tryd.undInt13 : Tryd.prog.underlying 3 = some (.int .i64) := by kernel_rfl
theorem Tryd.undPair : Tryd.prog.underlying 67 = some (.array 2 3) := by kernel_rfl
theorem Tryd.undPMap : Tryd.prog.underlying 68 = some (.map 67 74) := by kernel_rfl
theorem Tryd.laidOut13 : laidOutB Tryd.prog = true := by kernel_rfl
theorem Tryd.rowPair : (67 : TypeId) < Tryd.prog.types.size := of_decide_eq_true (by kernel_rfl)
theorem Tryd.widePair : (match Tryd.prog.underlying 67 with | some (.array _ _) | some (.struct _) => true | _ => false) = true := by rw [Tryd.undPair]
set_option maxRecDepth 100000 in
theorem Tryd.keyLawPair : Go.WideMaps.KeyLaw Tryd.prog 67 := deep_law_laid Tryd.laidOut13 (m := 2) (by omega) Tryd.rowPair (by kernel_rfl) Tryd.widePair
theorem Tryd.keyPair : Maps.Keyed Tryd.prog 67 := Maps.Keyed.of_law Tryd.keyLawPair
theorem Tryd.cellsPair : Tryd.prog.cellsOf 67 = 2 := by kernel_rfl
theorem Tryd.cellsInt13 : Tryd.prog.cellsOf 3 = 1 := by kernel_rfl
theorem Tryd.zeroStep13 (w : World) : (zeroValue 74).run Tryd.prog w = .ok (.agg #[.int .i64 0, .int .i64 0, .int .i64 0]) w := Tryd.zeroValue74 w

def prV (a b : Nat) : Value := .agg #[.int .i64 (a : Int), .int .i64 (b : Int)]
def stV (a b c : Nat) : Value := .agg #[.int .i64 (a : Int), .int .i64 (b : Int), .int .i64 (c : Int)]
def klP (a b : Nat) : Lit := .string (keyBytes [.int .i64 (a : Int), .int .i64 (b : Int)])
def stD (a b c : Nat) : DataW Unit := .agg [.lit (.int .i64 (a : Int)), .lit (.int .i64 (b : Int)), .lit (.int .i64 (c : Int))]
def stR : Value → Option (DataW Unit × List MemPlace)
  | .agg cs => match cs.toList with
    | [.int .i64 a, .int .i64 b, .int .i64 c] => some (.agg [.lit (.int .i64 a), .lit (.int .i64 b), .lit (.int .i64 c)], [])
    | _ => none
  | _ => none
theorem stR_mk (a b c : Nat) : stR (stV a b c) = some (stD a b c, []) := rfl
theorem stR_inv {v : Value} {a b c : Nat} {ps : List MemPlace} (h : stR v = some (stD a b c, ps)) : v = stV a b c := by
  unfold stR at h
  split at h
  · rename_i cs
    split at h
    · rename_i x y z e
      simp only [stD, Option.some.injEq, Prod.mk.injEq, DataW.agg.injEq, List.cons.injEq, DataW.lit.injEq, Lit.int.injEq, true_and, and_true] at h
      obtain ⟨⟨rfl, rfl, rfl⟩, _⟩ := h
      show Value.agg cs = Value.agg _
      congr 1
      exact Array.toList_inj.1 e
    · cases h
  · cases h
theorem wf_nat {a : Nat} (h : a ≤ 1000000) : (Lit.int .i64 (a : Int)).wf = true := WalkArith.wf_i64 (by omega)
theorem Tryd.keyOfPair {a b : Nat} (ha : a ≤ 1000000) (hb : b ≤ 1000000) : keyOf Tryd.prog 67 (prV a b) = some (klP a b) := by
  have h1 : Tryd.prog.keyType 67 = true := by kernel_rfl
  have h2 : (prV a b).formed Tryd.prog 67 = true := by simp [prV, Value.formed, Tryd.cellsPair]
  have wa := wf_nat ha
  have wb := wf_nat hb
  obtain ⟨z, hz⟩ : ∃ z, z = Tryd.prog.types.size := ⟨_, rfl⟩
  obtain ⟨m, hm⟩ : ∃ m, z = m + 1 := ⟨z - 1, by have h5 : 0 < Tryd.prog.types.size := Nat.lt_of_le_of_lt (Nat.zero_le _) Tryd.rowPair; rw [← hz] at h5; exact (Nat.succ_pred_eq_of_pos h5).symm⟩
  have k0 : ∀ x : Nat, (Lit.int .i64 (x : Int)).wf = true → Tryd.prog.keyLits z 3 [.int .i64 (x : Int)] = some [.int .i64 (x : Int)] := fun x hx => by
    rw [hm]
    unfold Program.keyLits
    simp only [Tryd.undInt13]
    rw [if_pos ⟨trivial, hx⟩]
  have k1 : Tryd.prog.keyLits (z + 1) 67 [.int .i64 (a : Int), .int .i64 (b : Int)] = some [.int .i64 (a : Int), .int .i64 (b : Int)] := by
    unfold Program.keyLits
    simp only [Tryd.undPair]
    rw [if_pos (by rw [Tryd.cellsPair]; rfl)]
    simp [List.range_succ, Tryd.cellsInt13, k0 a wa, k0 b wb]
  unfold keyOf
  simp only [Tryd.undPair]
  rw [if_pos (by rw [h1, h2]; rfl), ← hz]
  show (Tryd.prog.keyLits (z + 1) 67 [.int .i64 (a : Int), .int .i64 (b : Int)]).map _ = _
  rw [k1]
  rfl
theorem klP_inj {a b a' b' : Nat} (ha : a ≤ 1000000) (hb : b ≤ 1000000) (ha' : a' ≤ 1000000) (hb' : b' ≤ 1000000) (h : klP a b = klP a' b') : a = a' ∧ b = b' := by
  have := Tryd.keyPair.inj (Tryd.keyOfPair ha hb) (by rw [h]; exact Tryd.keyOfPair ha' hb')
  simp only [prV, Value.agg.injEq] at this
  have h2 := congrArg Array.toList this
  simp at h2
  exact ⟨by omega, by omega⟩
theorem Tryd.eqPair (a b c d : Int) (w : World) : (Op.equalIn 10000 67 (.agg #[.int .i64 a, .int .i64 b]) (.agg #[.int .i64 c, .int .i64 d])).run Tryd.prog w = .ok (a == c && b == d) w := by
  have u3 := Tryd.underlying3
  have a3 := Tryd.isAgg3
  have z3 := Tryd.sizeOf3
  rw [show (10000 : Nat) = 9999 + 1 from rfl, Op.equalIn]
  simp only [Sem.run_bind, run_underlying Tryd.undPair, Result.andThen_ok]
  simp only [Std.Legacy.Range.forIn_eq_forIn_range', Std.Legacy.Range.size, Nat.sub_zero, Nat.add_sub_cancel, Nat.div_one, List.range'_succ, List.range'_zero, List.forIn_cons, List.forIn_nil]
  go_simp
  by_cases h1 : a = c <;> by_cases h2 : b = d <;> simp [h1, h2]
theorem Tryd.field1St (a b c : Int) (w : World) : (Instr.field 74 (.agg #[.int .i64 a, .int .i64 b, .int .i64 c]) 1).run Tryd.prog w = .ok (.int .i64 c) w := by
  have a3 := Tryd.isAgg3
  have z3 := Tryd.sizeOf3
  unfold Instr.field
  simp only [Sem.run_bind, run_underlying Tryd.underlying74, Result.andThen_ok]
  go_simp
  rfl
theorem Tryd.field0St (a b c : Int) (w : World) : (Instr.field 74 (.agg #[.int .i64 a, .int .i64 b, .int .i64 c]) 0).run Tryd.prog w = .ok (.agg #[.int .i64 a, .int .i64 b]) w := by
  have a3 := Tryd.isAgg67
  have z3 := Tryd.sizeOf67
  unfold Instr.field
  simp only [Sem.run_bind, run_underlying Tryd.underlying74, Result.andThen_ok]
  go_simp
  rfl
/-- The map knows how pairs were met. -/
def KnP (D : DataW Unit) (Q : List Ent) : Prop := ∀ e ∈ Q, ∀ u c, e.w = u ++ [c] → ∃ e' ∈ Q, e'.w = u ∧ D.atKey (klP e.a e.b) (stD 0 0 0) = stD e'.a e'.b c
theorem KnP.put {D : DataW Unit} {Q : List Ent} (hD : Maps.IsMap D) (h : KnP D Q) {x e : Ent} {c : Nat} (hx : x ∈ Q) (he : e.w = x.w ++ [c]) (hn : ∀ y ∈ Q, ¬ (y.a = e.a ∧ y.b = e.b)) (hb : ∀ y ∈ Q, y.a ≤ 1000000 ∧ y.b ≤ 1000000) (hbe : e.a ≤ 1000000 ∧ e.b ≤ 1000000) : KnP (D.put (klP e.a e.b) (stD x.a x.b c)) (Q ++ [e]) := by
  have hkl : WideAt.IsKeyLit (klP e.a e.b) := trivial
  intro y hy u d hw
  rcases List.mem_append.1 hy with q | q
  · obtain ⟨e', h1, h2, h3⟩ := h y q u d hw
    refine ⟨e', List.mem_append_left _ h1, h2, ?_⟩
    rw [Maps.atKey_put_other, h3]
    intro e2
    exact hn y q (klP_inj (hb y q).1 (hb y q).2 hbe.1 hbe.2 e2)
  · have hy2 := List.mem_singleton.1 q
    subst hy2
    rw [he] at hw
    have h1 := List.append_inj' hw rfl
    have h2 : c = d := by simpa using h1.2
    subst h2
    refine ⟨x, List.mem_append_left _ hx, h1.1, ?_⟩
    rw [Maps.atKey_put_same hD hkl]
def lenV : Value → Nat
  | .slice _ n _ => n
  | _ => 0

set_option maxRecDepth 100000 in
set_option maxHeartbeats 8000000 in
theorem between_any (Q : List Ent) (x : Ent) (mb m : Nat) (D : DataW Unit) (w : World) (hx : x ∈ Q) (hm : w.ownsMap Tryd.prog 67 stR mb m D) (hK : KnP D Q) (h0 : ∀ e ∈ Q, e.w = [] ↔ e.a = 0 ∧ e.b = 0) (hb : ∀ y ∈ Q, y.a ≤ 1000000 ∧ y.b ≤ 1000000 ∧ ∀ c ∈ y.w, c ≤ 1000000) (hl : x.w.length ≤ 100000) :
    Calls Tryd.prog 37 #[.agg #[.int .i64 0, .int .i64 0], prV x.a x.b, .map (some mb)] w fun e w' => ∃ v, e = .returned v ∧ IntsAt w' v (upI x.w) ∧ Below w.heap.size w w' := by
  obtain ⟨iI, hiI, hzI0, hzI1, hzI2⟩ := info_parts Tryd.infoInt
  have HX : Hid (x ∈ Q) := hx
  have HM : Hid (w.ownsMap Tryd.prog 67 stR mb m D) := hm
  have HK : Hid (KnP D Q) := hK
  have H0 : Hid (∀ e ∈ Q, e.w = [] ↔ e.a = 0 ∧ e.b = 0) := h0
  have HB : Hid (∀ y ∈ Q, y.a ≤ 1000000 ∧ y.b ≤ 1000000 ∧ ∀ c ∈ y.w, c ≤ 1000000) := hb
  obtain ⟨W0, hW0⟩ : ∃ W, W = (w.alloc (.cells #[.int .i64 0, .int .i64 0] 67)).alloc (.cells #[.int .i64 (x.a : Int), .int .i64 (x.b : Int)] 67) := ⟨_, rfl⟩
  have HW0 : Hid (W0 = _) := hW0
  obtain ⟨k0, k1, kb, ks⟩ := alloc2 hW0
  have HA : Hid (W0.heap[w.heap.size]? = some (.cells #[.int .i64 0, .int .i64 0] 67) ∧ W0.heap[w.heap.size + 1]? = some (.cells #[.int .i64 (x.a : Int), .int .i64 (x.b : Int)] 67) ∧ Below w.heap.size w W0 ∧ W0.heap.size = w.heap.size + 2) := ⟨k0, k1, kb, ks⟩
  clear hx hm hK h0 hb k0 k1 kb ks
  unfold prV
  go_enter Tryd.func37, Tryd.ntmps37
  go_upto_region 1 with fail
  rw [← HW0.out]
  go_wp2
  go_loopw [7] (fun x7 wr => ∃ (y : Ent) (wl : List Nat), Hid (y ∈ Q) ∧ Hid (x.w = y.w ++ wl.reverse) ∧ Hid (wr.ownsRow W0.heap.size 3 1 x7 wl.length (cellP wl)) ∧ Hid (wr.heap[w.heap.size]? = some (.cells #[.int .i64 0, .int .i64 0] 67) ∧ wr.heap[w.heap.size + 1]? = some (.cells #[.int .i64 (y.a : Int), .int .i64 (y.b : Int)] 67)) ∧ Hid (Below w.heap.size w wr ∧ W0.heap.size ≤ wr.heap.size)) (fun x7 _ => x.w.length - lenV x7)
  case atStart => exact ⟨x, [], HX, by show _ = _; simp, World.ownsRow_nil _ _ _ _, ⟨HA.out.1, HA.out.2.1⟩, ⟨HA.out.2.2.1, Nat.le_refl _⟩⟩
  case round =>
    obtain ⟨y, wl, HY, HE, HR, HC, HBW⟩ := hrel
    have a0 := cell_in HC.out.1 0
    have a1 := cell_in HC.out.1 1
    have b0 := cell_in HC.out.2 0
    have b1 := cell_in HC.out.2 1
    have al := lt_of_heap HC.out.1
    have bl := lt_of_heap HC.out.2
    simp at a0 a1 b0 b1
    obtain ⟨va, vn, vc, rfl⟩ := own_any HR.out
    have hvn : vn = wl.length := by
      rcases HR.out.2 with ⟨e, h0⟩ | ⟨g', cap, cur, e, _⟩
      · simp at e; omega
      · simp at e; exact e.2.1
    subst hvn
    have hlen : y.w.length + wl.length = x.w.length := by have := congrArg List.length HE.out; simp at this; omega
    by_cases q : y.w = []
    · have hz := (H0.out y HY.out).1 q
      obtain ⟨z1, z2⟩ := hz
      have HEQ : Hid (x.w = wl.reverse) := by have := HE.out; rw [q, List.nil_append] at this; exact this
      rw [z1] at b0
      rw [z2] at b1
      have heq := Tryd.eqPair ((0 : Nat) : Int) ((0 : Nat) : Int) 0 0 wr
      simp at b0 b1 heq
      by_cases hw : wl = []
      · subst hw
        have hrv := reverse_none vc va wr
        clear q z1 z2 hlen
        simp only [List.length_nil] at *
        go_wp2_with fail
        refine hrv.mono ?_
        rintro e w2 ⟨rfl, rfl⟩
        clear hrv
        go_wp2
        go_ret
        refine ⟨_, rfl, ?_, HBW.out.1⟩
        have e0 := HR.out.2
        rcases e0 with ⟨e, _⟩ | ⟨g', cap, cur, e, _, hg', _⟩
        · rw [e, HEQ.out]
          exact IntsAt.nil _
        · rw [HEQ.out]
          exact ints_of_row (base := W0.heap.size) HR.out
      · obtain ⟨G, hva⟩ : ∃ G, va = some ⟨G, 0, none⟩ := by
          rcases HR.out.2 with ⟨e, h0⟩ | ⟨g', cap, cur, e, _⟩
          · exact absurd (List.length_eq_zero_iff.1 h0) hw
          · simp at e; exact ⟨g', e.1⟩
        subst hva
        have hln : 1 ≤ wl.length := by
          cases wl with
          | nil => exact absurd rfl hw
          | cons a l => simp
        have hrc : RowC wr W0.heap.size G wl.length vc (fun k => wl.getD k 0) := by
          have := HR.out
          rw [← rowN_cellP] at this
          exact this
        have hrv := reverse_any W0.heap.size G wl.length vc _ wr hrc hln (by omega)
        obtain ⟨n, hn⟩ : ∃ n, n = wl.length := ⟨_, rfl⟩
        have HN : Hid (n = wl.length) := hn
        rw [← hn] at hrv ⊢
        clear q z1 z2 hlen hw hln hrc hn
        go_wp2_with fail
        refine hrv.mono ?_
        rintro e w2 ⟨rfl, hr2, ho2⟩
        have HR2 : Hid (RowC w2 W0.heap.size G n vc (fun k => wl.getD (n - 1 - k) 0)) := hr2
        have HO2 : Hid (OnlyB G wr w2) := ho2
        clear hrv hr2 ho2
        go_wp2
        go_ret
        have hr := HR2.out
        have hN := HN.out
        refine ⟨_, rfl, ?_, ?_⟩
        · rw [HEQ.out]
          have e2 : rowN n (fun k => wl.getD (n - 1 - k) 0) = cellI (upI wl.reverse) := by
            refine List.ext_getElem (by simp [rowN, cellI, upI, hN]) (fun i h1 h2 => ?_)
            have hi : i < wl.length := by rw [← hN]; simpa [rowN] using h1
            have hj : wl.length - 1 - i < wl.length := by omega
            simp [rowN, cellI, upI, hN, hj]
          unfold RowC at hr
          rw [e2] at hr
          have e3 : n = (upI wl.reverse).length := by simp [upI, hN]
          rw [e3] at hr ⊢
          exact ints_of_row hr
        · refine ⟨HO2.out.os.trans HBW.out.1.os, HO2.out.tape.trans HBW.out.1.tape, HO2.out.output.trans HBW.out.1.output, by rw [HO2.out.size]; exact HBW.out.1.size, fun k hk => (HO2.out.block k (fun e => ?_)).trans (HBW.out.1.block k hk)⟩
          have := (RowC.lt hr).2
          have := HA.out.2.2.2
          omega
    · obtain ⟨u, c, huc⟩ : ∃ u c, y.w = u ++ [c] := ⟨y.w.dropLast, y.w.getLast q, (List.dropLast_concat_getLast q).symm⟩
      obtain ⟨e', he1, he2, he3⟩ := HK.out y HY.out u c huc
      have hby := HB.out y HY.out
      have HLK : Hid (∀ W, Below W0.heap.size W0 W ∨ Below w.heap.size w W → (Instr.lookup 68 (.map (some mb)) (.agg #[.int .i64 (y.a : Int), .int .i64 (y.b : Int)]) false).run Tryd.prog W = .ok (.agg #[.int .i64 (e'.a : Int), .int .i64 (e'.b : Int), .int .i64 (c : Int)]) W) := fun W hW => by
        have hW' : Below w.heap.size w W := by
          rcases hW with h | h
          · exact below_after HA.out.2.2.1 h
          · exact h
        have hm := HM.out.kept (w' := W) (row := none) ⟨hW'.os, hW'.tape, hW'.output, hW'.size, fun k hk _ => hW'.block k hk⟩ (by simp)
        obtain ⟨v, ps, hrun, hv⟩ := hm.lookup Tryd.keyPair Tryd.undPMap (Tryd.zeroStep13 W) (stR_mk 0 0 0) (Tryd.keyOfPair hby.1 hby.2.1)
        rw [he3] at hv
        have := stR_inv hv
        subst this
        exact hrun
      have hlk := HLK.out wr (.inr HBW.out.1)
      have heq := Tryd.eqPair (y.a : Int) (y.b : Int) 0 0 wr
      have hnz : ((y.a : Int) == 0 && (y.b : Int) == 0) = false := by
        cases hb : ((y.a : Int) == 0 && (y.b : Int) == 0) with
        | false => rfl
        | true =>
          simp at hb
          exact absurd ((H0.out y HY.out).2 hb) q
      rw [hnz] at heq
      have HE2 : Hid (e' ∈ Q ∧ x.w = e'.w ++ (wl ++ [c]).reverse ∧ wl.length < x.w.length) := ⟨he1, by have := HE.out; rw [this, huc, he2]; simp, by
        have := congrArg List.length HE.out
        rw [huc] at this
        simp at this
        omega⟩
      have hlw : wl.length ≤ 100000 := by omega
      have hsz := HBW.out.2
      clear q huc he1 he2 he3 hby hnz hlen
      have hf1 := Tryd.field1St (e'.a : Int) (e'.b : Int) (c : Int) wr
      have HFIN : Hid (∀ w3 g cap, w3.ownsRow W0.heap.size 3 1 (.slice (some ⟨g, 0, none⟩) (wl.length + 1) cap) (wl.length + 1) (cellP wl ++ [.int .i64 (c : Int)]) → (wr.alloc (.cells #[.int .i64 (c : Int)] 3)).grownBy w3 (Value.slice va wl.length vc).ownBlock → (w3.heap[w.heap.size]? = some (.cells #[.int .i64 0, .int .i64 0] 67) ∧ w3.heap[w.heap.size + 1]? = some (.cells #[.int .i64 (y.a : Int), .int .i64 (y.b : Int)] 67)) ∧ Below w.heap.size w w3 ∧ W0.heap.size ≤ w3.heap.size) := fun w3 g cap ho hg => by
        have hrow := fun k e => (HR.out.lt k e).1
        have h2 := HA.out.2.2.2
        have hb1 : Below W0.heap.size wr (wr.alloc (.cells #[.int .i64 (c : Int)] 3)) := (Below.refl _ _).alloc hsz _
        have hb2 := hb1.grown hg (by simp; omega) hrow
        refine ⟨⟨(hb2.block _ (by omega)).trans HC.out.1, (hb2.block _ (by omega)).trans HC.out.2⟩, HBW.out.1.trans (hb2.mono (by omega)), Nat.le_trans HBW.out.2 hb2.size⟩
      go_upto_region 4 with (at_builtin; go_must (refine wpList_append_lies _ rfl _ _ 33 rfl W0.heap.size 3 iI (.int .i64 0) 1 8 Tryd.underlying33 hiI hzI0 hzI1 hzI2 rfl (by decide) _ _ _ rfl (HR.out.alloc _) ⟨wr.heap.size, 0, none⟩ 1 1 [.int .i64 (c : Int)] rfl rfl (World.news_of_block (by exact heap_new' _ _)) (by simp [Value.oneCell']) (by omega) (by unfold maxLen; omega) (by omega) (by simp; omega) _ rfl ?_); intro g cap w3 ho3 hg3 hat3 _)
      obtain ⟨⟨r1, r2⟩, r3, r4⟩ := HFIN.out w3 g cap ho3 hg3
      have HO3 : Hid (w3.ownsRow W0.heap.size 3 1 (.slice (some ⟨g, 0, none⟩) (wl.length + 1) cap) (wl.length + 1) (cellP wl ++ [.int .i64 (c : Int)])) := ho3
      have HR1 : Hid (w3.heap[w.heap.size]? = some (.cells #[.int .i64 0, .int .i64 0] 67)) := r1
      have HR2 : Hid (w3.heap[w.heap.size + 1]? = some (.cells #[.int .i64 (y.a : Int), .int .i64 (y.b : Int)] 67)) := r2
      have HR3 : Hid (Below w.heap.size w w3 ∧ W0.heap.size ≤ w3.heap.size) := ⟨r3, r4⟩
      have hlk3 := HLK.out w3 (.inr r3)
      have hf0 := Tryd.field0St (e'.a : Int) (e'.b : Int) (c : Int) w3
      have c0 := cell_in r2 0
      have c1 := cell_in r2 1
      simp at c0 c1
      have cl := lt_of_heap r2
      have f0 : w3.frozen? ⟨w.heap.size + 1, 0, none⟩ = false := by simp [World.frozen?, r2]
      have f1 : w3.frozen? ⟨w.heap.size + 1, 1, none⟩ = false := by simp [World.frozen?, r2]
      have HN : Hid (∀ W, W = (w3.setCell ⟨w.heap.size + 1, 0, none⟩ (.int .i64 (e'.a : Int))).setCell ⟨w.heap.size + 1, 1, none⟩ (.int .i64 (e'.b : Int)) → W.ownsRow W0.heap.size 3 1 (.slice (some ⟨g, 0, none⟩) (wl.length + 1) cap) (wl ++ [c]).length (cellP (wl ++ [c])) ∧ (W.heap[w.heap.size]? = some (.cells #[.int .i64 0, .int .i64 0] 67) ∧ W.heap[w.heap.size + 1]? = some (.cells #[.int .i64 (e'.a : Int), .int .i64 (e'.b : Int)] 67)) ∧ Below w.heap.size w W ∧ W0.heap.size ≤ W.heap.size) := fun W hW => by
        subst hW
        have hO : OnlyB (w.heap.size + 1) w3 ((w3.setCell ⟨w.heap.size + 1, 0, none⟩ (.int .i64 (e'.a : Int))).setCell ⟨w.heap.size + 1, 1, none⟩ (.int .i64 (e'.b : Int))) := ((OnlyB.refl _ _).set _ _).set _ _
        have h2 := HA.out.2.2.2
        have hg := (HO3.out.lt g rfl).1
        refine ⟨?_, ⟨(hO.block _ (by omega)).trans HR1.out, ?_⟩, (HR3.out.1.setCell (p := ⟨w.heap.size + 1, 0, none⟩) (Nat.le_succ _) _).setCell (p := ⟨w.heap.size + 1, 1, none⟩) (Nat.le_succ _) _, by rw [hO.size]; exact HR3.out.2⟩
        · rw [List.length_append, List.length_singleton, cellP_snoc]
          refine own_blk HO3.out (fun k e => hO.block k (fun e2 => ?_))
          have : g = k := by injection e
          omega
        · have := heap_setN (i := 1) (heap_setN (i := 0) HR2.out (.int .i64 (e'.a : Int))) (.int .i64 (e'.b : Int))
          simpa using this
      clear ho3 hg3 hat3 r1 r2 r3 r4 a0 a1 b0 b1 al bl hlk hf1 heq
      go_wp2
      go_roundw
      case rel =>
        obtain ⟨n1, n2, n3⟩ := HN.out _ rfl
        exact ⟨e', wl ++ [c], HE2.out.1, HE2.out.2.1, n1, n2, n3⟩
      case measure =>
        have := HE2.out.2.2
        simp [lenV]; omega
end Go.Proofs.YtleafbbcgebmpaaDoor
