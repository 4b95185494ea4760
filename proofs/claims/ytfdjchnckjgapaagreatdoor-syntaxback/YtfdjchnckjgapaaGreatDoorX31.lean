/-
  A string appended to bytes that are owned: where the bytes then lie. The printer in memory, and what write answers. Sets that are joined of others have no more ranges than these have edges. Plain mathematics. Expressions that were parsed have few parts; texts have few tokens. Plain mathematics.
-/
import Derived.Test.YtfdjchnckjgapaaGreatDoorX30
import Derived.Lib.AppendStr
namespace Go.Proofs.YtfdjchnckjgapaaGreatDoor
open Go.RowKit Go.Shelf Go.Lib S1
set_option linter.unusedVariables false

section
variable {P : Program} (w : World)
theorem append_str_lies (base : Nat) (t u ty e : TypeId) (i : TypeInfo) (ht : P.underlying t = some (.slice e)) (hu : P.underlying u = some .string) (hi : P.info? e = some i) (hz : i.zero = some (.int .u8 0))
    (hsize : i.size = 1) (hby : i.bytes = 1)
    (v : Value) (n : Nat) (xs : List Value) (hown : w.ownsRow base e 1 v n xs) (s : ByteArray)
    (h63 : n + s.size ≤ maxLen) (hbytes : n + s.size ≤ 140737488355328) (hbase : base ≤ w.heap.size) :
    ∃ v' w', (Builtin.append_ #[t, u] ty #[v, .string s]).run P w = .ok v' w' ∧ w'.ownsRow base e 1 v' (n + s.size) (xs ++ strCells s) ∧ w.grownBy w' v.ownBlock ∧
      (v'.ownBlock = v.ownBlock ∨ ∀ k, v'.ownBlock = some k → w.heap.size ≤ k) := by
  obtain ⟨v', w', hr, h2, h3, h4⟩ := run_append_own_string (P := P) w base t u ty e i ht hu hi hz hsize hby v n xs hown s h63 hbytes hbase
  refine ⟨v', w', hr, h2, h3, ?_⟩
  have hsmall : n + s.size ≤ 9223372036854775807 := by simp only [maxLen] at h63; omega
  have hxl : xs.length = n := by simpa using hown.1
  rcases hown.2 with ⟨rfl, rfl⟩ | ⟨g, cap, cur, rfl, hbg, hg, hnc, hcm, hcs, htake⟩
  · right
    have hx : xs = [] := List.eq_nil_of_length_eq_zero hxl
    subst hx
    obtain ⟨v2, w2, hr2, h5, _, _⟩ := run_append_own_string (P := P) w w.heap.size t u ty e i ht hu hi hz hsize hby (.slice none 0 0) 0 [] (World.ownsRow_nil w _ e 1) s h63 hbytes (Nat.le_refl _)
    have e2 := hr.symm.trans hr2
    simp only [Result.ok.injEq] at e2
    intro k hk
    rw [e2.1] at hk
    exact (h5.lt k hk).1
  · by_cases hroom : n + s.size ≤ cap
    · left
      have hcs' : cur.size = cap := by simpa using hcs
      have hr2 := run_append_room_string (P := P) w t u ty e i ht hu hi hsize g n cap cur hg s hroom (by omega)
      have e2 := hr.symm.trans hr2
      simp only [Result.ok.injEq] at e2
      rw [e2.1]; rfl
    · right
      have holds : ∀ j u, xs[j]? = some u → w.cell? ((⟨g, 0, none⟩ : Addr).add j) = some u := World.ownsRow.cells (e := e) (size := 1) hown (g := g) rfl
      have hr2 := run_append_grow_string (P := P) w t u ty e i (.int .u8 0) ht hu hi hz ⟨g, 0, none⟩ n cap xs (by rw [hsize]; simpa using hxl) holds s (by omega) (by omega) (by rw [hby]; exact growslice_fits (by omega) (by omega))
      have e2 := hr.symm.trans hr2
      simp only [Result.ok.injEq] at e2
      intro k hk
      rw [e2.1] at hk
      have : w.heap.size = k := by simpa [Value.ownBlock] using hk
      omega
theorem wpList_append_lies_string {ops : Array Oper} {rest : List Oper} {o : Oper} {a : Act} {Q : Exit → Act → World → Prop} (hgd : o.guard = none) (sl x : Operand) (t u : TypeId)
    (ho : o.op = .call { callee := .builtin .append, args := #[sl, x], argTypes := #[t, u] })
    (base : Nat) (e : TypeId) (i : TypeInfo) (ht : P.underlying t = some (.slice e)) (hu : P.underlying u = some .string) (hi : P.info? e = some i) (hz : i.zero = some (.int .u8 0))
    (hsize : i.size = 1) (hby : i.bytes = 1)
    (v : Value) (n : Nat) (xs : List Value) (hs : a.eval sl = v) (hown : w.ownsRow base e 1 v n xs) (s : ByteArray) (hx : a.eval x = .string s)
    (h63 : n + s.size ≤ maxLen) (hbytes : n + s.size ≤ 140737488355328) (hbase : base ≤ w.heap.size)
    (h : ∀ v' w', w'.ownsRow base e 1 v' (n + s.size) (xs ++ strCells s) → w.grownBy w' v.ownBlock → (v'.ownBlock = v.ownBlock ∨ ∀ k, v'.ownBlock = some k → w.heap.size ≤ k) → wpList P ops Q rest (a.put o.dst v') w') : wpList P ops Q (o :: rest) a w := by
  refine wpList_plain hgd fun K hK => ?_
  obtain ⟨v', w', hr, h2, h3, h4⟩ := append_str_lies (P := P) w base t u o.type e i ht hu hi hz hsize hby v n xs hown s h63 hbytes hbase
  unfold Oper.wp execOp
  simp only [ho, resolve, invoke, builtin, Sem.run_bind, Sem.run_pure, Result.andThen_ok, List.map_toArray, List.map_cons, List.map_nil, hs, hx, hr]
  exact hK _ _ (h v' w' h2 h3 h4)
end

theorem strCells_nums {s : List Int} (h : Byt s) : strCells (strOfNums s) = s.map (Value.int .u8) := by
  unfold strCells strOfNums
  simp only [List.map_map]
  apply List.map_congr_left
  intro x hx
  have := h x hx
  simp only [Function.comp]
  congr 1
  simp only [UInt8.toNat_ofNat']
  omega
theorem strNums_size (s : List Int) : (strOfNums s).size = s.length := by
  have : (strOfNums s).size = (strOfNums s).data.size := rfl
  rw [this]
  simp [strOfNums]

/-- Block k is none that the printer at P writes. -/
def Wk (w : World) (P k : Nat) : Prop := k < w.heap.size ∧ k ≠ P ∧ ∀ v, w.cell? ⟨P, 1, none⟩ = some v → v.ownBlock ≠ some k
/-- What the printer leaves as it was. -/
structure FrW (P : Nat) (w w' : World) : Prop where
  os : w'.os = w.os
  tape : w'.tape = w.tape
  output : w'.output = w.output
  size : w.heap.size ≤ w'.heap.size
  keep : ∀ k, Wk w P k → w'.heap[k]? = w.heap[k]? ∧ Wk w' P k
theorem FrW.refl (P : Nat) (w : World) : FrW P w w := ⟨rfl, rfl, rfl, Nat.le_refl _, fun k h => ⟨rfl, h⟩⟩
theorem FrW.trans {P : Nat} {a b c : World} (h : FrW P a b) (k : FrW P b c) : FrW P a c :=
  ⟨k.os.trans h.os, k.tape.trans h.tape, k.output.trans h.output, Nat.le_trans h.size k.size, fun i hi => by
    obtain ⟨e1, m1⟩ := h.keep i hi
    obtain ⟨e2, m2⟩ := k.keep i m1
    exact ⟨e2.trans e1, m2⟩⟩
/-- The printer: the texts of sets, the text so far. -/
def PrAt (base P : Nat) (w : World) (svv : Value) (zs : List Int) : Prop := ∃ tv, w.heap[P]? = some (.cells #[svv, tv] 63 (0, 0)) ∧ w.ownsRow base 5 1 tv zs.length (zs.map (Value.int .u8)) ∧ tv.ownBlock ≠ some P ∧ base ≤ P
theorem PrAt.lt {base P : Nat} {w : World} {svv : Value} {zs : List Int} (h : PrAt base P w svv zs) : P < w.heap.size := by
  obtain ⟨tv, h1, _⟩ := h
  exact (Array.getElem?_eq_some_iff.1 h1).1
theorem frw_below {P : Nat} {w w' : World} (h : Below w.heap.size w w') (hP : P < w.heap.size) : FrW P w w' :=
  ⟨h.os, h.tape, h.output, h.size, fun k hk => ⟨h.block k hk.1, Nat.lt_of_lt_of_le hk.1 h.size, hk.2.1, fun v hv => hk.2.2 v ((World.cell?_of_block (a := ⟨P, 1, none⟩) (h.block P hP)).symm.trans hv)⟩⟩
theorem PrAt.below {base P : Nat} {w w' : World} {svv : Value} {zs : List Int} (h : PrAt base P w svv zs) (hB : Below w.heap.size w w') : PrAt base P w' svv zs := by
  have hl := h.lt
  obtain ⟨tv, h1, h2, h3, h4⟩ := h
  exact ⟨tv, (hB.block P hl).trans h1, own_block h2 (fun k hk => hB.block k (h2.lt k hk).2), h3, h4⟩
/-- What is made anew is none of the printer's. -/
theorem PrAt.fresh {base P : Nat} {w w' : World} {svv : Value} {zs : List Int} (h : PrAt base P w svv zs) (hB : Below w.heap.size w w') {k : Nat} (h1 : w.heap.size ≤ k) (h2 : k < w'.heap.size) : Wk w' P k := by
  have hl := h.lt
  obtain ⟨tv, g1, g2, g3, g4⟩ := h
  refine ⟨h2, by omega, fun v hv q => ?_⟩
  rw [World.cell?_of_block (a := ⟨P, 1, none⟩) (hB.block P hl)] at hv
  have : w.cell? ⟨P, 1, none⟩ = some tv := cell_of_row _ _ 1 _ _ _ g1
  rw [this] at hv
  obtain rfl : tv = v := by simpa using hv
  have := (g2.lt k q).2
  omega
theorem own_slice {w : World} {base e size n : Nat} {v : Value} {xs : List Value} (h : w.ownsRow base e size v n xs) : ∃ a m c, v = .slice a m c := by
  rcases h.2 with ⟨e, _⟩ | ⟨g, cap, cur, e, _⟩
  · exact ⟨_, _, _, e⟩
  · exact ⟨_, _, _, e⟩
theorem Tryz.infoByte8 : (Tryz.prog.info? 5).map (fun i => (i.zero, i.size, i.bytes)) = some (some (.int .u8 0), 1, 1) := by kernel_rfl

set_option maxRecDepth 100000 in
set_option maxHeartbeats 4000000 in
theorem write_any (base P : Nat) (w : World) (svv : Value) (zs s : List Int) (hs : Byt s) (hl : zs.length + s.length ≤ 1000000000000) (h : PrAt base P w svv zs) :
    Calls Tryz.prog 55 #[.pointer (some ⟨P, 0, none⟩), .string (strOfNums s)] w fun e w' => e = .returned (.tuple #[]) ∧ PrAt base P w' svv (zs ++ s) ∧ FrW P w w' := by
  obtain ⟨i0, hi0, hz0, hz1, hz2⟩ := info_parts Tryz.infoByte8
  have hPl := h.lt
  obtain ⟨tv, g1, g2, g3, g4⟩ := h
  have c1 : w.cell? ⟨P, 1, none⟩ = some tv := cell_of_row _ _ 1 _ _ _ g1
  have f1 : w.frozen? ⟨P, 1, none⟩ = false := frozen_of_row _ _ 1 _ _ g1
  have HG1 : Hid (w.heap[P]? = some (.cells #[svv, tv] 63 (0, 0))) := g1
  have HOW : Hid (w.ownsRow base 5 1 tv zs.length (zs.map (Value.int .u8))) := g2
  have HNP : Hid (tv.ownBlock ≠ some P) := g3
  have HBP : Hid (base ≤ P) := g4
  have HC1 : Hid (w.cell? ⟨P, 1, none⟩ = some tv) := c1
  have hsz := strNums_size s
  have HSC : Hid (strCells (strOfNums s) = s.map (Value.int .u8)) := strCells_nums hs
  obtain ⟨str, hstr⟩ : ∃ x, x = strOfNums s := ⟨_, rfl⟩
  rw [← hstr] at hsz HSC ⊢
  have HSZ : Hid (str.size = s.length) := hsz
  clear g1 g2 g3 g4 hstr hsz hs
  obtain ⟨ta, tn, tc, rfl⟩ : ∃ a n c, tv = .slice a n c := by
    rcases HOW.out.2 with ⟨e, _⟩ | ⟨g, cap, cur, e, _⟩
    · exact ⟨_, _, _, e⟩
    · exact ⟨_, _, _, e⟩
  go_enter Tryz.func55, Tryz.ntmps55
  go_wp2_with (at_builtin; refine wpList_append_lies_string _ rfl (.tmp 8) (.tmp 9) 22 9 rfl base 5 i0 Tryz.underlying22 Tryz.underlying9 hi0 hz0 hz1 hz2 _ _ _ rfl HOW.out str rfl (by unfold maxLen; have := HSZ.out; omega) (by have := HSZ.out; omega) (by have := HBP.out; omega) ?_; intro v2 w2 ho2 hg2 hat2; obtain ⟨va, vn, vc, rfl⟩ := own_slice ho2; have c12 : w2.cell? ⟨P, 1, none⟩ = some (.slice ta tn tc) := hg2.cell HC1.out (Ne.symm HNP.out); have f12 : w2.frozen? ⟨P, 1, none⟩ = false := (World.frozen?_of_block (a := ⟨P, 1, none⟩) (hg2.block P hPl (Ne.symm HNP.out))).trans f1; have hPl2 : P < w2.heap.size := Nat.lt_of_lt_of_le hPl hg2.size)
  have HO2 : Hid (w2.ownsRow base 5 1 (.slice va vn vc) (zs ++ s).length ((zs ++ s).map (Value.int .u8))) := by
    have := ho2
    rw [HSC.out, HSZ.out, ← List.map_append, ← List.length_append] at this
    exact this
  have HG2 : Hid (w.grownBy w2 (Value.slice ta tn tc).ownBlock) := hg2
  have HAT : Hid ((Value.slice va vn vc).ownBlock = (Value.slice ta tn tc).ownBlock ∨ ∀ k, (Value.slice va vn vc).ownBlock = some k → w.heap.size ≤ k) := hat2
  clear ho2 hg2 hat2
  go_end0
  have hPb : w2.heap[P]? = some (.cells #[svv, .slice ta tn tc] 63 (0, 0)) := (HG2.out.block P hPl (Ne.symm HNP.out)).trans HG1.out
  have hnP : (Value.slice va vn vc).ownBlock ≠ some P := fun q => by
    rcases HAT.out with h | h
    · exact HNP.out (h.symm.trans q)
    · have := h P q; omega
  have hset : ∀ k, k ≠ P → (w2.setCell ⟨P, 1, none⟩ (.slice va vn vc)).heap[k]? = w2.heap[k]? := fun k hk => Below.heap_setCell w2 ⟨P, 1, none⟩ _ k (by simpa using hk)
  have hPb2 : (w2.setCell ⟨P, 1, none⟩ (.slice va vn vc)).heap[P]? = some (.cells #[svv, .slice va vn vc] 63 (0, 0)) := heap_set hPb _
  refine ⟨rfl, ⟨.slice va vn vc, hPb2, own_block HO2.out (fun k hk => hset k (fun q => hnP (by rw [← q]; exact hk))), hnP, HBP.out⟩, ?_⟩
  refine ⟨HG2.out.os, HG2.out.tape, HG2.out.output, by simpa [World.setCell] using HG2.out.size, fun k hk => ?_⟩
  have hkr := hk.2.2 _ HC1.out
  refine ⟨(hset k hk.2.1).trans (HG2.out.block k hk.1 (fun q => hkr q.symm)), by have := HG2.out.size; have := hk.1; simp [World.setCell]; omega, hk.2.1, fun v hv q => ?_⟩
  have : (w2.setCell ⟨P, 1, none⟩ (.slice va vn vc)).cell? ⟨P, 1, none⟩ = some (.slice va vn vc) := cell_of_row _ _ 1 _ _ _ hPb2
  rw [this] at hv
  obtain rfl : Value.slice va vn vc = v := by simpa using hv
  rcases HAT.out with h | h
  · exact hkr (h.symm.trans q)
  · have := h k q; have := hk.1; omega
end Go.Proofs.YtfdjchnckjgapaaGreatDoor

namespace Go.Proofs.YtfdjchnckjgapaaGreatDoor
open Go.RowKit Go.Shelf S1
set_option linter.unusedVariables false

/-- A set is told alike at two neighbours, but at an edge. -/
def Stb (E : List Int) (s : List Rg) : Prop := ∀ x, 1 ≤ x → x ≤ 1114111 → x ∉ E → hasR s x = hasR s (x - 1)
/-- A set whose edges are of these. -/
def GS (E : List Int) (s : List Rg) : Prop := IsSet s ∧ Stb E s

theorem nodup_le : ∀ {l m : List Int}, l.Nodup → (∀ x ∈ l, x ∈ m) → l.length ≤ m.length
  | [], m, _, _ => Nat.zero_le _
  | a :: l, m, hn, hs => by
    have ha := hs a (by simp)
    have h1 : ∀ x ∈ l, x ∈ m.erase a := fun x hx => by
      have hne : x ≠ a := fun q => by
        subst q
        exact (List.nodup_cons.1 hn).1 hx
      exact (List.mem_erase_of_ne hne).2 (hs x (by simp [hx]))
    have h2 := nodup_le (List.nodup_cons.1 hn).2 h1
    rw [List.length_erase_of_mem ha] at h2
    have h3 : 0 < m.length := List.length_pos_of_mem ha
    simp only [List.length_cons]
    omega
theorem norm_los : ∀ {l : List Rg} {b : Int}, NormFrom b l → (l.map Rg.lo).Nodup ∧ ∀ x ∈ l, b ≤ x.lo
  | [], b, _ => ⟨by simp, fun x hx => (by cases hx)⟩
  | r :: l, b, h => by
    obtain ⟨i1, i2⟩ := norm_los h.2.2
    refine ⟨List.nodup_cons.2 ⟨fun q => ?_, i1⟩, fun x hx => ?_⟩
    · obtain ⟨x, hx, e⟩ := List.mem_map.1 q
      have := i2 x hx
      have := h.2.1
      omega
    · rcases List.mem_cons.1 hx with rfl | hx
      · exact h.1
      · have := i2 x hx
        have := h.2.1
        have := h.1
        omega
theorem norm_edge : ∀ {l : List Rg} {b : Int}, NormFrom b l → ∀ r ∈ l, hasR l r.lo = true ∧ hasR l (r.lo - 1) = false
  | [], b, _, r, h => by cases h
  | s :: l, b, hn, r, h => by
    rcases List.mem_cons.1 h with rfl | h
    · refine ⟨hasR_iff.2 ⟨r, by simp, by omega, hn.2.1⟩, ?_⟩
      cases q : hasR (r :: l) (r.lo - 1) with
      | false => rfl
      | true =>
        rw [hasR_cons, Bool.or_eq_true] at q
        rcases q with q | q
        · have := (of_decide_eq_true q).1; omega
        · have := hn.2.2.ge q; have := hn.2.1; omega
    · obtain ⟨i1, i2⟩ := norm_edge hn.2.2 r h
      have hlo := (norm_los hn.2.2).2 r h
      refine ⟨by rw [hasR_cons, i1]; simp, ?_⟩
      rw [hasR_cons, i2, Bool.or_false]
      apply decide_eq_false
      omega
theorem stb_len {E : List Int} {s : List Rg} (h : IsSet s) (hs : Stb E s) : s.length ≤ E.length + 1 := by
  have h1 := norm_los h.1
  have h2 : ∀ x ∈ s.map Rg.lo, x ∈ 0 :: E := fun x hx => by
    obtain ⟨r, hr, rfl⟩ := List.mem_map.1 hx
    have hf := h.fits r hr
    by_cases q : r.lo = 0
    · rw [q]; simp
    · by_cases q2 : r.lo ∈ E
      · simp [q2]
      · have h3 := hs r.lo (by omega) (by omega) q2
        obtain ⟨e1, e2⟩ := norm_edge h.1 r hr
        rw [e1, e2] at h3
        cases h3
  have h3 := nodup_le h1.1 h2
  simpa using h3
theorem stb_pick {E : List Int} {g : Bool → Bool → Bool} {a b : List Rg} (ha : GS E a) (hb : GS E b) : GS E (pickS g a b) := by
  have hu := pickS_upto g ha.1 hb.1
  refine ⟨hu.isSet, fun x h1 h2 h3 => ?_⟩
  have e1 : decide (0 ≤ x ∧ x < 1114112 ∧ g (hasR a x) (hasR b x) = true) = g (hasR a x) (hasR b x) := by
    cases g (hasR a x) (hasR b x) with
    | true => apply decide_eq_true; exact ⟨by omega, by omega, rfl⟩
    | false => apply decide_eq_false; rintro ⟨_, _, q⟩; cases q
  have e2 : decide (0 ≤ x - 1 ∧ x - 1 < 1114112 ∧ g (hasR a (x - 1)) (hasR b (x - 1)) = true) = g (hasR a (x - 1)) (hasR b (x - 1)) := by
    cases g (hasR a (x - 1)) (hasR b (x - 1)) with
    | true => apply decide_eq_true; exact ⟨by omega, by omega, rfl⟩
    | false => apply decide_eq_false; rintro ⟨_, _, q⟩; cases q
  rw [hu.2 x, hu.2 (x - 1), e1, e2, ha.2 x h1 h2 h3, hb.2 x h1 h2 h3]
theorem GS.nil (E : List Int) : GS E [] := ⟨IsSet.nil, fun x _ _ _ => rfl⟩
theorem GS.all (E : List Int) : GS E allS := ⟨allS_set, fun x h1 h2 _ => by
  have : ∀ y : Int, 0 ≤ y → y ≤ 1114111 → hasR allS y = true := fun y h1 h2 => hasR_iff.2 ⟨⟨0, 1114111⟩, by simp [allS], h1, h2⟩
  rw [this x (by omega) h2, this (x - 1) (by omega) (by omega)]⟩
/-- The edges of entries. -/
def edgesOf (L : List Rg) : List Int := L.flatMap fun r => [r.lo, r.hi + 1]
theorem edgesOf_len : ∀ (L : List Rg), (edgesOf L).length = 2 * L.length
  | [] => rfl
  | r :: L => by
    have e : edgesOf (r :: L) = [r.lo, r.hi + 1] ++ edgesOf L := rfl
    rw [e, List.length_append, edgesOf_len L]; simp; omega
theorem stb_mk {L l : List Rg} (hf : Fits l) (hl : ∀ r ∈ l, r ∈ L) : GS (edgesOf L) (mkS l) := by
  have hu : Upto (fun x => hasR l x) (mkS l) 1114112 := pick_spec l [] hf (fun x hx => (by cases hx)) (fun x _ => x)
  refine ⟨hu.isSet, fun x h1 h2 h3 => ?_⟩
  have key : hasR l x = hasR l (x - 1) := by
    cases q : hasR l x with
    | true =>
      obtain ⟨r, hr, a1, a2⟩ := hasR_iff.1 q
      symm
      refine hasR_iff.2 ⟨r, hr, ?_, by omega⟩
      have : x ≠ r.lo := fun e => h3 (by rw [e]; exact List.mem_flatMap.2 ⟨r, hl r hr, by simp⟩)
      omega
    | false =>
      symm
      cases q2 : hasR l (x - 1) with
      | false => rfl
      | true =>
        obtain ⟨r, hr, a1, a2⟩ := hasR_iff.1 q2
        have : x ≠ r.hi + 1 := fun e => h3 (by rw [e]; exact List.mem_flatMap.2 ⟨r, hl r hr, by simp⟩)
        have : hasR l x = true := hasR_iff.2 ⟨r, hr, by omega, by omega⟩
        rw [this] at q; cases q
  rw [hu.2 x, hu.2 (x - 1)]
  simp only [key]
  apply decide_eq_decide.2
  constructor
  · rintro ⟨_, _, c⟩; exact ⟨by omega, by omega, c⟩
  · rintro ⟨_, _, c⟩; exact ⟨by omega, by omega, c⟩

/-- All entries of tokens, and how many there are. -/
def entsOf (l : List Tok) : List Rg := l.flatMap Tok.s
theorem setF_count {n : Nat} : ∀ {k : Nat} {us r : List U} {acc l : List Rg}, setF n k us acc = SR.good l r → l.length + r.length ≤ acc.length + us.length
  | 0, us, r, acc, l, h => by cases h
  | k + 1, us, r, acc, l, h => by
    cases h1 : sgn (isC 93) us with
    | mk o s => cases o with
      | some x =>
        rw [setF_end h1] at h
        obtain ⟨e1, e2⟩ := Prod.mk.inj (Sum.inr.inj h)
        have := sgn_len h1
        rw [← e1, ← e2]; omega
      | none => cases h2 : entL us with
        | mk o2 r2 => cases o2 with
          | none => rw [setF_stuck h1 h2] at h; cases h
          | some e =>
            cases h3 : (decide (e.hi < e.lo) || decide (1114111 < e.hi)) with
            | true => rw [setF_arg h1 h2 h3] at h; cases h
            | false =>
              rw [setF_on h1 h2 h3] at h
              have h4 := setF_count h
              have h5 := entL_len h2
              simp only [List.length_append, List.length_cons, List.length_nil] at h4
              omega
theorem tokO_count {n : Nat} {us r : List U} {t : Tok} (h : tokO n us = OR.good t r) : t.s.length + r.length ≤ us.length := by
  match us, h with
  | [], h =>
    obtain ⟨e1, e2⟩ := Prod.mk.inj (Sum.inr.inj (show OR.good ⟨4, n, [], []⟩ [] = OR.good t r from h))
    rw [← e1, ← e2]; simp
  | u :: us, h =>
    rw [tokO_cons] at h
    split at h
    · obtain ⟨e1, e2⟩ := Prod.mk.inj (Sum.inr.inj h)
      rw [← e1, ← e2]
      have := dropWhile_le (fitU nameR) us
      simp; omega
    · split at h
      · obtain ⟨e1, e2⟩ := Prod.mk.inj (Sum.inr.inj h)
        rw [← e1, ← e2]; simp
      · split at h
        · cases h1 : setF n (us.length + 1) us [] with
          | inl x => rw [h1] at h; cases h
          | inr x =>
            obtain ⟨l, s⟩ := x
            rw [h1] at h
            obtain ⟨e1, e2⟩ := Prod.mk.inj (Sum.inr.inj h)
            have := setF_count h1
            rw [← e1, ← e2]; simp at this ⊢; omega
        · cases h
theorem toksF_count {n : Nat} : ∀ {k : Nat} {us : List U} {acc l : List Tok}, toksF n k us acc = TR.good l → (entsOf l).length ≤ (entsOf acc).length + us.length
  | 0, us, acc, l, h => by cases h
  | k + 1, us, acc, l, h => by
    have hbl := blankL_le false us
    cases h1 : tokO n (blankL false us) with
    | inl x => obtain ⟨a, e⟩ := x; rw [toksF_bad h1] at h; cases h
    | inr x =>
      obtain ⟨t, r⟩ := x
      have hc := tokO_count h1
      have he : ∀ (acc : List Tok) (t : Tok), (entsOf (acc ++ [t])).length = (entsOf acc).length + t.s.length := fun acc t => by simp [entsOf]
      by_cases h4 : t.k = 4
      · rw [toksF_end h1 h4] at h
        obtain rfl := Sum.inr.inj h
        rw [he]; omega
      · rw [toksF_on h1 h4] at h
        have := toksF_count h
        rw [he] at this; omega
theorem toks_count {zs : List Int} {us : List U} (hr : Run zs 0 us zs.length) {l : List Tok} (h : toksL zs.length us = TR.good l) : (entsOf l).length ≤ zs.length := by
  have hlen := Run.le hr (Nat.zero_le _)
  have := toksF_count (show toksF zs.length (us.length + 1) us [] = TR.good l from h)
  simp [entsOf] at this ⊢
  omega
end Go.Proofs.YtfdjchnckjgapaaGreatDoor

namespace Go.Proofs.YtfdjchnckjgapaaGreatDoor
open Go.RowKit Go.Shelf S1
set_option linter.unusedVariables false

/-- So deep, no expression has many parts. -/
def Wid : Nat → List Nd → Prop
  | 0, _ => True
  | f + 1, l => l.length ≤ 70000 ∧ ∀ x ∈ l, Wid f x.kids
def WdN (n : Nd) : Prop := ∀ f, Wid f n.kids
theorem wdN_of {k s : Int} {l : List Nd} (h : l.length ≤ 70000) (hl : ∀ x ∈ l, WdN x) : WdN ⟨k, s, l⟩ := fun f => by
  cases f with
  | zero => trivial
  | succ f => exact ⟨h, fun x hx => hl x hx f⟩
theorem joinN_wd {k : Int} : ∀ {l : List Nd}, l.length ≤ 70000 → (∀ x ∈ l, WdN x) → WdN (joinN k l)
  | [], h, hl => wdN_of h hl
  | [x], h, hl => hl x (by simp)
  | x :: y :: l, h, hl => wdN_of h hl
theorem signF_wd : ∀ (f c : Nat) (n : Nd) (ts : List Tok) (st : Sts) {m : Nd} {r : List Tok} {st' : Sts}, WdN n → signF f c n ts st = .inr (m, r, st') → WdN m
  | 0, c, n, ts, st, m, r, st', hn, h => by cases h; exact hn
  | f + 1, c, n, ts, st, m, r, st', hn, h => by
    unfold signF at h
    split at h
    · cases h; exact hn
    · split at h
      · cases h
      · exact signF_wd f (c + 1) _ _ _ (wdN_of (by simp) (fun x hx => by
          obtain rfl : x = n := by simpa using hx
          exact hn)) h
/-- p tells expressions of few parts. -/
def PWd (p : List Tok → Sts → NR Nd) : Prop := ∀ ts st n r st', ts.length ≤ 69990 → p ts st = .inr (n, r, st') → WdN n ∧ r.length ≤ ts.length
theorem nleft_len {α : Type} {ts : List Tok} {q : NR α} {n : α} {r : List Tok} {st' : Sts} (h : NLeft ts q) (e : q = .inr (n, r, st')) : r.length ≤ ts.length := by
  subst e; exact h.1
theorem signedM_wd {p : List Tok → Sts → NR Nd} (hp : PWd p) : PWd (signedM p) := fun ts st n r st' hl h => by
  unfold signedM at h
  split at h
  · cases h
  · rename_i m r1 st1 he
    obtain ⟨h1, h2⟩ := hp _ _ _ _ _ hl he
    exact ⟨signF_wd 4 _ m r1 st1 h1 h, Nat.le_trans (nleft_len (signF_left 4 (cntN 4 m) m r1 st1) h) h2⟩
theorem catF_wd {p : List Tok → Sts → NR Nd} (hp : PWd p) : ∀ (f : Nat) (acc : List Nd) (ts : List Tok) (st : Sts) {l : List Nd} {r : List Tok} {st' : Sts}, ts.length ≤ 69990 → (∀ x ∈ acc, WdN x) → catF p f acc ts st = .inr (l, r, st') → (∀ x ∈ l, WdN x) ∧ l.length ≤ acc.length + f ∧ r.length ≤ ts.length
  | 0, acc, ts, st, l, r, st', hl, ha, h => by cases h; exact ⟨ha, Nat.le_refl _, Nat.le_refl _⟩
  | f + 1, acc, ts, st, l, r, st', hl, ha, h => by
    unfold catF at h
    split at h
    · split at h
      · cases h
      · rename_i n r1 st1 he
        obtain ⟨h1, h2⟩ := hp _ _ _ _ _ hl he
        obtain ⟨i1, i2, i3⟩ := catF_wd hp f _ _ _ (Nat.le_trans h2 hl) (fun x hx => by
          rcases List.mem_append.1 hx with q | q
          · exact ha x q
          · obtain rfl : x = n := by simpa using q
            exact h1) h
        refine ⟨i1, ?_, Nat.le_trans i3 h2⟩
        simp at i2; omega
    · cases h; exact ⟨ha, by omega, Nat.le_refl _⟩
theorem altF_wd {p : List Tok → Sts → NR Nd} (hp : PWd p) : ∀ (f : Nat) (acc : List Nd) (ts : List Tok) (st : Sts) {l : List Nd} {r : List Tok} {st' : Sts}, ts.length ≤ 69990 → (∀ x ∈ acc, WdN x) → altF p f acc ts st = .inr (l, r, st') → (∀ x ∈ l, WdN x) ∧ l.length ≤ acc.length + f ∧ r.length ≤ ts.length
  | 0, acc, ts, st, l, r, st', hl, ha, h => by cases h; exact ⟨ha, Nat.le_refl _, Nat.le_refl _⟩
  | f + 1, acc, ts, st, l, r, st', hl, ha, h => by
    unfold altF at h
    split at h
    · split at h
      · cases h
      · rename_i n r1 st1 he
        have ht : ts.tail.length ≤ ts.length := by simp
        obtain ⟨h1, h2⟩ := hp _ _ _ _ _ (Nat.le_trans ht hl) he
        obtain ⟨i1, i2, i3⟩ := altF_wd hp f _ _ _ (Nat.le_trans h2 (Nat.le_trans ht hl)) (fun x hx => by
          rcases List.mem_append.1 hx with q | q
          · exact ha x q
          · obtain rfl : x = n := by simpa using q
            exact h1) h
        refine ⟨i1, ?_, Nat.le_trans i3 (Nat.le_trans h2 ht)⟩
        simp at i2; omega
    · cases h; exact ⟨ha, by omega, Nat.le_refl _⟩
theorem catM_wd {p : List Tok → Sts → NR Nd} (hp : PWd p) : PWd (catM p) := fun ts st n r st' hl h => by
  unfold catM at h
  split at h
  · cases h
  · rename_i l r1 st1 he
    cases h
    obtain ⟨i1, i2, i3⟩ := catF_wd hp _ _ _ _ hl (fun x hx => (by cases hx)) he
    exact ⟨joinN_wd (by simp at i2; omega) i1, i3⟩
theorem regexG_wd {p : List Tok → Sts → NR Nd} (hp : PWd p) : PWd (regexG p) := fun ts st n r st' hl h => by
  unfold regexG at h
  split at h
  · cases h
  · rename_i m r1 st1 he
    obtain ⟨h1, h2⟩ := hp _ _ _ _ _ hl he
    split at h
    · cases h
    · rename_i l r2 st2 he2
      cases h
      obtain ⟨i1, i2, i3⟩ := altF_wd hp _ _ _ _ (Nat.le_trans h2 hl) (fun x hx => by
        obtain rfl : x = m := by simpa using hx
        exact h1) he2
      exact ⟨joinN_wd (by simp at i2; omega) i1, Nat.le_trans i3 h2⟩
theorem partM_wd {N : Nms} {f : Option (List Tok → Sts → NR Nd)} (hf : ∀ g, f = some g → PWd g) : PWd (partM N f) := fun ts st n r st' hl h => by
  have ht : ts.tail.length ≤ ts.length := by simp
  unfold partM at h
  split at h
  · split at h
    · cases h
    · rename_i g
      cases hq : g ts.tail st with
      | inl x => rw [hq] at h; cases h
      | inr x =>
        obtain ⟨m, r1, st1⟩ := x
        rw [hq] at h
        simp only [endN] at h
        split at h
        · cases h
          obtain ⟨h1, h2⟩ := hf g rfl _ _ _ _ _ (Nat.le_trans ht hl) hq
          refine ⟨h1, ?_⟩
          have : r1.tail.length ≤ r1.length := by simp
          omega
        · cases h
  · split at h
    · cases h
    · split at h
      · cases h
      · cases h
        exact ⟨wdN_of (by simp) (fun x hx => (by cases hx)), ht⟩
theorem regexM_wd (N : Nms) : ∀ (b : Nat), PWd (regexM N b)
  | 0 => regexG_wd (catM_wd (signedM_wd (partM_wd (fun g h => by cases h))))
  | b + 1 => regexG_wd (catM_wd (signedM_wd (partM_wd (fun g h => by cases h; exact regexM_wd N b))))
/-- A rule's expressions have few parts. -/
def WdR (x : Rl) : Prop := WdN x.l ∧ WdN x.r
theorem ruleM_wd {N : Nms} {ts : List Tok} {st : Sts} {x : Rl} {r : List Tok} {st' : Sts} (hl : ts.length ≤ 69990) (h : ruleM N ts st = .inr (x, r, st')) : WdR x := by
  have ht : ts.tail.length ≤ ts.length := by simp
  have key : ∀ {c : Int} {q : NR Nd} {n : Nd} {r : List Tok} {st' : Sts}, endN c q = .inr (n, r, st') → ∃ r0, q = .inr (n, r0, st') ∧ r.length ≤ r0.length := fun {c q n r st'} h => by
    match q, h with
    | .inr (n0, r0, st0), h =>
      simp only [endN] at h
      split at h
      · cases h; exact ⟨r0, rfl, by simp⟩
      · cases h
  unfold ruleM at h
  split at h
  · cases h
  · rename_i l r1 st1 he
    obtain ⟨r0, e0, hr0⟩ := key he
    obtain ⟨h1, h2⟩ := regexM_wd N 20 _ _ _ _ _ (Nat.le_trans ht hl) e0
    split at h
    · cases h
    · rename_i n r2 st2 he2
      obtain ⟨r3, e3, hr3⟩ := key he2
      obtain ⟨h3, h4⟩ := regexM_wd N 20 _ _ _ _ _ (by omega) e3
      cases h
      exact ⟨h1, h3⟩
theorem textF_wd : ∀ (f : Nat) (N : Nms) (rs : List Rl) (ts : List Tok) (st : Sts) {rs' : List Rl} {st' : Sts}, ts.length ≤ 69990 → (∀ x ∈ rs, WdR x) → textF f N rs ts st = .inr (rs', st') → ∀ x ∈ rs', WdR x
  | 0, N, rs, ts, st, rs', st', hl, ha, h => by cases h; exact ha
  | f + 1, N, rs, ts, st, rs', st', hl, ha, h => by
    have ht : ts.tail.length ≤ ts.length := by simp
    unfold textF at h
    split at h
    · cases h; exact ha
    · rename_i hk
      split at h
      · split at h
        · cases h
        · rename_i N' r hn
          exact textF_wd f N' rs r st (Nat.le_trans (nameM_left hn) (Nat.le_trans ht hl)) ha h
      · split at h
        · cases h
        · split at h
          · cases h
          · split at h
            · cases h
            · rename_i x r st1 hn
              refine textF_wd f N (rs ++ [x]) r st1 (Nat.le_trans (Nat.le_of_lt (ruleM_left hk hn)) hl) (fun y hy => ?_) h
              rcases List.mem_append.1 hy with q | q
              · exact ha y q
              · obtain rfl : y = x := by simpa using q
                exact ruleM_wd hl hn
theorem toksF_few {n : Nat} : ∀ {k : Nat} {us : List U} {acc l : List Tok}, toksF n k us acc = TR.good l → l.length ≤ acc.length + us.length + 1
  | 0, us, acc, l, h => by cases h
  | k + 1, us, acc, l, h => by
    have hbl := blankL_le false us
    cases h1 : tokO n (blankL false us) with
    | inl x => obtain ⟨a, e⟩ := x; rw [toksF_bad h1] at h; cases h
    | inr x =>
      obtain ⟨t, r⟩ := x
      have hlen := tokO_len h1
      by_cases h4 : t.k = 4
      · rw [toksF_end h1 h4] at h
        obtain rfl := Sum.inr.inj h
        simp
      · rw [toksF_on h1 h4] at h
        have h5 := toksF_few h
        have h6 : r.length < (blankL false us).length := by
          rcases hlen with ⟨q, _⟩ | ⟨_, q⟩
          · exact absurd q h4
          · exact q
        simp at h5; omega
theorem toks_few {zs : List Int} {us : List U} (hr : Run zs 0 us zs.length) {l : List Tok} (h : toksL zs.length us = TR.good l) : l.length ≤ zs.length + 1 := by
  have hlen := Run.le hr (Nat.zero_le _)
  have := toksF_few (show toksF zs.length (us.length + 1) us [] = TR.good l from h)
  simp at this
  omega
theorem parseL_wd {zs : List Int} {us : List U} (hr : Run zs 0 us zs.length) (hz : zs.length ≤ 65536) {rs : List Rl} {st : Sts} (h : parseL (toksL zs.length us) = .inr (rs, st)) : ∀ x ∈ rs, WdR x := by
  cases ht : toksL zs.length us with
  | inl e => rw [ht] at h; cases h
  | inr l =>
    have hc := toks_few hr ht
    rw [ht] at h
    unfold parseL at h
    simp only at h
    split at h
    · cases h
    · rename_i x hx
      obtain ⟨rs', st'⟩ := x
      cases h
      exact textF_wd _ _ _ _ _ (by simp; omega) (fun x hx => (by cases hx)) hx
end Go.Proofs.YtfdjchnckjgapaaGreatDoor
