/-
  StrP TxM
-/
import Derived.Test.YtfdjchnckjgapaaGreatDoorX32
import Derived.Lib.AppendStr
import Derived.Test.YtfdjchnckjgapaaGreatDoorX40
import Derived.Test.YtfdjchnckjgapaaGreatDoorX22
namespace Go.Proofs.YtfdjchnckjgapaaGreatDoor
open Go.RowKit Go.Shelf Go.Lib S1
set_option linter.unusedVariables false
section
variable {P : Program} (w : World)
theorem append_str_lies (base : Nat) (t u ty e : TypeId) (i : TypeInfo) (ht : P.underlying t = some (.slice e)) (hu : P.underlying u = some .string) (hi : P.info? e = some i) (hz : i.zero = some (.int .u8 0))
    (hsize : i.size = 1) (hby : i.bytes = 1)
    (v : Value) (n : Nat) (xs : List Value) (hown : w.ownsRow base e 1 v n xs) (s : ByteArray)
    (h63 : n + s.size ≤ maxLen) (hbytes : n + s.size ≤ 140737488355328) (hbase : base ≤ w.heap.size) :
    ∃ v' w', (Builtin.append_ #[t, u] ty #[v, .string s]).run P w = .ok v' w' ∧ w'.ownsRow base e 1 v' (n + s.size) (xs ++ strCells s) ∧ w.grownBy w' v.ownBlock ∧
      (v'.ownBlock = v.ownBlock ∨ ∀ k, v'.ownBlock = some k → w.heap.size ≤ k) := by
  obtain ⟨v', w', hr, h2, h3, h4⟩ := run_append_own_string (P := P) w base t u ty e i ht hu hi hz hsize hby v n xs hown s h63 hbytes hbase
  refine ⟨v', w', hr, h2, h3, ?_⟩
  have hsmall : n + s.size ≤ 9223372036854775807 := by simp only [maxLen] at h63; omega
  have hxl : xs.length = n := by simpa using hown.1
  rcases hown.2 with ⟨rfl, rfl⟩ | ⟨g, cap, cur, rfl, hbg, hg, hnc, hcm, hcs, htake⟩
  · right
    have hx : xs = [] := List.eq_nil_of_length_eq_zero hxl
    subst hx
    obtain ⟨v2, w2, hr2, h5, _, _⟩ := run_append_own_string (P := P) w w.heap.size t u ty e i ht hu hi hz hsize hby (.slice none 0 0) 0 [] (World.ownsRow_nil w _ e 1) s h63 hbytes (Nat.le_refl _)
    have e2 := hr.symm.trans hr2
    simp only [Result.ok.injEq] at e2
    intro k hk
    rw [e2.1] at hk
    exact (h5.lt k hk).1
  · by_cases hroom : n + s.size ≤ cap
    · left
      have hcs' : cur.size = cap := by simpa using hcs
      have hr2 := run_append_room_string (P := P) w t u ty e i ht hu hi hsize g n cap cur hg s hroom (by omega)
      have e2 := hr.symm.trans hr2
      simp only [Result.ok.injEq] at e2
      rw [e2.1]; rfl
    · right
      have holds : ∀ j u, xs[j]? = some u → w.cell? ((⟨g, 0, none⟩ : Addr).add j) = some u := World.ownsRow.cells (e := e) (size := 1) hown (g := g) rfl
      have hr2 := run_append_grow_string (P := P) w t u ty e i (.int .u8 0) ht hu hi hz ⟨g, 0, none⟩ n cap xs (by rw [hsize]; simpa using hxl) holds s (by omega) (by omega) (by rw [hby]; exact growslice_fits (by omega) (by omega))
      have e2 := hr.symm.trans hr2
      simp only [Result.ok.injEq] at e2
      intro k hk
      rw [e2.1] at hk
      have : w.heap.size = k := by simpa [Value.ownBlock] using hk
      omega
theorem wpList_append_lies_string {ops : Array Oper} {rest : List Oper} {o : Oper} {a : Act} {Q : Exit → Act → World → Prop} (hgd : o.guard = none) (sl x : Operand) (t u : TypeId)
    (ho : o.op = .call { callee := .builtin .append, args := #[sl, x], argTypes := #[t, u] })
    (base : Nat) (e : TypeId) (i : TypeInfo) (ht : P.underlying t = some (.slice e)) (hu : P.underlying u = some .string) (hi : P.info? e = some i) (hz : i.zero = some (.int .u8 0))
    (hsize : i.size = 1) (hby : i.bytes = 1)
    (v : Value) (n : Nat) (xs : List Value) (hs : a.eval sl = v) (hown : w.ownsRow base e 1 v n xs) (s : ByteArray) (hx : a.eval x = .string s)
    (h63 : n + s.size ≤ maxLen) (hbytes : n + s.size ≤ 140737488355328) (hbase : base ≤ w.heap.size)
    (h : ∀ v' w', w'.ownsRow base e 1 v' (n + s.size) (xs ++ strCells s) → w.grownBy w' v.ownBlock → (v'.ownBlock = v.ownBlock ∨ ∀ k, v'.ownBlock = some k → w.heap.size ≤ k) → wpList P ops Q rest (a.put o.dst v') w') : wpList P ops Q (o :: rest) a w := by
  refine wpList_plain hgd fun K hK => ?_
  obtain ⟨v', w', hr, h2, h3, h4⟩ := append_str_lies (P := P) w base t u o.type e i ht hu hi hz hsize hby v n xs hown s h63 hbytes hbase
  unfold Oper.wp execOp
  simp only [ho, resolve, invoke, builtin, Sem.run_bind, Sem.run_pure, Result.andThen_ok, List.map_toArray, List.map_cons, List.map_nil, hs, hx, hr]
  exact hK _ _ (h v' w' h2 h3 h4)
end
theorem strCells_nums {s : List Int} (h : Byt s) : strCells (strOfNums s) = s.map (Value.int .u8) := by
  unfold strCells strOfNums
  simp only [List.map_map]
  apply List.map_congr_left
  intro x hx
  have := h x hx
  simp only [Function.comp]
  congr 1
  simp only [UInt8.toNat_ofNat']
  omega
theorem strNums_size (s : List Int) : (strOfNums s).size = s.length := by
  have : (strOfNums s).size = (strOfNums s).data.size := rfl
  rw [this]
  simp [strOfNums]
def Wk (w : World) (P k : Nat) : Prop := k < w.heap.size ∧ k ≠ P ∧ ∀ v, w.cell? ⟨P, 1, none⟩ = some v → v.ownBlock ≠ some k
structure FrW (P : Nat) (w w' : World) : Prop where
  os : w'.os = w.os
  tape : w'.tape = w.tape
  output : w'.output = w.output
  size : w.heap.size ≤ w'.heap.size
  keep : ∀ k, Wk w P k → w'.heap[k]? = w.heap[k]? ∧ Wk w' P k
theorem FrW.refl (P : Nat) (w : World) : FrW P w w := ⟨rfl, rfl, rfl, Nat.le_refl _, fun k h => ⟨rfl, h⟩⟩
theorem FrW.trans {P : Nat} {a b c : World} (h : FrW P a b) (k : FrW P b c) : FrW P a c :=
  ⟨k.os.trans h.os, k.tape.trans h.tape, k.output.trans h.output, Nat.le_trans h.size k.size, fun i hi => by
    obtain ⟨e1, m1⟩ := h.keep i hi
    obtain ⟨e2, m2⟩ := k.keep i m1
    exact ⟨e2.trans e1, m2⟩⟩
def PrAt (base P : Nat) (w : World) (svv : Value) (zs : List Int) : Prop := ∃ tv, w.heap[P]? = some (.cells #[svv, tv] 63 (0, 0)) ∧ w.ownsRow base 5 1 tv zs.length (zs.map (Value.int .u8)) ∧ tv.ownBlock ≠ some P ∧ base ≤ P
theorem PrAt.lt {base P : Nat} {w : World} {svv : Value} {zs : List Int} (h : PrAt base P w svv zs) : P < w.heap.size := by
  obtain ⟨tv, h1, _⟩ := h
  exact (Array.getElem?_eq_some_iff.1 h1).1
theorem frw_below {P : Nat} {w w' : World} (h : Below w.heap.size w w') (hP : P < w.heap.size) : FrW P w w' :=
  ⟨h.os, h.tape, h.output, h.size, fun k hk => ⟨h.block k hk.1, Nat.lt_of_lt_of_le hk.1 h.size, hk.2.1, fun v hv => hk.2.2 v ((World.cell?_of_block (a := ⟨P, 1, none⟩) (h.block P hP)).symm.trans hv)⟩⟩
theorem PrAt.below {base P : Nat} {w w' : World} {svv : Value} {zs : List Int} (h : PrAt base P w svv zs) (hB : Below w.heap.size w w') : PrAt base P w' svv zs := by
  have hl := h.lt
  obtain ⟨tv, h1, h2, h3, h4⟩ := h
  exact ⟨tv, (hB.block P hl).trans h1, own_block h2 (fun k hk => hB.block k (h2.lt k hk).2), h3, h4⟩
theorem PrAt.fresh {base P : Nat} {w w' : World} {svv : Value} {zs : List Int} (h : PrAt base P w svv zs) (hB : Below w.heap.size w w') {k : Nat} (h1 : w.heap.size ≤ k) (h2 : k < w'.heap.size) : Wk w' P k := by
  have hl := h.lt
  obtain ⟨tv, g1, g2, g3, g4⟩ := h
  refine ⟨h2, by omega, fun v hv q => ?_⟩
  rw [World.cell?_of_block (a := ⟨P, 1, none⟩) (hB.block P hl)] at hv
  have : w.cell? ⟨P, 1, none⟩ = some tv := cell_of_row _ _ 1 _ _ _ g1
  rw [this] at hv
  obtain rfl : tv = v := by simpa using hv
  have := (g2.lt k q).2
  omega
theorem own_slice {w : World} {base e size n : Nat} {v : Value} {xs : List Value} (h : w.ownsRow base e size v n xs) : ∃ a m c, v = .slice a m c := by
  rcases h.2 with ⟨e, _⟩ | ⟨g, cap, cur, e, _⟩
  · exact ⟨_, _, _, e⟩
  · exact ⟨_, _, _, e⟩
theorem Tryz.infoByte8 : (Tryz.prog.info? 5).map (fun i => (i.zero, i.size, i.bytes)) = some (some (.int .u8 0), 1, 1) := by kernel_rfl
set_option maxRecDepth 100000 in
set_option maxHeartbeats 4000000 in
theorem write_any (base P : Nat) (w : World) (svv : Value) (zs s : List Int) (hs : Byt s) (hl : zs.length + s.length ≤ 1000000000000) (h : PrAt base P w svv zs) :
    Calls Tryz.prog 55 #[.pointer (some ⟨P, 0, none⟩), .string (strOfNums s)] w fun e w' => e = .returned (.tuple #[]) ∧ PrAt base P w' svv (zs ++ s) ∧ FrW P w w' := by
  obtain ⟨i0, hi0, hz0, hz1, hz2⟩ := info_parts Tryz.infoByte8
  have hPl := h.lt
  obtain ⟨tv, g1, g2, g3, g4⟩ := h
  have c1 : w.cell? ⟨P, 1, none⟩ = some tv := cell_of_row _ _ 1 _ _ _ g1
  have f1 : w.frozen? ⟨P, 1, none⟩ = false := frozen_of_row _ _ 1 _ _ g1
  have HG1 : Hid (w.heap[P]? = some (.cells #[svv, tv] 63 (0, 0))) := g1
  have HOW : Hid (w.ownsRow base 5 1 tv zs.length (zs.map (Value.int .u8))) := g2
  have HNP : Hid (tv.ownBlock ≠ some P) := g3
  have HBP : Hid (base ≤ P) := g4
  have HC1 : Hid (w.cell? ⟨P, 1, none⟩ = some tv) := c1
  have hsz := strNums_size s
  have HSC : Hid (strCells (strOfNums s) = s.map (Value.int .u8)) := strCells_nums hs
  obtain ⟨str, hstr⟩ : ∃ x, x = strOfNums s := ⟨_, rfl⟩
  rw [← hstr] at hsz HSC ⊢
  have HSZ : Hid (str.size = s.length) := hsz
  clear g1 g2 g3 g4 hstr hsz hs
  obtain ⟨ta, tn, tc, rfl⟩ : ∃ a n c, tv = .slice a n c := by
    rcases HOW.out.2 with ⟨e, _⟩ | ⟨g, cap, cur, e, _⟩
    · exact ⟨_, _, _, e⟩
    · exact ⟨_, _, _, e⟩
  go_enter Tryz.func55, Tryz.ntmps55
  go_wp2_with (at_builtin; refine wpList_append_lies_string _ rfl (.tmp 8) (.tmp 9) 22 9 rfl base 5 i0 Tryz.underlying22 Tryz.underlying9 hi0 hz0 hz1 hz2 _ _ _ rfl HOW.out str rfl (by unfold maxLen; have := HSZ.out; omega) (by have := HSZ.out; omega) (by have := HBP.out; omega) ?_; intro v2 w2 ho2 hg2 hat2; obtain ⟨va, vn, vc, rfl⟩ := own_slice ho2; have c12 : w2.cell? ⟨P, 1, none⟩ = some (.slice ta tn tc) := hg2.cell HC1.out (Ne.symm HNP.out); have f12 : w2.frozen? ⟨P, 1, none⟩ = false := (World.frozen?_of_block (a := ⟨P, 1, none⟩) (hg2.block P hPl (Ne.symm HNP.out))).trans f1; have hPl2 : P < w2.heap.size := Nat.lt_of_lt_of_le hPl hg2.size)
  have HO2 : Hid (w2.ownsRow base 5 1 (.slice va vn vc) (zs ++ s).length ((zs ++ s).map (Value.int .u8))) := by
    have := ho2
    rw [HSC.out, HSZ.out, ← List.map_append, ← List.length_append] at this
    exact this
  have HG2 : Hid (w.grownBy w2 (Value.slice ta tn tc).ownBlock) := hg2
  have HAT : Hid ((Value.slice va vn vc).ownBlock = (Value.slice ta tn tc).ownBlock ∨ ∀ k, (Value.slice va vn vc).ownBlock = some k → w.heap.size ≤ k) := hat2
  clear ho2 hg2 hat2
  go_end0
  have hPb : w2.heap[P]? = some (.cells #[svv, .slice ta tn tc] 63 (0, 0)) := (HG2.out.block P hPl (Ne.symm HNP.out)).trans HG1.out
  have hnP : (Value.slice va vn vc).ownBlock ≠ some P := fun q => by
    rcases HAT.out with h | h
    · exact HNP.out (h.symm.trans q)
    · have := h P q; omega
  have hset : ∀ k, k ≠ P → (w2.setCell ⟨P, 1, none⟩ (.slice va vn vc)).heap[k]? = w2.heap[k]? := fun k hk => Below.heap_setCell w2 ⟨P, 1, none⟩ _ k (by simpa using hk)
  have hPb2 : (w2.setCell ⟨P, 1, none⟩ (.slice va vn vc)).heap[P]? = some (.cells #[svv, .slice va vn vc] 63 (0, 0)) := heap_set hPb _
  refine ⟨rfl, ⟨.slice va vn vc, hPb2, own_block HO2.out (fun k hk => hset k (fun q => hnP (by rw [← q]; exact hk))), hnP, HBP.out⟩, ?_⟩
  refine ⟨HG2.out.os, HG2.out.tape, HG2.out.output, by simpa [World.setCell] using HG2.out.size, fun k hk => ?_⟩
  have hkr := hk.2.2 _ HC1.out
  refine ⟨(hset k hk.2.1).trans (HG2.out.block k hk.1 (fun q => hkr q.symm)), by have := HG2.out.size; have := hk.1; simp [World.setCell]; omega, hk.2.1, fun v hv q => ?_⟩
  have : (w2.setCell ⟨P, 1, none⟩ (.slice va vn vc)).cell? ⟨P, 1, none⟩ = some (.slice va vn vc) := cell_of_row _ _ 1 _ _ _ hPb2
  rw [this] at hv
  obtain rfl : Value.slice va vn vc = v := by simpa using hv
  rcases HAT.out with h | h
  · exact hkr (h.symm.trans q)
  · have := h k q; have := hk.1; omega
end Go.Proofs.YtfdjchnckjgapaaGreatDoor

namespace Go.Proofs.YtfdjchnckjgapaaGreatDoor
open Go.RowKit Go.Shelf S1
set_option linter.unusedVariables false
def brT (b : Bool) (t : List Int) : List Int := if b = true then 40 :: (t ++ [41]) else t
def barT (fst : Bool) (k : Int) : List Int := if fst = false ∧ k = 2 then [124] else []
def txK (g : Nd → List Int) (k : Int) : Bool → List Nd → List Int
  | _, [] => []
  | fst, x :: l => barT fst k ++ (brT (inBr x.k k) (g x) ++ txK g k false l)
def headT (S : List (List Int)) (n : Nd) : List Int := if n.k = 1 then S.getD n.s.toNat [] else []
def txN : Nat → List (List Int) → Nd → List Int
  | 0, S, n => headT S n ++ signT n.k
  | f + 1, S, n => headT S n ++ (txK (txN f S) n.k true n.kids ++ signT n.k)
def SIn : Nat → Nat → Nd → Prop
  | 0, b, n => n.k = 1 → 0 ≤ n.s ∧ n.s < (b : Int)
  | f + 1, b, n => (n.k = 1 → 0 ≤ n.s ∧ n.s < (b : Int)) ∧ ∀ x ∈ n.kids, SIn f b x
theorem SIn.here {f b : Nat} {n : Nd} (h : SIn f b n) : n.k = 1 → 0 ≤ n.s ∧ n.s < (b : Int) := by
  cases f with
  | zero => exact h
  | succ f => exact h.1
theorem SIn.more : ∀ {f b c : Nat} {n : Nd}, SIn f b n → b ≤ c → SIn f c n
  | 0, b, c, n, h, hc => fun hk => by have := h hk; omega
  | f + 1, b, c, n, h, hc => ⟨fun hk => by have := h.1 hk; omega, fun x hx => (h.2 x hx).more hc⟩
theorem meetS_in {m m' : Nat} {s : Int} (h : meetS m s = some m') : (0 ≤ s ∧ s < (m' : Int)) ∧ m ≤ m' := by
  unfold meetS at h
  split at h
  · cases h; omega
  · split at h
    · cases h; omega
    · cases h
theorem mayN_in : ∀ {f dp sg m : Nat} {n : Nd} {m' : Nat}, Dp f n.kids → mayN f dp sg m n = some m' → SIn f m' n ∧ m ≤ m'
  | 0, dp, sg, m, n, m', hd, h => by
    have h0 : n.kids = [] := hd
    rw [mayN_zero h0] at h
    split at h
    · obtain ⟨h1, h2⟩ := meetS_in h
      exact ⟨fun _ => h1, h2⟩
    · rename_i hk
      split at h
      · cases h; exact ⟨fun q => absurd q hk, Nat.le_refl _⟩
      · cases h
  | f + 1, dp, sg, m, n, m', hd, h => by
    by_cases hk : n.k = 1
    · rw [mayN_set hk] at h
      split at h
      · rename_i h0
        obtain ⟨h1, h2⟩ := meetS_in h
        exact ⟨⟨fun _ => h1, fun x hx => by rw [h0] at hx; cases hx⟩, h2⟩
      · cases h
    · cases ho : okH sg n with
      | false => rw [mayN_bad hk ho] at h; cases h
      | true =>
        rw [mayN_kids hk ho] at h
        have key : ∀ {l : List Nd} {m m' : Nat}, (∀ x ∈ l, Dp f x.kids) → mayK f dp (sgs sg n.k) n.k m l = some m' → (∀ x ∈ l, SIn f m' x) ∧ m ≤ m' := by
          intro l
          induction l with
          | nil => intro m m' _ h; cases h; exact ⟨fun x hx => (by cases hx), Nat.le_refl _⟩
          | cons x l ih =>
            intro m m' hl h
            rw [mayK_cons] at h
            split at h
            · cases h
            · rw [Option.bind_eq_some_iff] at h
              obtain ⟨m1, h1, h2⟩ := h
              obtain ⟨a1, a2⟩ := mayN_in (hl x (by simp)) h1
              obtain ⟨b1, b2⟩ := ih (fun y hy => hl y (by simp [hy])) h2
              refine ⟨fun y hy => ?_, by omega⟩
              rcases List.mem_cons.1 hy with rfl | hy
              · exact a1.more b2
              · exact b1 y hy
        obtain ⟨k1, k2⟩ := key hd.2 h
        exact ⟨⟨fun q => absurd q hk, k1⟩, k2⟩
theorem mayR_in : ∀ {rl : List Rl} {m m' : Nat}, (∀ x ∈ rl, Dp 120 x.l.kids ∧ Dp 120 x.r.kids) → mayR m rl = some m' → (∀ x ∈ rl, SIn 120 m' x.l ∧ SIn 120 m' x.r) ∧ m ≤ m'
  | [], m, m', _, h => by cases h; exact ⟨fun x hx => (by cases hx), Nat.le_refl _⟩
  | x :: l, m, m', hd, h => by
    rw [mayR] at h
    split at h
    · cases h
    · rename_i m1 h1
      split at h
      · cases h
      · rename_i m2 h2
        obtain ⟨a1, a2⟩ := mayN_in (hd x (by simp)).1 h1
        obtain ⟨b1, b2⟩ := mayN_in (hd x (by simp)).2 h2
        obtain ⟨c1, c2⟩ := mayR_in (fun y hy => hd y (by simp [hy])) h
        refine ⟨fun y hy => ?_, by omega⟩
        rcases List.mem_cons.1 hy with rfl | hy
        · exact ⟨a1.more (by omega), b1.more c2⟩
        · exact c1 y hy
theorem signT_len (k : Int) : (signT k).length ≤ 1 := by
  unfold signT
  repeat' split
  all_goals simp
theorem headT_len {S : List (List Int)} (hS : ∀ s ∈ S, s.length ≤ 69900) (n : Nd) : (headT S n).length ≤ 69900 := by
  unfold headT
  split
  · rw [List.getD_eq_getElem?_getD]
    cases h : S[n.s.toNat]? with
    | none => simp
    | some s => exact hS s (List.mem_of_getElem? h)
  · simp
theorem txK_len {g : Nd → List Int} {z : Nd → Nat} {k : Int} : ∀ {l : List Nd} {fst : Bool}, (∀ x ∈ l, (g x).length + 3 ≤ z x * 70000) → (txK g k fst l).length ≤ (l.map z).sum * 70000
  | [], _, _ => by simp [txK]
  | x :: l, fst, h => by
    have h1 := h x (by simp)
    have h2 := txK_len (k := k) (l := l) (fst := false) (fun y hy => h y (by simp [hy]))
    have h3 : (barT fst k).length ≤ 1 := by unfold barT; split <;> simp
    have h4 : (brT (inBr x.k k) (g x)).length ≤ (g x).length + 2 := by unfold brT; split <;> simp
    unfold txK
    simp only [List.length_append, List.map_cons, List.sum_cons, Nat.add_mul]
    omega
theorem txN_len {S : List (List Int)} (hS : ∀ s ∈ S, s.length ≤ 69900) : ∀ (f : Nat) (n : Nd), (txN f S n).length + 3 ≤ Sz f n * 70000
  | 0, n => by
    have h1 := headT_len hS n
    have h2 := signT_len n.k
    unfold txN Sz
    simp only [List.length_append]
    omega
  | f + 1, n => by
    have h1 := headT_len hS n
    have h2 := signT_len n.k
    have h3 := txK_len (g := txN f S) (z := Sz f) (k := n.k) (l := n.kids) (fst := true) (fun x _ => txN_len hS f x)
    unfold txN Sz
    simp only [List.length_append, Nat.add_mul]
    omega
end Go.Proofs.YtfdjchnckjgapaaGreatDoor
