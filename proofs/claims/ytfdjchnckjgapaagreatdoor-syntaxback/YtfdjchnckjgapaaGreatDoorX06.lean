/-
  Sorter Sort Make
-/
import Derived.Shelf.SlSortCmp.WholeK
import Derived.Test.YtfdjchnckjgapaaGreatDoorProg
import Derived.Test.YtfdjchnckjgapaaGreatDoorX05
import Derived.Shelf.SlSortCmp.NoneTotal
import Derived.Lib.SliceRun
namespace Go.Proofs.YtfdjchnckjgapaaGreatDoor
open Go.Shelf
def sortR_ren : Go.Shelf.Ren := ⟨fun | 6 => 100 | 15 => 134 | 14 => 133 | 28 => 171 | 29 => 172 | 20 => 163 | 21 => 164 | 22 => 165 | 23 => 166 | 24 => 167 | 25 => 168 | 26 => 169 | 27 => 170 | 46 => 196 | 47 => 197 | 48 => 198 | 49 => 199 | 50 => 200 | 57 => 219 | n => n, fun | 22 => 43 | 24 => 94 | 25 => 139 | 3 => 3 | 39 => 166 | 0 => 0 | 53 => 201 | 55 => 188 | 4 => 4 | 46 => 195 | 45 => 194 | 50 => 146 | 5 => 5 | 9 => 9 | 66 => 213 | 70 => 217 | 76 => 232 | 77 => 144 | n => n, fun | n => n⟩
theorem sortR : Go.Proofs.SlLaysF0.n6 Tryz.prog sortR_ren := {
  mixed := by kernel_rfl
  f6 := ⟨Tryz.f100.name, by decide, Tryz.func100.trans (congrArg some (by kernel_rfl))⟩
  f14 := ⟨Tryz.f133.name, by decide, Tryz.func133.trans (congrArg some (by kernel_rfl))⟩
  f15 := Tryz.func134.trans (congrArg some (by kernel_rfl))
  f20 := ⟨Tryz.f163.name, by decide, Tryz.func163.trans (congrArg some (by kernel_rfl))⟩
  f21 := ⟨Tryz.f164.name, by decide, Tryz.func164.trans (congrArg some (by kernel_rfl))⟩
  f22 := ⟨Tryz.f165.name, by decide, Tryz.func165.trans (congrArg some (by kernel_rfl))⟩
  f23 := ⟨Tryz.f166.name, by decide, Tryz.func166.trans (congrArg some (by kernel_rfl))⟩
  f24 := ⟨Tryz.f167.name, by decide, Tryz.func167.trans (congrArg some (by kernel_rfl))⟩
  f25 := ⟨Tryz.f168.name, by decide, Tryz.func168.trans (congrArg some (by kernel_rfl))⟩
  f26 := ⟨Tryz.f169.name, by decide, Tryz.func169.trans (congrArg some (by kernel_rfl))⟩
  f27 := ⟨Tryz.f170.name, by decide, Tryz.func170.trans (congrArg some (by kernel_rfl))⟩
  f28 := Tryz.func171.trans (congrArg some (by kernel_rfl))
  f29 := Tryz.func172.trans (congrArg some (by kernel_rfl))
  f46 := ⟨Tryz.f196.name, by decide, Tryz.func196.trans (congrArg some (by kernel_rfl))⟩
  f47 := Tryz.func197.trans (congrArg some (by kernel_rfl))
  f48 := Tryz.func198.trans (congrArg some (by kernel_rfl))
  f49 := ⟨Tryz.f199.name, by decide, Tryz.func199.trans (congrArg some (by kernel_rfl))⟩
  f50 := ⟨Tryz.f200.name, by decide, Tryz.func200.trans (congrArg some (by kernel_rfl))⟩
  f57 := ⟨Tryz.f219.name, by decide, Tryz.func219.trans (congrArg some (by kernel_rfl))⟩
  t0 := Tryz.underlying0
  a0 := Tryz.isAgg0
  z0 := Tryz.sizeOf0
  v0 := Tryz.zeroValue0
  t3 := Tryz.underlying3
  a3 := Tryz.isAgg3
  z3 := Tryz.sizeOf3
  v3 := Tryz.zeroValue3
  t4 := Tryz.underlying4
  a4 := Tryz.isAgg4
  z4 := Tryz.sizeOf4
  v4 := Tryz.zeroValue4
  t5 := Tryz.underlying5
  a5 := Tryz.isAgg5
  z5 := Tryz.sizeOf5
  v5 := Tryz.zeroValue5
  t9 := Tryz.underlying9
  a9 := Tryz.isAgg9
  z9 := Tryz.sizeOf9
  v9 := Tryz.zeroValue9
  t22 := Tryz.underlying43
  a22 := Tryz.isAgg43
  z22 := Tryz.sizeOf43
  v22 := Tryz.zeroValue43
  t25 := Tryz.underlying139
  a25 := Tryz.isAgg139
  z25 := Tryz.sizeOf139
  v25 := Tryz.zeroValue139
  t39 := Tryz.underlying166
  a39 := Tryz.isAgg166
  z39 := Tryz.sizeOf166
  v39 := Tryz.zeroValue166
  t45 := Tryz.underlying194
  a45 := Tryz.isAgg194
  z45 := Tryz.sizeOf194
  v45 := Tryz.zeroValue194
  t46 := Tryz.underlying195
  a46 := Tryz.isAgg195
  z46 := Tryz.sizeOf195
  v46 := Tryz.zeroValue195
  t50 := Tryz.underlying146
  a50 := Tryz.isAgg146
  z50 := Tryz.sizeOf146
  v50 := Tryz.zeroValue146
  t53 := Tryz.underlying201
  a53 := Tryz.isAgg201
  z53 := Tryz.sizeOf201
  v53 := Tryz.zeroValue201
  t55 := Tryz.underlying188
  a55 := Tryz.isAgg188
  z55 := Tryz.sizeOf188
  v55 := Tryz.zeroValue188
  t66 := Tryz.underlying213
  a66 := Tryz.isAgg213
  z66 := Tryz.sizeOf213
  v66 := Tryz.zeroValue213
  t70 := Tryz.underlying217
  a70 := Tryz.isAgg217
  z70 := Tryz.sizeOf217
  v70 := Tryz.zeroValue217
  t76 := Tryz.underlying232
  a76 := Tryz.isAgg232
  z76 := Tryz.sizeOf232
  v76 := Tryz.zeroValue232
  t77 := Tryz.underlying144
  a77 := Tryz.isAgg144
  z77 := Tryz.sizeOf144
  v77 := Tryz.zeroValue144 }
end Go.Proofs.YtfdjchnckjgapaaGreatDoor

namespace Go.Proofs.YtfdjchnckjgapaaGreatDoor
open Go.RowKit Go.Shelf Go.Lib Go.Sort
set_option linter.unusedVariables false
def cmpI (x y : Int) : Int := if x < y then -1 else if y < x then 1 else 0
theorem cmpI_neg (x y : Int) : cmpI x y < 0 ↔ x < y := by
  unfold cmpI
  repeat' split
  all_goals omega
def cmpR (x y : Rg) : Int := cmpI x.lo y.lo
theorem ltOf_cmpR (x y : Rg) : ltOf cmpR x y = decide (x.lo < y.lo) := by
  unfold ltOf cmpR
  exact decide_eq_decide.2 (cmpI_neg _ _)
theorem swoR : SWO (ltOf cmpR) where
  irrefl x := by rw [ltOf_cmpR]; simp
  trans x y z h1 h2 := by rw [ltOf_cmpR] at *; simp at *; omega
  ntrans x y z h1 h2 := by rw [ltOf_cmpR] at *; simp at *; omega
theorem isNaN_any (x : Int) (w : World) : Calls Tryz.prog 135 #[.int .i64 x] w fun e w' => e = .returned (.bool false) ∧ w' = w := by
  have h : (x != x) = false := by simp
  go_enter Tryz.func135, Tryz.ntmps135
  go_wp2
  go_ret
  exact ⟨rfl, rfl⟩
theorem compare_any (x y : Int) (w : World) : Calls Tryz.prog 102 #[.int .i64 x, .int .i64 y] w fun e w' => e = .returned (.int .i64 (cmpI x y)) ∧ w' = w := by
  by_cases h1 : x < y
  · have e : cmpI x y = -1 := by simp [cmpI, h1]
    rw [e]
    go_enter Tryz.func102, Tryz.ntmps102
    go_wp2_with (go_at_call 135; refine (isNaN_any _ _).mono ?_; rintro e w' ⟨rfl, rfl⟩)
    go_ret
    exact ⟨rfl, rfl⟩
  by_cases h2 : y < x
  · have e : cmpI x y = 1 := by simp [cmpI, h1, h2]
    rw [e]
    go_enter Tryz.func102, Tryz.ntmps102
    go_wp2_with (go_at_call 135; refine (isNaN_any _ _).mono ?_; rintro e w' ⟨rfl, rfl⟩)
    go_ret
    exact ⟨rfl, rfl⟩
  · have e : cmpI x y = 0 := by simp [cmpI, h1, h2]
    rw [e]
    go_enter Tryz.func102, Tryz.ntmps102
    go_wp2_with (go_at_call 135; refine (isNaN_any _ _).mono ?_; rintro e w' ⟨rfl, rfl⟩)
    go_ret
    exact ⟨rfl, rfl⟩
theorem make1_any (x y : Rg) (w : World) : Calls Tryz.prog 101 #[.agg #[.int .i64 x.lo, .int .i64 x.hi], .agg #[.int .i64 y.lo, .int .i64 y.hi]] w fun e w' => e = .returned (.int .i64 (cmpR x y)) ∧ ∃ q os', w' = grow (w.drewN q) os' := by
  have hcon := fun W => compare_any x.lo y.lo W
  have e0 : cmpI x.lo y.lo = cmpR x y := rfl
  rw [e0] at hcon
  generalize cmpR x y = r at hcon ⊢
  go_enter Tryz.func101, Tryz.ntmps101
  go_wp2_with (go_at_call 102; refine (hcon _).mono ?_; rintro e w' ⟨rfl, rfl⟩)
  go_ret
  exact ⟨rfl, 0, _, by rw [alloc_eq_grow, alloc_eq_grow, grow_grow]; rfl⟩
theorem below_sorted [Inhabited Rg] {w : World} {base g n : Nat} {d : Array Rg} {os : Array Obj} (hb : base ≤ g) (hs : base ≤ w.heap.size) : Below base w (sortWorldK cellsR 2 w g 0 n d os) := by
  refine ⟨rfl, rfl, rfl, ?_, fun k hk => ?_⟩
  · unfold sortWorldK
    rw [size_grow, size_putRowK]
    show w.heap.size ≤ w.heap.size + _
    omega
  · have h1 : (putRowK cellsR 2 (Sort.ahead w n) g 0 d).heap[k]? = w.heap[k]? := by
      unfold putRowK putRow mapBlock
      show (w.heap.modify g _)[k]? = _
      rw [Array.getElem?_modify, if_neg (by omega)]
    rw [← h1]
    unfold sortWorldK grow
    have hk2 : k < (putRowK cellsR 2 (Sort.ahead w n) g 0 d).heap.size := by
      rw [size_putRowK]
      show k < w.heap.size
      omega
    exact Array.getElem?_append_left hk2
theorem holds_of_own [Inhabited Rg] {w : World} {base g cap : Nat} {l : List Rg} (h : w.ownsRow base 94 2 (.slice (some ⟨g, 0, none⟩) l.length cap) l.length (cellsRs l)) : HoldsK cellsR 2 w g 0 l.toArray := by
  intro j hj
  rw [size_flatK] at hj
  have hj' : j < l.length * 2 := by simpa using hj
  have hlt : j / 2 < l.length := by omega
  refine ⟨?_, own_frozen h _⟩
  rw [get_flatK _ _ _ _ hj]
  have hx := cellsRs_at l (j / 2) (j % 2) hlt (by omega)
  have e : j / 2 * 2 + j % 2 = j := by omega
  rw [e] at hx
  have e2 : l.toArray[j / 2]! = l[j / 2] := by simp [hlt]
  rw [e2]
  have hy : (cellsR l[j / 2])[j % 2]? = some (cellsR l[j / 2])[j % 2]! := by
    have : j % 2 < (cellsR l[j / 2]).length := by simp [cellsR]; omega
    rw [getElem!_pos (cellsR l[j / 2]) (j % 2) this, List.getElem?_eq_getElem this]
  rw [hy] at hx
  have := h.cells (g := g) rfl j _ hx
  rw [add_lit'] at this
  exact this
def Ordered (l s : List Rg) : Prop := s.length = l.length ∧ (∀ r, r ∈ s ↔ r ∈ l) ∧ ∀ i j, i < j → (hi : i < s.length) → (hj : j < s.length) → s[i].lo ≤ s[j].lo
theorem rng_of_holds [Inhabited Rg] {w : World} {g cap : Nat} {s : List Rg} (h : HoldsK cellsR 2 w g 0 s.toArray) (hc : s.length ≤ cap) (hg : g < w.heap.size) : RngIn w (.slice (some ⟨g, 0, none⟩) s.length cap) s := by
  refine ⟨_, cap, rfl, hc, fun i hi => ⟨g, 0, rfl, hg, ?_, ?_⟩⟩
  · have := (HoldsK.cell h (i := i) (c := 0) (by simpa using hi) (by omega)).1
    have e2 : s.toArray[i]! = s[i] := by simp [hi]
    rw [e2] at this
    simpa [cellsR] using this
  · have := (HoldsK.cell h (i := i) (c := 1) (by simpa using hi) (by omega)).1
    have e2 : s.toArray[i]! = s[i] := by simp [hi]
    rw [e2] at this
    simpa [cellsR] using this
theorem sort_any (base : Nat) (l : List Rg) (v : Value) (w : World) (hlen : l.length < 4611686018427387904) (hbase : base ≤ w.heap.size) (hown : w.ownsRow base 94 2 v l.length (cellsRs l)) :
    Calls Tryz.prog 100 #[v, .func (.func 101) #[] #[]] w fun e w' => e = .returned (.tuple #[]) ∧ ∃ s, Ordered l s ∧ RngIn w' v s ∧ Below base w w' := by
  haveI : Inhabited Rg := ⟨⟨0, 0⟩⟩
  rcases hown.2 with ⟨rfl, h0⟩ | ⟨g, cap, cur, rfl, hb, hg, hc, hm, hs, ht⟩
  · have e : l = [] := List.length_eq_zero_iff.1 h0
    subst e
    refine (AnyF.slices_SortFunc_none sortR none 0 (.func (.func 101) #[] #[]) w).mono ?_
    rintro e w' ⟨rfl, rfl⟩
    exact ⟨rfl, [], ⟨rfl, fun r => Iff.rfl, fun i j hij hi => by cases hi⟩, RngAt.nil _ _, Below.refl _ _⟩
  · have eg : ∀ args w, (callFunc 101 args).run Tryz.prog w = .ok (.enter 101 args) w := enters_of Tryz.func101 (by kernel_rfl) rfl
    have hgl : g < w.heap.size := (Array.getElem?_eq_some_iff.1 hg).1
    have hH := holds_of_own hown
    have hcon := AnyQ.slices_SortFunc sortR 2 Tryz.isAgg94 Tryz.sizeOf94 cellsR (fun _ => rfl) (fun x u hu => by simp [cellsR] at hu; rcases hu with rfl | rfl <;> rfl) cmpR swoR 101 #[] g 0 cap l.toArray w eg (fun _ _ _ _ x y => make1_any x y _) hH hgl (by simpa using hlen)
    have e1 : l.toArray.size = l.length := by simp
    rw [e1] at hcon
    refine Calls.mono hcon ?_
    rintro e w' ⟨rfl, d', n, os, hp, hso, hw⟩
    have hd : d'.size = l.length := by rw [hp.1]; simp
    have hperm : d'.toList.Perm l := by
      have := hp.2.2
      have a1 : d'.extract 0 l.length = d' := by rw [← hd]; simp
      have a2 : l.toArray.extract 0 l.length = l.toArray := by simp
      rw [a1, a2] at this
      exact this
    refine ⟨rfl, d'.toList, ⟨by simpa using hd, fun r => hperm.mem_iff, fun i j hij hi hj => ?_⟩, ?_, by rw [hw]; exact below_sorted hb hbase⟩
    · have hi' : i < d'.size := by simpa using hi
      have hj' : j < d'.size := by simpa using hj
      have := hso i j (Nat.zero_le _) hij (by omega)
      rw [ltOf_cmpR, getElem!_pos d' i hi', getElem!_pos d' j hj'] at this
      have := of_decide_eq_false this
      simp only [Array.getElem_toList]
      omega
    · have hh : HoldsK cellsR 2 w' g 0 d' := SWK.holds (w0 := w) ⟨n, os, hw⟩ hgl hH (by simpa using hd)
      have hle : w.heap.size ≤ w'.heap.size := by
        have := SWK.le (w0 := w) (enc := cellsR) (k := 2) (blk := g) (off := 0) (dk := d') ⟨n, os, hw⟩
        exact this
      have := rng_of_holds (w := w') (g := g) (cap := cap) (s := d'.toList) (by simpa using hh) (by simpa [hd] using hc) (by omega)
      have e3 : d'.toList.length = l.length := by simpa using hd
      rw [e3] at this
      exact this
set_option maxHeartbeats 2000000 in
theorem clone_any (l : List Rg) (v : Value) (w : World) (hbig : l.length * 16 ≤ 140737488355328) (hv : RngIn w v l) :
    Calls Tryz.prog 99 #[v] w fun e w' => ∃ v', e = .returned v' ∧ w'.ownsRow w.heap.size 94 2 v' l.length (cellsRs l) ∧ Below w.heap.size w w' := by
  obtain ⟨i0, hi, hz0, hz1, hz2⟩ := info_parts Tryz.infoRange
  have q22 : ∀ (w : World) (a : Option Addr) (n c n' c' : Nat), (binOp .eql 43 (.slice a n c) (.slice none n' c')).run Tryz.prog w = .ok (.bool a.isNone) w := fun w a n c n' c' => Lib.run_eql_slice_nil w _ _ a n c n' c' Tryz.underlying43
  obtain ⟨a, cap, rfl, hc, hcell⟩ := hv
  cases a with
  | none =>
    have h0 : l = [] := by
      cases l with
      | nil => rfl
      | cons r t =>
        obtain ⟨g, off, e, _⟩ := hcell 0 (by simp)
        cases e
    subst h0
    go_enter Tryz.func99, Tryz.ntmps99
    go_wp2
    go_ret
    exact ⟨_, rfl, World.ownsRow_nil _ _ _ _, Below.refl _ _⟩
  | some ad =>
    have HO : Hid ((w.alloc (.cells #[] 94)).ownsRow w.heap.size 94 2 (.slice (some ⟨w.heap.size, 0, none⟩) 0 0) 0 []) := World.ownsRow_made w #[] 0 (Nat.le_refl _) (Nat.zero_le _) (by simp)
    have HC : Hid (∀ j u, (cellsRs l)[j]? = some u → (w.alloc (.cells #[] 94)).cell? (ad.add j) = some u) := by
      intro j u hj
      have hjl : j < l.length * 2 := by
        rw [← cellsRs_length]
        exact (List.getElem?_eq_some_iff.1 hj).1
      have hlt : j / 2 < l.length := by omega
      obtain ⟨g, off, e, hg, c0, c1⟩ := hcell (j / 2) hlt
      obtain rfl : ad = ⟨g, off, none⟩ := by simpa using e
      have hx := cellsRs_at l (j / 2) (j % 2) hlt (by omega)
      have e1 : j / 2 * 2 + j % 2 = j := by omega
      rw [e1, hj] at hx
      have e2 : (⟨g, off, none⟩ : Addr).add j = ⟨g, off + j, none⟩ := by unfold Addr.add; split <;> simp_all
      rw [e2, World.cell?_of_block (a := ⟨g, off + j, none⟩) (Below.heap_alloc w _ g hg)]
      rcases Nat.mod_two_eq_zero_or_one j with q | q
      · rw [q] at hx
        have : off + j / 2 * 2 = off + j := by omega
        rw [this] at c0
        rw [c0]
        simpa [cellsR] using hx.symm
      · rw [q] at hx
        have : off + j / 2 * 2 + 1 = off + j := by omega
        rw [this] at c1
        rw [c1]
        simpa [cellsR] using hx.symm
    have HL : Hid ((cellsRs l).length = l.length * 2) := cellsRs_length l
    have H1 : Hid (∀ u ∈ cellsRs l, u.oneCell' = true) := cellsRs_one l
    have hmax : l.length ≤ maxLen := by unfold maxLen; omega
    clear hcell
    go_enter Tryz.func99, Tryz.ntmps99
    go_wp2_with (at_builtin; go_must (refine wpList_append_own _ rfl (.tmp 5) (.tmp 6) 43 rfl w.heap.size 94 i0 (.agg #[.int .i64 0, .int .i64 0]) 2 16 Tryz.underlying43 hi hz0 hz1 hz2 rfl (by decide) _ _ _ rfl HO.out ad l.length cap (cellsRs l) rfl HL.out HC.out H1.out (by rw [Nat.zero_add]; exact hmax) (by rw [Nat.zero_add]; exact hbig) (by simp) ?_); intro v' w1 hown' hgrow hnil)
    go_ret
    refine ⟨v', rfl, by simpa using hown', ((Below.refl _ w).alloc (Nat.le_refl _) _).grown hgrow (by simp) (fun j e => (World.ownsRow.lt HO.out j e).1)⟩
end Go.Proofs.YtfdjchnckjgapaaGreatDoor

namespace Go.Proofs.YtfdjchnckjgapaaGreatDoor
open Go.RowKit
set_option linter.unusedVariables false
theorem own_mono {w : World} {b c e size n : Nat} {v : Value} {xs : List Value} (h : w.ownsRow b e size v n xs) (hc : c ≤ b) : w.ownsRow c e size v n xs := by
  refine ⟨h.1, ?_⟩
  rcases h.2 with q | ⟨g, cap, cur, rfl, hb, r⟩
  · exact .inl q
  · exact .inr ⟨g, cap, cur, rfl, by omega, r⟩
theorem fits_take {l : List Rg} (h : ∀ i, (hi : i < l.length) → 0 ≤ l[i].lo ∧ l[i].lo ≤ l[i].hi ∧ l[i].hi ≤ 1114111) : Fits l := fun r hr => by
  obtain ⟨i, hi, rfl⟩ := List.getElem_of_mem hr
  exact h i hi
def MakeTells (l : List Rg) (w : World) (e : Ending) (w' : World) : Prop :=
  ((¬ Fits l ∧ e = .returned (.tuple #[.slice none 0 0, .int .i64 1])) ∨ (Fits l ∧ ∃ s v', Upto (hasR l) s 1114112 ∧ s.length ≤ l.length ∧ e = .returned (.tuple #[v', .int .i64 0]) ∧ w'.ownsRow w.heap.size 94 2 v' s.length (cellsRs s))) ∧ Below w.heap.size w w'
theorem addL_length (l : List Rg) (r : Rg) : (addL l r).length ≤ l.length + 1 := by
  rcases list_last l with rfl | ⟨ini, s, rfl⟩
  · simp [addL_nil]
  · by_cases q : r.lo ≤ s.hi + 1
    · rw [addL_join q]; simp
    · rw [addL_snoc q]; simp
set_option maxRecDepth 100000 in
set_option maxHeartbeats 4000000 in
theorem make_any (l : List Rg) (v : Value) (w : World) (hbig : l.length * 16 ≤ 140737488355328) (hv : RngIn w v l) :
    Calls Tryz.prog 59 #[v] w fun e w' => MakeTells l w e w' := by
  have HV : Hid (RngIn w v l) := hv
  obtain ⟨a, cap, rfl, hc, hcell⟩ := hv
  have HA : Hid (∀ i, (h : i < l.length) → ∃ g off, a = some ⟨g, off, none⟩ ∧ g < w.heap.size ∧ w.cell? ⟨g, off + i * 2, none⟩ = some (.int .i64 l[i].lo) ∧ w.cell? ⟨g, off + i * 2 + 1, none⟩ = some (.int .i64 l[i].hi)) := hcell
  clear hcell
  go_enter Tryz.func59, Tryz.ntmps59
  go_wp2
  go_loopw [12] (fun x wr => ∃ k : Nat, k ≤ l.length ∧ x = .int .i64 k ∧ (∀ i, (h : i < l.length) → i < k → 0 ≤ l[i].lo ∧ l[i].lo ≤ l[i].hi ∧ l[i].hi ≤ 1114111) ∧ Below w.heap.size w wr) (fun x _ => l.length - (intOf x).toNat)
  case atStart => exact ⟨0, Nat.zero_le _, rfl, fun i h q => by omega, Below.refl _ _⟩
  case round =>
    obtain ⟨k, hk, rfl, hok, hB⟩ := hrel
    have HOK : Hid (∀ i, (h : i < l.length) → i < k → 0 ≤ l[i].lo ∧ l[i].lo ≤ l[i].hi ∧ l[i].hi ≤ 1114111) := hok
    clear hok
    have hbs := hB.size
    by_cases hlt : k < l.length
    · obtain ⟨g, off, rfl, hg, c0, c1⟩ := HA.out k hlt
      obtain ⟨r, hr⟩ : ∃ r, r = l[k] := ⟨_, rfl⟩
      rw [← hr] at c0 c1
      have HR : Hid (r = l[k]) := hr
      have d0 : wr.cell? ⟨g, off + k * 2, none⟩ = some (.int .i64 r.lo) := (hB.cell (p := ⟨g, _, none⟩) hg).trans c0
      have d1 : wr.cell? ⟨g, off + k * 2 + 1, none⟩ = some (.int .i64 r.hi) := (hB.cell (p := ⟨g, _, none⟩) hg).trans c1
      clear c0 c1 hr
      have hB2 : Below w.heap.size w (wr.alloc (.cells #[.int .i64 r.lo, .int .i64 r.hi] 94)) := hB.alloc hbs _
      have HNF : Hid (¬ (0 ≤ r.lo ∧ r.lo ≤ r.hi ∧ r.hi ≤ 1114111) → ¬ Fits l) := fun q f => q (f r (by rw [HR.out]; exact List.getElem_mem hlt) |> fun z => ⟨z.1, z.2.1, z.2.2⟩)
      by_cases q0 : r.lo < 0
      · have HN : Hid (¬ Fits l) := HNF.out (by omega)
        go_wp2
        go_ret2
        exact ⟨.inl ⟨HN.out, rfl⟩, hB2⟩
      · by_cases q1 : 1114111 < r.hi
        · have HN : Hid (¬ Fits l) := HNF.out (by omega)
          go_wp2
          go_ret2
          exact ⟨.inl ⟨HN.out, rfl⟩, hB2⟩
        · by_cases q2 : r.hi < r.lo
          · have HN : Hid (¬ Fits l) := HNF.out (by omega)
            go_wp2
            go_ret2
            exact ⟨.inl ⟨HN.out, rfl⟩, hB2⟩
          · have HO2 : Hid (∀ i, (h : i < l.length) → i < k + 1 → 0 ≤ l[i].lo ∧ l[i].lo ≤ l[i].hi ∧ l[i].hi ≤ 1114111) := fun i h q => by
              by_cases e : i = k
              · subst e; rw [← HR.out]; omega
              · exact HOK.out i h (by omega)
            go_wp2
            go_roundw
            case rel => exact ⟨k + 1, by omega, by go_num, HO2.out, hB2⟩
            case measure => simp [intOf]; omega
    · obtain rfl : k = l.length := by omega
      have HF : Hid (Fits l) := fits_take (fun i hi => HOK.out i hi hi)
      clear HOK
      go_wp2_with fail
      refine (clone_any l _ wr hbig (HV.out.below hB)).mono ?_
      rintro e w1 ⟨v1, rfl, ho1, hB1⟩
      have hs1 := hB1.size
      have HO1 : Hid (w1.ownsRow wr.heap.size 94 2 v1 l.length (cellsRs l)) := ho1
      clear ho1
      go_wp2_with fail
      refine (sort_any wr.heap.size l v1 w1 (by omega) hs1 HO1.out).mono ?_
      rintro e w2 ⟨rfl, s, hord, hv2, hB2⟩
      have hs2 := hB2.size
      have hB02 : Below w.heap.size w w2 := (hB.trans (hB1.mono hbs)).trans (hB2.mono (by omega))
      have HV2 : Hid (RngIn w2 v1 s) := hv2
      have HORD : Hid (Ordered l s) := hord
      have hsl : s.length = l.length := hord.1
      obtain ⟨a2, cap2, rfl, hc2, hcell2⟩ := hv2
      have HC2 : Hid (∀ i, (h : i < s.length) → ∃ g off, a2 = some ⟨g, off, none⟩ ∧ g < w2.heap.size ∧ w2.cell? ⟨g, off + i * 2, none⟩ = some (.int .i64 s[i].lo) ∧ w2.cell? ⟨g, off + i * 2 + 1, none⟩ = some (.int .i64 s[i].hi)) := hcell2
      have HSF : Hid (Fits s) := fun r hr => HF.out r ((hord.2.1 r).1 hr)
      have HBB : Hid (Below w.heap.size w w2) := hB02
      have hbs2 := hB02.size
      clear hcell2 hord HO1 HV2 hB1 hB2 hB hB02 hs1 hs2 hbs HA HV
      go_wp2
      go_loopw [7, 38] (fun y x wr => ∃ (k : Nat) (out : List Rg) (b : Int), k ≤ s.length ∧ x = .int .i64 k ∧ Grown (s.take k) out b ∧ (∀ i, (h : i < s.length) → k ≤ i → b ≤ s[i].lo) ∧ out.length ≤ k ∧ wr.ownsRow w2.heap.size 94 2 y out.length (cellsRs out) ∧ Below w2.heap.size w2 wr) (fun _ x _ => s.length - (intOf x).toNat)
      case atStart => exact ⟨0, [], 0, Nat.zero_le _, rfl, ⟨trivial, fun x => rfl, fun t ht => by cases ht⟩, fun i h q => (HSF.out _ (List.getElem_mem h)).1, Nat.le_refl _, World.ownsRow_nil _ _ _ _, Below.refl _ _⟩
      case round =>
        obtain ⟨k, out, b, hk2, rfl, hgr, hbl, hol, ho, hB3⟩ := hrel
        have HGR : Hid (Grown (s.take k) out b) := hgr
        have HBL : Hid (∀ i, (h : i < s.length) → k ≤ i → b ≤ s[i].lo) := hbl
        have HO : Hid (wr.ownsRow w2.heap.size 94 2 _ out.length (cellsRs out)) := ho
        have HFT : Hid (Fits (s.take k)) := fun r hr => HSF.out r (List.mem_of_mem_take hr)
        have HUP : Hid (Upto (hasR (s.take k)) out 1114112) := hgr.upto HFT.out
        clear hgr hbl ho
        have hbs3 := hB3.size
        by_cases hlt2 : k < s.length
        · obtain ⟨g, off, rfl, hg, c0, c1⟩ := HC2.out k hlt2
          obtain ⟨r, hr⟩ : ∃ r, r = s[k] := ⟨_, rfl⟩
          rw [← hr] at c0 c1
          have HR : Hid (r = s[k]) := hr
          have hrf := HSF.out r (by rw [hr]; exact List.getElem_mem hlt2)
          have hrb : b ≤ r.lo := by rw [hr]; exact HBL.out k hlt2 (Nat.le_refl _)
          have d0 : wr.cell? ⟨g, off + k * 2, none⟩ = some (.int .i64 r.lo) := (hB3.cell (p := ⟨g, _, none⟩) hg).trans c0
          have d1 : wr.cell? ⟨g, off + k * 2 + 1, none⟩ = some (.int .i64 r.hi) := (hB3.cell (p := ⟨g, _, none⟩) hg).trans c1
          have HTK : Hid (s.take (k + 1) = s.take k ++ [r]) := by show _ = _; rw [hr]; exact List.take_succ_eq_append_getElem hlt2
          clear c0 c1 hr
          have HG2 : Hid (Grown (s.take (k + 1)) (addL out r) r.lo) := by
            show Grown _ _ _
            rw [HTK.out]
            exact HGR.out.add r hrf.1 hrb hrf.2.1
          have HL2 : Hid ((addL out r).length ≤ k + 1) := by have := addL_length out r; show _ ≤ _; omega
          have HBL2 : Hid (∀ i, (h : i < s.length) → k + 1 ≤ i → r.lo ≤ s[i].lo) := fun i h q => by rw [HR.out]; exact HORD.out.2.2 k i (by omega) hlt2 h
          go_wp2_with fail
          refine (add_any w2.heap.size out r _ (wr.alloc (.cells #[.int .i64 r.lo, .int .i64 r.hi] 94)) (by have := HUP.out.len (by omega) (by omega); omega) (fun t ht => by have := HUP.out.hi t ht; omega) (by simp; omega) (World.ownsRow.alloc HO.out _)).mono ?_
          rintro e w4 ⟨v4, rfl, ho4, hB4⟩
          have HO4 : Hid (w4.ownsRow w2.heap.size 94 2 v4 (addL out r).length (cellsRs (addL out r))) := ho4
          have hB34 : Below w2.heap.size w2 w4 := (hB3.alloc hbs3 _).trans hB4
          clear ho4 HO d0 d1
          go_wp2
          go_roundw
          case rel => exact ⟨k + 1, addL out r, r.lo, by omega, by go_num, HG2.out, HBL2.out, HL2.out, HO4.out, hB34⟩
          case measure => simp [intOf]; omega
        · obtain rfl : k = s.length := by omega
          have HUP2 : Hid (Upto (hasR l) out 1114112) := by
            have h1 := HUP.out
            rw [List.take_length] at h1
            exact h1.congr (fun x _ _ => hasR_perm HORD.out.2.1 x)
          go_wp2
          go_ret2
          exact ⟨.inr ⟨HF.out, out, _, HUP2.out, by omega, rfl, own_mono HO.out hbs2⟩, HBB.out.trans (hB3.mono hbs2)⟩
end Go.Proofs.YtfdjchnckjgapaaGreatDoor
