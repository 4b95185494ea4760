/-
  What slices.Clone and slices.SortFunc answer at ranges: a copy; the ranges put in order by their low numbers.
-/
import Derived.Test.YtmknifnhcgdkaaaX10
import Derived.Test.YtmknifnhcgdkaaaX06
import Derived.Shelf.SlSortCmp.NoneTotal
import Derived.Lib.SliceRun
namespace Go.Proofs.Ytmknifnhcgdkaaa
open Go.RowKit Go.Shelf Go.Lib Go.Sort
set_option linter.unusedVariables false

/-- The order of two ints. -/
def cmpI (x y : Int) : Int := if x < y then -1 else if y < x then 1 else 0
theorem cmpI_neg (x y : Int) : cmpI x y < 0 ↔ x < y := by
  unfold cmpI
  repeat' split
  all_goals omega
def cmpR (x y : Rg) : Int := cmpI x.lo y.lo
theorem ltOf_cmpR (x y : Rg) : ltOf cmpR x y = decide (x.lo < y.lo) := by
  unfold ltOf cmpR
  exact decide_eq_decide.2 (cmpI_neg _ _)
theorem swoR : SWO (ltOf cmpR) where
  irrefl x := by rw [ltOf_cmpR]; simp
  trans x y z h1 h2 := by rw [ltOf_cmpR] at *; simp at *; omega
  ntrans x y z h1 h2 := by rw [ltOf_cmpR] at *; simp at *; omega

theorem isNaN_any (x : Int) (w : World) : Calls Try.prog 62 #[.int .i64 x] w fun e w' => e = .returned (.bool false) ∧ w' = w := by
  have h : (x != x) = false := by simp
  go_enter Try.func62, Try.ntmps62
  go_wp2
  go_ret
  exact ⟨rfl, rfl⟩

theorem compare_any (x y : Int) (w : World) : Calls Try.prog 52 #[.int .i64 x, .int .i64 y] w fun e w' => e = .returned (.int .i64 (cmpI x y)) ∧ w' = w := by
  by_cases h1 : x < y
  · have e : cmpI x y = -1 := by simp [cmpI, h1]
    rw [e]
    go_enter Try.func52, Try.ntmps52
    go_wp2_with (go_at_call 62; refine (isNaN_any _ _).mono ?_; rintro e w' ⟨rfl, rfl⟩)
    go_ret
    exact ⟨rfl, rfl⟩
  by_cases h2 : y < x
  · have e : cmpI x y = 1 := by simp [cmpI, h1, h2]
    rw [e]
    go_enter Try.func52, Try.ntmps52
    go_wp2_with (go_at_call 62; refine (isNaN_any _ _).mono ?_; rintro e w' ⟨rfl, rfl⟩)
    go_ret
    exact ⟨rfl, rfl⟩
  · have e : cmpI x y = 0 := by simp [cmpI, h1, h2]
    rw [e]
    go_enter Try.func52, Try.ntmps52
    go_wp2_with (go_at_call 62; refine (isNaN_any _ _).mono ?_; rintro e w' ⟨rfl, rfl⟩)
    go_ret
    exact ⟨rfl, rfl⟩

theorem make1_any (x y : Rg) (w : World) : Calls Try.prog 51 #[.agg #[.int .i64 x.lo, .int .i64 x.hi], .agg #[.int .i64 y.lo, .int .i64 y.hi]] w fun e w' => e = .returned (.int .i64 (cmpR x y)) ∧ ∃ q os', w' = grow (w.drewN q) os' := by
  have hcon := fun W => compare_any x.lo y.lo W
  have e0 : cmpI x.lo y.lo = cmpR x y := rfl
  rw [e0] at hcon
  generalize cmpR x y = r at hcon ⊢
  go_enter Try.func51, Try.ntmps51
  go_wp2_with (go_at_call 52; refine (hcon _).mono ?_; rintro e w' ⟨rfl, rfl⟩)
  go_ret
  exact ⟨rfl, 0, _, by rw [alloc_eq_grow, alloc_eq_grow, grow_grow]; rfl⟩

/-- What the sort leaves: below the row all is as it was. -/
theorem below_sorted [Inhabited Rg] {w : World} {base g n : Nat} {d : Array Rg} {os : Array Obj} (hb : base ≤ g) (hs : base ≤ w.heap.size) : Below base w (sortWorldK cellsR 2 w g 0 n d os) := by
  refine ⟨rfl, rfl, rfl, ?_, fun k hk => ?_⟩
  · unfold sortWorldK
    rw [size_grow, size_putRowK]
    show w.heap.size ≤ w.heap.size + _
    omega
  · have h1 : (putRowK cellsR 2 (Sort.ahead w n) g 0 d).heap[k]? = w.heap[k]? := by
      unfold putRowK putRow mapBlock
      show (w.heap.modify g _)[k]? = _
      rw [Array.getElem?_modify, if_neg (by omega)]
    rw [← h1]
    unfold sortWorldK grow
    have hk2 : k < (putRowK cellsR 2 (Sort.ahead w n) g 0 d).heap.size := by
      rw [size_putRowK]
      show k < w.heap.size
      omega
    exact Array.getElem?_append_left hk2

/-- The slice is of the call's own, and so holds what the sort asks. -/
theorem holds_of_own [Inhabited Rg] {w : World} {base g cap : Nat} {l : List Rg} (h : w.ownsRow base 51 2 (.slice (some ⟨g, 0, none⟩) l.length cap) l.length (cellsRs l)) : HoldsK cellsR 2 w g 0 l.toArray := by
  intro j hj
  rw [size_flatK] at hj
  have hj' : j < l.length * 2 := by simpa using hj
  have hlt : j / 2 < l.length := by omega
  refine ⟨?_, own_frozen h _⟩
  rw [get_flatK _ _ _ _ hj]
  have hx := cellsRs_at l (j / 2) (j % 2) hlt (by omega)
  have e : j / 2 * 2 + j % 2 = j := by omega
  rw [e] at hx
  have e2 : l.toArray[j / 2]! = l[j / 2] := by simp [hlt]
  rw [e2]
  have hy : (cellsR l[j / 2])[j % 2]? = some (cellsR l[j / 2])[j % 2]! := by
    have : j % 2 < (cellsR l[j / 2]).length := by simp [cellsR]; omega
    rw [getElem!_pos (cellsR l[j / 2]) (j % 2) this, List.getElem?_eq_getElem this]
  rw [hy] at hx
  have := h.cells (g := g) rfl j _ hx
  rw [add_lit'] at this
  exact this

/-- What the sort is told to make. -/
def Ordered (l s : List Rg) : Prop := s.length = l.length ∧ (∀ r, r ∈ s ↔ r ∈ l) ∧ ∀ i j, i < j → (hi : i < s.length) → (hj : j < s.length) → s[i].lo ≤ s[j].lo

theorem rng_of_holds [Inhabited Rg] {w : World} {g cap : Nat} {s : List Rg} (h : HoldsK cellsR 2 w g 0 s.toArray) (hc : s.length ≤ cap) (hg : g < w.heap.size) : RngIn w (.slice (some ⟨g, 0, none⟩) s.length cap) s := by
  refine ⟨_, cap, rfl, hc, fun i hi => ⟨g, 0, rfl, hg, ?_, ?_⟩⟩
  · have := (HoldsK.cell h (i := i) (c := 0) (by simpa using hi) (by omega)).1
    have e2 : s.toArray[i]! = s[i] := by simp [hi]
    rw [e2] at this
    simpa [cellsR] using this
  · have := (HoldsK.cell h (i := i) (c := 1) (by simpa using hi) (by omega)).1
    have e2 : s.toArray[i]! = s[i] := by simp [hi]
    rw [e2] at this
    simpa [cellsR] using this

theorem sort_any (base : Nat) (l : List Rg) (v : Value) (w : World) (hlen : l.length < 4611686018427387904) (hbase : base ≤ w.heap.size) (hown : w.ownsRow base 51 2 v l.length (cellsRs l)) :
    Calls Try.prog 50 #[v, .func (.func 51) #[] #[]] w fun e w' => e = .returned (.tuple #[]) ∧ ∃ s, Ordered l s ∧ RngIn w' v s ∧ Below base w w' := by
  haveI : Inhabited Rg := ⟨⟨0, 0⟩⟩
  rcases hown.2 with ⟨rfl, h0⟩ | ⟨g, cap, cur, rfl, hb, hg, hc, hm, hs, ht⟩
  · have e : l = [] := List.length_eq_zero_iff.1 h0
    subst e
    refine (AnyF.slices_SortFunc_none sortR none 0 (.func (.func 51) #[] #[]) w).mono ?_
    rintro e w' ⟨rfl, rfl⟩
    exact ⟨rfl, [], ⟨rfl, fun r => Iff.rfl, fun i j hij hi => by cases hi⟩, RngAt.nil _ _, Below.refl _ _⟩
  · have eg : ∀ args w, (callFunc 51 args).run Try.prog w = .ok (.enter 51 args) w := enters_of Try.func51 (by kernel_rfl) rfl
    have hgl : g < w.heap.size := (Array.getElem?_eq_some_iff.1 hg).1
    have hH := holds_of_own hown
    have hcon := AnyQ.slices_SortFunc sortR 2 Try.isAgg51 Try.sizeOf51 cellsR (fun _ => rfl) (fun x u hu => by simp [cellsR] at hu; rcases hu with rfl | rfl <;> rfl) cmpR swoR 51 #[] g 0 cap l.toArray w eg (fun _ _ _ _ x y => make1_any x y _) hH hgl (by simpa using hlen)
    have e1 : l.toArray.size = l.length := by simp
    rw [e1] at hcon
    refine Calls.mono hcon ?_
    rintro e w' ⟨rfl, d', n, os, hp, hso, hw⟩
    have hd : d'.size = l.length := by rw [hp.1]; simp
    have hperm : d'.toList.Perm l := by
      have := hp.2.2
      have a1 : d'.extract 0 l.length = d' := by rw [← hd]; simp
      have a2 : l.toArray.extract 0 l.length = l.toArray := by simp
      rw [a1, a2] at this
      exact this
    refine ⟨rfl, d'.toList, ⟨by simpa using hd, fun r => hperm.mem_iff, fun i j hij hi hj => ?_⟩, ?_, by rw [hw]; exact below_sorted hb hbase⟩
    · have hi' : i < d'.size := by simpa using hi
      have hj' : j < d'.size := by simpa using hj
      have := hso i j (Nat.zero_le _) hij (by omega)
      rw [ltOf_cmpR, getElem!_pos d' i hi', getElem!_pos d' j hj'] at this
      have := of_decide_eq_false this
      simp only [Array.getElem_toList]
      omega
    · have hh : HoldsK cellsR 2 w' g 0 d' := SWK.holds (w0 := w) ⟨n, os, hw⟩ hgl hH (by simpa using hd)
      have hle : w.heap.size ≤ w'.heap.size := by
        have := SWK.le (w0 := w) (enc := cellsR) (k := 2) (blk := g) (off := 0) (dk := d') ⟨n, os, hw⟩
        exact this
      have := rng_of_holds (w := w') (g := g) (cap := cap) (s := d'.toList) (by simpa using hh) (by simpa [hd] using hc) (by omega)
      have e3 : d'.toList.length = l.length := by simpa using hd
      rw [e3] at this
      exact this

set_option maxHeartbeats 2000000 in
theorem clone_any (l : List Rg) (v : Value) (w : World) (hbig : l.length * 16 ≤ 140737488355328) (hv : RngIn w v l) :
    Calls Try.prog 49 #[v] w fun e w' => ∃ v', e = .returned v' ∧ w'.ownsRow w.heap.size 51 2 v' l.length (cellsRs l) ∧ Below w.heap.size w w' := by
  obtain ⟨i0, hi, hz0, hz1, hz2⟩ := info_parts Try.infoRange
  have q22 : ∀ (w : World) (a : Option Addr) (n c n' c' : Nat), (binOp .eql 46 (.slice a n c) (.slice none n' c')).run Try.prog w = .ok (.bool a.isNone) w := fun w a n c n' c' => Lib.run_eql_slice_nil w _ _ a n c n' c' Try.underlying46
  obtain ⟨a, cap, rfl, hc, hcell⟩ := hv
  cases a with
  | none =>
    have h0 : l = [] := by
      cases l with
      | nil => rfl
      | cons r t =>
        obtain ⟨g, off, e, _⟩ := hcell 0 (by simp)
        cases e
    subst h0
    go_enter Try.func49, Try.ntmps49
    go_wp2
    go_ret
    exact ⟨_, rfl, World.ownsRow_nil _ _ _ _, Below.refl _ _⟩
  | some ad =>
    have HO : Hid ((w.alloc (.cells #[] 51)).ownsRow w.heap.size 51 2 (.slice (some ⟨w.heap.size, 0, none⟩) 0 0) 0 []) := World.ownsRow_made w #[] 0 (Nat.le_refl _) (Nat.zero_le _) (by simp)
    have HC : Hid (∀ j u, (cellsRs l)[j]? = some u → (w.alloc (.cells #[] 51)).cell? (ad.add j) = some u) := by
      intro j u hj
      have hjl : j < l.length * 2 := by
        rw [← cellsRs_length]
        exact (List.getElem?_eq_some_iff.1 hj).1
      have hlt : j / 2 < l.length := by omega
      obtain ⟨g, off, e, hg, c0, c1⟩ := hcell (j / 2) hlt
      obtain rfl : ad = ⟨g, off, none⟩ := by simpa using e
      have hx := cellsRs_at l (j / 2) (j % 2) hlt (by omega)
      have e1 : j / 2 * 2 + j % 2 = j := by omega
      rw [e1, hj] at hx
      have e2 : (⟨g, off, none⟩ : Addr).add j = ⟨g, off + j, none⟩ := by unfold Addr.add; split <;> simp_all
      rw [e2, World.cell?_of_block (a := ⟨g, off + j, none⟩) (Below.heap_alloc w _ g hg)]
      rcases Nat.mod_two_eq_zero_or_one j with q | q
      · rw [q] at hx
        have : off + j / 2 * 2 = off + j := by omega
        rw [this] at c0
        rw [c0]
        simpa [cellsR] using hx.symm
      · rw [q] at hx
        have : off + j / 2 * 2 + 1 = off + j := by omega
        rw [this] at c1
        rw [c1]
        simpa [cellsR] using hx.symm
    have HL : Hid ((cellsRs l).length = l.length * 2) := cellsRs_length l
    have H1 : Hid (∀ u ∈ cellsRs l, u.oneCell' = true) := cellsRs_one l
    have hmax : l.length ≤ maxLen := by unfold maxLen; omega
    clear hcell
    go_enter Try.func49, Try.ntmps49
    go_wp2_with (at_builtin; go_must (refine wpList_append_own _ rfl (.tmp 5) (.tmp 6) 46 rfl w.heap.size 51 i0 (.agg #[.int .i64 0, .int .i64 0]) 2 16 Try.underlying46 hi hz0 hz1 hz2 rfl (by decide) _ _ _ rfl HO.out ad l.length cap (cellsRs l) rfl HL.out HC.out H1.out (by rw [Nat.zero_add]; exact hmax) (by rw [Nat.zero_add]; exact hbig) (by simp) ?_); intro v' w1 hown' hgrow hnil)
    go_ret
    refine ⟨v', rfl, by simpa using hown', ((Below.refl _ w).alloc (Nat.le_refl _) _).grown hgrow (by simp) (fun j e => (World.ownsRow.lt HO.out j e).1)⟩
end Go.Proofs.Ytmknifnhcgdkaaa
