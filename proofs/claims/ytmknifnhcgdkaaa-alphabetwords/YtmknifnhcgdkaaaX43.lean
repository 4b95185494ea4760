/-
  alphabet.New: isSet, newDraft, finish, and New itself.
-/
import Derived.Test.YtmknifnhcgdkaaaX41
import Derived.Test.YtmknifnhcgdkaaaX42
namespace Go.Proofs.Ytmknifnhcgdkaaa
open Go.RowKit Go.Shelf
set_option linter.unusedVariables false

/-- Do ranges rise, from b on, and touch none? -/
def nrmB (b : Int) : List Rg → Bool
  | [] => true
  | r :: l => decide (b ≤ r.lo) && decide (r.lo ≤ r.hi) && nrmB (r.hi + 2) l
theorem nrmB_iff : ∀ {l : List Rg} {b : Int}, nrmB b l = true ↔ NormFrom b l
  | [], b => by simp [nrmB, NormFrom]
  | r :: l, b => by simp [nrmB, NormFrom, nrmB_iff, and_assoc]
def isSB (l : List Rg) : Bool := nrmB 0 l && l.all (fun r => decide (r.hi ≤ 1114111))
theorem isSB_iff {l : List Rg} : isSB l = true ↔ IsSet l := by simp [isSB, IsSet, nrmB_iff]
theorem allS_iff {S : List (List Rg)} : S.all isSB = true ↔ AllS S := by
  simp only [List.all_eq_true, isSB_iff]
  rfl

theorem isSet9_any (l : List Rg) (hlen : l.length ≤ 600000) (v : Value) (w : World) (hv : RngIn w v l) :
    Calls Try.prog 26 #[v] w fun e w' => e = .returned (.bool (isSB l)) ∧ Below w.heap.size w w' := by
  have HV : Hid (RngIn w v l) := hv
  have HM := make_any l v w (by omega) hv
  obtain ⟨b, hb⟩ : ∃ b, b = isSB l := ⟨_, rfl⟩
  rw [← hb]
  have HBI : Hid (b = isSB l) := hb
  clear hb
  obtain ⟨a, cap, rfl, _, _⟩ := hv
  go_enter Try.func26, Try.ntmps26
  go_wp2_with fail
  refine HM.mono ?_
  rintro e w1 ⟨⟨hnf, rfl⟩ | ⟨hf, s, v', hu, hsl, rfl, ho⟩, hB1⟩
  · have e0 : b = false := by
      rw [HBI.out]
      cases q : isSB l with
      | false => rfl
      | true => exact absurd (isSB_iff.1 q).upto.fits hnf
    subst e0
    clear HM hnf
    go_wp2
    go_ret
    exact ⟨rfl, hB1⟩
  · have HE := equal_any s l (by omega) v' _ w1 (rng_of_row ho) (HV.out.below hB1)
    have e0 : sameS s l = b := by
      rw [HBI.out, Bool.eq_iff_iff, sameS_iff, isSB_iff]
      constructor
      · intro e; rw [← e]; exact hu.isSet
      · intro h; exact hu.unique h.upto
    rw [e0] at HE
    obtain ⟨a1, cap1, rfl⟩ := S3.slice_of_row ho
    have HB1 : Hid (Below w.heap.size w w1) := hB1
    have hs1 := hB1.size
    clear HM hf hu ho e0 hB1 HBI hsl
    go_wp2_with fail
    refine HE.mono ?_
    rintro e w2 ⟨rfl, hB2⟩
    clear HE
    go_wp2
    go_ret
    exact ⟨rfl, HB1.out.trans (hB2.mono hs1)⟩

theorem sts_cells {w : World} {ad : Addr} {cap : Nat} {S : List (List Rg)} (h : StsIn w (.slice (some ad) S.length cap) S) : ∃ xs : List Value, xs.length = S.length ∧ (∀ j u, xs[j]? = some u → w.cell? (ad.add j) = some u) ∧ (∀ u ∈ xs, u.oneCell' = true) ∧ ∀ i, (h : i < S.length) → ∃ x, xs[i]? = some x ∧ RngIn w x S[i] := by
  obtain ⟨a, cap', e, hc, hi⟩ := h
  obtain ⟨rfl, rfl⟩ : some ad = a ∧ cap = cap' := by simpa using e
  have hx : ∀ i, (h : i < S.length) → ∃ x, w.cell? (ad.add i) = some x ∧ RngIn w x S[i] := fun i h => by
    obtain ⟨g, off, x, e, hg, hcx, hr⟩ := hi i h
    obtain rfl : ad = ⟨g, off, none⟩ := by simpa using e
    exact ⟨x, by rw [addr_add]; exact hcx, hr.1⟩
  refine ⟨(List.range S.length).map (fun i => (w.cell? (ad.add i)).getD (.slice none 0 0)), by simp, fun j u hj => ?_, fun u hu => ?_, fun i h => ?_⟩
  · have hjl : j < S.length := by
      have := (List.getElem?_eq_some_iff.1 hj).1
      simpa using this
    obtain ⟨x, hc, _⟩ := hx j hjl
    simp [hjl, hc] at hj
    rw [hc, hj]
  · obtain ⟨j, hj, rfl⟩ := List.mem_map.1 hu
    obtain ⟨x, hc, a, c, rfl, _⟩ := hx j (List.mem_range.1 hj)
    rw [hc]
    rfl
  · obtain ⟨x, hc, hr⟩ := hx i h
    exact ⟨x, by simp [h, hc], hr⟩

/-- The rests of a draft, in memory. -/
def RestsAt (n : Nat) (w : World) (v : Value) (S : List (List Rg)) : Prop := ∃ xs, w.ownsRow n 46 1 v S.length xs ∧ ∀ i, (h : i < S.length) → ∃ x, xs[i]? = some x ∧ RngAt n w x S[i]
set_option maxHeartbeats 2000000 in
theorem clone9_any (S : List (List Rg)) (v : Value) (w : World) (hbig : S.length ≤ 1000000) (hv : StsIn w v S) :
    Calls Try.prog 41 #[v] w fun e w' => ∃ v', e = .returned v' ∧ RestsAt w.heap.size w' v' S ∧ Below w.heap.size w w' := by
  obtain ⟨i0, hi, hz0, hz1, hz2⟩ := info_parts Try.infoRs
  have q22 : ∀ (w : World) (a : Option Addr) (n c n' c' : Nat), (binOp .eql 22 (.slice a n c) (.slice none n' c')).run Try.prog w = .ok (.bool a.isNone) w := fun w a n c n' c' => Lib.run_eql_slice_nil w _ _ a n c n' c' Try.underlying22
  have HV : Hid (StsIn w v S) := hv
  obtain ⟨a, cap, rfl, hc, hcell⟩ := hv
  cases a with
  | none =>
    have h0 : S = [] := by
      cases S with
      | nil => rfl
      | cons r t =>
        obtain ⟨g, off, x, e, _⟩ := hcell 0 (by simp)
        cases e
    subst h0
    clear hcell
    go_enter Try.func41, Try.ntmps41
    go_wp2
    go_ret
    exact ⟨_, rfl, ⟨[], World.ownsRow_nil _ _ _ _, fun i h => (by cases h)⟩, Below.refl _ _⟩
  | some ad =>
    obtain ⟨xs, hxl, hxc, hx1, hxr⟩ := sts_cells HV.out
    have HO : Hid ((w.alloc (.cells #[] 46)).ownsRow w.heap.size 46 1 (.slice (some ⟨w.heap.size, 0, none⟩) 0 0) 0 []) := World.ownsRow_made w #[] 0 (Nat.le_refl _) (Nat.zero_le _) (by simp)
    have HC : Hid (∀ j u, xs[j]? = some u → (w.alloc (.cells #[] 46)).cell? (ad.add j) = some u) := fun j u hj => by
      have := hxc j u hj
      rw [World.cell?_of_block (a := ad.add j) (Below.heap_alloc w _ _ (cell_some_lt this))]
      exact this
    have HL : Hid (xs.length = S.length * 1) := by show _ = _; omega
    obtain ⟨H1, HXR⟩ : Hid (∀ u ∈ xs, u.oneCell' = true) ∧ Hid (∀ i, (h : i < S.length) → ∃ x, xs[i]? = some x ∧ RngIn w x S[i]) := ⟨hx1, hxr⟩
    have hmax : S.length ≤ maxLen := by unfold maxLen; omega
    clear hcell hxl hxc hx1 hxr
    go_enter Try.func41, Try.ntmps41
    go_wp2_with (at_builtin; go_must (refine wpList_append_own _ rfl (.tmp 5) (.tmp 6) 22 rfl w.heap.size 46 i0 (.slice none 0 0) 1 24 Try.underlying22 hi hz0 hz1 hz2 rfl (by decide) _ _ _ rfl HO.out ad S.length cap xs rfl HL.out HC.out H1.out (by rw [Nat.zero_add]; exact hmax) (by omega) (by simp) ?_); intro v' w1 hown' hgrow hnil)
    go_ret
    have hB : Below w.heap.size w w1 := ((Below.refl _ w).alloc (Nat.le_refl _) _).grown hgrow (by simp) (fun j e => (World.ownsRow.lt HO.out j e).1)
    refine ⟨v', rfl, ⟨xs, by simpa using hown', fun i h => ?_⟩, hB⟩
    obtain ⟨x, h1, h2⟩ := HXR.out i h
    exact ⟨x, h1, RngAt.below h2 hB⟩

theorem knows9_nil : Knows9 (.map []) [] := ⟨fun m => by simp [Maps.has], fun m hm => by cases hm⟩
set_option maxRecDepth 100000 in
set_option maxHeartbeats 2000000 in
theorem newDraft9_any (S : List (List Rg)) (v : Value) (w : World) (hbig : S.length ≤ 1000000) (hv : StsIn w v S) :
    Calls Try.prog 27 #[v] w fun e w' => ∃ gd, e = .returned (.pointer (some ⟨gd, 0, none⟩)) ∧ DrfAt w.heap.size w' gd S [] [] [] ∧ Below w.heap.size w w' := by
  have hmm := @run_makeMap Try.prog
  have HC := clone9_any S v w hbig hv
  obtain ⟨a, cap, rfl, _, _⟩ := hv
  go_enter Try.func27, Try.ntmps27
  go_wp2_with fail
  refine HC.mono ?_
  rintro e w1 ⟨v1, rfl, hr, hB1⟩
  have hs1 := hB1.size
  obtain ⟨HR, HB1⟩ : Hid (RestsAt w.heap.size w1 v1 S) ∧ Hid (Below w.heap.size w w1) := ⟨hr, hB1⟩
  obtain ⟨xs0, h10, _⟩ := hr
  obtain ⟨a1, cap1, rfl⟩ := S3.slice_of_row h10
  clear HC hB1 h10
  go_wp2
  go_ret
  have hBa : Below w1.heap.size w1 ((w1.alloc (.map #[] 0)).alloc (.cells #[.slice a1 S.length cap1, .map (some w1.heap.size), .slice none 0 0, .slice none 0 0, .slice none 0 0] 78)) := ((Below.refl _ _).alloc (Nat.le_refl _) _).alloc (by simp) _
  refine ⟨w1.heap.size + 1, rfl, ?_, HB1.out.trans (hBa.mono hs1)⟩
  obtain ⟨xs, h1, h2⟩ := HR.out
  refine ⟨w1.heap.size, _, _, _, _, .map [], ⟨by omega, hs1, heap_alloc2_new w1 _ _, ⟨xs, ownsRow_below h1 hBa, fun i h => ?_⟩, World.ownsRow_nil _ _ _ _, World.ownsRow_nil _ _ _ _, World.ownsRow_nil _ _ _ _, (World.ownsMap_made w1 _ _ _).alloc _⟩, knows9_nil⟩
  obtain ⟨x, q1, q2⟩ := h2 i h
  exact ⟨x, q1, q2.below (hBa.mono hs1)⟩
end Go.Proofs.Ytmknifnhcgdkaaa
