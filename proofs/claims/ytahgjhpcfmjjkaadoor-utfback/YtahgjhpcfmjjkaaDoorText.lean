/-
  What utf.Text and scansionref01.Text answer: the bytes of all code points, or the error.
-/
import Derived.Test.YtahgjhpcfmjjkaaDoorRefRunes
namespace Go.Proofs.YtahgjhpcfmjjkaaDoor
open Go.RowKit
set_option linter.unusedVariables false

/-- Are all of them code points? -/
def allR (l : List Int) : Bool := l.all isR
/-- The bytes of all, one behind the other. -/
def textL (l : List Int) : List Int := l.flatMap encR
/-- What is told of numbers: their bytes, if all are code points. -/
def textT (l : List Int) : List Int := if allR l = true then textL l else []
def textE (l : List Int) : Int := if allR l = true then 0 else 1

theorem textL_snoc (l : List Int) (r : Int) : textL (l ++ [r]) = textL l ++ encR r := by simp [textL]
theorem allR_snoc (l : List Int) (r : Int) : allR (l ++ [r]) = (allR l && isR r) := by simp [allR]
theorem encR_le4 (r : Int) : 1 ≤ (encR r).length ∧ (encR r).length ≤ 4 := by
  unfold encR
  repeat' split
  all_goals simp
theorem textL_le : ∀ l : List Int, (textL l).length ≤ 4 * l.length
  | [] => by simp [textL]
  | r :: l => by
    have h1 := encR_le4 r
    have h2 := textL_le l
    have e : textL (r :: l) = encR r ++ textL l := rfl
    rw [e, List.length_append, List.length_cons]
    omega
theorem allR_bad {l : List Int} {k : Nat} (h : k < l.length) (hb : isR (l[k]?.getD 0) = false) : allR l = false := by
  unfold allR
  rw [List.all_eq_false]
  exact ⟨l[k], List.getElem_mem h, by simpa [h] using hb⟩

set_option maxRecDepth 100000 in
set_option maxHeartbeats 2000000 in
theorem text_any (zs : List Int) (hlen : zs.length ≤ 10000) (sv : Value) (w : World) (hm : Marks w) (h1 : 1 ≤ w.heap.size) (hI : IntsIn w sv zs) :
    Calls Tryd.prog 18 #[sv] w fun e w' => ∃ v, e = .returned (.tuple #[v, .int .i64 (textE zs)]) ∧ Told w' w.heap.size v (textT zs) ∧ Below w.heap.size w w' := by
  obtain ⟨a, cap, rfl, hcap, hi⟩ := hI
  have HI : Hid (∀ i, i < zs.length → ∃ g off, a = some ⟨g, off, none⟩ ∧ g < w.heap.size ∧ w.cell? ⟨g, off + i, none⟩ = some (.int .i64 (zs[i]?.getD 0))) := hi
  have HM : Hid (Marks w) := hm
  clear hi hm
  go_enter Tryd.func18, Tryd.ntmps18
  go_wp2
  go_loopw [4, 9] (fun v i wr => ∃ k : Nat, k ≤ zs.length ∧ i = .int .i64 k ∧ Told wr w.heap.size v (textL (zs.take k)) ∧ allR (zs.take k) = true ∧ Below w.heap.size w wr) (fun _ i _ => zs.length - (intOf i).toNat)
  case atStart => exact ⟨0, Nat.zero_le _, rfl, Told.nil _ _, rfl, Below.refl _ _⟩
  case round =>
    obtain ⟨k, hk, rfl, hrow, hall, hB⟩ := hrel
    have hbs := hB.size
    have HA : Hid (allR (zs.take k) = true) := hall
    clear hall
    by_cases hlt : k < zs.length
    · obtain ⟨g, off, rfl, hg, hc⟩ := HI.out k hlt
      obtain ⟨r, hr⟩ : ∃ r : Int, r = zs[k]?.getD 0 := ⟨_, rfl⟩
      have c0 : wr.cell? ⟨g, off + k, none⟩ = some (.int .i64 r) := by rw [hr]; exact (hB.cell (p := ⟨g, off + k, none⟩) hg).trans hc
      have ht : zs.take (k + 1) = zs.take k ++ [r] := by rw [take_snoc' zs k hlt, hr]; simp [hlt]
      have HT : Hid (zs.take (k + 1) = zs.take k ++ [r]) := ht
      have HRd : Hid (r = zs[k]?.getD 0) := hr
      clear hc ht hr
      by_cases hR : isR r = true
      · have h2 : szR r ≠ 0 := fun e => by rw [szR_zero.1 e] at hR; cases hR
        have h3 : (szR r == 0) = false := by simp [h2]
        have hp := put_any r hR u4 (textL (zs.take k)).length ((textL (zs.take k)).map (Value.int .u8)) w.heap.size wr (HM.out.below hB h1) hrow (by have := textL_le (zs.take k); rw [List.length_take] at this; omega) hbs h1
        have HP : Hid (Calls Tryd.prog 25 #[u4, .int .i64 r] wr fun e w' => ∃ v', e = .returned v' ∧ w'.ownsRow w.heap.size 5 1 v' ((textL (zs.take k)).length + (encR r).length) ((textL (zs.take k)).map (Value.int .u8) ++ encV r) ∧ Below w.heap.size wr w') := hp
        have HR : Hid (isR r = true) := hR
        clear hp hR h2
        go_wp2_with (first | (go_at_call 24; refine (size_any r _).mono ?_; rintro e w' ⟨rfl, rfl⟩) | (go_at_call 25; refine HP.out.mono ?_; rintro e w2 ⟨v2, rfl, ho2, hB2⟩))
        go_roundw
        case rel => exact ⟨k + 1, by omega, by go_num, by rw [HT.out, textL_snoc]; simpa [Told, encV] using ho2, by rw [HT.out, allR_snoc, HA.out, HR.out]; rfl, hB.trans hB2⟩
        case measure => simp [intOf]; omega
      · have hR' : isR r = false := by simpa using hR
        have h2 : szR r = 0 := szR_zero.2 hR'
        have hs := size_any r
        rw [h2] at hs
        have HE : Hid (allR zs = false) := allR_bad hlt (by rw [← HRd.out]; exact hR')
        clear hR hR' h2
        go_wp2_with (go_at_call 24; refine (hs _).mono ?_; rintro e w' ⟨rfl, rfl⟩)
        go_ret2
        refine ⟨_, by unfold textE; rw [HE.out]; rfl, ?_, hB⟩
        unfold textT; rw [HE.out]
        exact Told.nil _ _
    · obtain rfl : k = zs.length := by omega
      have HE : Hid (allR zs = true) := by have := HA.out; rwa [List.take_length] at this
      rw [List.take_length] at hrow
      go_wp2
      go_ret2
      refine ⟨_, by unfold textE; rw [HE.out]; rfl, ?_, hB⟩
      unfold textT; rw [HE.out]
      exact hrow

set_option maxRecDepth 100000 in
set_option maxHeartbeats 2000000 in
theorem refText_any (zs : List Int) (hlen : zs.length ≤ 10000) (sv : Value) (w : World) (hI : IntsIn w sv zs) :
    Calls Tryd.prog 19 #[sv] w fun e w' => ∃ v, e = .returned (.tuple #[v, .int .i64 (textE zs)]) ∧ Told w' w.heap.size v (textT zs) ∧ Below w.heap.size w w' := by
  obtain ⟨i0, hi0, hz0, hz1, hz2⟩ := info_parts Tryd.infoByte
  obtain ⟨a, cap, rfl, hcap, hi⟩ := hI
  have HI : Hid (∀ i, i < zs.length → ∃ g off, a = some ⟨g, off, none⟩ ∧ g < w.heap.size ∧ w.cell? ⟨g, off + i, none⟩ = some (.int .i64 (zs[i]?.getD 0))) := hi
  clear hi
  go_enter Tryd.func19, Tryd.ntmps19
  go_wp2
  go_loopw [4, 5] (fun v i wr => ∃ k : Nat, k ≤ zs.length ∧ i = .int .i64 k ∧ Told wr w.heap.size v (textL (zs.take k)) ∧ allR (zs.take k) = true ∧ Below w.heap.size w wr) (fun _ i _ => zs.length - (intOf i).toNat)
  case atStart => exact ⟨0, Nat.zero_le _, rfl, Told.nil _ _, rfl, Below.refl _ _⟩
  case round =>
    obtain ⟨k, hk, rfl, hrow, hall, hB⟩ := hrel
    have hbs := hB.size
    have HA : Hid (allR (zs.take k) = true) := hall
    clear hall
    by_cases hlt : k < zs.length
    · obtain ⟨g, off, rfl, hg, hc⟩ := HI.out k hlt
      obtain ⟨r, hr⟩ : ∃ r : Int, r = zs[k]?.getD 0 := ⟨_, rfl⟩
      have c0 : wr.cell? ⟨g, off + k, none⟩ = some (.int .i64 r) := by rw [hr]; exact (hB.cell (p := ⟨g, off + k, none⟩) hg).trans hc
      have ht : zs.take (k + 1) = zs.take k ++ [r] := by rw [take_snoc' zs k hlt, hr]; simp [hlt]
      have HT : Hid (zs.take (k + 1) = zs.take k ++ [r]) := ht
      have HRd : Hid (r = zs[k]?.getD 0) := hr
      clear hc ht hr
      have hul : Hid (∀ j, u4.ownBlock = some j → w.heap.size ≤ j) := fun j e => (World.ownsRow.lt hrow j e).1
      by_cases hR : isR r = true
      · have e1 : errR r = 0 := by simp [errR, hR]
        have e2 : encL r = encR r := by simp [encL, hR]
        have hE := refEncode_any r wr
        rw [e1, e2] at hE
        have HE : Hid (Calls Tryd.prog 11 #[.int .i64 r] wr fun e w' => ∃ v', e = .returned (.tuple #[v', .int .i64 0]) ∧ Told w' wr.heap.size v' (encR r) ∧ Below wr.heap.size wr w') := hE
        have HR : Hid (isR r = true) := hR
        have hel := encR_le4 r
        have htl := textL_le (zs.take k)
        have HTL : (textL (zs.take k)).length ≤ 40000 := by rw [List.length_take] at htl; omega
        clear hE hR e1 e2 htl
        go_wp2_with (first | (go_at_call 11; refine HE.out.mono ?_; rintro e w1 ⟨v1, rfl, ho1, hB1⟩; obtain ⟨g1, cap1, rfl, hg1, hl1⟩ := World.ownsRow.form ho1 (by omega); have hrow1 := hrow.below hB1; have hs1 := hB1.size) | (at_builtin; refine wpList_append_lies _ rfl _ _ 23 rfl w.heap.size 5 i0 (.int .u8 0) 1 1 Tryd.underlying23 hi0 hz0 hz1 hz2 rfl (by omega) _ _ _ rfl hrow1 ⟨g1, 0, none⟩ (encR r).length cap1 ((encR r).map (Value.int .u8)) rfl (by simp) (World.ownsRow.cells ho1 rfl) (by simp [Value.oneCell']) (by omega) (by unfold maxLen; omega) (by omega) (by omega) _ rfl ?_; intro g2 cap2 w2 hown2 hgrow2 hat2 hlt2))
        have hB2 : Below w.heap.size w w2 := (hB.trans (hB1.mono hbs)).grown hgrow2 (by omega) hul.out
        go_roundw
        case rel => exact ⟨k + 1, by omega, by go_num, by rw [HT.out, textL_snoc]; simpa [Told] using hown2, by rw [HT.out, allR_snoc, HA.out, HR.out]; rfl, hB2⟩
        case measure => simp [intOf]; omega
      · have hR' : isR r = false := by simpa using hR
        have e1 : errR r = 1 := by simp [errR, hR]
        have hE := refEncode_any r wr
        rw [e1] at hE
        have HE : Hid (Calls Tryd.prog 11 #[.int .i64 r] wr fun e w' => ∃ v', e = .returned (.tuple #[v', .int .i64 1]) ∧ Told w' wr.heap.size v' (encL r) ∧ Below wr.heap.size wr w') := hE
        have HF : Hid (allR zs = false) := allR_bad hlt (by rw [← HRd.out]; exact hR')
        clear hR hR' e1 hE
        go_wp2_with (go_at_call 11; refine HE.out.mono ?_; rintro e w1 ⟨v1, rfl, ho1, hB1⟩)
        go_ret2
        refine ⟨_, by unfold textE; rw [HF.out]; rfl, ?_, hB.trans (hB1.mono hbs)⟩
        unfold textT; rw [HF.out]
        exact Told.nil _ _
    · obtain rfl : k = zs.length := by omega
      have HE : Hid (allR zs = true) := by have := HA.out; rwa [List.take_length] at this
      rw [List.take_length] at hrow
      go_wp2
      go_ret2
      refine ⟨_, by unfold textE; rw [HE.out]; rfl, ?_, hB⟩
      unfold textT; rw [HE.out]
      exact hrow
end Go.Proofs.YtahgjhpcfmjjkaaDoor
