/-
  What number answers: the figures in braces. Results that lie in a block of their own; a block whose cells are written. What strconv.FormatInt answers at base 16: the figures of a number.
-/
import Derived.Test.YtohaegaocklnkaaGreatDoorX06
import Derived.Test.YtohaegaocklnkaaGreatDoorX04
import Derived.Laws.ResultCell
import Derived.Laws.Rows
import Derived.BigQuiet
import Derived.Laws.BitsAllLaws
namespace Go.Proofs.YtohaegaocklnkaaGreatDoor
open Go.RowKit Go.Shelf S1
set_option linter.unusedVariables false

/-- take, by the closure that counts. -/
theorem take2_any (w : World) (R B C n : Nat) (tv : Value) (us : List U) (hrd : Rd w R tv us) (h : AM w B C R n) (hn : n ≤ 6) :
    Calls Tryz.prog 74 #[.pointer (some ⟨R, 0, none⟩), .func (.func 221) #[] #[.pointer (some ⟨B, 0, none⟩), .pointer (some ⟨C, 0, none⟩)]] w fun e w' =>
      (∃ u t, us = u :: t ∧ 1 ≤ n ∧ fitU figR u = true ∧ e = .returned (.bool true) ∧ Rd w' R tv t ∧ AM w' B C R ((n - 1 : Nat) : Int) ∧ (w.setCell ⟨B, 0, none⟩ (.int .i64 ((n : Int) - 1))).grownBy w' (some R)) ∨
      (figsD n us = us ∧ e = .returned (.bool false) ∧ Rd w' R tv us ∧ (w' = w ∨ w' = w.setCell ⟨B, 0, none⟩ (.int .i64 ((n : Int) - 1)))) := by
  have hB : R < B := h.2.2.2.1
  have eg := enters_of Tryz.func221 (by kernel_rfl) rfl
  have key : ∀ (x : Int) (b : Bool) (Q : World → Prop), Calls Tryz.prog 114 #[.pointer (some ⟨R, 0, none⟩), .func (.func 221) #[] #[.pointer (some ⟨B, 0, none⟩), .pointer (some ⟨C, 0, none⟩)]] w (fun e w' => e = .returned (.tuple #[.int .i64 x, .bool b]) ∧ Q w') →
      Calls Tryz.prog 74 #[.pointer (some ⟨R, 0, none⟩), .func (.func 221) #[] #[.pointer (some ⟨B, 0, none⟩), .pointer (some ⟨C, 0, none⟩)]] w (fun e w' => e = .returned (.bool b) ∧ Q w') := fun x b Q HS => by
    go_enter Tryz.func74, Tryz.ntmps74
    go_wp2_with fail
    refine HS.mono ?_
    rintro e w' ⟨rfl, hq⟩
    go_wp2
    go_ret
    exact ⟨rfl, hq⟩
  match us, hrd with
  | [], hrd =>
    refine (key 0 false (fun w' => w = w') (sign2_n B C _ w R tv [] (.inl rfl) hrd)).mono fun e w' ⟨he, hw⟩ => .inr ⟨?_, he, by rw [← hw]; exact hrd, .inl hw.symm⟩
    cases n <;> rfl
  | u :: t, hrd =>
    cases hb : u.bad with
    | true =>
      refine (key 0 false (fun w' => w = w') (sign2_n B C _ w R tv (u :: t) (.inr ⟨u, t, rfl, hb⟩) hrd)).mono fun e w' ⟨he, hw⟩ => .inr ⟨?_, he, by rw [← hw]; exact hrd, .inl hw.symm⟩
      cases n with
      | zero => rfl
      | succ m => show (if fitU figR u = true then figsD m t else u :: t) = _; rw [if_neg (by simp [fitU, hb])]
    | false =>
      have hc := atMost1_any n u.r B C R w h hn
      have hrd1 : Rd (w.setCell ⟨B, 0, none⟩ (.int .i64 ((n : Int) - 1))) R tv (u :: t) := hrd.set hB 0 _
      cases hq : (decide (1 ≤ n) && figR u.r) with
      | true =>
        rw [hq] at hc
        simp at hq
        refine (key u.r true (fun w' => Rd w' R tv t ∧ (w.setCell ⟨B, 0, none⟩ (.int .i64 ((n : Int) - 1))).grownBy w' (some R)) (sign2_t B C _ eg w _ R tv u t hb hrd hrd1 hc)).mono fun e w' ⟨he, hr, hw⟩ => .inl ⟨u, t, rfl, hq.1, by simp [fitU, hb, hq.2], he, hr, ?_, hw⟩
        have := (h.set ((n : Int) - 1)).grown hw
        rw [show ((n - 1 : Nat) : Int) = (n : Int) - 1 by omega]
        exact this
      | false =>
        rw [hq] at hc
        refine (key 0 false (fun w' => w.setCell ⟨B, 0, none⟩ (.int .i64 ((n : Int) - 1)) = w') (sign2_f B C _ eg w _ R tv u t hb hrd hrd1 hc)).mono fun e w' ⟨he, hw⟩ => .inr ⟨?_, he, by rw [← hw]; exact hrd1, .inr hw.symm⟩
        cases n with
        | zero => rfl
        | succ m =>
          have hq' : figR u.r = false := by simpa using hq
          show (if fitU figR u = true then figsD m t else u :: t) = _
          rw [if_neg (by simp [fitU, hq'])]

set_option maxRecDepth 100000 in
set_option maxHeartbeats 2000000 in
theorem takeAll2_any (w0 w : World) (R B C : Nat) (tv : Value) (us : List U) (hw0 : w0.grownBy w (some R)) (hB0 : w0.heap.size ≤ B) (hrd : Rd w R tv us) (h : AM w B C R 6) :
    Calls Tryz.prog 77 #[.pointer (some ⟨R, 0, none⟩), .func (.func 221) #[] #[.pointer (some ⟨B, 0, none⟩), .pointer (some ⟨C, 0, none⟩)]] w fun e w' => e = .returned (.tuple #[]) ∧ Rd w' R tv (figsD 6 us) ∧ w0.grownBy w' (some R) := by
  go_enter Tryz.func77, Tryz.ntmps77
  go_wp2
  go_loopw [] (fun wr => ∃ (vs : List U) (n : Nat), n ≤ 6 ∧ figsD n vs = figsD 6 us ∧ Rd wr R tv vs ∧ AM wr B C R n ∧ w0.grownBy wr (some R)) (fun wr => leftN wr R)
  case atStart => exact ⟨us, 6, Nat.le_refl _, rfl, hrd, h, hw0⟩
  case round =>
    obtain ⟨vs, n, hn, hd, hr, ham, hw⟩ := hrel
    have HD : Hid (figsD n vs = figsD 6 us) := hd
    have hl0 := hr.left
    have hm := take2_any wr R B C n tv vs hr ham hn
    clear hd
    go_wp2_with fail
    refine hm.mono ?_
    intro e w' hcase
    rcases hcase with ⟨u, t, rfl, h1, hf, rfl, hr2, ham2, hw2⟩ | ⟨hfd, rfl, hr2, hww⟩
    · have HE : Hid (figsD (n - 1) t = figsD 6 us) := by
        show _ = _
        rw [← HD.out]
        obtain ⟨m, rfl⟩ : ∃ m, n = m + 1 := ⟨n - 1, by omega⟩
        show figsD m t = if fitU figR u = true then figsD m t else u :: t
        rw [if_pos hf]
      have hg : w0.grownBy w' (some R) := (hw.andThen (grownR_set wr B 0 _) (fun j e => .inl (by injection e with e; omega))).trans hw2
      clear hf
      go_wp2
      go_roundw
      case rel => exact ⟨t, n - 1, by omega, HE.out, hr2, ham2, hg⟩
      case measure => rw [hr2.left, hl0]; simp
    · have HE : Hid (vs = figsD 6 us) := by show _ = _; rw [← HD.out]; exact hfd.symm
      have hg : w0.grownBy w' (some R) := by
        rcases hww with e | e
        · rw [e]; exact hw
        · rw [e]; exact hw.andThen (grownR_set wr B 0 _) (fun j e => .inl (by injection e with e; omega))
      clear hfd hww
      go_wp2
      go_end0
      exact ⟨rfl, by rw [← HE.out]; exact hr2, hg⟩

theorem figs_split : ∀ (n : Nat) (us : List U), ∃ a, us = a ++ figsD n us ∧ a.map U.r = figsL n us ∧ (∀ u ∈ a, fitU figR u = true) ∧ a.length ≤ n
  | 0, us => ⟨[], rfl, rfl, (fun u h => (by cases h)), Nat.le_refl _⟩
  | n + 1, [] => ⟨[], rfl, rfl, (fun u h => (by cases h)), Nat.zero_le _⟩
  | n + 1, u :: t => by
    by_cases q : fitU figR u = true
    · obtain ⟨a, h1, h2, h3, h4⟩ := figs_split n t
      refine ⟨u :: a, ?_, ?_, ?_, by simp only [List.length_cons]; omega⟩
      · show u :: t = u :: a ++ if fitU figR u = true then figsD n t else u :: t
        rw [if_pos q, List.cons_append, ← h1]
      · show u.r :: a.map U.r = if fitU figR u = true then u.r :: figsL n t else []
        rw [if_pos q, h2]
      · intro v hv
        rcases List.mem_cons.1 hv with rfl | hv
        · exact q
        · exact h3 v hv
    · refine ⟨[], ?_, ?_, fun u h => (by cases h), Nat.zero_le _⟩
      · show u :: t = [] ++ if fitU figR u = true then figsD n t else u :: t
        rw [if_neg q]; rfl
      · show [] = if fitU figR u = true then u.r :: figsL n t else []
        rw [if_neg q]
theorem figsL_fig (n : Nat) (us : List U) : (∀ c ∈ figsL n us, figR c = true) ∧ (figsL n us).length ≤ n := by
  obtain ⟨a, h1, h2, h3, h4⟩ := figs_split n us
  rw [← h2]
  refine ⟨fun c hc => ?_, by simpa using h4⟩
  obtain ⟨u, hu, rfl⟩ := List.mem_map.1 hc
  have := h3 u hu
  simp [fitU] at this
  exact this.2

/-- The units of a text from some place on. -/
def Runs (zs : List Int) (us : List U) : Prop := ∃ p, Run zs p us zs.length
theorem Runs.tail {zs : List Int} {u : U} {t : List U} (h : Runs zs (u :: t)) : Runs zs t := by
  obtain ⟨p, h⟩ := h
  exact ⟨_, h.2.2⟩
theorem Runs.sgn {zs : List Int} {us r : List U} {p : Int → Bool} {x : Int} (h : Runs zs us) (hs : sgn p us = (some x, r)) : Runs zs r := by
  obtain ⟨u, rfl, _⟩ := sgn_some hs
  exact h.tail
theorem Runs.drop {zs : List Int} : ∀ {a b : List U}, Runs zs (a ++ b) → Runs zs b
  | [], b, h => h
  | u :: a, b, h => Runs.drop (a := a) (h.tail)
theorem Runs.at_le {zs : List Int} {us : List U} (h : Runs zs us) : atL zs.length us ≤ zs.length := by
  obtain ⟨p, h⟩ := h
  rw [run_at h]
  match us, h with
  | [], h => exact Nat.le_of_eq (show p = zs.length from h)
  | u :: t, h => exact Nat.le_of_lt h.1

theorem runs_cut {zs : List Int} {a b : List U} (h : Runs zs (a ++ b)) (ha : ∀ u ∈ a, u.bad = false ∧ u.r < 128) : cutZ zs (atL zs.length (a ++ b)) (atL zs.length b) = a.map U.r ∧ atL zs.length (a ++ b) ≤ atL zs.length b := by
  obtain ⟨p, h⟩ := h
  rw [run_at h]
  rcases run_take h ha with ⟨h1, h2, h3⟩ | ⟨rfl, h1⟩
  · rw [run_at h1]
    unfold cutZ
    rw [show p + a.length - p = a.length by omega]
    exact ⟨h2, by omega⟩
  · rw [run_at h1]
    simp [cutZ]

set_option maxRecDepth 100000 in
set_option maxHeartbeats 4000000 in
theorem number_any (zs : List Int) (us : List U) (R : Nat) (ta : Option Addr) (cap : Nat) (w : World) (hrd : Rd w R (.slice ta zs.length cap) us) (htx : TxtAt R w (.slice ta zs.length cap) zs) (hz : zs.length ≤ 65536) (hpos : 0 < zs.length) (hrun : Runs zs us) :
    Calls Tryz.prog 185 #[.pointer (some ⟨R, 0, none⟩)] w fun e w' => ∃ x, e = .returned (.tuple #[.int .i64 x, .bool (numL us).1.isSome]) ∧ (∀ v, (numL us).1 = some v → x = v) ∧ Rd w' R (.slice ta zs.length cap) (numL us).2 ∧ w.grownBy w' (some R) := by
  obtain ⟨g, off, rfl⟩ : ∃ g off, ta = some ⟨g, off, none⟩ := by
    obtain ⟨a, c, e, _, hi⟩ := htx
    obtain ⟨g, off, ha, _⟩ := hi 0 hpos
    simp at e
    exact ⟨g, off, by rw [e.1, ha]⟩
  have hat := at_any us R _ zs.length cap w hrd
  have hl := hrd.text.2
  have HTX : Hid (TxtAt R w (.slice (some ⟨g, off, none⟩) zs.length cap) zs) := htx
  obtain ⟨a, ea, hm, hf, ha6⟩ := figs_split 6 us
  have hfl := figsL_fig 6 us
  have hrun2 : Runs zs (figsD 6 us) := Runs.drop (a := a) (by rw [← ea]; exact hrun)
  have hcut := runs_cut (a := a) (b := figsD 6 us) (by rw [← ea]; exact hrun) (fun u hu => by have := hf u hu; simp [fitU] at this; exact ⟨this.1, by rcases figR_cases this.2 with q | q <;> omega⟩)
  rw [← ea, hm] at hcut
  have HCUT : Hid (cutZ zs (atL zs.length us) (atL zs.length (figsD 6 us)) = figsL 6 us) := hcut.1
  have HLE : Hid (atL zs.length us ≤ atL zs.length (figsD 6 us)) := hcut.2
  have HLE2 : Hid (atL zs.length (figsD 6 us) ≤ zs.length) := hrun2.at_le
  obtain ⟨p, hp⟩ : ∃ p, p = atL zs.length us := ⟨_, rfl⟩
  rw [← hp] at HCUT HLE hat
  clear hcut hm hf ha6 ea hp hrun2 htx
  -- the closure's boxes
  have hw1 : w.grownBy ((w.alloc (.cells #[.int .i64 6] 3)).alloc (.cells #[.func (.func 208) #[] #[]] 122)) (some R) := (World.grownBy_alloc w _ _).trans (World.grownBy_alloc _ _ _)
  have hrd1 : Rd ((w.alloc (.cells #[.int .i64 6] 3)).alloc (.cells #[.func (.func 208) #[] #[]] 122)) R (.slice (some ⟨g, off, none⟩) zs.length cap) us := (hrd.alloc _).alloc _
  have ham : AM ((w.alloc (.cells #[.int .i64 6] 3)).alloc (.cells #[.func (.func 208) #[] #[]] 122)) w.heap.size (w.heap.size + 1) R 6 := by
    have b1 := Boxed.new w 3 (.int .i64 6)
    have b2 := Boxed.new (w.alloc (.cells #[.int .i64 6] 3)) 122 (.func (.func 208) #[] #[])
    rw [World.size_alloc] at b2
    have b1' := b1.alloc (.cells #[.func (.func 208) #[] #[]] 122)
    exact ⟨b1'.cell, b1'.frozen, b2.cell, hl, by omega, by omega, b1'.lt, b2.lt⟩
  have hta := takeAll2_any w _ R w.heap.size (w.heap.size + 1) _ us hw1 (Nat.le_refl _) hrd1 ham
  obtain ⟨W1, hW1⟩ : ∃ W1, W1 = (w.alloc (.cells #[.int .i64 6] 3)).alloc (.cells #[.func (.func 208) #[] #[]] 122) := ⟨_, rfl⟩
  have hmost : Calls Tryz.prog 207 #[.int .i64 6, .func (.func 208) #[] #[]] w fun e w' => e = .returned (.func (.func 221) #[] #[.pointer (some ⟨w.heap.size, 0, none⟩), .pointer (some ⟨w.heap.size + 1, 0, none⟩)]) ∧ W1 = w' := by
    rw [hW1]; exact atMost_any 6 w
  rw [← hW1] at hta
  clear hW1 hw1 hrd1 ham hrd
  go_enter Tryz.func185, Tryz.ntmps185
  go_wp2_with fail
  refine hat.mono ?_
  rintro e w' ⟨rfl, rfl⟩
  go_wp2_with fail
  refine hmost.mono ?_
  rintro e w' ⟨rfl, rfl⟩
  go_wp2_with fail
  refine hta.mono ?_
  rintro e w2 ⟨rfl, hr2, hg2⟩
  have hsn := since_any zs (figsD 6 us) R p g off cap w2 hr2 (HTX.out.grown hg2) hz HLE.out HLE2.out
  rw [HCUT.out] at hsn
  have HR2 : Hid (Rd w2 R (.slice (some ⟨g, off, none⟩) zs.length cap) (figsD 6 us)) := hr2
  clear hat hmost hta hr2
  by_cases hem : figsL 6 us = []
  · have en : numL us = (none, us) := by unfold numL; rw [hem]; rfl
    have ed : figsD 6 us = us := by
      obtain ⟨a, ea, hm, _, _⟩ := figs_split 6 us
      rw [hem] at hm
      obtain rfl : a = [] := by simpa using hm
      exact ea.symm
    rw [hem] at hsn
    have HEN : Hid (numL us = (none, us)) := en
    have HED : Hid (figsD 6 us = us) := ed
    clear en ed hem
    go_wp2_with fail
    refine hsn.mono ?_
    rintro e w3 ⟨rfl, hg3⟩
    have hr3 : Rd w3 R (.slice (some ⟨g, off, none⟩) zs.length cap) us := by have := HR2.out.kept hg3; rwa [HED.out] at this
    have hg03 : w.grownBy w3 (some R) := hg2.trans (hg3.but _)
    have hp0 := parse_none w3 hr3.syn.1
    clear hsn hg3
    go_wp2_with fail
    refine hp0.mono ?_
    rintro e w4 ⟨⟨pa, rfl⟩, hB4⟩
    go_wp2
    go_ret2
    rw [HEN.out]
    exact ⟨_, rfl, (fun v h => (by cases h)), hr3.kept (grownR_below hB4 _), hg03.trans (grownR_below hB4 _)⟩
  · have hlen : 1 ≤ (figsL 6 us).length := by
      rcases Nat.eq_zero_or_pos (figsL 6 us).length with q | q
      · exact absurd (List.length_eq_zero_iff.1 q) hem
      · exact q
    have hp1 : ∀ w3, _ := fun w3 => parse_any (figsL 6 us) hfl.1 hlen hfl.2 w3
    obtain ⟨v, hv⟩ : ∃ v, v = hexV (figsL 6 us) := ⟨_, rfl⟩
    rw [← hv] at hp1
    have he : (figsL 6 us).isEmpty = false := by simpa using hem
    obtain ⟨s, hs⟩ : ∃ s, s = strOfNums (figsL 6 us) := ⟨_, rfl⟩
    rw [← hs] at hp1 hsn
    have hnl : (numL us).1.isSome = (sgn (isC 125) (figsD 6 us)).1.isSome ∧ (∀ y, (numL us).1 = some y → v = y) ∧ (numL us).2 = (sgn (isC 125) (figsD 6 us)).2 := by
      unfold numL
      rw [he]
      simp only [Bool.false_eq_true, if_false]
      cases hq : sgn (isC 125) (figsD 6 us) with
      | mk o r => cases o with
        | none => exact ⟨rfl, (fun y h => (by cases h)), rfl⟩
        | some z => exact ⟨rfl, (fun y h => (by injection h with h; rw [hv]; exact h)), rfl⟩
    have HNL : Hid ((numL us).1.isSome = (sgn (isC 125) (figsD 6 us)).1.isSome ∧ (∀ y, (numL us).1 = some y → v = y) ∧ (numL us).2 = (sgn (isC 125) (figsD 6 us)).2) := hnl
    clear hem hlen hv he hs hfl hnl
    go_wp2_with fail
    refine hsn.mono ?_
    rintro e w3 ⟨rfl, hg3⟩
    have hr3 : Rd w3 R (.slice (some ⟨g, off, none⟩) zs.length cap) (figsD 6 us) := HR2.out.kept hg3
    have hg03 : w.grownBy w3 (some R) := hg2.trans (hg3.but _)
    clear hsn hg3
    go_wp2_with fail
    refine (hp1 w3).mono ?_
    rintro e w4 ⟨rfl, hB4⟩
    have hr4 : Rd w4 R (.slice (some ⟨g, off, none⟩) zs.length cap) (figsD 6 us) := hr3.kept (grownR_below hB4 _)
    have hg04 : w.grownBy w4 (some R) := hg03.trans (grownR_below hB4 _)
    have hr5 : Rd (w4.alloc (.cells #[.int .i64 125] 3)) R (.slice (some ⟨g, off, none⟩) zs.length cap) (figsD 6 us) := hr4.alloc _
    have hg05 : w.grownBy (w4.alloc (.cells #[.int .i64 125] 3)) (some R) := hg04.trans (World.grownBy_alloc _ _ _)
    have htk := take1_any w4.heap.size 125 _ R _ _ hr5 (World.cell?_alloc_new _ _ _ _)
    obtain ⟨b, hb⟩ : ∃ b, b = (sgn (isC 125) (figsD 6 us)).1.isSome := ⟨_, rfl⟩
    rw [← hb] at htk HNL
    clear hb hp1 hr4 hr5 hr3 HR2 hB4 HTX
    go_wp2_with (first | (go_at_call 76; refine (is_any _ _).mono ?_; rintro e w' ⟨rfl, rfl⟩) | (go_at_call 74; refine htk.mono ?_; rintro e w6 ⟨rfl, hr6, hg6⟩))
    go_ret2
    rw [HNL.out.1, HNL.out.2.2]
    exact ⟨_, rfl, HNL.out.2.1, hr6, hg05.trans hg6⟩
end Go.Proofs.YtohaegaocklnkaaGreatDoor

namespace Go.Proofs.YtohaegaocklnkaaGreatDoor
open Go.RowKit
set_option linter.unusedVariables false

theorem heap_set {w : World} {b i : Nat} {cs : Array Value} {t : TypeId} {fr : Nat × Nat} (h : w.heap[b]? = some (.cells cs t fr)) (v : Value) : (w.setCell ⟨b, i, none⟩ v).heap[b]? = some (.cells (cs.setIfInBounds i v) t fr) := by
  simp [World.setCell]
  rw [Array.getElem?_modify, if_pos rfl, h]
  rfl

theorem results_row_tmp {P : Program} {fn : Func} {p u : Tmp} {ty : TypeId} (h : fn.results = #[.cell p ty, .tmp u]) (tmps : Array Value) (w : World) (g : Nat) (t : TypeId) (cs : Array Value) (fr : Nat × Nat) (d : TypeDesc)
    (hp : tmps.getD p undef = .pointer (some ⟨g, 0, none⟩)) (hg : w.heap[g]? = some (.cells cs t fr))
    (hu : P.underlying ty = some d) (hd : (match d with | .struct _ | .array _ _ => true | _ => false) = true) (hi : (P.info? ty).map (·.size) = some cs.size) :
    (results fn tmps).run P w = .ok (.tuple #[.agg cs, tmps.getD u undef]) w := by
  have hp' : tmps[p]?.getD undef = .pointer (some ⟨g, 0, none⟩) := by simpa using hp
  simp [results, h, hp', asAddr, run_loadVar_row w g t ty cs fr d hg hu hd hi]
theorem results_row_tmp2 {P : Program} {fn : Func} {p u v : Tmp} {ty : TypeId} (h : fn.results = #[.cell p ty, .tmp u, .tmp v]) (tmps : Array Value) (w : World) (g : Nat) (t : TypeId) (cs : Array Value) (fr : Nat × Nat) (d : TypeDesc)
    (hp : tmps.getD p undef = .pointer (some ⟨g, 0, none⟩)) (hg : w.heap[g]? = some (.cells cs t fr))
    (hu : P.underlying ty = some d) (hd : (match d with | .struct _ | .array _ _ => true | _ => false) = true) (hi : (P.info? ty).map (·.size) = some cs.size) :
    (results fn tmps).run P w = .ok (.tuple #[.agg cs, tmps.getD u undef, tmps.getD v undef]) w := by
  have hp' : tmps[p]?.getD undef = .pointer (some ⟨g, 0, none⟩) := by simpa using hp
  simp [results, h, hp', asAddr, run_loadVar_row w g t ty cs fr d hg hu hd hi]
end Go.Proofs.YtohaegaocklnkaaGreatDoor

namespace Go.Proofs.YtohaegaocklnkaaGreatDoor
open Go.RowKit Go.Shelf S1
set_option linter.unusedVariables false

/-- The figures of a number, as numbers. -/
def digF : Nat → Nat → List Nat
  | 0, _ => []
  | k + 1, n => if n < 16 then [n] else digF k (n / 16) ++ [n % 16]
def digL (n : Nat) : List Nat := digF 6 n
def lowC (d : Nat) : Int := if d < 10 then 48 + (d : Int) else 87 + (d : Int)
def upC (d : Nat) : Int := if d < 10 then 48 + (d : Int) else 55 + (d : Int)
theorem digF_small {k n : Nat} (h : n < 16) : digF (k + 1) n = [n] := by unfold digF; rw [if_pos h]
theorem digF_great {k n : Nat} (h : 16 ≤ n) : digF (k + 1) n = digF k (n / 16) ++ [n % 16] := by rw [digF]; rw [if_neg (by omega)]
theorem digF_lt : ∀ (k n : Nat), ∀ d ∈ digF k n, d < 16
  | 0, n, d, h => by cases h
  | k + 1, n, d, h => by
    by_cases q : n < 16
    · rw [digF_small q] at h
      obtain rfl : d = n := by simpa using h
      exact q
    · rw [digF_great (by omega)] at h
      rcases List.mem_append.1 h with h | h
      · exact digF_lt k (n / 16) d h
      · obtain rfl : d = n % 16 := by simpa using h
        omega
theorem digF_len : ∀ (k n : Nat), (digF k n).length ≤ k
  | 0, n => by simp [digF]
  | k + 1, n => by
    by_cases q : n < 16
    · rw [digF_small q]; simp
    · rw [digF_great (by omega)]
      have := digF_len k (n / 16)
      simp; omega

theorem digF_short : ∀ (k n : Nat), n < 16777216 → (digF k n).length ≤ 7
  | k, n, h => by
    rcases Nat.lt_or_ge k 7 with q | q
    · have := digF_len k n; omega
    · obtain ⟨j, rfl⟩ : ∃ j, k = j + 7 := ⟨k - 7, by omega⟩
      have s0 : ∀ (k n b : Nat), n < 16 * b → (∀ m, m < b → (digF k m).length ≤ 6) → (digF (k + 1) n).length ≤ 7 := fun k n b h1 h2 => by
        by_cases q : n < 16
        · rw [digF_small q]; simp
        · rw [digF_great (by omega)]
          have := h2 (n / 16) (by omega)
          simp; omega
      have step : ∀ (c : Nat) (k b : Nat), (∀ m, m < b → (digF k m).length ≤ c) → ∀ m, m < 16 * b → (digF (k + 1) m).length ≤ c + 1 := fun c k b h2 m hm => by
        by_cases q : m < 16
        · rw [digF_small q]; simp
        · rw [digF_great (by omega)]
          have := h2 (m / 16) (by omega)
          simp; omega
      have h1 : ∀ m, m < 16 → (digF (j + 1) m).length ≤ 1 := fun m hm => by rw [digF_small hm]; simp
      have h2 := step 1 (j + 1) 16 h1
      have h3 := step 2 (j + 2) (16 * 16) h2
      have h4 := step 3 (j + 3) (16 * (16 * 16)) h3
      have h5 := step 4 (j + 4) (16 * (16 * (16 * 16))) h4
      have h6 := step 5 (j + 5) (16 * (16 * (16 * (16 * 16)))) h5
      have := step 6 (j + 6) (16 * (16 * (16 * (16 * (16 * 16))))) h6 n (by omega)
      exact this

/-- The library's table, where it is read. -/
def DbV (w : World) : Prop := w.cell? ⟨6, 15, none⟩ = some (.int .u8 4) ∧ 6 < w.heap.size
theorem DbV.below {w w' : World} {B : Nat} (h : DbV w) (hb : Below B w w') (hB : 6 < B) : DbV w' :=
  ⟨(hb.cell (p := ⟨6, 15, none⟩) hB).trans h.1, Nat.lt_of_lt_of_le h.2 hb.size⟩

theorem pow2_any (w : World) : Calls Tryz.prog 181 #[.int .i64 16] w fun e w' => e = .returned (.bool true) ∧ w = w' := by
  go_enter Tryz.func181, Tryz.ntmps181
  go_wp2
  go_ret
  exact ⟨rfl, rfl⟩
theorem tz64_any (w : World) (h : DbV w) : Calls Tryz.prog 206 #[.int .u64 16] w fun e w' => e = .returned (.int .i64 4) ∧ w = w' := by
  have h1 := h.1
  have e1 : bits BinOp.and IntKind.u64 16 (IntKind.u64.wrap (-16)) = 16 := by decide +kernel
  have e2 : IntKind.u64.wrap (16 * 285870213051353865) / 288230376151711744 = 15 := by decide +kernel
  go_enter Tryz.func206, Tryz.ntmps206
  go_wp2
  go_ret
  exact ⟨rfl, rfl⟩
theorem tz_any (w : World) (h : DbV w) : Calls Tryz.prog 182 #[.int .u64 16] w fun e w' => e = .returned (.int .i64 4) ∧ w = w' := by
  go_enter Tryz.func182, Tryz.ntmps182
  go_wp2_with (go_at_call 206; refine (tz64_any _ h).mono ?_; rintro e w' ⟨rfl, rfl⟩)
  go_ret
  exact ⟨rfl, rfl⟩

theorem and15 (u : Nat) (h : u < 16777216) : bits BinOp.and IntKind.u64 (u : Int) 15 = ((u % 16 : Nat) : Int) := by
  have := u64_and_nat u 15 (by omega) (by omega)
  have e : u &&& 15 = u % 16 := Nat.and_two_pow_sub_one_eq_mod u 4
  rw [e] at this
  exact this

/-- The array's row holds the figures from a place on. -/
def FigAt (w : World) (A : Nat) (i : Nat) (S : List Nat) : Prop := ∃ cs : Array Value, w.heap[A]? = some (.cells cs 210) ∧ cs.size = 65 ∧ cs.toList.drop i = S.map (fun d => Value.int .u8 (lowC d))
theorem FigAt.put {w : World} {A i : Nat} {S : List Nat} (h : FigAt w A (i + 1) S) (hi : i < 65) (d : Nat) : FigAt (w.setCell ⟨A, i, none⟩ (.int .u8 (lowC d))) A i (d :: S) := by
  obtain ⟨cs, h1, h2, h3⟩ := h
  refine ⟨cs.setIfInBounds i (.int .u8 (lowC d)), heap_set h1 _, by simpa using h2, ?_⟩
  have hl : i < (cs.setIfInBounds i (.int .u8 (lowC d))).toList.length := by simp; omega
  rw [List.drop_eq_getElem_cons hl]
  simp only [Array.toList_setIfInBounds, List.map_cons]
  rw [List.getElem_set_self, List.drop_set, if_pos (by omega), h3]

/-- The figures, as the library writes them. -/
theorem dig_low (d : Nat) (h : d < 16) (h2 : d < (⟨(48 :: 49 :: 50 :: 51 :: 52 :: 53 :: 54 :: 55 :: 56 :: 57 :: 97 :: 98 :: 99 :: 100 :: 101 :: 102 :: 103 :: 104 :: 105 :: 106 :: 107 :: 108 :: 109 :: 110 :: 111 :: 112 :: 113 :: 114 :: 115 :: 116 :: 117 :: 118 :: 119 :: 120 :: 121 :: 122 :: []).toArray⟩ : ByteArray).size) :
    (((⟨(48 :: 49 :: 50 :: 51 :: 52 :: 53 :: 54 :: 55 :: 56 :: 57 :: 97 :: 98 :: 99 :: 100 :: 101 :: 102 :: 103 :: 104 :: 105 :: 106 :: 107 :: 108 :: 109 :: 110 :: 111 :: 112 :: 113 :: 114 :: 115 :: 116 :: 117 :: 118 :: 119 :: 120 :: 121 :: 122 :: []).toArray⟩ : ByteArray)[d]'h2).toNat : Int) = lowC d := by
  have key : ∀ d : Fin 16, (((⟨(48 :: 49 :: 50 :: 51 :: 52 :: 53 :: 54 :: 55 :: 56 :: 57 :: 97 :: 98 :: 99 :: 100 :: 101 :: 102 :: 103 :: 104 :: 105 :: 106 :: 107 :: 108 :: 109 :: 110 :: 111 :: 112 :: 113 :: 114 :: 115 :: 116 :: 117 :: 118 :: 119 :: 120 :: 121 :: 122 :: []).toArray⟩ : ByteArray)[d.val]'(Nat.lt_trans d.isLt (by decide))).toNat : Int) = lowC d.val := by decide +kernel
  exact key ⟨d, h⟩
theorem cell_of_row' {w : World} {b : Nat} {cs : Array Value} {t : TypeId} {fr : Nat × Nat} (h : w.heap[b]? = some (.cells cs t fr)) (i : Nat) : w.cell? ⟨b, i, none⟩ = cs[i]? := by
  simp [World.cell?, h]
theorem FigAt.lt {w : World} {A p : Nat} {S : List Nat} (h : FigAt w A p S) : A < w.heap.size := by
  obtain ⟨cs, h1, _⟩ := h
  exact (Array.getElem?_eq_some_iff.1 h1).1
theorem FigAt.cell {w : World} {A i p : Nat} {S : List Nat} (h : FigAt w A p S) (hi : i < 65) : (∃ v, w.cell? ⟨A, i, none⟩ = some v) ∧ w.frozen? ⟨A, i, none⟩ = false := by
  obtain ⟨cs, h1, h2, h3⟩ := h
  refine ⟨⟨cs[i]'(by omega), ?_⟩, frozen_of_row _ _ i _ _ h1⟩
  rw [cell_of_row' h1 i, Array.getElem?_eq_getElem (by omega)]
theorem FigAt.txt {w : World} {A p : Nat} {S : List Nat} (h : FigAt w A p S) (hp : p + S.length = 65) (hA : A < w.heap.size) : TxtAt w.heap.size w (.slice (some ⟨A, p, none⟩) (65 - p) (65 - p)) (S.map lowC) := by
  obtain ⟨cs, h1, h2, h3⟩ := h
  refine ⟨_, 65 - p, by rw [List.length_map]; congr 1; omega, by rw [List.length_map]; omega, fun i hi => ⟨A, p, rfl, hA, ?_⟩⟩
  rw [List.length_map] at hi
  have e1 := congrArg (fun l => l[i]?) h3
  simp only [List.getElem?_drop, List.getElem?_map] at e1
  rw [List.getElem?_eq_getElem hi] at e1
  have e2 : w.cell? ⟨A, p + i, none⟩ = cs[p + i]? := cell_of_row' h1 (p + i)
  rw [e2]
  simpa using e1

set_option maxRecDepth 100000 in
set_option maxHeartbeats 4000000 in
theorem fbits_any (n : Nat) (hn : n < 16 ^ 6) (w : World) (hdb : DbV w) :
    Calls Tryz.prog 149 #[.slice none 0 0, .int .u64 n, .int .i64 16, .bool false, .bool false] w fun e w' => e = .returned (.tuple #[.slice none 0 0, .string (strOfNums ((digL n).map lowC))]) ∧ Below w.heap.size w w' := by
  go_enter Tryz.func149, Tryz.ntmps149
  go_wp2_with (first | (go_at_call 181; refine (pow2_any _).mono ?_; rintro e w' ⟨rfl, rfl⟩) | (go_at_call 182; refine (tz_any _ (by exact hdb.below ((Below.refl w.heap.size w).alloc (Nat.le_refl _) _) hdb.2)).mono ?_; rintro e w' ⟨rfl, rfl⟩))
  have HF0 : FigAt (w.alloc (.cells (Array.replicate 65 (.int .u8 0)) 210)) w.heap.size 65 [] := ⟨_, heap_new' w _, by simp, by simp⟩
  have hB0 : Below w.heap.size w (w.alloc (.cells (Array.replicate 65 (.int .u8 0)) 210)) := (Below.refl _ w).alloc (Nat.le_refl _) _
  go_loopw [1, 13] (fun xu xi wr => ∃ (k u p : Nat) (S : List Nat), xu = .int .u64 u ∧ xi = .int .i64 p ∧ p + S.length = 65 ∧ S.length + k = 6 ∧ 1 ≤ k ∧ u < 16 ^ k ∧ Hid (digF k u ++ S = digL n) ∧ FigAt wr w.heap.size p S ∧ Below w.heap.size w wr) (fun xu _ _ => (intOf xu).toNat)
  case atStart => exact ⟨6, n, 65, [], rfl, rfl, by simp, by simp, by omega, hn, by show _ = _; simp [digL], HF0, hB0⟩
  case round =>
    obtain ⟨k, u, p, S, rfl, rfl, hp, hk, hk1, hu, HD, hf, hB⟩ := hrel
    have hu24 : u < 16777216 := by
      have h1 : (16 ^ k : Nat) ≤ 16 ^ 6 := Nat.pow_le_pow_right (by omega) (by omega)
      have h2 : (16 ^ 6 : Nat) = 16777216 := by decide
      omega
    obtain ⟨j, rfl⟩ : ∃ j, k = j + 1 := ⟨k - 1, by omega⟩
    by_cases hge : 16 ≤ u
    · have hgi : (16 : Int) ≤ (u : Int) := by omega
      have HD2 : Hid (digF j (u / 16) ++ (u % 16 :: S) = digL n) := by
        show _ = _
        rw [← HD.out, digF_great hge, List.append_assoc]; rfl
      have hand := and15 u hu24
      have hd16 : u % 16 < 16 := Nat.mod_lt _ (by omega)
      obtain ⟨d, hd⟩ : ∃ d, d = u % 16 := ⟨_, rfl⟩
      rw [← hd] at hand hd16 HD2
      have hdi0 : (0 : Int) ≤ (d : Int) := by omega
      have hdi1 : (d : Int) < 36 := by omega
      obtain ⟨p', rfl⟩ : ∃ p', p = p' + 1 := ⟨p - 1, by omega⟩
      have hpi : ((p' + 1 : Nat) : Int) - 1 = (p' : Int) := by omega
      obtain ⟨⟨v0, c0⟩, g0⟩ := hf.cell (i := p') (by omega)
      have HFP : Hid (FigAt (wr.setCell ⟨w.heap.size, p', none⟩ (.int .u8 (lowC d))) w.heap.size p' (d :: S)) := hf.put (by omega) d
      have HBP : Hid (∀ v, Below w.heap.size w (wr.setCell ⟨w.heap.size, p', none⟩ v)) := fun v => hB.setCell (p := ⟨w.heap.size, p', none⟩) (Nat.le_refl _) v
      have hp0 : (0 : Int) ≤ (p' : Int) := by omega
      have hp1 : (p' : Int) < 65 := by omega
      have HU : Hid (u / 16 < 16 ^ j ∧ 1 ≤ j) := by
        show _ ∧ _
        rw [Nat.pow_succ] at hu
        refine ⟨by omega, ?_⟩
        rcases Nat.eq_zero_or_pos j with z | z
        · subst z; simp at hu; omega
        · exact z
      have HSZ : Hid (d < 16) := hd16
      clear hd hf hu hge
      go_wp2
      go_roundw
      case rel => exact ⟨j, u / 16, p', d :: S, by simp, rfl, by simp; omega, by simp; omega, HU.out.2, HU.out.1, HD2, by rw [dig_low d HSZ.out]; exact HFP.out, HBP.out _⟩
      case measure => simp [intOf]; omega
    · have hgi : decide ((16 : Int) ≤ (u : Int)) = false := by simp; omega
      have HD2 : Hid (u :: S = digL n) := by
        show _ = _
        rw [← HD.out, digF_small (by omega)]; rfl
      obtain ⟨p', rfl⟩ : ∃ p', p = p' + 1 := ⟨p - 1, by omega⟩
      have hpi : ((p' + 1 : Nat) : Int) - 1 = (p' : Int) := by omega
      obtain ⟨⟨v0, c0⟩, g0⟩ := hf.cell (i := p') (by omega)
      have hfp := hf.put (i := p') (by omega) u
      have hu16 : u < 16 := by omega
      have hBp := hB.setCell (p := ⟨w.heap.size, p', none⟩) (Nat.le_refl _) (.int .u8 (lowC u))
      have htx := (hfp.txt (by simp; omega) (by have := hB.size; have := hf.lt; simp [World.setCell]; omega)).conv
      have hu36' : u < (⟨(48 :: 49 :: 50 :: 51 :: 52 :: 53 :: 54 :: 55 :: 56 :: 57 :: 97 :: 98 :: 99 :: 100 :: 101 :: 102 :: 103 :: 104 :: 105 :: 106 :: 107 :: 108 :: 109 :: 110 :: 111 :: 112 :: 113 :: 114 :: 115 :: 116 :: 117 :: 118 :: 119 :: 120 :: 121 :: 122 :: []).toArray⟩ : ByteArray).size := by show u < 36; omega
      have e := dig_low u hu16 hu36'
      rw [← e] at htx hBp
      rw [show (List.map lowC (u :: S)) = (digL n).map lowC by rw [HD2.out]] at htx
      obtain ⟨str, hstr⟩ : ∃ str, str = strOfNums ((digL n).map lowC) := ⟨_, rfl⟩
      rw [← hstr] at htx
      have HSTR : Hid (str = strOfNums ((digL n).map lowC)) := hstr
      have HBP : Hid _ := hBp
      have hp0 : (0 : Int) ≤ (p' : Int) := by omega
      have hp1 : (p' : Int) < 65 := by omega
      have hp2 : (p' : Int) ≤ 65 := by omega
      have hu0 : (0 : Int) ≤ (u : Int) := by omega
      have hu36 : (u : Int) < 36 := by omega
      clear e hf hfp hBp hstr hu hge hB
      go_wp2
      go_ret2
      exact ⟨by rw [← HSTR.out]; rfl, HBP.out⟩

theorem fmtI_any (n : Nat) (hn : n < 16 ^ 6) (w : World) (hdb : DbV w) :
    Calls Tryz.prog 111 #[.int .i64 n, .int .i64 16] w fun e w' => e = .returned (.string (strOfNums ((digL n).map lowC))) ∧ Below w.heap.size w w' := by
  have h := fbits_any n hn w hdb
  have h24 : n < 16777216 := by have : (16 ^ 6 : Nat) = 16777216 := by decide
                                omega
  have hneg : decide ((n : Int) < 0) = false := by simp
  obtain ⟨str, hstr⟩ : ∃ str, str = strOfNums ((digL n).map lowC) := ⟨_, rfl⟩
  rw [← hstr] at h ⊢
  clear hstr hn
  go_enter Tryz.func111, Tryz.ntmps111
  go_wp2_with (go_at_call 149; refine h.mono ?_; rintro e w' ⟨rfl, hB⟩)
  go_ret
  exact ⟨rfl, hB⟩
theorem fmt_any (n : Nat) (hn : n < 16 ^ 6) (w : World) (hdb : DbV w) :
    Calls Tryz.prog 72 #[.int .i64 n, .int .i64 16] w fun e w' => e = .returned (.string (strOfNums ((digL n).map lowC))) ∧ Below w.heap.size w w' := by
  have h := fmtI_any n hn w hdb
  obtain ⟨str, hstr⟩ : ∃ str, str = strOfNums ((digL n).map lowC) := ⟨_, rfl⟩
  rw [← hstr] at h ⊢
  clear hstr hn
  go_enter Tryz.func72, Tryz.ntmps72
  go_wp2_with (go_at_call 111; refine h.mono ?_; rintro e w' ⟨rfl, hB⟩)
  go_ret
  exact ⟨rfl, hB⟩
end Go.Proofs.YtohaegaocklnkaaGreatDoor
