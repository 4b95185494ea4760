/-
  Add Stretch Choose
-/
import Derived.Test.YtfdjchnckjgapaaGreatDoorX04
import Derived.BigQuiet
import Derived.BigRegion
import Derived.RegionTactic
import Derived.Shelf.Abstract
namespace Go.Proofs.YtfdjchnckjgapaaGreatDoor
open Go.RowKit
set_option linter.unusedVariables false
theorem heap_new2 (w : World) (o o' : Obj) : ((w.alloc o).alloc o').heap[w.heap.size + 1]? = some o' := by
  have := heap_new' (w.alloc o) o'
  rwa [World.size_alloc] at this
theorem own_frozen {w : World} {base e size n g m c : Nat} {xs : List Value} (h : w.ownsRow base e size (.slice (some ⟨g, 0, none⟩) m c) n xs) (j : Nat) : w.frozen? ⟨g, j, none⟩ = false := by
  rcases h.2 with ⟨e, _⟩ | ⟨g', cap', cur, e, hb, hg, _⟩
  · cases e
  · obtain ⟨rfl, _⟩ : g = g' ∧ _ := by simpa using e
    exact frozen_of_row _ _ _ _ _ hg
set_option maxRecDepth 100000 in
set_option maxHeartbeats 2000000 in
theorem add_any (base : Nat) (l : List Rg) (r : Rg) (v : Value) (w : World) (hlen : l.length ≤ 600000) (hbd : ∀ s ∈ l, -10 ≤ s.hi ∧ s.hi ≤ 2000000) (hbase : base ≤ w.heap.size) (hown : w.ownsRow base 94 2 v l.length (cellsRs l)) :
    Calls Tryz.prog 103 #[v, .agg #[.int .i64 r.lo, .int .i64 r.hi]] w fun e w' => ∃ v', e = .returned v' ∧ w'.ownsRow base 94 2 v' (addL l r).length (cellsRs (addL l r)) ∧ Below base w w' := by
  obtain ⟨i0, hi, hz0, hz1, hz2⟩ := info_parts Tryz.infoRange
  obtain ⟨a, cap, rfl, hc, hcell⟩ := rng_of_row hown
  have HO : Hid (w.ownsRow base 94 2 (.slice a l.length cap) l.length (cellsRs l)) := hown
  clear hown
  rcases list_last l with rfl | ⟨ini, s, rfl⟩
  · have HO2 : Hid (((w.alloc (.cells #[.int .i64 r.lo, .int .i64 r.hi] 94)).alloc (.cells #[.int .i64 r.lo, .int .i64 r.hi] 94)).ownsRow base 94 2 (.slice a 0 cap) 0 []) := (World.ownsRow.alloc HO.out _).alloc _
    have HN : Hid _ := heap_new2 w (.cells #[.int .i64 r.lo, .int .i64 r.hi] 94) (.cells #[.int .i64 r.lo, .int .i64 r.hi] 94)
    have HB : Hid (Below base w ((w.alloc (.cells #[.int .i64 r.lo, .int .i64 r.hi] 94)).alloc (.cells #[.int .i64 r.lo, .int .i64 r.hi] 94))) := ((Below.refl base w).alloc hbase _).alloc (by simp; omega) _
    rw [addL_nil]
    clear hcell HO
    go_enter Tryz.func103, Tryz.ntmps103
    go_wp2_with (at_builtin; go_must (refine wpList_append_own _ rfl (.tmp 33) (.tmp 35) 43 rfl base 94 i0 (.agg #[.int .i64 0, .int .i64 0]) 2 16 Tryz.underlying43 hi hz0 hz1 hz2 rfl (by decide) _ _ _ rfl HO2.out ⟨w.heap.size + 1, 0, none⟩ 1 1 (cellsR r) rfl rfl (World.news_of_block HN.out) (by simp [cellsR, Value.oneCell']) (by unfold maxLen; omega) (by omega) (by simp; omega) ?_); intro v' w1 hown' hgrow hnil)
    go_ret
    exact ⟨v', rfl, by simpa [cellsRs] using hown', HB.out.grown hgrow (by simp; omega) (fun j e => (World.ownsRow.lt HO2.out j e).1)⟩
  · have hl1 : (ini ++ [s]).length = ini.length + 1 := by simp
    have hbs := hbd s (by simp)
    have hle : ini.length + 1 ≤ 600000 := by rw [← hl1]; exact hlen
    obtain ⟨g, off, rfl, hg, c0, c1⟩ := hcell ini.length (by omega)
    have e1 : (ini ++ [s])[ini.length]'(by omega) = s := by simp
    rw [e1] at c0 c1
    have hoff : off = 0 ∧ base ≤ g := by
      rcases HO.out.2 with ⟨e, _⟩ | ⟨g', cap', cur, e, hb, _⟩
      · cases e
      · simp at e; exact ⟨e.1.2, by rw [e.1.1]; exact hb⟩
    obtain ⟨hoff, hbg⟩ := hoff
    subst hoff
    simp only [Nat.zero_add] at c0 c1
    rw [hl1] at HO hc ⊢
    have HO1 : Hid ((w.alloc (.cells #[.int .i64 r.lo, .int .i64 r.hi] 94)).ownsRow base 94 2 (.slice (some ⟨g, 0, none⟩) (ini.length + 1) cap) (ini.length + 1) (cellsRs (ini ++ [s]))) := World.ownsRow.alloc HO.out _
    have hB1 : Below base w (w.alloc (.cells #[.int .i64 r.lo, .int .i64 r.hi] 94)) := (Below.refl base w).alloc hbase _
    clear hcell hbd hlen e1 HO
    have hn0 : (0 : Int) < (ini.length : Int) + 1 := by omega
    by_cases q : r.lo ≤ s.hi + 1
    · rw [addL_join q]
      obtain ⟨mx, hmx0⟩ : ∃ mx, max s.hi r.hi = mx := ⟨_, rfl⟩
      rw [hmx0]
      have HMX : Hid (max s.hi r.hi = mx) := hmx0
      clear hmx0
      go_enter Tryz.func103, Tryz.ntmps103
      go_wp2
      go_quiet (fail)
      have HB2 := below_drewN' hB1 nq
      have HO2 := ownsRow_drewN HO1.out nq
      have b0 : ((w.alloc (.cells #[.int .i64 r.lo, .int .i64 r.hi] 94)).drewN nq).cell? ⟨w.heap.size, 0, none⟩ = some (.int .i64 r.lo) := cell_of_row _ _ 0 _ _ _ (heap_new' w _)
      have b1 : ((w.alloc (.cells #[.int .i64 r.lo, .int .i64 r.hi] 94)).drewN nq).cell? ⟨w.heap.size, 1, none⟩ = some (.int .i64 r.hi) := cell_of_row _ _ 1 _ _ _ (heap_new' w _)
      have d1 : ((w.alloc (.cells #[.int .i64 r.lo, .int .i64 r.hi] 94)).drewN nq).cell? ⟨g, ini.length * 2 + 1, none⟩ = some (.int .i64 s.hi) := (World.cell?_of_block (a := ⟨g, ini.length * 2 + 1, none⟩) (Below.heap_alloc w _ g hg)).trans c1
      have f1 : ((w.alloc (.cells #[.int .i64 r.lo, .int .i64 r.hi] 94)).drewN nq).frozen? ⟨g, ini.length * 2 + 1, none⟩ = false := own_frozen HO2 _
      obtain ⟨W1, hW1⟩ : ∃ W1, (w.alloc (.cells #[.int .i64 r.lo, .int .i64 r.hi] 94)).drewN nq = W1 := ⟨_, rfl⟩
      rw [hW1] at HO2 HB2 b0 b1 d1 f1 ⊢
      have HO3 : Hid (W1.ownsRow base 94 2 (.slice (some ⟨g, 0, none⟩) (ini.length + 1) cap) (ini.length + 1) (cellsRs (ini ++ [s]))) := HO2
      have HB3 : Hid (Below base w W1) := HB2
      clear hW1 HO1 hB1 c0 c1 HO2 HB2
      go_wp2
      go_region
      have hmx : (if s.hi < r.hi then r.hi else s.hi) = mx := by
        rw [← HMX.out]
        split
        · rename_i z; exact (Int.max_eq_right (by omega)).symm
        · rename_i z; exact (Int.max_eq_left (by omega)).symm
      first | rw [hmx] | rw [HMX.out]
      clear hmx
      have HO4 : Hid ((W1.setCell ⟨g, ini.length * 2 + 1, none⟩ (.int .i64 mx)).ownsRow base 94 2 (.slice (some ⟨g, 0, none⟩) (ini.length + 1) cap) (ini ++ [(⟨s.lo, mx⟩ : Rg)]).length (cellsRs (ini ++ [⟨s.lo, mx⟩]))) := by
        have := own_grow (base := base) (g := g) (cap := cap) (ini := ini) (s := s) (w := W1) (by rw [hl1]; exact HO3.out) mx
        rw [hl1] at this
        exact this
      have HB4 : Hid (Below base w (W1.setCell ⟨g, ini.length * 2 + 1, none⟩ (.int .i64 mx))) := HB3.out.setCell (p := ⟨g, ini.length * 2 + 1, none⟩) hbg _
      clear d1 f1 b0 b1 HO3 HB3
      go_wp2
      go_ret
      exact ⟨.slice (some ⟨g, 0, none⟩) (ini.length + 1) cap, rfl, ownsRow_drewN HO4.out 1, below_drewN' HB4.out 1⟩
    · rw [addL_snoc q]
      go_enter Tryz.func103, Tryz.ntmps103
      go_wp2
      go_quiet (fail)
      have HO2 := World.ownsRow.alloc (ownsRow_drewN HO1.out nq) (.cells #[.int .i64 r.lo, .int .i64 r.hi] 94)
      have HB2 := (below_drewN' hB1 nq).alloc (by simp; omega) (.cells #[.int .i64 r.lo, .int .i64 r.hi] 94)
      have HN2 := heap_new' ((w.alloc (.cells #[.int .i64 r.lo, .int .i64 r.hi] 94)).drewN nq) (.cells #[.int .i64 r.lo, .int .i64 r.hi] 94)
      have b0 : ((w.alloc (.cells #[.int .i64 r.lo, .int .i64 r.hi] 94)).drewN nq).cell? ⟨w.heap.size, 0, none⟩ = some (.int .i64 r.lo) := cell_of_row _ _ 0 _ _ _ (heap_new' w _)
      have b1 : ((w.alloc (.cells #[.int .i64 r.lo, .int .i64 r.hi] 94)).drewN nq).cell? ⟨w.heap.size, 1, none⟩ = some (.int .i64 r.hi) := cell_of_row _ _ 1 _ _ _ (heap_new' w _)
      have hsz : ((w.alloc (.cells #[.int .i64 r.lo, .int .i64 r.hi] 94)).drewN nq).heap.size = w.heap.size + 1 := by show (w.alloc _).heap.size = _; simp
      obtain ⟨W1, hW1⟩ : ∃ W1, (w.alloc (.cells #[.int .i64 r.lo, .int .i64 r.hi] 94)).drewN nq = W1 := ⟨_, rfl⟩
      rw [hW1] at HO2 HB2 HN2 b0 b1 hsz ⊢
      have HO3 : Hid ((W1.alloc (.cells #[.int .i64 r.lo, .int .i64 r.hi] 94)).ownsRow base 94 2 (.slice (some ⟨g, 0, none⟩) (ini.length + 1) cap) (ini.length + 1) (cellsRs (ini ++ [s]))) := HO2
      have HB3 : Hid (Below base w (W1.alloc (.cells #[.int .i64 r.lo, .int .i64 r.hi] 94))) := HB2
      have HN3 : Hid ((W1.alloc (.cells #[.int .i64 r.lo, .int .i64 r.hi] 94)).heap[W1.heap.size]? = some (.cells #[.int .i64 r.lo, .int .i64 r.hi] 94)) := HN2
      have HS : Hid (W1.heap.size = w.heap.size + 1) := hsz
      clear hW1 HO1 hB1 c0 c1 HO2 HB2 HN2 hsz
      go_wp2_with (at_builtin; go_must (refine wpList_append_own _ rfl (.tmp 33) (.tmp 35) 43 rfl base 94 i0 (.agg #[.int .i64 0, .int .i64 0]) 2 16 Tryz.underlying43 hi hz0 hz1 hz2 rfl (by decide) _ _ _ rfl HO3.out ⟨W1.heap.size, 0, none⟩ 1 1 (cellsR r) rfl rfl (World.news_of_block HN3.out) (by simp [cellsR, Value.oneCell']) (by unfold maxLen; omega) (by omega) (by simp; have := HS.out; omega) ?_); intro v' w1 hown' hgrow hnil)
      go_ret
      refine ⟨v', rfl, ?_, HB3.out.grown hgrow (by simp; have := HS.out; omega) (fun j e => (World.ownsRow.lt HO3.out j e).1)⟩
      rw [cellsRs_snoc]
      simpa using hown'
end Go.Proofs.YtfdjchnckjgapaaGreatDoor

namespace Go.Proofs.YtfdjchnckjgapaaGreatDoor
open Go.RowKit
set_option linter.unusedVariables false
theorem RngAt.cons {n : Nat} {w : World} {v : Value} {r : Rg} {t : List Rg} (h : RngAt n w v (r :: t)) : ∃ g off cap, v = .slice (some ⟨g, off, none⟩) (t.length + 1) cap ∧ t.length + 1 ≤ cap ∧ g < n ∧ w.cell? ⟨g, off, none⟩ = some (.int .i64 r.lo) ∧ w.cell? ⟨g, off + 1, none⟩ = some (.int .i64 r.hi) := by
  obtain ⟨a, cap, rfl, hc, hi⟩ := h
  obtain ⟨g, off, rfl, hg, h0, h1⟩ := hi 0 (by simp)
  refine ⟨g, off, cap, rfl, by simpa using hc, hg, by simpa using h0, by simpa using h1⟩
theorem RngAt.tail' {n : Nat} {w : World} {g off cap : Nat} {r : Rg} {t : List Rg} (h : RngAt n w (.slice (some ⟨g, off, none⟩) (t.length + 1) cap) (r :: t)) : RngAt n w (.slice (if cap = 1 then some ⟨g, off, none⟩ else some ⟨g, off + 2, none⟩) t.length (cap - 1)) t := by
  by_cases q : cap = 1
  · obtain ⟨a, c, e, hc, _⟩ := h
    simp at e hc
    have : t = [] := List.length_eq_zero_iff.1 (by omega)
    subst this
    exact RngAt.empty _ _
  · rw [if_neg q]
    exact h.tail
theorem RngAt.drew {m : Nat} {w : World} {v : Value} {l : List Rg} (h : RngAt m w v l) (n : Nat) : RngAt m (w.drewN n) v l := h.below (below_drewN' (Below.refl _ _) n)
set_option maxRecDepth 100000 in
set_option maxHeartbeats 2000000 in
theorem stretch_any (n : Nat) (a : List Rg) (low : Int) (v : Value) (w : World) (hnw : n ≤ w.heap.size) (hlen : a.length ≤ 600000) (hlow : 0 ≤ low ∧ low ≤ 1114111) (hn : NormFrom 0 a) (hf : ∀ r ∈ a, r.hi ≤ 1114111) (hv : RngAt n w v a) :
    Calls Tryz.prog 223 #[v, .int .i64 low] w fun e w' => ∃ is high rest v', Stretch a low is high rest ∧ e = .returned (.tuple #[.bool is, .int .i64 high, v']) ∧ RngAt n w' v' rest ∧ Below w.heap.size w w' := by
  have HV : Hid (RngAt n w v a) := hv
  have HN : Hid (NormFrom 0 a) := hn
  have HF : Hid (∀ r ∈ a, r.hi ≤ 1114111) := hf
  obtain ⟨ad, cap, rfl, hc, _⟩ := hv
  clear hn hf
  go_enter Tryz.func223, Tryz.ntmps223
  go_wp2
  go_loopw [0] (fun x wr => ∃ k : Nat, k ≤ a.length ∧ RngAt n w x (a.drop k) ∧ (∀ r ∈ a.take k, r.hi < low) ∧ wr = w) (fun x _ => match x with | .slice _ n _ => n | _ => 0)
  case atStart => exact ⟨0, Nat.zero_le _, HV.out, fun r hr => by simp at hr, rfl⟩
  case round =>
    obtain ⟨k, hk, hx, hb, rfl⟩ := hrel
    have HB : Hid (∀ r ∈ a.take k, r.hi < low) := hb
    clear hb
    cases hd : a.drop k with
    | nil =>
      rw [hd] at hx
      have HD : Hid (a.drop k = []) := hd
      obtain ⟨ad', cap', rfl, hc', _⟩ := hx
      clear hd
      simp only [List.length_nil]
      have hid : decide ((0 : Int) < 0) = false := rfl
      go_wp2
      go_ret3
      exact ⟨_, _, _, _, stretch_none hlow.2 HB.out HD.out, rfl, RngAt.nil _ _, Below.refl _ _⟩
    | cons r t =>
      rw [hd] at hx
      have HX : Hid (RngAt n wr _ (r :: t)) := hx
      have HD : Hid (a.drop k = r :: t) := hd
      have hkl : k + t.length + 1 = a.length := by
        have := congrArg List.length hd
        simp at this; omega
      have hord := NormFrom.ord HN.out r (List.mem_of_mem_drop (i := k) (by rw [hd]; simp))
      have hrh := HF.out r (List.mem_of_mem_drop (i := k) (by rw [hd]; simp))
      obtain ⟨g, off, cap', rfl, hc', hg0, c0, c1⟩ := hx.cons
      have hg : g < wr.heap.size := by omega
      clear hd hx
      have hn0 : (0 : Int) < (t.length : Int) + 1 := by omega
      by_cases q : r.hi < low
      · have HR : Hid (∀ s ∈ a.take (k + 1), s.hi < low) := fun s hs => by
          have e : a.take (k + 1) = a.take k ++ [r] := by
            rw [List.take_add_one, ← List.head?_drop, HD.out]; rfl
          rw [e] at hs
          rcases List.mem_append.1 hs with z | z
          · exact HB.out s z
          · rw [List.mem_singleton.1 z]; exact q
        have HT : Hid (a.drop (k + 1) = t) := by
          show a.drop (k + 1) = t
          rw [← List.tail_drop, HD.out]; rfl
        go_wp2
        go_roundw
        case rel => exact ⟨k + 1, by omega, by rw [HT.out]; exact RngAt.tail' HX.out, HR.out, trivial⟩
        case measure => exact Nat.lt_succ_self _
      · have hnl : low ≤ r.hi := by omega
        by_cases q2 : low < r.lo
        · have HS : Hid _ := stretch_out hlow.2 HN.out HF.out HB.out HD.out q2
          go_wp2
          go_region
          go_wp2
          go_ret3
          refine ⟨_, _, _, _, HS.out, ?_, HX.out.drew 1, (Below.refl _ _).drew⟩
          rw [show min (r.lo - 1) 1114111 = r.lo - 1 from Int.min_eq_left (by omega)]
          rfl
        · have HS : Hid _ := stretch_in hlow.2 HN.out HF.out HB.out HD.out q2 hnl
          go_wp2
          go_region
          go_wp2
          go_ret3
          refine ⟨_, _, _, _, HS.out, ?_, HX.out.drew 1, (Below.refl _ _).drew⟩
          rw [show min r.hi 1114111 = r.hi from Int.min_eq_left hrh]
          rfl
end Go.Proofs.YtfdjchnckjgapaaGreatDoor

namespace Go.Proofs.YtfdjchnckjgapaaGreatDoor
open Go.RowKit Go.Shelf
set_option linter.unusedVariables false
def IsSet (a : List Rg) : Prop := NormFrom 0 a ∧ ∀ r ∈ a, r.hi ≤ 1114111
theorem IsSet.upto {a : List Rg} (h : IsSet a) : Upto (hasR a) a 1114112 := by
  refine ⟨h.1, fun x => ?_⟩
  cases q : hasR a x with
  | false => exact (decide_eq_false (fun z => by cases z.2.2)).symm
  | true =>
    obtain ⟨r, hr, z1, z2⟩ := hasR_iff.1 q
    have := h.2 r hr
    have := h.1.ord r hr
    exact (decide_eq_true ⟨by omega, by omega, rfl⟩).symm
theorem Upto.isSet {f : Int → Bool} {a : List Rg} (h : Upto f a 1114112) : IsSet a := ⟨h.1, fun r hr => by have := h.hi r hr; omega⟩
theorem IsSet.len {a : List Rg} (h : IsSet a) : a.length ≤ 557056 := h.upto.len (by omega) (by omega)
theorem IsSet.nil : IsSet [] := ⟨trivial, fun r hr => by cases hr⟩
def Takes (g : Nat) (f : Bool → Bool → Bool) : Prop := ∀ x y w, Calls Tryz.prog g #[.bool x, .bool y] w fun e w' => e = .returned (.bool (f x y)) ∧ w' = w
set_option maxRecDepth 100000 in
set_option maxHeartbeats 4000000 in
theorem choose_any (g : Nat) (f : Bool → Bool → Bool) (hg : Takes g f) (eg : ∀ args w, (callFunc g args).run Tryz.prog w = .ok (.enter g args) w) (a b : List Rg) (ha : IsSet a) (hb : IsSet b) (va vb : Value) (w : World) (hva : RngIn w va a) (hvb : RngIn w vb b) :
    Calls Tryz.prog 204 #[va, vb, .func (.func g) #[] #[]] w fun e w' => ∃ l v, Upto (fun x => f (hasR a x) (hasR b x)) l 1114112 ∧ e = .returned v ∧ w'.ownsRow w.heap.size 94 2 v l.length (cellsRs l) ∧ Below w.heap.size w w' := by
  have HA : Hid (RngIn w va a) := hva
  have HB : Hid (RngIn w vb b) := hvb
  have SA : Hid (IsSet a) := ha
  have SB : Hid (IsSet b) := hb
  have HG : Hid (Takes g f) := hg
  obtain ⟨ada, ca, rfl, _, _⟩ := hva
  obtain ⟨adb, cb, rfl, _, _⟩ := hvb
  clear ha hb hg
  go_enter Tryz.func204, Tryz.ntmps204
  go_wp2
  go_loopw [0, 1, 7, 8] (fun xa xb xs xl wr => ∃ (ra rb out : List Rg) (low : Int), IsSet ra ∧ IsSet rb ∧ (∀ x, low ≤ x → hasR ra x = hasR a x) ∧ (∀ x, low ≤ x → hasR rb x = hasR b x) ∧ RngAt w.heap.size wr xa ra ∧ RngAt w.heap.size wr xb rb ∧
    0 ≤ low ∧ low ≤ 1114112 ∧ xl = .int .i64 low ∧ Upto (fun x => f (hasR a x) (hasR b x)) out low ∧ wr.ownsRow w.heap.size 94 2 xs out.length (cellsRs out) ∧ Below w.heap.size w wr) (fun _ _ _ xl _ => 1114112 - (intOf xl).toNat)
  case atStart => exact ⟨a, b, [], 0, SA.out, SB.out, fun _ _ => rfl, fun _ _ => rfl, HA.out, HB.out, by omega, by omega, rfl, ⟨trivial, fun x => (decide_eq_false (by omega)).symm⟩, World.ownsRow_nil _ _ _ _, Below.refl _ _⟩
  case round =>
    obtain ⟨ra, rb, out, low, sa, sb, ea, eb, va, vb, h0, h1, rfl, hu, ho, hB⟩ := hrel
    have SRA : Hid (IsSet ra) := sa
    have SRB : Hid (IsSet rb) := sb
    have EA : Hid (∀ x, low ≤ x → hasR ra x = hasR a x) := ea
    have EB : Hid (∀ x, low ≤ x → hasR rb x = hasR b x) := eb
    have VA : Hid (RngAt w.heap.size wr _ ra) := va
    have VB : Hid (RngAt w.heap.size wr _ rb) := vb
    have HU : Hid (Upto (fun x => f (hasR a x) (hasR b x)) out low) := hu
    have HO : Hid (wr.ownsRow w.heap.size 94 2 _ out.length (cellsRs out)) := ho
    obtain ⟨aa, caa, rfl, _, _⟩ := va
    obtain ⟨ab, cab, rfl, _, _⟩ := vb
    clear sa sb ea eb hu ho
    have hbs := hB.size
    by_cases hlt : low ≤ 1114111
    · go_wp2_with fail
      refine (stretch_any w.heap.size ra low _ wr hbs (by have := SRA.out.len; omega) ⟨h0, hlt⟩ SRA.out.1 SRA.out.2 VA.out).mono ?_
      rintro e w1 ⟨ia, hia, ra', va', st1, rfl, vr1, hB1⟩
      have ST1 : Hid (Stretch ra low ia hia ra') := st1
      have VR1 : Hid (RngAt w.heap.size w1 va' ra') := vr1
      have hs1 := hB1.size
      have VB1 : Hid (RngAt w.heap.size w1 _ rb) := VB.out.below (hB1.mono hbs)
      clear st1 vr1 VA VB
      go_wp2_with fail
      refine (stretch_any w.heap.size rb low _ w1 (by omega) (by have := SRB.out.len; omega) ⟨h0, hlt⟩ SRB.out.1 SRB.out.2 VB1.out).mono ?_
      rintro e w2 ⟨ib, hib, rb', vb', st2, rfl, vr2, hB2⟩
      have ST2 : Hid (Stretch rb low ib hib rb') := st2
      have VR2 : Hid (RngAt w.heap.size w2 vb' rb') := vr2
      have hs2 := hB2.size
      have hB02 : Below w.heap.size w w2 := (hB.trans (hB1.mono hbs)).trans (hB2.mono (by omega))
      have HO2 : Hid (w2.ownsRow w.heap.size 94 2 _ out.length (cellsRs out)) := ownsRow_below (ownsRow_below HO.out hB1) hB2
      have VR12 : Hid (RngAt w.heap.size w2 va' ra') := VR1.out.below (hB2.mono (by omega))
      clear st2 vr2 HO VB1 VR1
      obtain ⟨hl1, hl2, hu'⟩ := choose_step (g := f) h0 HU.out EA.out EB.out ST1.out ST2.out
      have HU' : Hid (Upto (fun x => f (hasR a x) (hasR b x)) (if f ia ib = true then addL out ⟨low, min hia hib⟩ else out) (min hia hib + 1)) := hu'
      clear hu'
      have hmn : (if hib < hia then hib else hia) = min hia hib := by
        split
        · rename_i z; exact (Int.min_eq_right (by omega)).symm
        · rename_i z; exact (Int.min_eq_left (by omega)).symm
      obtain ⟨mn, hmn0⟩ : ∃ mn, min hia hib = mn := ⟨_, rfl⟩
      rw [hmn0] at hmn HU' hl1 hl2
      clear hmn0
      go_wp2_with fail
      refine (HG.out ia ib w2).mono ?_
      rintro e w3 ⟨rfl, rfl⟩
      have HSA : Hid (IsSet ra') := ST1.out.fits
      have HSB : Hid (IsSet rb') := ST2.out.fits
      have HEA : Hid (∀ x, mn + 1 ≤ x → hasR ra' x = hasR a x) := fun x hx => by rw [ST1.out.left x (by omega), EA.out x (by omega)]
      have HEB : Hid (∀ x, mn + 1 ≤ x → hasR rb' x = hasR b x) := fun x hx => by rw [ST2.out.left x (by omega), EB.out x (by omega)]
      have HBO : Hid (∀ s ∈ out, -10 ≤ s.hi ∧ s.hi ≤ 2000000) := fun s hs => by have := HU.out.hi s hs; omega
      have HLN : Hid (out.length ≤ 557056) := HU.out.len h0 (by omega)
      cases hq : f ia ib with
      | true =>
        rw [hq, if_pos rfl] at HU'
        have HU2 : Hid (Upto (fun x => f (hasR a x) (hasR b x)) (addL out ⟨low, mn⟩) (mn + 1)) := HU'
        clear HU' hmn hq
        go_wp2_with fail
        refine (add_any w.heap.size out ⟨low, mn⟩ _ w3 (by have := HLN.out; omega) HBO.out (by omega) HO2.out).mono ?_
        rintro e w4 ⟨v4, rfl, ho4, hB4⟩
        have HO4 : Hid (w4.ownsRow w.heap.size 94 2 v4 (addL out ⟨low, mn⟩).length (cellsRs (addL out ⟨low, mn⟩))) := ho4
        have hs4 := hB4.size
        have HVA : Hid (RngAt w.heap.size w4 va' ra') := VR12.out.below hB4
        have HVB : Hid (RngAt w.heap.size w4 vb' rb') := VR2.out.below hB4
        clear ho4 VR12 VR2 HO2
        go_wp2
        go_roundw
        case rel => exact ⟨ra', rb', _, mn + 1, HSA.out, HSB.out, HEA.out, HEB.out, HVA.out, HVB.out, by omega, by omega, rfl, HU2.out, HO4.out, hB02.trans hB4⟩
        case measure => simp [intOf]; omega
      | false =>
        rw [hq, if_neg (by decide)] at HU'
        have HU2 : Hid (Upto (fun x => f (hasR a x) (hasR b x)) out (mn + 1)) := HU'
        clear HU' hmn hq
        go_wp2
        go_roundw
        case rel => exact ⟨ra', rb', out, mn + 1, HSA.out, HSB.out, HEA.out, HEB.out, VR12.out, VR2.out, by omega, by omega, rfl, HU2.out, HO2.out, hB02⟩
        case measure => simp [intOf]; omega
    · obtain rfl : low = 1114112 := by omega
      go_wp2
      go_ret
      exact ⟨_, HU.out, _, rfl, HO.out, hB⟩
theorem or1_any : Takes 207 (fun x y => x || y) := fun x y w => by
  cases x with
  | true =>
    go_enter Tryz.func207, Tryz.ntmps207
    go_wp2
    go_ret
    exact ⟨rfl, rfl⟩
  | false =>
    go_enter Tryz.func207, Tryz.ntmps207
    go_wp2
    go_ret
    exact ⟨rfl, rfl⟩
theorem and1_any : Takes 209 (fun x y => x && y) := fun x y w => by
  cases x with
  | true =>
    go_enter Tryz.func209, Tryz.ntmps209
    go_wp2
    go_ret
    exact ⟨rfl, rfl⟩
  | false =>
    go_enter Tryz.func209, Tryz.ntmps209
    go_wp2
    go_ret
    exact ⟨rfl, rfl⟩
theorem less1_any : Takes 208 (fun x y => x && !y) := fun x y w => by
  cases x with
  | true =>
    go_enter Tryz.func208, Tryz.ntmps208
    go_wp2
    go_ret
    exact ⟨rfl, rfl⟩
  | false =>
    go_enter Tryz.func208, Tryz.ntmps208
    go_wp2
    go_ret
    exact ⟨rfl, rfl⟩
theorem not1_any : Takes 205 (fun x _ => !x) := fun x y w => by
  go_enter Tryz.func205, Tryz.ntmps205
  go_wp2
  go_ret
  exact ⟨rfl, rfl⟩
def Makes (w : World) (f : Int → Bool) (e : Ending) (w' : World) : Prop := ∃ l v, e = .returned v ∧ Upto f l 1114112 ∧ w'.ownsRow w.heap.size 94 2 v l.length (cellsRs l) ∧ Below w.heap.size w w'
theorem or_any (a b : List Rg) (ha : IsSet a) (hb : IsSet b) (va vb : Value) (w : World) (hva : RngIn w va a) (hvb : RngIn w vb b) :
    Calls Tryz.prog 181 #[va, vb] w fun e w' => Makes w (fun x => hasR a x || hasR b x) e w' := by
  have HC := choose_any 207 _ or1_any (enters_of Tryz.func207 (by kernel_rfl) rfl) a b ha hb va vb w hva hvb
  obtain ⟨ada, ca, rfl, _, _⟩ := hva
  obtain ⟨adb, cb, rfl, _, _⟩ := hvb
  go_enter Tryz.func181, Tryz.ntmps181
  go_wp2_with fail
  refine HC.mono ?_
  rintro e w1 ⟨l, v, hu, rfl, ho, hB⟩
  have HO : Hid _ := ho
  have HU : Hid _ := hu
  clear ho hu HC
  go_wp2
  go_ret
  exact ⟨l, v, rfl, HU.out, HO.out, hB⟩
theorem and_any (a b : List Rg) (ha : IsSet a) (hb : IsSet b) (va vb : Value) (w : World) (hva : RngIn w va a) (hvb : RngIn w vb b) :
    Calls Tryz.prog 183 #[va, vb] w fun e w' => Makes w (fun x => hasR a x && hasR b x) e w' := by
  have HC := choose_any 209 _ and1_any (enters_of Tryz.func209 (by kernel_rfl) rfl) a b ha hb va vb w hva hvb
  obtain ⟨ada, ca, rfl, _, _⟩ := hva
  obtain ⟨adb, cb, rfl, _, _⟩ := hvb
  go_enter Tryz.func183, Tryz.ntmps183
  go_wp2_with fail
  refine HC.mono ?_
  rintro e w1 ⟨l, v, hu, rfl, ho, hB⟩
  have HO : Hid _ := ho
  have HU : Hid _ := hu
  clear ho hu HC
  go_wp2
  go_ret
  exact ⟨l, v, rfl, HU.out, HO.out, hB⟩
theorem less_any (a b : List Rg) (ha : IsSet a) (hb : IsSet b) (va vb : Value) (w : World) (hva : RngIn w va a) (hvb : RngIn w vb b) :
    Calls Tryz.prog 182 #[va, vb] w fun e w' => Makes w (fun x => hasR a x && !hasR b x) e w' := by
  have HC := choose_any 208 _ less1_any (enters_of Tryz.func208 (by kernel_rfl) rfl) a b ha hb va vb w hva hvb
  obtain ⟨ada, ca, rfl, _, _⟩ := hva
  obtain ⟨adb, cb, rfl, _, _⟩ := hvb
  go_enter Tryz.func182, Tryz.ntmps182
  go_wp2_with fail
  refine HC.mono ?_
  rintro e w1 ⟨l, v, hu, rfl, ho, hB⟩
  have HO : Hid _ := ho
  have HU : Hid _ := hu
  clear ho hu HC
  go_wp2
  go_ret
  exact ⟨l, v, rfl, HU.out, HO.out, hB⟩
theorem not_any (a : List Rg) (ha : IsSet a) (va : Value) (w : World) (hva : RngIn w va a) :
    Calls Tryz.prog 178 #[va] w fun e w' => Makes w (fun x => !hasR a x) e w' := by
  have HC := choose_any 205 _ not1_any (enters_of Tryz.func205 (by kernel_rfl) rfl) a [] ha IsSet.nil va _ w hva (RngAt.nil _ _)
  obtain ⟨ada, ca, rfl, _, _⟩ := hva
  go_enter Tryz.func178, Tryz.ntmps178
  go_wp2_with fail
  refine HC.mono ?_
  rintro e w1 ⟨l, v, hu, rfl, ho, hB⟩
  have HO : Hid _ := ho
  have HU : Hid _ := hu
  clear ho hu HC
  go_wp2
  go_ret
  exact ⟨l, v, rfl, HU.out, HO.out, hB⟩
end Go.Proofs.YtfdjchnckjgapaaGreatDoor
