/-
  What ranges.stretch answers of a set.
-/
import Derived.Test.YtdjhgjnhfmggjabGreatDoorAdd
namespace Go.Proofs.YtdjhgjnhfmggjabGreatDoor
open Go.RowKit
set_option linter.unusedVariables false

theorem RngAt.cons {n : Nat} {w : World} {v : Value} {r : Rg} {t : List Rg} (h : RngAt n w v (r :: t)) : ∃ g off cap, v = .slice (some ⟨g, off, none⟩) (t.length + 1) cap ∧ t.length + 1 ≤ cap ∧ g < n ∧ w.cell? ⟨g, off, none⟩ = some (.int .i64 r.lo) ∧ w.cell? ⟨g, off + 1, none⟩ = some (.int .i64 r.hi) := by
  obtain ⟨a, cap, rfl, hc, hi⟩ := h
  obtain ⟨g, off, rfl, hg, h0, h1⟩ := hi 0 (by simp)
  refine ⟨g, off, cap, rfl, by simpa using hc, hg, by simpa using h0, by simpa using h1⟩
theorem RngAt.tail' {n : Nat} {w : World} {g off cap : Nat} {r : Rg} {t : List Rg} (h : RngAt n w (.slice (some ⟨g, off, none⟩) (t.length + 1) cap) (r :: t)) : RngAt n w (.slice (if cap = 1 then some ⟨g, off, none⟩ else some ⟨g, off + 2, none⟩) t.length (cap - 1)) t := by
  by_cases q : cap = 1
  · obtain ⟨a, c, e, hc, _⟩ := h
    simp at e hc
    have : t = [] := List.length_eq_zero_iff.1 (by omega)
    subst this
    exact RngAt.empty _ _
  · rw [if_neg q]
    exact h.tail
theorem RngAt.drew {m : Nat} {w : World} {v : Value} {l : List Rg} (h : RngAt m w v l) (n : Nat) : RngAt m (w.drewN n) v l := h.below (below_drewN' (Below.refl _ _) n)

set_option maxRecDepth 100000 in
set_option maxHeartbeats 2000000 in
theorem stretch_any (n : Nat) (a : List Rg) (low : Int) (v : Value) (w : World) (hnw : n ≤ w.heap.size) (hlen : a.length ≤ 600000) (hlow : 0 ≤ low ∧ low ≤ 1114111) (hn : NormFrom 0 a) (hf : ∀ r ∈ a, r.hi ≤ 1114111) (hv : RngAt n w v a) :
    Calls Tryz.prog 51 #[v, .int .i64 low] w fun e w' => ∃ is high rest v', Stretch a low is high rest ∧ e = .returned (.tuple #[.bool is, .int .i64 high, v']) ∧ RngAt n w' v' rest ∧ Below w.heap.size w w' := by
  have HV : Hid (RngAt n w v a) := hv
  have HN : Hid (NormFrom 0 a) := hn
  have HF : Hid (∀ r ∈ a, r.hi ≤ 1114111) := hf
  obtain ⟨ad, cap, rfl, hc, _⟩ := hv
  clear hn hf
  go_enter Tryz.func51, Tryz.ntmps51
  go_wp2
  go_loopw [0] (fun x wr => ∃ k : Nat, k ≤ a.length ∧ RngAt n w x (a.drop k) ∧ (∀ r ∈ a.take k, r.hi < low) ∧ wr = w) (fun x _ => match x with | .slice _ n _ => n | _ => 0)
  case atStart => exact ⟨0, Nat.zero_le _, HV.out, fun r hr => by simp at hr, rfl⟩
  case round =>
    obtain ⟨k, hk, hx, hb, rfl⟩ := hrel
    have HB : Hid (∀ r ∈ a.take k, r.hi < low) := hb
    clear hb
    cases hd : a.drop k with
    | nil =>
      rw [hd] at hx
      have HD : Hid (a.drop k = []) := hd
      obtain ⟨ad', cap', rfl, hc', _⟩ := hx
      clear hd
      simp only [List.length_nil]
      have hid : decide ((0 : Int) < 0) = false := rfl
      go_wp2
      go_ret3
      exact ⟨_, _, _, _, stretch_none hlow.2 HB.out HD.out, rfl, RngAt.nil _ _, Below.refl _ _⟩
    | cons r t =>
      rw [hd] at hx
      have HX : Hid (RngAt n wr _ (r :: t)) := hx
      have HD : Hid (a.drop k = r :: t) := hd
      have hkl : k + t.length + 1 = a.length := by
        have := congrArg List.length hd
        simp at this; omega
      have hord := NormFrom.ord HN.out r (List.mem_of_mem_drop (i := k) (by rw [hd]; simp))
      have hrh := HF.out r (List.mem_of_mem_drop (i := k) (by rw [hd]; simp))
      obtain ⟨g, off, cap', rfl, hc', hg0, c0, c1⟩ := hx.cons
      have hg : g < wr.heap.size := by omega
      clear hd hx
      have hn0 : (0 : Int) < (t.length : Int) + 1 := by omega
      by_cases q : r.hi < low
      · have HR : Hid (∀ s ∈ a.take (k + 1), s.hi < low) := fun s hs => by
          have e : a.take (k + 1) = a.take k ++ [r] := by
            rw [List.take_add_one, ← List.head?_drop, HD.out]; rfl
          rw [e] at hs
          rcases List.mem_append.1 hs with z | z
          · exact HB.out s z
          · rw [List.mem_singleton.1 z]; exact q
        have HT : Hid (a.drop (k + 1) = t) := by
          show a.drop (k + 1) = t
          rw [← List.tail_drop, HD.out]; rfl
        go_wp2
        go_roundw
        case rel => exact ⟨k + 1, by omega, by rw [HT.out]; exact RngAt.tail' HX.out, HR.out, trivial⟩
        case measure => exact Nat.lt_succ_self _
      · have hnl : low ≤ r.hi := by omega
        by_cases q2 : low < r.lo
        · have HS : Hid _ := stretch_out hlow.2 HN.out HF.out HB.out HD.out q2
          go_wp2
          go_region
          go_wp2
          go_ret3
          refine ⟨_, _, _, _, HS.out, ?_, HX.out.drew 1, (Below.refl _ _).drew⟩
          rw [show min (r.lo - 1) 1114111 = r.lo - 1 from Int.min_eq_left (by omega)]
          rfl
        · have HS : Hid _ := stretch_in hlow.2 HN.out HF.out HB.out HD.out q2 hnl
          go_wp2
          go_region
          go_wp2
          go_ret3
          refine ⟨_, _, _, _, HS.out, ?_, HX.out.drew 1, (Below.refl _ _).drew⟩
          rw [show min r.hi 1114111 = r.hi from Int.min_eq_left hrh]
          rfl
end Go.Proofs.YtdjhgjnhfmggjabGreatDoor
