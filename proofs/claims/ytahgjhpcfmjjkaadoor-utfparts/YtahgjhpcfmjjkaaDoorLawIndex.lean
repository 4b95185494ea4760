/-
  The law UtfIndex: true, for all bytes and every int.
-/
import Derived.Test.YtahgjhpcfmjjkaaDoorIndex
namespace Go.Proofs.YtahgjhpcfmjjkaaDoor
open Go.RowKit
set_option linter.unusedVariables false

theorem Run.mem {b : List Int} : ∀ {us : List U} {p q : Nat}, Run b p us q → ∀ u ∈ us, p ≤ u.p ∧ u.p < b.length ∧ 1 ≤ u.w ∧ u.w ≤ 4 ∧ u.p + u.w ≤ b.length ∧ u = unitAt b u.p
  | [], p, q, h, u, hu => by cases hu
  | v :: us, p, q, h, u, hu => by
    have hw := unitAt_w h.1
    rcases List.mem_cons.1 hu with e | e
    · have e2 : u = unitAt b p := e.trans h.2.1
      have e3 : u.p = p := by rw [e2]; rfl
      rw [← e2] at hw
      have := h.1
      refine ⟨by omega, by omega, by omega, by omega, by omega, ?_⟩
      rw [e3]; exact e2
    · have := Run.mem h.2.2 u e
      exact ⟨by omega, this.2⟩

theorem Run.rise {b : List Int} : ∀ {us : List U} {p q : Nat}, Run b p us q → Rise us
  | [], p, q, h => fun i j _ hj _ => by simp at hj
  | v :: us, p, q, h => by
    have hvp : v.p = p := by rw [h.2.1]; rfl
    have hw := unitAt_w h.1
    rw [← h.2.1] at hw
    intro i j hij hj hi
    match i, j, hij, hj, hi with
    | 0, j + 1, _, hj, _ =>
      have hj' : j < us.length := by simpa using hj
      have := Run.mem h.2.2 us[j] (List.getElem_mem hj')
      simp only [List.getElem_cons_zero, List.getElem_cons_succ]
      omega
    | i + 1, j + 1, hij, hj, hi =>
      simp only [List.getElem_cons_succ]
      exact Run.rise h.2.2 i j (by omega) (by simpa using hj) (by simpa using hi)

theorem Run.bd {b : List Int} (hb : b.length ≤ 10000) {us : List U} {q : Nat} (h : Run b 0 us q) : ∀ u ∈ us, u.p ≤ 10000 ∧ u.w ≤ 4 := fun u hu => by
  have := Run.mem h u hu
  omega

set_option maxHeartbeats 1000000 in
theorem utfIndex_any (a : Option Addr) (len cap : Nat) (zs : List Int) (y : Int) (w : World) (hz : IsRow .u8 w a len cap zs) (hm : Marks w) (h1 : 1 ≤ w.heap.size) :
    Calls Tryd.prog 6 #[.slice a len cap, .int .i64 y] w fun e w' => e = .returned (.bool true) ∧ Below w.heap.size w w' := by
  obtain ⟨l, hl, hby, hI⟩ := hz.bytes
  by_cases hlen : len ≤ 3000
  · have h5 : (len : Int) ≤ 3000 := by omega
    go_enter Tryd.func6, Tryd.ntmps6
    go_wp2_with fail
    refine (awake_any w hm h1).mono ?_
    rintro e w1 ⟨rfl, hB1⟩
    have hs1 := hB1.size
    go_wp2_with fail
    refine (refDecode_any l hby (by omega) a len cap w1 ((hI.below hB1).mono hs1)).mono ?_
    rintro e w2 ⟨v2, us, rfl, hr2, ho2, hB2⟩
    have hs2 := hB2.size
    have hle := Run.le hr2 (Nat.zero_le _)
    have hv2 := units_of_row ho2
    have hbd := Run.bd (by omega) hr2
    have hri := Run.rise hr2
    clear hI hr2 ho2
    go_wp2_with fail
    refine (index_any us (by omega) hbd hri y v2 w2 hv2).mono ?_
    rintro e w3 ⟨res, hp3, rfl, hB3⟩
    have hs3 := hB3.size
    go_wp2_with fail
    refine (refIndex_any us (by omega) hbd y v2 w3 (hv2.below hB3)).mono ?_
    rintro e w4 ⟨res', hp4, rfl, hB4⟩
    obtain rfl : res = res' := Place.unique hri hp3 hp4
    have hBz : Below w.heap.size w w4 := ((hB1.trans (hB2.mono hs1)).trans (hB3.mono (by omega))).trans (hB4.mono (by omega))
    have hrr : (res == res) = true := by simp
    clear hp3 hp4 hB1 hB2 hB3 hB4 hm hbd hri hv2
    go_wp2
    go_ret
    exact ⟨rfl, hBz⟩
  · have h5 : ¬ (len : Int) ≤ 3000 := by omega
    go_enter Tryd.func6, Tryd.ntmps6
    go_wp2_with fail
    refine (awake_any w hm h1).mono ?_
    rintro e w1 ⟨rfl, hB1⟩
    clear hI
    go_wp2
    go_ret
    exact ⟨rfl, hB1⟩
end Go.Proofs.YtahgjhpcfmjjkaaDoor
