/-
  The document's has, and End.
-/
import Derived.Test.YtehkaiohmcenbaaDoorFlStep3
namespace Go.Proofs.YtehkaiohmcenbaaDoor
open Go.RowKit Go.Shelf
set_option linter.unusedVariables false

set_option maxRecDepth 100000 in
set_option maxHeartbeats 4000000 in
theorem rhas_any (l : List Nat) (v : Value) (x : Nat) (w : World) (hv : PlcAt 0 0 w v l) (hl : l.length ≤ 100000) : Calls Tryd.prog 50 #[v, .int .i64 (x : Int)] w fun e w' => e = .returned (.bool (l.contains x)) ∧ w' = w := by
  have HV : Hid (PlcAt 0 0 w v l) := hv
  obtain ⟨a, c, hev, _⟩ := hv.slice
  subst hev
  obtain ⟨len, hle⟩ : ∃ n, n = l.length := ⟨_, rfl⟩
  have HLE : Hid (len = l.length) := hle
  obtain ⟨r, hr⟩ : ∃ r, r = l.contains x := ⟨_, rfl⟩
  have HR : Hid (r = l.contains x) := hr
  rw [← hle] at HV hl ⊢
  rw [← hr]
  clear hle hv hr
  go_enter Tryd.func50, Tryd.ntmps50
  go_wp2
  go_loopw [5] (fun x5 wr => ∃ (i : Nat), i ≤ len ∧ x5 = .int .i64 (i : Int) ∧ Hid ((l.take i).contains x = false) ∧ wr = w) (fun x5 _ => len - (intOf x5).toNat)
  case atStart => exact ⟨0, Nat.zero_le _, rfl, rfl, rfl⟩
  case round =>
    obtain ⟨i, hi, rfl, HC, hwr⟩ := hrel
    have hwr' := hwr.symm
    subst hwr'
    by_cases hil : i < len
    · have hin : i < l.length := by rw [← HLE.out]; exact hil
      obtain ⟨ga, oa, rfl, _, hga, e1⟩ := HV.out.at HLE.out hin
      obtain ⟨y, hy⟩ : ∃ y, y = l[i] := ⟨_, rfl⟩
      have HY : Hid (y = l[i]) := hy
      rw [← hy] at e1
      have hi0 : (0 : Int) ≤ (i : Int) := by omega
      have hi1 : (i : Int) < (len : Int) := by omega
      clear hy
      by_cases hyx : y = x
      · have HT : Hid (l.contains x = true) := by
          show _ = _
          rw [List.contains_iff_mem, ← hyx, HY.out]
          exact List.getElem_mem hin
        have hb : ((y : Int) == (x : Int)) = true := by rw [hyx]; simp
        clear hyx
        go_wp2
        go_ret
        obtain rfl : r = true := by rw [HR.out]; exact HT.out
        exact ⟨rfl, by first | exact rfl | trivial⟩
      · have HC2 : Hid ((l.take (i + 1)).contains x = false) := by
          have h0 := HC.out
          show _ = _
          rw [List.take_add_one, List.getElem?_eq_getElem hin, ← HY.out]
          simp only [Option.toList_some]
          rw [Bool.eq_false_iff] at h0 ⊢
          intro h
          rw [List.contains_iff_mem, List.mem_append] at h
          rcases h with h | h
          · exact h0 (List.contains_iff_mem.2 h)
          · exact hyx (List.mem_singleton.1 h).symm
        have hb : ((y : Int) == (x : Int)) = false := beq_eq_false_iff_ne.2 (by omega)
        clear hyx
        go_wp2
        go_roundw
        case rel => exact ⟨i + 1, by omega, by go_num, HC2, by first | exact rfl | trivial⟩
        case measure => simp [intOf]; omega
    · obtain rfl : i = len := by omega
      have HF : Hid (l.contains x = false) := by
        have h0 := HC.out
        rw [List.take_of_length_le (by rw [← HLE.out]; exact Nat.le_refl _)] at h0
        exact h0
      go_wp2
      go_ret
      obtain rfl : r = false := by rw [HR.out]; exact HF.out
      exact ⟨rfl, by first | exact rfl | trivial⟩

set_option maxRecDepth 100000 in
set_option maxHeartbeats 8000000 in
theorem rend_any (d : AutD) (av : Value) (at' : List Nat) (v : Value) (w : World) (ha : AutAt w av d) (hv : PlcAt 0 0 w v at') (hl : at'.length ≤ 100000) (hll : d.last.length ≤ 100000) :
    Calls Tryd.prog 18 #[av, v] w fun e w' => e = .returned (.bool (at'.any (endP d))) ∧ Below w.heap.size w w' := by
  obtain ⟨sv, fv, lv, wv, rfl, hs, hf, hl1, hw⟩ := ha
  obtain ⟨W0, hW0⟩ : ∃ W, W = w.alloc (.cells #[.bool d.null, sv, fv, lv, wv] 30) := ⟨_, rfl⟩
  have hB0 : Below w.heap.size w W0 := by rw [hW0]; exact below_alloc _ _
  have hbx : ABox W0 w.heap.size d.null sv fv lv wv := by rw [hW0]; exact heap_new' _ _
  have HLS : Hid (PlcAt 0 0 W0 lv d.last) := hl1.below hB0
  have HV : Hid (PlcAt 0 0 W0 v at') := hv.below hB0
  have HB0 : Hid (Below w.heap.size w W0) := hB0
  obtain ⟨sa, sc, hes, _⟩ := hs.slice
  obtain ⟨fa, fc, hef, _⟩ := hf.slice
  obtain ⟨la, lc, hel, _⟩ := hl1.slice
  obtain ⟨xa, xc, hex, _⟩ := hw.slice
  obtain ⟨va, vc, hev, _⟩ := hv.slice
  obtain ⟨n1, hn1⟩ : ∃ x, x = d.null := ⟨_, rfl⟩
  obtain ⟨n2, hn2⟩ : ∃ x, x = d.sets.length := ⟨_, rfl⟩
  obtain ⟨n3, hn3⟩ : ∃ x, x = d.first.length := ⟨_, rfl⟩
  obtain ⟨n4, hn4⟩ : ∃ x, x = d.last.length := ⟨_, rfl⟩
  obtain ⟨n5, hn5⟩ : ∃ x, x = d.fol.length := ⟨_, rfl⟩
  obtain ⟨n6, hn6⟩ : ∃ x, x = at'.length := ⟨_, rfl⟩
  have HN6 : Hid (n6 = at'.length) := hn6
  have HN1 : Hid (n1 = d.null) := hn1
  rw [← hn2] at hes
  rw [← hn3] at hef
  rw [← hn4] at hel
  rw [← hn5] at hex
  rw [← hn6] at hev hl
  subst hes hef hel hex hev
  have HH : Hid (∀ (x nd : Nat), Calls Tryd.prog 50 #[.slice la n4 lc, .int .i64 (x : Int)] (W0.drewN nd) fun e w' => e = .returned (.bool (d.last.contains x)) ∧ w' = W0.drewN nd) := fun x nd => rhas_any d.last _ x _ (HLS.out.below (below_drewN' (Below.refl _ _) nd)) hll
  obtain ⟨r, hr⟩ : ∃ r, r = at'.any (endP d) := ⟨_, rfl⟩
  have HR : Hid (r = at'.any (endP d)) := hr
  rw [← hn1] at hW0 hbx ⊢
  rw [← hr]
  clear hr
  have b0 := hbx.c0
  have b3 := hbx.c3
  have hlt := hbx.lt
  have HW0 : Hid (W0 = _) := hW0
  clear hs hf hl1 hw hv hbx hn1 hn2 hn3 hn4 hn5 hn6 hB0 hll hW0
  go_enter Tryd.func18, Tryd.ntmps18
  go_wp2
  rw [← HW0.out]
  clear HW0
  go_loopw [5] (fun x5 wr => ∃ (i : Nat), i ≤ n6 ∧ x5 = .int .i64 (i : Int) ∧ Hid ((at'.take i).any (endP d) = false) ∧ ∃ nd, wr = W0.drewN nd) (fun x5 _ => n6 - (intOf x5).toNat)
  case atStart => exact ⟨0, Nat.zero_le _, rfl, rfl, 0, rfl⟩
  case round =>
    obtain ⟨i, hi, rfl, HC, nd, rfl⟩ := hrel
    by_cases hil : i < n6
    · have hin : i < at'.length := by rw [← HN6.out]; exact hil
      obtain ⟨ga, oa, rfl, _, hga, e1⟩ := HV.out.at HN6.out hin
      obtain ⟨y, hy⟩ : ∃ y, y = at'[i] := ⟨_, rfl⟩
      have HY : Hid (y = at'[i]) := hy
      rw [← hy] at e1
      have hi0 : (0 : Int) ≤ (i : Int) := by omega
      have hi1 : (i : Int) < (n6 : Int) := by omega
      have HT : Hid (endP d y = true → at'.any (endP d) = true) := fun h => List.any_eq_true.2 ⟨_, List.getElem_mem hin, by rw [← hy]; exact h⟩
      have HF : Hid (endP d y = false → (at'.take (i + 1)).any (endP d) = false) := fun h => by
        rw [List.take_add_one, List.getElem?_eq_getElem hin, ← hy, List.any_append, HC.out]
        simp [h]
      have HQ : Hid (∀ n, Calls Tryd.prog 50 #[.slice la n4 lc, .int .i64 (y : Int)] (W0.drewN (nd + n)) fun e w' => e = .returned (.bool (d.last.contains y)) ∧ ∃ m, w' = W0.drewN (nd + m)) := fun n => (HH.out y (nd + n)).mono fun e w'' ⟨he, hm⟩ => ⟨he, n, hm⟩
      clear hy
      by_cases hnull : y = 0 ∧ n1 = true
      · obtain ⟨rfl, rfl⟩ := hnull
        have HE : Hid (at'.any (endP d) = true) := HT.out (by unfold endP; rw [← HN1.out]; simp)
        have e2 : W0.cell? ⟨ga, oa + i, none⟩ = some (.int .i64 0) := e1
        clear e1
        go_wp2
        go_quiet (fail)
        go_wp2
        go_ret
        obtain rfl : r = true := by rw [HR.out]; exact HE.out
        exact ⟨rfl, by first | exact below_drewN' HB0.out _ | exact below_drewN' (below_drewN' HB0.out _) _⟩
      · obtain ⟨z, hz⟩ : ∃ z, z = d.last.contains y := ⟨_, rfl⟩
        have HZ : Hid (endP d y = z) := by
          show _ = _
          unfold endP
          rw [← HN1.out, hz]
          by_cases h0 : y = 0
          · have : n1 = false := by cases n1 with | false => rfl | true => exact absurd ⟨h0, rfl⟩ hnull
            rw [this]; simp
          · simp [h0]
        rw [← hz] at HQ
        have hb : ((y : Int) == 0) = decide (y = 0) := by
          rw [Bool.eq_iff_iff]; simp
        clear hz
        by_cases h0 : y = 0
        · subst h0
          have hn : n1 = false := by cases n1 with | false => rfl | true => exact absurd ⟨rfl, rfl⟩ hnull
          subst hn
          have e2 : W0.cell? ⟨ga, oa + i, none⟩ = some (.int .i64 0) := e1
          clear e1 hnull hb
          cases z with
          | true =>
            go_wp2
            go_quiet ((go_at_call 50; exact HQ.out _))
            go_wp2
            go_ret
            obtain rfl : r = true := by rw [HR.out]; exact HT.out HZ.out
            exact ⟨rfl, by first | exact below_drewN' HB0.out _ | exact below_drewN' (below_drewN' HB0.out _) _⟩
          | false =>
            go_wp2
            go_quiet ((go_at_call 50; exact HQ.out _))
            go_wp2
            go_roundw
            case rel => exact ⟨i + 1, by omega, by go_num, HF.out HZ.out, _, rfl⟩
            case measure => simp [intOf]; omega
        · have hb0 : ((y : Int) == 0) = false := beq_eq_false_iff_ne.2 (by omega)
          clear hnull hb h0
          cases z with
          | true =>
            go_wp2
            go_quiet ((go_at_call 50; exact HQ.out _))
            go_wp2
            go_ret
            obtain rfl : r = true := by rw [HR.out]; exact HT.out HZ.out
            exact ⟨rfl, by first | exact below_drewN' HB0.out _ | exact below_drewN' (below_drewN' HB0.out _) _⟩
          | false =>
            go_wp2
            go_quiet ((go_at_call 50; exact HQ.out _))
            go_wp2
            go_roundw
            case rel => exact ⟨i + 1, by omega, by go_num, HF.out HZ.out, _, rfl⟩
            case measure => simp [intOf]; omega
    · obtain rfl : i = n6 := by omega
      have HE : Hid (at'.any (endP d) = false) := by
        have h0 := HC.out
        rw [List.take_of_length_le (by rw [← HN6.out]; exact Nat.le_refl _)] at h0
        exact h0
      go_wp2
      go_ret
      obtain rfl : r = false := by rw [HR.out]; exact HE.out
      exact ⟨rfl, by first | exact below_drewN' HB0.out _ | exact below_drewN' (below_drewN' HB0.out _) _⟩
end Go.Proofs.YtehkaiohmcenbaaDoor
