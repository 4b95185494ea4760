/-
  The document's has, and End. The document's Step.
-/
import Derived.Test.YtehkaiohmcenbaaDoorGD
namespace Go.Proofs.YtehkaiohmcenbaaDoor
open Go.RowKit Go.Shelf
set_option linter.unusedVariables false

set_option maxRecDepth 100000 in
set_option maxHeartbeats 4000000 in
theorem rhas_any (l : List Nat) (v : Value) (x : Nat) (w : World) (hv : PlcAt 0 0 w v l) (hl : l.length ≤ 100000) : Calls Tryd.prog 50 #[v, .int .i64 (x : Int)] w fun e w' => e = .returned (.bool (l.contains x)) ∧ w' = w := by
  have HV : Hid (PlcAt 0 0 w v l) := hv
  obtain ⟨a, c, hev, _⟩ := hv.slice
  subst hev
  obtain ⟨len, hle⟩ : ∃ n, n = l.length := ⟨_, rfl⟩
  have HLE : Hid (len = l.length) := hle
  obtain ⟨r, hr⟩ : ∃ r, r = l.contains x := ⟨_, rfl⟩
  have HR : Hid (r = l.contains x) := hr
  rw [← hle] at HV hl ⊢
  rw [← hr]
  clear hle hv hr
  go_enter Tryd.func50, Tryd.ntmps50
  go_wp2
  go_loopw [5] (fun x5 wr => ∃ (i : Nat), i ≤ len ∧ x5 = .int .i64 (i : Int) ∧ Hid ((l.take i).contains x = false) ∧ wr = w) (fun x5 _ => len - (intOf x5).toNat)
  case atStart => exact ⟨0, Nat.zero_le _, rfl, rfl, rfl⟩
  case round =>
    obtain ⟨i, hi, rfl, HC, hwr⟩ := hrel
    have hwr' := hwr.symm
    subst hwr'
    by_cases hil : i < len
    · have hin : i < l.length := by rw [← HLE.out]; exact hil
      obtain ⟨ga, oa, rfl, _, hga, e1⟩ := HV.out.at HLE.out hin
      obtain ⟨y, hy⟩ : ∃ y, y = l[i] := ⟨_, rfl⟩
      have HY : Hid (y = l[i]) := hy
      rw [← hy] at e1
      have hi0 : (0 : Int) ≤ (i : Int) := by omega
      have hi1 : (i : Int) < (len : Int) := by omega
      clear hy
      by_cases hyx : y = x
      · have HT : Hid (l.contains x = true) := by
          show _ = _
          rw [List.contains_iff_mem, ← hyx, HY.out]
          exact List.getElem_mem hin
        have hb : ((y : Int) == (x : Int)) = true := by rw [hyx]; simp
        clear hyx
        go_wp2
        go_ret
        obtain rfl : r = true := by rw [HR.out]; exact HT.out
        exact ⟨rfl, by first | exact rfl | trivial⟩
      · have HC2 : Hid ((l.take (i + 1)).contains x = false) := by
          have h0 := HC.out
          show _ = _
          rw [List.take_add_one, List.getElem?_eq_getElem hin, ← HY.out]
          simp only [Option.toList_some]
          rw [Bool.eq_false_iff] at h0 ⊢
          intro h
          rw [List.contains_iff_mem, List.mem_append] at h
          rcases h with h | h
          · exact h0 (List.contains_iff_mem.2 h)
          · exact hyx (List.mem_singleton.1 h).symm
        have hb : ((y : Int) == (x : Int)) = false := beq_eq_false_iff_ne.2 (by omega)
        clear hyx
        go_wp2
        go_roundw
        case rel => exact ⟨i + 1, by omega, by go_num, HC2, by first | exact rfl | trivial⟩
        case measure => simp [intOf]; omega
    · obtain rfl : i = len := by omega
      have HF : Hid (l.contains x = false) := by
        have h0 := HC.out
        rw [List.take_of_length_le (by rw [← HLE.out]; exact Nat.le_refl _)] at h0
        exact h0
      go_wp2
      go_ret
      obtain rfl : r = false := by rw [HR.out]; exact HF.out
      exact ⟨rfl, by first | exact rfl | trivial⟩

set_option maxRecDepth 100000 in
set_option maxHeartbeats 8000000 in
theorem rend_any (d : AutD) (av : Value) (at' : List Nat) (v : Value) (w : World) (ha : AutAt w av d) (hv : PlcAt 0 0 w v at') (hl : at'.length ≤ 100000) (hll : d.last.length ≤ 100000) :
    Calls Tryd.prog 18 #[av, v] w fun e w' => e = .returned (.bool (at'.any (endP d))) ∧ Below w.heap.size w w' := by
  obtain ⟨sv, fv, lv, wv, rfl, hs, hf, hl1, hw⟩ := ha
  obtain ⟨W0, hW0⟩ : ∃ W, W = w.alloc (.cells #[.bool d.null, sv, fv, lv, wv] 30) := ⟨_, rfl⟩
  have hB0 : Below w.heap.size w W0 := by rw [hW0]; exact below_alloc _ _
  have hbx : ABox W0 w.heap.size d.null sv fv lv wv := by rw [hW0]; exact heap_new' _ _
  have HLS : Hid (PlcAt 0 0 W0 lv d.last) := hl1.below hB0
  have HV : Hid (PlcAt 0 0 W0 v at') := hv.below hB0
  have HB0 : Hid (Below w.heap.size w W0) := hB0
  obtain ⟨sa, sc, hes, _⟩ := hs.slice
  obtain ⟨fa, fc, hef, _⟩ := hf.slice
  obtain ⟨la, lc, hel, _⟩ := hl1.slice
  obtain ⟨xa, xc, hex, _⟩ := hw.slice
  obtain ⟨va, vc, hev, _⟩ := hv.slice
  obtain ⟨n1, hn1⟩ : ∃ x, x = d.null := ⟨_, rfl⟩
  obtain ⟨n2, hn2⟩ : ∃ x, x = d.sets.length := ⟨_, rfl⟩
  obtain ⟨n3, hn3⟩ : ∃ x, x = d.first.length := ⟨_, rfl⟩
  obtain ⟨n4, hn4⟩ : ∃ x, x = d.last.length := ⟨_, rfl⟩
  obtain ⟨n5, hn5⟩ : ∃ x, x = d.fol.length := ⟨_, rfl⟩
  obtain ⟨n6, hn6⟩ : ∃ x, x = at'.length := ⟨_, rfl⟩
  have HN6 : Hid (n6 = at'.length) := hn6
  have HN1 : Hid (n1 = d.null) := hn1
  rw [← hn2] at hes
  rw [← hn3] at hef
  rw [← hn4] at hel
  rw [← hn5] at hex
  rw [← hn6] at hev hl
  subst hes hef hel hex hev
  have HH : Hid (∀ (x nd : Nat), Calls Tryd.prog 50 #[.slice la n4 lc, .int .i64 (x : Int)] (W0.drewN nd) fun e w' => e = .returned (.bool (d.last.contains x)) ∧ w' = W0.drewN nd) := fun x nd => rhas_any d.last _ x _ (HLS.out.below (below_drewN' (Below.refl _ _) nd)) hll
  obtain ⟨r, hr⟩ : ∃ r, r = at'.any (endP d) := ⟨_, rfl⟩
  have HR : Hid (r = at'.any (endP d)) := hr
  rw [← hn1] at hW0 hbx ⊢
  rw [← hr]
  clear hr
  have b0 := hbx.c0
  have b3 := hbx.c3
  have hlt := hbx.lt
  have HW0 : Hid (W0 = _) := hW0
  clear hs hf hl1 hw hv hbx hn1 hn2 hn3 hn4 hn5 hn6 hB0 hll hW0
  go_enter Tryd.func18, Tryd.ntmps18
  go_wp2
  rw [← HW0.out]
  clear HW0
  go_loopw [5] (fun x5 wr => ∃ (i : Nat), i ≤ n6 ∧ x5 = .int .i64 (i : Int) ∧ Hid ((at'.take i).any (endP d) = false) ∧ ∃ nd, wr = W0.drewN nd) (fun x5 _ => n6 - (intOf x5).toNat)
  case atStart => exact ⟨0, Nat.zero_le _, rfl, rfl, 0, rfl⟩
  case round =>
    obtain ⟨i, hi, rfl, HC, nd, rfl⟩ := hrel
    by_cases hil : i < n6
    · have hin : i < at'.length := by rw [← HN6.out]; exact hil
      obtain ⟨ga, oa, rfl, _, hga, e1⟩ := HV.out.at HN6.out hin
      obtain ⟨y, hy⟩ : ∃ y, y = at'[i] := ⟨_, rfl⟩
      have HY : Hid (y = at'[i]) := hy
      rw [← hy] at e1
      have hi0 : (0 : Int) ≤ (i : Int) := by omega
      have hi1 : (i : Int) < (n6 : Int) := by omega
      have HT : Hid (endP d y = true → at'.any (endP d) = true) := fun h => List.any_eq_true.2 ⟨_, List.getElem_mem hin, by rw [← hy]; exact h⟩
      have HF : Hid (endP d y = false → (at'.take (i + 1)).any (endP d) = false) := fun h => by
        rw [List.take_add_one, List.getElem?_eq_getElem hin, ← hy, List.any_append, HC.out]
        simp [h]
      have HQ : Hid (∀ n, Calls Tryd.prog 50 #[.slice la n4 lc, .int .i64 (y : Int)] (W0.drewN (nd + n)) fun e w' => e = .returned (.bool (d.last.contains y)) ∧ ∃ m, w' = W0.drewN (nd + m)) := fun n => (HH.out y (nd + n)).mono fun e w'' ⟨he, hm⟩ => ⟨he, n, hm⟩
      clear hy
      by_cases hnull : y = 0 ∧ n1 = true
      · obtain ⟨rfl, rfl⟩ := hnull
        have HE : Hid (at'.any (endP d) = true) := HT.out (by unfold endP; rw [← HN1.out]; simp)
        have e2 : W0.cell? ⟨ga, oa + i, none⟩ = some (.int .i64 0) := e1
        clear e1
        go_wp2
        go_quiet (fail)
        go_wp2
        go_ret
        obtain rfl : r = true := by rw [HR.out]; exact HE.out
        exact ⟨rfl, by first | exact below_drewN' HB0.out _ | exact below_drewN' (below_drewN' HB0.out _) _⟩
      · obtain ⟨z, hz⟩ : ∃ z, z = d.last.contains y := ⟨_, rfl⟩
        have HZ : Hid (endP d y = z) := by
          show _ = _
          unfold endP
          rw [← HN1.out, hz]
          by_cases h0 : y = 0
          · have : n1 = false := by cases n1 with | false => rfl | true => exact absurd ⟨h0, rfl⟩ hnull
            rw [this]; simp
          · simp [h0]
        rw [← hz] at HQ
        have hb : ((y : Int) == 0) = decide (y = 0) := by
          rw [Bool.eq_iff_iff]; simp
        clear hz
        by_cases h0 : y = 0
        · subst h0
          have hn : n1 = false := by cases n1 with | false => rfl | true => exact absurd ⟨rfl, rfl⟩ hnull
          subst hn
          have e2 : W0.cell? ⟨ga, oa + i, none⟩ = some (.int .i64 0) := e1
          clear e1 hnull hb
          cases z with
          | true =>
            go_wp2
            go_quiet ((go_at_call 50; exact HQ.out _))
            go_wp2
            go_ret
            obtain rfl : r = true := by rw [HR.out]; exact HT.out HZ.out
            exact ⟨rfl, by first | exact below_drewN' HB0.out _ | exact below_drewN' (below_drewN' HB0.out _) _⟩
          | false =>
            go_wp2
            go_quiet ((go_at_call 50; exact HQ.out _))
            go_wp2
            go_roundw
            case rel => exact ⟨i + 1, by omega, by go_num, HF.out HZ.out, _, rfl⟩
            case measure => simp [intOf]; omega
        · have hb0 : ((y : Int) == 0) = false := beq_eq_false_iff_ne.2 (by omega)
          clear hnull hb h0
          cases z with
          | true =>
            go_wp2
            go_quiet ((go_at_call 50; exact HQ.out _))
            go_wp2
            go_ret
            obtain rfl : r = true := by rw [HR.out]; exact HT.out HZ.out
            exact ⟨rfl, by first | exact below_drewN' HB0.out _ | exact below_drewN' (below_drewN' HB0.out _) _⟩
          | false =>
            go_wp2
            go_quiet ((go_at_call 50; exact HQ.out _))
            go_wp2
            go_roundw
            case rel => exact ⟨i + 1, by omega, by go_num, HF.out HZ.out, _, rfl⟩
            case measure => simp [intOf]; omega
    · obtain rfl : i = n6 := by omega
      have HE : Hid (at'.any (endP d) = false) := by
        have h0 := HC.out
        rw [List.take_of_length_le (by rw [← HN6.out]; exact Nat.le_refl _)] at h0
        exact h0
      go_wp2
      go_ret
      obtain rfl : r = false := by rw [HR.out]; exact HE.out
      exact ⟨rfl, by first | exact below_drewN' HB0.out _ | exact below_drewN' (below_drewN' HB0.out _) _⟩
end Go.Proofs.YtehkaiohmcenbaaDoor

namespace Go.Proofs.YtehkaiohmcenbaaDoor
open Go.RowKit Go.Shelf
set_option linter.unusedVariables false

/-- Does the place k follow one of the first j, or begin, where one stands at 0? -/
def isJ (d : AutD) (at' : List Nat) (k j : Nat) : Bool := (at'.contains 0 && d.first.contains k) || (at'.take j).any (fun x => decide (0 < x) && (folP d x).contains k)
theorem isJ_zero (d : AutD) (at' : List Nat) (k : Nat) : isJ d at' k 0 = (at'.contains 0 && d.first.contains k) := by simp [isJ]
theorem isJ_succ (d : AutD) (at' : List Nat) (k : Nat) {j : Nat} (h : j < at'.length) : isJ d at' k (j + 1) = (isJ d at' k j || (decide (0 < at'[j]) && (folP d at'[j]).contains k)) := by
  unfold isJ
  rw [List.take_add_one, List.getElem?_eq_getElem h, List.any_append, Bool.or_assoc]
  simp
theorem isJ_all (d : AutD) (at' : List Nat) (k : Nat) : isJ d at' k at'.length = at'.any (fun x => (folP d x).contains k) := by
  unfold isJ
  rw [List.take_length, Bool.eq_iff_iff]
  simp only [Bool.or_eq_true, Bool.and_eq_true, List.contains_iff_mem, List.any_eq_true, decide_eq_true_eq]
  constructor
  · rintro (⟨h1, h2⟩ | ⟨x, h1, _, h2⟩)
    · exact ⟨0, h1, by simpa [folP] using h2⟩
    · exact ⟨x, h1, h2⟩
  · rintro ⟨x, h1, h2⟩
    by_cases h0 : x = 0
    · subst h0
      exact .inl ⟨h1, by simpa [folP] using h2⟩
    · exact .inr ⟨x, h1, by omega, h2⟩
theorem rgF_suc (f : Nat → Bool) (k : Nat) : rgF f (k + 1) = if f k then rgF f k ++ [k] else rgF f k := by
  unfold rgF
  rw [List.range_succ, List.filter_append]
  cases h : f k <;> simp [h]
theorem drewN_heap' (w : World) : ∀ k, (w.drewN k).heap = w.heap
  | 0 => rfl
  | k + 1 => drewN_heap' w.drew k
theorem own_slice' {w : World} {base e size n : Nat} {v : Value} {xs : List Value} (h : w.ownsRow base e size v n xs) : ∃ a m c, v = .slice a m c := by
  rcases h.2 with ⟨e, _⟩ | ⟨g, c, cur, e, _⟩
  · exact ⟨_, _, _, e⟩
  · exact ⟨_, _, _, e⟩
/-- Where one stands behind a sign, of the places below k. -/
def stepK (d : AutD) (at' : List Nat) (sign k : Nat) : List Nat := rgF (fun y => at'.any (fun x => (folP d x).contains y) && tkP d sign y) k
theorem stepK_all (d : AutD) (at' : List Nat) (sign : Nat) : stepK d at' sign (d.sets.length + 1) = stepL d at' sign := rfl

set_option maxRecDepth 100000 in
set_option maxHeartbeats 16000000 in
theorem rstep_any (d : AutD) (av : Value) (at' : List Nat) (v : Value) (sign : Nat) (w : World) (ha : AutAt w av d) (hok : OkA d) (hv : PlcAt 0 0 w v at') (hat : ∀ x ∈ at', x ≤ d.sets.length) (hal : at'.length ≤ 1000) (hsg : sign < 18446744073709551616) :
    Calls Tryd.prog 20 #[av, v, .int .u64 (sign : Int)] w fun e w' => ∃ v', e = .returned v' ∧ w'.ownsRow w.heap.size 3 1 v' (stepL d at' sign).length (cellP (stepL d at' sign)) ∧ Below w.heap.size w w' := by
  obtain ⟨i0, hi0, hz0, hz1, hz2⟩ := info_parts Tryd.infoInt
  obtain ⟨sv, fv, lv, wv, rfl, hs, hf, hl1, hw⟩ := ha
  obtain ⟨W0, hW0⟩ : ∃ W, W = w.alloc (.cells #[.bool d.null, sv, fv, lv, wv] 30) := ⟨_, rfl⟩
  have hB0 : Below w.heap.size w W0 := by rw [hW0]; exact below_alloc _ _
  have hbx : ABox W0 w.heap.size d.null sv fv lv wv := by rw [hW0]; exact heap_new' _ _
  have HFS : Hid (PlcAt 0 0 W0 fv d.first) := hf.below hB0
  have HSS : Hid (IntsAt W0 sv d.sets) := hs.below hB0
  have HWS : Hid (FolAt W0 wv d.fol) := hw.below hB0
  have HV : Hid (PlcAt 0 0 W0 v at') := hv.below hB0
  have HB0 : Hid (Below w.heap.size w W0) := hB0
  obtain ⟨sa, sc, hes, hsc⟩ := hs.slice
  obtain ⟨fa, fc, hef, _⟩ := hf.slice
  obtain ⟨la, lc, hel, _⟩ := hl1.slice
  obtain ⟨xa, xc, hex, hxc⟩ := hw.slice
  obtain ⟨va, vc, hev, hvc⟩ := hv.slice
  obtain ⟨n1, hn1⟩ : ∃ x, x = d.null := ⟨_, rfl⟩
  obtain ⟨n2, hn2⟩ : ∃ x, x = d.sets.length := ⟨_, rfl⟩
  obtain ⟨n3, hn3⟩ : ∃ x, x = d.first.length := ⟨_, rfl⟩
  obtain ⟨n4, hn4⟩ : ∃ x, x = d.last.length := ⟨_, rfl⟩
  obtain ⟨n6, hn6⟩ : ∃ x, x = at'.length := ⟨_, rfl⟩
  have hm5 : d.fol.length = n2 := by rw [hn2]; exact hok.fol
  have hm2 : n2 ≤ 300 := by rw [hn2]; exact hok.sets
  have HN6 : Hid (n6 = at'.length) := hn6
  have HN2 : Hid (n2 = d.sets.length ∧ d.fol.length = n2) := ⟨hn2, hm5⟩
  have HOK : Hid (OkA d) := hok
  have HAT : Hid (∀ x ∈ at', x ≤ n2) := by rw [hn2]; exact hat
  have HF1 : Hid (d.first.length ≤ 1000) := by have := hok.in1.len (Nat.zero_le _); show _ ≤ _; omega
  rw [← hn2] at hes hsc
  rw [← hn3] at hef
  rw [← hn4] at hel
  rw [hm5] at hex hxc
  rw [← hn6] at hev hal hvc
  subst hes hef hel hex hev
  have HH : Hid (∀ (l : List Nat) (u : Value) (x : Nat) (W : World), PlcAt 0 0 W u l → l.length ≤ 100000 → Calls Tryd.prog 50 #[u, .int .i64 (x : Int)] W fun e w' => e = .returned (.bool (l.contains x)) ∧ w' = W) := fun l u x W h1 h2 => rhas_any l u x W h1 h2
  have HSL : Hid (stepK d at' sign (n2 + 1) = stepL d at' sign) := by rw [hn2]; exact stepK_all d at' sign
  rw [← hn1] at hW0 hbx
  rw [← hn1]
  have HBX : Hid (ABox W0 w.heap.size n1 (.slice sa n2 sc) (.slice fa n3 fc) (.slice la n4 lc) (.slice xa n2 xc)) := hbx
  have HW0 : Hid (W0 = _) := hW0
  obtain ⟨R, hR⟩ : ∃ R, R = stepL d at' sign := ⟨_, rfl⟩
  have HR : Hid (R = stepL d at' sign) := hR
  rw [← hR]
  clear hs hf hl1 hw hv hbx hn1 hn2 hn3 hn4 hn6 hB0 hW0 hm5 hok hat hR
  go_enter Tryd.func20, Tryd.ntmps20
  go_wp2
  rw [← HW0.out]
  clear HW0
  go_loopw [7, 8] (fun x7 x8 wr => ∃ (k : Nat), 1 ≤ k ∧ k ≤ n2 + 1 ∧ x8 = .int .i64 (k : Int) ∧ Hid (wr.ownsRow W0.heap.size 3 1 x7 (stepK d at' sign k).length (cellP (stepK d at' sign k))) ∧ Hid (Below W0.heap.size W0 wr)) (fun _ x8 _ => n2 + 1 - (intOf x8).toNat)
  case atStart =>
    refine ⟨1, Nat.le_refl _, by omega, rfl, ?_, Below.refl _ _⟩
    have e : stepK d at' sign 1 = [] := by
      unfold stepK
      rw [List.eq_nil_iff_forall_not_mem]
      intro x hx
      rw [rgF_mem] at hx
      have h0 : x = 0 := by omega
      subst h0
      have := hx.2
      simp [tkP] at this
    show World.ownsRow _ _ _ _ _ _ _
    rw [e]
    exact World.ownsRow_nil _ _ _ _
  case round =>
    obtain ⟨k, hk1, hk2, rfl, HO, HBr⟩ := hrel
    have hsz : W0.heap.size ≤ wr.heap.size := HBr.out.size
    have hbr := HBX.out.below HBr.out
    have b1 := hbr.c1
    have b2 := hbr.c2
    have b4 := hbr.c4
    have hlt := hbr.lt
    clear hbr
    by_cases hkn : k ≤ n2
    · have hkk : decide ((k : Int) ≤ (n2 : Int)) = true := decide_eq_true (by omega)
      have hh0 := HH.out at' _ 0 wr (HV.out.below HBr.out) (by have := HN6.out; omega)
      obtain ⟨c0, hc0⟩ : ∃ c, c = at'.contains 0 := ⟨_, rfl⟩
      rw [← hc0] at hh0
      have hh1 := HH.out d.first _ k wr (HFS.out.below HBr.out) (by have := HF1.out; omega)
      obtain ⟨c1, hc1⟩ : ∃ c, c = d.first.contains k := ⟨_, rfl⟩
      rw [← hc1] at hh1
      have HC0 : Hid ((c0 && c1) = isJ d at' k 0) := by rw [hc0, hc1]; exact (isJ_zero d at' k).symm
      have hh0' : Calls Tryd.prog 50 #[.slice va n6 vc, .int .i64 0] wr fun e w' => e = .returned (.bool c0) ∧ w' = wr := hh0
      clear hc0 hc1 hh0
      go_upto_region 5 with fail
      go_cut [9] from 11 to 70 (fun s wx => s = .bool (c0 && c1) ∧ wx = wr)
      case first =>
        cases c0 with
        | true =>
          go_wp2_with fail
          refine hh0'.mono ?_
          rintro e w2 ⟨rfl, hw2⟩
          have hw2' := hw2.symm
          subst hw2'
          go_wp2_with fail
          refine hh1.mono ?_
          rintro e w3 ⟨rfl, hw3⟩
          have hw3' := hw3.symm
          subst hw3'
          go_wp2
          go_meet
          exact ⟨by simp, rfl⟩
        | false =>
          go_wp2_with fail
          refine hh0'.mono ?_
          rintro e w2 ⟨rfl, hw2⟩
          have hw2' := hw2.symm
          subst hw2'
          go_wp2
          go_meet
          exact ⟨by simp, rfl⟩
      case rest =>
        obtain ⟨hc9, hwc⟩ := hcut
        have hwc' := hwc.symm
        subst hwc'
        obtain ⟨cc, hcc⟩ : ∃ c, c = (c0 && c1) := ⟨_, rfl⟩
        have HCC : Hid (cc = isJ d at' k 0) := by rw [hcc]; exact HC0.out
        rw [← hcc] at hc9
        subst hc9
        clear hh0' hh1 HC0 hcc
        go_wp2
        go_loopw [9, 10] (fun x9 x10 wi => ∃ (j : Nat) (c : Bool), j ≤ n6 ∧ x10 = .int .i64 (j : Int) ∧ x9 = .bool c ∧ Hid (c = isJ d at' k j) ∧ ∃ nd, wi = wr.drewN nd) (fun _ x10 _ => n6 - (intOf x10).toNat)
        case atStart => exact ⟨0, cc, Nat.zero_le _, rfl, rfl, HCC, 0, rfl⟩
        case round =>
          obtain ⟨j, c, hj, rfl, rfl, HCJ, nd, rfl⟩ := hrel
          by_cases hjl : j < n6
          · have hjn : j < at'.length := by rw [← HN6.out]; exact hjl
            obtain ⟨ga, oa, rfl, _, hga, e1⟩ := (HV.out.below HBr.out).at HN6.out hjn
            obtain ⟨y, hy⟩ : ∃ y, y = at'[j] := ⟨_, rfl⟩
            have HY : Hid (y = at'[j]) := hy
            have hyn : y ≤ n2 := by rw [hy]; exact HAT.out _ (List.getElem_mem hjn)
            have HJS : Hid (isJ d at' k (j + 1) = (c || (decide (0 < y) && (folP d y).contains k))) := by rw [HCJ.out, hy]; exact isJ_succ d at' k hjn
            rw [← hy] at e1
            have hj0 : (0 : Int) ≤ (j : Int) := by omega
            have hj1 : (j : Int) < (n6 : Int) := by omega
            clear hy
            cases c with
            | true =>
              go_wp2
              go_quiet (fail)
              go_wp2
              go_roundw
              case rel => exact ⟨j + 1, true, by omega, by go_num, rfl, by rw [HJS.out]; rfl, _, by first | rfl | exact World.drewN_drewN _ _ _⟩
              case measure => simp [intOf]; omega
            | false =>
              by_cases hy0 : y = 0
              · subst hy0
                have e2 : wr.cell? ⟨ga, oa + j, none⟩ = some (.int .i64 0) := e1
                clear e1
                go_wp2
                go_quiet (fail)
                go_wp2
                go_roundw
                case rel => exact ⟨j + 1, false, by omega, by go_num, rfl, by rw [HJS.out]; rfl, _, by first | rfl | exact World.drewN_drewN _ _ _⟩
                case measure => simp [intOf]; omega
              · obtain ⟨q, rfl⟩ : ∃ q, y = q + 1 := ⟨y - 1, by omega⟩
                have hqf : q < d.fol.length := by rw [HN2.out.2]; omega
                obtain ⟨gx, ox, u, rfl, hgx, e3, hpu⟩ := (HWS.out.below HBr.out).at hqf
                have HFP : Hid (folP d (q + 1) = d.fol[q]) := by
                  show _ = _
                  unfold folP
                  rw [if_neg (by omega), List.getD_eq_getElem?_getD, show q + 1 - 1 = q by omega, List.getElem?_eq_getElem hqf]
                  rfl
                obtain ⟨ua, uc, rfl, _⟩ := hpu.slice
                obtain ⟨N, hN⟩ : ∃ N, N = d.fol[q].length := ⟨_, rfl⟩
                obtain ⟨z, hz⟩ : ∃ z, z = d.fol[q].contains k := ⟨_, rfl⟩
                have HQ : Hid (∀ n, Calls Tryd.prog 50 #[.slice ua N uc, .int .i64 (k : Int)] (wr.drewN (nd + n)) fun e w' => e = .returned (.bool z) ∧ ∃ m, w' = wr.drewN (nd + m)) := fun n => by
                  rw [hN, hz]
                  have h3 := (HOK.out.in3 _ (List.getElem_mem hqf)).len (Nat.zero_le _)
                  have h4 := HN2.out.1
                  exact (HH.out d.fol[q] _ k _ (hpu.below (below_drewN' (Below.refl _ _) _)) (by omega)).mono fun e w'' ⟨he, hm⟩ => ⟨he, n, hm⟩
                have HZ : Hid (isJ d at' k (j + 1) = z) := by
                  show _ = _
                  rw [HJS.out, HFP.out, ← hz]; simp
                rw [← hN] at e3
                have e2 : wr.cell? ⟨ga, oa + j, none⟩ = some (.int .i64 ((q : Int) + 1)) := by rw [e1]; rfl
                have hq0 : (0 : Int) ≤ (q : Int) := by omega
                have hq1 : (q : Int) < (n2 : Int) := by omega
                have hg : decide ((q : Int) + 1 > 0) = true := decide_eq_true (by omega)
                have hwq : IntKind.i64.wrap (q : Int) = (q : Int) := by rw [IntKind.wrap_i64]; omega
                clear e1 hN hz hpu hyn hy0
                cases z with
                | true =>
                  go_wp2
                  go_quiet ((go_at_call 50; exact HQ.out _))
                  go_wp2
                  go_roundw
                  case rel => exact ⟨j + 1, true, by omega, by go_num, rfl, HZ.out.symm, _, by first | rfl | exact World.drewN_drewN _ _ _⟩
                  case measure => simp [intOf]; omega
                | false =>
                  go_wp2
                  go_quiet ((go_at_call 50; exact HQ.out _))
                  go_wp2
                  go_roundw
                  case rel => exact ⟨j + 1, false, by omega, by go_num, rfl, HZ.out.symm, _, by first | rfl | exact World.drewN_drewN _ _ _⟩
                  case measure => simp [intOf]; omega
          · obtain rfl : j = n6 := by omega
            have HCA : Hid (c = at'.any (fun x => (folP d x).contains k)) := by
              show _ = _
              rw [HCJ.out, ← isJ_all, ← HN6.out]
            obtain ⟨q, rfl⟩ : ∃ q, k = q + 1 := ⟨k - 1, by omega⟩
            have hqs : q < d.sets.length := by have := HN2.out.1; omega
            obtain ⟨gs, os, rfl, hgs, e3⟩ := (HSS.out.below HBr.out).at hqs
            obtain ⟨t, ht⟩ : ∃ t : Nat, d.sets[q] = (t : Int) := ⟨d.sets[q].toNat, by have := HOK.out.s64 _ (List.getElem_mem hqs); omega⟩
            have ht64 : t < 64 := by have := HOK.out.s64 _ (List.getElem_mem hqs); omega
            rw [ht] at e3
            have HTK : Hid (tkP d sign (q + 1) = sign.testBit t) := by
              show _ = _
              unfold tkP
              rw [show q + 1 - 1 = q by omega, List.getD_eq_getElem?_getD, List.getElem?_eq_getElem hqs]
              simp only [Option.getD_some]
              rw [ht]; simp
            have HSB : Hid ((bits .and .u64 ((sign : Int) / 2 ^ t) 1 == 1) = sign.testBit t) := shr_bit hsg
            have HNX : Hid (stepK d at' sign (q + 1 + 1) = if c && sign.testBit t then stepK d at' sign (q + 1) ++ [q + 1] else stepK d at' sign (q + 1)) := by
              show _ = _
              rw [HCA.out, ← HTK.out]
              exact rgF_suc _ _
            have hq0 : (0 : Int) ≤ (q : Int) := by omega
            have hq1 : (q : Int) < (n2 : Int) := by omega
            have hwq : IntKind.i64.wrap (q : Int) = (q : Int) := by rw [IntKind.wrap_i64]; omega
            have hcast : (((q + 1 : Nat)) : Int) = (q : Int) + 1 := by omega
            have hB2 : Below W0.heap.size W0 (wr.drewN nd) := below_drewN' HBr.out _
            have hO2 : (wr.drewN nd).ownsRow W0.heap.size 3 1 u7 (stepK d at' sign (q + 1)).length (cellP (stepK d at' sign (q + 1))) := own_blk HO.out (fun k _ => by rw [drewN_heap'])
            have HO2 : Hid ((wr.drewN nd).ownsRow W0.heap.size 3 1 u7 (stepK d at' sign (q + 1)).length (cellP (stepK d at' sign (q + 1)))) := hO2
            have HB2 : Hid (Below W0.heap.size W0 (wr.drewN nd)) := hB2
            have hsl : (stepK d at' sign (q + 1)).length ≤ 400 := by
              have := rgF_len (fun y => at'.any (fun x => (folP d x).contains y) && tkP d sign y) (q + 1)
              show (rgF _ _).length ≤ _
              omega
            obtain ⟨SL, hSL⟩ : ∃ S, S = stepK d at' sign (q + 1) := ⟨_, rfl⟩
            rw [← hSL] at HO2 HNX hsl HO hO2
            obtain ⟨tb, htb⟩ : ∃ b, b = sign.testBit t := ⟨_, rfl⟩
            rw [← htb] at HNX
            have hsb : (bits .and .u64 ((sign : Int) / 2 ^ t) 1 == 1) = tb := by rw [htb]; exact HSB.out
            have hws : W0.heap.size ≤ wr.heap.size := HBr.out.size
            rw [hcast]
            clear hcast hO2 hB2 hSL htb HTK HSB HCA ht hkk
            obtain ⟨ua, ul, uc, rfl⟩ := own_slice' HO2.out
            cases c with
            | false =>
              go_wp2
              go_roundw
              case rel => exact ⟨q + 1 + 1, by omega, by omega, by go_num, by rw [HNX.out]; exact HO2.out, HB2.out⟩
              case measure => simp [intOf]; omega
            | true =>
              cases tb with
              | false =>
                go_wp2
                go_roundw
                case rel => exact ⟨q + 1 + 1, by omega, by omega, by go_num, by rw [HNX.out]; exact HO2.out, HB2.out⟩
                case measure => simp [intOf]; omega
              | true =>
                go_wp2_with (at_builtin; go_must (refine wpList_append_own _ rfl _ _ 27 rfl W0.heap.size 3 i0 (.int .i64 0) 1 8 Tryd.underlying27 hi0 hz0 hz1 hz2 rfl (by decide) _ _ _ rfl (HO2.out.alloc _) ⟨wr.heap.size, 0, none⟩ 1 1 [.int .i64 ((q : Int) + 1)] rfl rfl (World.news_of_block (by exact heap_new' _ _)) (by simp [Value.oneCell']) (by unfold maxLen; omega) (by omega) (by simp; omega) ?_); intro v3 w3 ho3 hg3 _)
                have HO3 : Hid (w3.ownsRow W0.heap.size 3 1 v3 (SL ++ [q + 1]).length (cellP (SL ++ [q + 1]))) := by
                  show World.ownsRow _ _ _ _ _ _ _
                  rw [cellP_snoc, List.length_append, List.length_singleton]
                  exact ho3
                have HB3 : Hid (Below W0.heap.size W0 w3) := (HB2.out.alloc (by have := HB2.out.size; exact this) _).grown hg3 (by have := HB2.out.size; simp; omega) (fun z e => (HO2.out.lt z e).1)
                clear ho3 hg3
                go_roundw
                case rel => exact ⟨q + 1 + 1, by omega, by omega, by go_num, by rw [HNX.out]; exact HO3.out, HB3.out⟩
                case measure => simp [intOf]; omega
    · obtain rfl : k = n2 + 1 := by omega
      have hkk : decide (((n2 + 1 : Nat) : Int) ≤ (n2 : Int)) = false := decide_eq_false (by omega)
      have HO2 := HO
      rw [HSL.out, ← HR.out] at HO2
      go_wp2
      go_ret
      exact ⟨_, rfl, own_base HO2.out HB0.out.size, HB0.out.trans (HBr.out.mono (by have := HB0.out.size; exact this))⟩
end Go.Proofs.YtehkaiohmcenbaaDoor
