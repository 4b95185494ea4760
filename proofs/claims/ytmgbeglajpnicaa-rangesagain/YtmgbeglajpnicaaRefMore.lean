/-
  What scansionref02's Make, Or, And, Less, Not, Count, Nth, Same answer.
-/
import Derived.Test.YtmgbeglajpnicaaPick
import Derived.Test.YtmgbeglajpnicaaAsks
namespace Go.Proofs.Ytmgbeglajpnicaa
open Go.RowKit
set_option linter.unusedVariables false

/-- What the document's Make tells. -/
def RefMakeTells (l : List Rg) (w : World) (e : Ending) (w' : World) : Prop :=
  ((¬ Fits l ∧ e = .returned (.tuple #[.slice none 0 0, .int .i64 1])) ∨ (Fits l ∧ ∃ s v', Upto (hasR l) s 1114112 ∧ e = .returned (.tuple #[v', .int .i64 0]) ∧ w'.ownsRow w.heap.size 39 2 v' s.length (cellsRs s))) ∧ Below w.heap.size w w'

set_option maxRecDepth 100000 in
set_option maxHeartbeats 4000000 in
theorem refMake_any (l : List Rg) (v : Value) (w : World) (hlen : l.length ≤ 60) (hv : RngSrc w v l) :
    Calls Try.prog 11 #[v] w fun e w' => RefMakeTells l w e w' := by
  have HV : Hid (RngSrc w v l) := hv
  obtain ⟨a, cap, rfl, hc, hcell⟩ := hv.1
  have HA : Hid (∀ i, (h : i < l.length) → ∃ g off, a = some ⟨g, off, none⟩ ∧ g < w.heap.size ∧ w.cell? ⟨g, off + i * 2, none⟩ = some (.int .i64 l[i].lo) ∧ w.cell? ⟨g, off + i * 2 + 1, none⟩ = some (.int .i64 l[i].hi)) := hcell
  clear hcell hv
  go_enter Try.func11, Try.ntmps11
  go_wp2
  go_loopw [4] (fun x wr => ∃ k : Nat, k ≤ l.length ∧ x = .int .i64 k ∧ (∀ i, (h : i < l.length) → i < k → 0 ≤ l[i].lo ∧ l[i].lo ≤ l[i].hi ∧ l[i].hi ≤ 1114111) ∧ ∃ nd, wr = w.drewN nd) (fun x _ => l.length - (intOf x).toNat)
  case atStart => exact ⟨0, Nat.zero_le _, rfl, fun i h q => by omega, 0, rfl⟩
  case round =>
    obtain ⟨k, hk, rfl, hok, nd, rfl⟩ := hrel
    have HOK : Hid (∀ i, (h : i < l.length) → i < k → 0 ≤ l[i].lo ∧ l[i].lo ≤ l[i].hi ∧ l[i].hi ≤ 1114111) := hok
    clear hok
    by_cases hlt : k < l.length
    · obtain ⟨g, off, rfl, hg, c0, c1⟩ := HA.out k hlt
      obtain ⟨r, hr⟩ : ∃ r, r = l[k] := ⟨_, rfl⟩
      rw [← hr] at c0 c1
      have HR : Hid (r = l[k]) := hr
      clear hr
      have HNF : Hid (¬ (0 ≤ r.lo ∧ r.lo ≤ r.hi ∧ r.hi ≤ 1114111) → ¬ Fits l) := fun q f => q (f r (by rw [HR.out]; exact List.getElem_mem hlt) |> fun z => ⟨z.1, z.2.1, z.2.2⟩)
      have hk1 : (k : Int) < (l.length : Int) := by omega
      by_cases q0 : r.lo < 0
      · have HN : Hid (¬ Fits l) := HNF.out (by omega)
        go_wp2
        go_quiet (fail)
        go_wp2
        go_ret2
        exact ⟨.inl ⟨HN.out, rfl⟩, below_drewN' (below_drewN' (Below.refl _ _) nd) nq⟩
      · have q0' : decide (r.lo < 0) = false := by simpa using q0
        by_cases q1 : 1114111 < r.hi
        · have HN : Hid (¬ Fits l) := HNF.out (by omega)
          go_wp2
          go_quiet (fail)
          go_wp2
          go_ret2
          exact ⟨.inl ⟨HN.out, rfl⟩, below_drewN' (below_drewN' (Below.refl _ _) nd) nq⟩
        · have q1' : decide (1114111 < r.hi) = false := by simpa using q1
          by_cases q2 : r.hi < r.lo
          · have HN : Hid (¬ Fits l) := HNF.out (by omega)
            go_wp2
            go_quiet (fail)
            go_wp2
            go_ret2
            exact ⟨.inl ⟨HN.out, rfl⟩, below_drewN' (below_drewN' (Below.refl _ _) nd) nq⟩
          · have q2' : decide (r.hi < r.lo) = false := by simpa using q2
            have HO2 : Hid (∀ i, (h : i < l.length) → i < k + 1 → 0 ≤ l[i].lo ∧ l[i].lo ≤ l[i].hi ∧ l[i].hi ≤ 1114111) := fun i h q => by
              by_cases e : i = k
              · subst e; rw [← HR.out]; omega
              · exact HOK.out i h (by omega)
            go_wp2
            go_quiet (fail)
            go_wp2
            go_roundw
            case rel => exact ⟨k + 1, by omega, by go_num, HO2.out, _, rfl⟩
            case measure => simp [intOf]; omega
    · obtain rfl : k = l.length := by omega
      have HF : Hid (Fits l) := fun r hr => by
        obtain ⟨i, hi, rfl⟩ := List.getElem_of_mem hr
        exact HOK.out i hi hi
      have hB : Below w.heap.size w (w.drewN nd) := below_drewN' (Below.refl _ _) _
      have HP := pick_any 0 (fun x y => x || y) (.inl ⟨rfl, rfl⟩) l [] (by omega) (by simp) HF.out (fun r hr => by cases hr) _ _ (w.drewN nd) (HV.out.below hB) (RngSrc.nil _)
      clear HOK HV HA
      go_wp2_with fail
      refine HP.mono ?_
      rintro e w1 ⟨s, v1, rfl, hu, ho, hB1⟩
      have HO : Hid (w1.ownsRow w.heap.size 39 2 v1 s.length (cellsRs s)) := ho
      have HU : Hid (Upto (hasR l) s 1114112) := hu.congr (fun x _ _ => by simp [show hasR [] x = false from rfl])
      have hB2 : Below w.heap.size w w1 := hB.trans hB1
      clear HP hu ho
      go_wp2
      go_ret2
      exact ⟨.inr ⟨HF.out, s, v1, HU.out, rfl, HO.out⟩, hB2⟩

theorem refOr_any (a b : List Rg) (ha : IsSet a) (hb : IsSet b) (la : a.length ≤ 100) (lb : b.length ≤ 100) (va vb : Value) (w : World) (hva : RngSrc w va a) (hvb : RngSrc w vb b) :
    Calls Try.prog 15 #[va, vb] w fun e w' => Makes w (fun x => hasR a x || hasR b x) e w' := by
  have HC := pick_any 0 (fun x y => x || y) (.inl ⟨rfl, rfl⟩) a b la lb ha.upto.fits hb.upto.fits va vb w hva hvb
  obtain ⟨ada, ca, rfl, _, _⟩ := hva.1
  obtain ⟨adb, cb, rfl, _, _⟩ := hvb.1
  go_enter Try.func15, Try.ntmps15
  go_wp2_with fail
  refine HC.mono ?_
  rintro e w1 ⟨l, v, rfl, hu, ho, hB⟩
  have HO : Hid _ := ho
  have HU : Hid _ := hu
  clear ho hu HC
  go_wp2
  go_ret
  exact ⟨l, v, rfl, HU.out, HO.out, hB⟩
theorem refAnd_any (a b : List Rg) (ha : IsSet a) (hb : IsSet b) (la : a.length ≤ 100) (lb : b.length ≤ 100) (va vb : Value) (w : World) (hva : RngSrc w va a) (hvb : RngSrc w vb b) :
    Calls Try.prog 17 #[va, vb] w fun e w' => Makes w (fun x => hasR a x && hasR b x) e w' := by
  have HC := pick_any 1 (fun x y => x && y) (.inr (.inl ⟨rfl, rfl⟩)) a b la lb ha.upto.fits hb.upto.fits va vb w hva hvb
  obtain ⟨ada, ca, rfl, _, _⟩ := hva.1
  obtain ⟨adb, cb, rfl, _, _⟩ := hvb.1
  go_enter Try.func17, Try.ntmps17
  go_wp2_with fail
  refine HC.mono ?_
  rintro e w1 ⟨l, v, rfl, hu, ho, hB⟩
  have HO : Hid _ := ho
  have HU : Hid _ := hu
  clear ho hu HC
  go_wp2
  go_ret
  exact ⟨l, v, rfl, HU.out, HO.out, hB⟩
theorem refLess_any (a b : List Rg) (ha : IsSet a) (hb : IsSet b) (la : a.length ≤ 100) (lb : b.length ≤ 100) (va vb : Value) (w : World) (hva : RngSrc w va a) (hvb : RngSrc w vb b) :
    Calls Try.prog 19 #[va, vb] w fun e w' => Makes w (fun x => hasR a x && !hasR b x) e w' := by
  have HC := pick_any 2 (fun x y => x && !y) (.inr (.inr (.inl ⟨rfl, rfl⟩))) a b la lb ha.upto.fits hb.upto.fits va vb w hva hvb
  obtain ⟨ada, ca, rfl, _, _⟩ := hva.1
  obtain ⟨adb, cb, rfl, _, _⟩ := hvb.1
  go_enter Try.func19, Try.ntmps19
  go_wp2_with fail
  refine HC.mono ?_
  rintro e w1 ⟨l, v, rfl, hu, ho, hB⟩
  have HO : Hid _ := ho
  have HU : Hid _ := hu
  clear ho hu HC
  go_wp2
  go_ret
  exact ⟨l, v, rfl, HU.out, HO.out, hB⟩
theorem refNot_any (a : List Rg) (ha : IsSet a) (la : a.length ≤ 100) (va : Value) (w : World) (hva : RngSrc w va a) :
    Calls Try.prog 21 #[va] w fun e w' => Makes w (fun x => !hasR a x) e w' := by
  have HC := pick_any 3 (fun x y => !x && !y) (.inr (.inr (.inr ⟨rfl, rfl⟩))) a [] la (by simp) ha.upto.fits (fun r hr => by cases hr) va _ w hva (RngSrc.nil _)
  obtain ⟨ada, ca, rfl, _, _⟩ := hva.1
  go_enter Try.func21, Try.ntmps21
  go_wp2_with fail
  refine HC.mono ?_
  rintro e w1 ⟨l, v, rfl, hu, ho, hB⟩
  have HO : Hid _ := ho
  have HU : Hid (Upto (fun x => !hasR a x) l 1114112) := hu.congr (fun x _ _ => by simp [show hasR [] x = false from rfl])
  clear ho hu HC
  go_wp2
  go_ret
  exact ⟨l, v, rfl, HU.out, HO.out, hB⟩

set_option maxRecDepth 100000 in
set_option maxHeartbeats 2000000 in
theorem refCount_any (f : Int → Bool) (a : List Rg) (hu : Upto f a 1114112) (v : Value) (w : World) (hv : RngIn w v a) :
    Calls Try.prog 27 #[v] w fun e w' => e = .returned (.int .i64 (sumR a)) ∧ Below w.heap.size w w' := by
  have hlen := hu.len (by omega) (by omega)
  have HU : Hid (Upto f a 1114112) := hu
  obtain ⟨ad, cap, rfl, hc, hcell⟩ := hv
  have HA : Hid (∀ i, (h : i < a.length) → ∃ g off, ad = some ⟨g, off, none⟩ ∧ g < w.heap.size ∧ w.cell? ⟨g, off + i * 2, none⟩ = some (.int .i64 a[i].lo) ∧ w.cell? ⟨g, off + i * 2 + 1, none⟩ = some (.int .i64 a[i].hi)) := hcell
  clear hcell hu
  go_enter Try.func27, Try.ntmps27
  go_wp2
  go_loopw [3, 4] (fun y x wr => ∃ k : Nat, k ≤ a.length ∧ x = .int .i64 k ∧ y = .int .i64 (sumR (a.take k)) ∧ ∃ nd, wr = w.drewN nd) (fun _ x _ => a.length - (intOf x).toNat)
  case atStart => exact ⟨0, Nat.zero_le _, rfl, rfl, 0, rfl⟩
  case round =>
    obtain ⟨k, hk, rfl, rfl, nd, rfl⟩ := hrel
    by_cases hlt : k < a.length
    · obtain ⟨g, off, rfl, hg, c0, c1⟩ := HA.out k hlt
      obtain ⟨r, hr⟩ : ∃ r, r = a[k] := ⟨_, rfl⟩
      rw [← hr] at c0 c1
      have hf := HU.out.hi r (by rw [hr]; exact List.getElem_mem hlt)
      have hb1 := sumR_bound HU.out k
      have HS : Hid (sumR (a.take (k + 1)) = sumR (a.take k) + r.hi - r.lo + 1) := by
        show _ = _
        rw [List.take_succ_eq_append_getElem hlt, sumR_append, ← hr]
        show _ + (r.hi - r.lo + 1 + 0) = _
        omega
      clear hr
      have hk1 : (k : Int) < (a.length : Int) := by omega
      obtain ⟨t, ht⟩ : ∃ t, sumR (a.take k) = t := ⟨_, rfl⟩
      rw [ht] at HS hb1 ⊢
      clear ht
      go_wp2
      go_quiet (fail)
      go_wp2
      go_roundw
      case rel => exact ⟨k + 1, by omega, by go_num, by rw [HS.out], _, rfl⟩
      case measure => simp [intOf]; omega
    · obtain rfl : k = a.length := by omega
      rw [List.take_length]
      go_wp2
      go_ret
      exact ⟨rfl, below_drewN' (Below.refl _ _) _⟩

set_option maxRecDepth 100000 in
set_option maxHeartbeats 2000000 in
theorem refNth_any (f : Int → Bool) (a : List Rg) (hu : Upto f a 1114112) (n : Int) (hn : n ≤ 9223372036854775807) (v : Value) (w : World) (hv : RngIn w v a) :
    Calls Try.prog 23 #[v, .int .i64 n] w fun e w' => e = .returned (.tuple #[.int .i64 (nthV a n).1, .int .i64 (nthV a n).2]) ∧ Below w.heap.size w w' := by
  have hlen := hu.len (by omega) (by omega)
  have HU : Hid (Upto f a 1114112) := hu
  obtain ⟨ad, cap, rfl, hc, hcell⟩ := hv
  have HA : Hid (∀ i, (h : i < a.length) → ∃ g off, ad = some ⟨g, off, none⟩ ∧ g < w.heap.size ∧ w.cell? ⟨g, off + i * 2, none⟩ = some (.int .i64 a[i].lo) ∧ w.cell? ⟨g, off + i * 2 + 1, none⟩ = some (.int .i64 a[i].hi)) := hcell
  clear hcell hu
  by_cases hneg : n < 0
  · rw [nthV_neg hneg]
    go_enter Try.func23, Try.ntmps23
    go_wp2
    go_ret2
    exact ⟨rfl, Below.refl _ _⟩
  · have HV : Hid (nthV a n = optV (nthL a n)) := by show _ = _; simp [nthV, hneg]
    obtain ⟨nv, hnv⟩ : ∃ nv, nthV a n = nv := ⟨_, rfl⟩
    rw [hnv] at HV ⊢
    clear hnv
    go_enter Try.func23, Try.ntmps23
    go_wp2
    go_loopw [1, 6] (fun y x wr => ∃ (k : Nat) (m : Int), k ≤ a.length ∧ x = .int .i64 k ∧ y = .int .i64 m ∧ 0 ≤ m ∧ m ≤ 9223372036854775807 ∧ nthL a n = nthL (a.drop k) m ∧ ∃ nd, wr = w.drewN nd) (fun _ x _ => a.length - (intOf x).toNat)
    case atStart => exact ⟨0, n, Nat.zero_le _, rfl, rfl, by omega, hn, rfl, 0, rfl⟩
    case round =>
      obtain ⟨k, m, hk, rfl, rfl, hm0, hm1, hnth, nd, rfl⟩ := hrel
      have HN : Hid (nthL a n = nthL (a.drop k) m) := hnth
      clear hnth
      by_cases hlt : k < a.length
      · obtain ⟨g, off, rfl, hg, c0, c1⟩ := HA.out k hlt
        have HD : Hid (nthL (a.drop k) m = if m < a[k].hi - a[k].lo + 1 then some (a[k].lo + m) else nthL (a.drop (k + 1)) (m - (a[k].hi - a[k].lo + 1))) := nthL_drop hlt m
        obtain ⟨r, hr⟩ : ∃ r, r = a[k] := ⟨_, rfl⟩
        rw [← hr] at c0 c1 HD
        have hf := HU.out.hi r (by rw [hr]; exact List.getElem_mem hlt)
        clear hr
        have hk1 : (k : Int) < (a.length : Int) := by omega
        by_cases q : m < r.hi - r.lo + 1
        · have HE : Hid (nv = (r.lo + m, 0)) := by
            show nv = _
            rw [HV.out, HN.out, HD.out, if_pos q]; rfl
          go_wp2
          go_quiet (fail)
          go_wp2
          go_ret2
          exact ⟨by rw [HE.out]; rfl, below_drewN' (Below.refl _ _) _⟩
        · have HE : Hid (nthL a n = nthL (a.drop (k + 1)) (m - (r.hi - r.lo + 1))) := by
            show _ = _
            rw [HN.out, HD.out, if_neg q]
          go_wp2
          go_quiet (fail)
          go_wp2
          go_roundw
          case rel => exact ⟨k + 1, m - (r.hi - r.lo + 1), by omega, by go_num, rfl, by omega, by omega, HE.out, _, rfl⟩
          case measure => simp [intOf]; omega
      · obtain rfl : k = a.length := by omega
        have HE : Hid (nv = (0, 4)) := by
          show nv = _
          rw [HV.out, HN.out, List.drop_length]
          rfl
        go_wp2
        go_ret2
        exact ⟨by rw [HE.out]; rfl, below_drewN' (Below.refl _ _) _⟩

set_option maxRecDepth 100000 in
set_option maxHeartbeats 2000000 in
theorem same_any (us : List Rg) (hlen : us.length ≤ 600000) (va vb : Value) (w : World) (ha : RngIn w va us) (hb : RngIn w vb us) :
    Calls Try.prog 12 #[va, vb] w fun e w' => e = .returned (.bool true) ∧ Below w.heap.size w w' := by
  obtain ⟨a, ca, rfl, hca, hia⟩ := ha
  obtain ⟨b, cb, rfl, hcb, hib⟩ := hb
  have HA : Hid (∀ i, (h : i < us.length) → ∃ g off, a = some ⟨g, off, none⟩ ∧ g < w.heap.size ∧ w.cell? ⟨g, off + i * 2, none⟩ = some (.int .i64 us[i].lo) ∧ w.cell? ⟨g, off + i * 2 + 1, none⟩ = some (.int .i64 us[i].hi)) := hia
  have HB : Hid (∀ i, (h : i < us.length) → ∃ g off, b = some ⟨g, off, none⟩ ∧ g < w.heap.size ∧ w.cell? ⟨g, off + i * 2, none⟩ = some (.int .i64 us[i].lo) ∧ w.cell? ⟨g, off + i * 2 + 1, none⟩ = some (.int .i64 us[i].hi)) := hib
  clear hia hib
  have hneq : ((us.length : Int) != (us.length : Int)) = false := by simp
  go_enter Try.func12, Try.ntmps12
  go_wp2
  go_loopw [5] (fun i wr => ∃ k : Nat, k ≤ us.length ∧ i = .int .i64 k ∧ ∃ nd, wr = w.drewN nd) (fun i _ => us.length - (intOf i).toNat)
  case atStart => exact ⟨0, Nat.zero_le _, rfl, 0, rfl⟩
  case round =>
    obtain ⟨k, hk, rfl, nd, rfl⟩ := hrel
    by_cases hlt : k < us.length
    · obtain ⟨ga, oa, rfl, hga, a0, a1⟩ := HA.out k hlt
      obtain ⟨gb, ob, rfl, hgb, b0, b1⟩ := HB.out k hlt
      obtain ⟨u, hu⟩ : ∃ u, u = us[k] := ⟨_, rfl⟩
      rw [← hu] at a0 a1 b0 b1
      clear hu
      have hk0 : (0 : Int) ≤ (k : Int) := by omega
      have hk1 : (k : Int) < (us.length : Int) := by omega
      go_wp2
      go_quiet (fail)
      go_wp2
      go_roundw
      case rel => exact ⟨k + 1, by omega, by go_num, _, rfl⟩
      case measure => simp [intOf]; omega
    · obtain rfl : k = us.length := by omega
      go_wp2
      go_ret
      exact ⟨rfl, below_drewN' (Below.refl _ _) _⟩
end Go.Proofs.Ytmgbeglajpnicaa
