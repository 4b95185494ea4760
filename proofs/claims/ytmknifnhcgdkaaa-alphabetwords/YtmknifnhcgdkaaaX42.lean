/-
  slices.Equal over ranges; the document's Same.
-/
import Derived.Test.YtmknifnhcgdkaaaX37
import Derived.Laws.StructEq
import Derived.BigQuiet
namespace Go.Proofs.Ytmknifnhcgdkaaa
open Go.RowKit Go.Shelf
set_option linter.unusedVariables false

def sameS : List Rg → List Rg → Bool
  | [], [] => true
  | a :: l, b :: m => a.lo == b.lo && a.hi == b.hi && sameS l m
  | _, _ => false
theorem sameS_iff : ∀ {a b : List Rg}, sameS a b = true ↔ a = b
  | [], [] => by simp [sameS]
  | [], b :: m => by simp [sameS]
  | a :: l, [] => by simp [sameS]
  | a :: l, b :: m => by
    simp only [sameS, Bool.and_eq_true, beq_iff_eq, sameS_iff (a := l) (b := m), List.cons.injEq]
    constructor
    · rintro ⟨⟨h1, h2⟩, h3⟩
      refine ⟨?_, h3⟩
      cases a; cases b; simp_all
    · rintro ⟨rfl, rfl⟩; exact ⟨⟨rfl, rfl⟩, rfl⟩
theorem neq_rng (a b x y : Int) (w : World) : (binOp .neq 51 (.agg #[.int .i64 a, .int .i64 b]) (.agg #[.int .i64 x, .int .i64 y])).run Try.prog w = .ok (.bool (!(a == x && b == y))) w := by
  have u3 := Try.underlying3
  have a3 := Try.isAgg3
  have z3 := Try.sizeOf3
  have hS : Try.prog.underlying 51 = some (.struct (Try.prog.fieldsOf 51)) := by kernel_rfl
  have hp : Try.prog.stoodInHeld 51 = false := by kernel_rfl
  rw [run_neq_struct, show (10000 : Nat) = 9999 + 1 from rfl, run_equalIn_agg w 9999 51 _ _ hS hp]
  simp only [Program.fieldsOf, Try.underlying51]
  go_simp
  by_cases h1 : a = x <;> by_cases h2 : b = y <;> simp [h1, h2]

theorem sameS_len {a b : List Rg} (h : a.length ≠ b.length) : sameS a b = false := by
  cases q : sameS a b with
  | false => rfl
  | true => exact absurd (congrArg List.length (sameS_iff.1 q)) h
theorem sameS_drop {a b : List Rg} {k : Nat} (ha : k < a.length) (hb : k < b.length) : sameS (a.drop k) (b.drop k) = ((a[k].lo == b[k].lo && a[k].hi == b[k].hi) && sameS (a.drop (k + 1)) (b.drop (k + 1))) := by
  rw [List.drop_eq_getElem_cons ha, List.drop_eq_getElem_cons hb]
  rfl

set_option maxRecDepth 100000 in
set_option maxHeartbeats 4000000 in
theorem equal_any (us vs : List Rg) (hlen : us.length ≤ 600000) (va vb : Value) (w : World) (ha : RngIn w va us) (hb : RngIn w vb vs) :
    Calls Try.prog 40 #[va, vb] w fun e w' => e = .returned (.bool (sameS us vs)) ∧ Below w.heap.size w w' := by
  obtain ⟨a, ca, rfl, hca, hia⟩ := ha
  obtain ⟨b, cb, rfl, hcb, hib⟩ := hb
  obtain ⟨q, hq⟩ : ∃ q, q = sameS us vs := ⟨_, rfl⟩
  rw [← hq]
  have HQ : Hid (q = sameS us vs) := hq
  clear hq
  by_cases hl : us.length = vs.length
  · have HA : Hid (∀ i, (h : i < us.length) → ∃ g off, a = some ⟨g, off, none⟩ ∧ g < w.heap.size ∧ w.cell? ⟨g, off + i * 2, none⟩ = some (.int .i64 us[i].lo) ∧ w.cell? ⟨g, off + i * 2 + 1, none⟩ = some (.int .i64 us[i].hi)) := hia
    have HB : Hid (∀ i, (h : i < vs.length) → ∃ g off, b = some ⟨g, off, none⟩ ∧ g < w.heap.size ∧ w.cell? ⟨g, off + i * 2, none⟩ = some (.int .i64 vs[i].lo) ∧ w.cell? ⟨g, off + i * 2 + 1, none⟩ = some (.int .i64 vs[i].hi)) := hib
    have HL : Hid (us.length = vs.length) := hl
    rw [← hl] at hcb ⊢
    clear hia hib hl
    have hneq : ((us.length : Int) != (us.length : Int)) = false := by simp
    go_enter Try.func40, Try.ntmps40
    go_wp2
    go_loopw [13] (fun i wr => ∃ k : Nat, k ≤ us.length ∧ i = .int .i64 k ∧ Hid (q = sameS (us.drop k) (vs.drop k)) ∧ ∃ nd, wr = w.drewN nd) (fun i _ => us.length - (intOf i).toNat)
    case atStart => exact ⟨0, Nat.zero_le _, rfl, HQ.out, 0, rfl⟩
    case round =>
      obtain ⟨k, hk, rfl, HD, nd, rfl⟩ := hrel
      by_cases hlt : k < us.length
      · have hlt2 : k < vs.length := by have := HL.out; omega
        obtain ⟨ga, oa, rfl, hga, a0, a1⟩ := HA.out k hlt
        obtain ⟨gb, ob, rfl, hgb, b0, b1⟩ := HB.out k hlt2
        obtain ⟨xl, hxl⟩ : ∃ x, x = us[k].lo := ⟨_, rfl⟩
        obtain ⟨xh, hxh⟩ : ∃ x, x = us[k].hi := ⟨_, rfl⟩
        obtain ⟨yl, hyl⟩ : ∃ x, x = vs[k].lo := ⟨_, rfl⟩
        obtain ⟨yh, hyh⟩ : ∃ x, x = vs[k].hi := ⟨_, rfl⟩
        have HD2 : Hid (q = ((xl == yl && xh == yh) && sameS (us.drop (k + 1)) (vs.drop (k + 1)))) := by
          show _ = _
          rw [hxl, hxh, hyl, hyh, ← sameS_drop hlt hlt2]; exact HD.out
        rw [← hxl] at a0
        rw [← hxh] at a1
        rw [← hyl] at b0
        rw [← hyh] at b1
        clear hxl hxh hyl hyh hlt2
        have hk0 : (0 : Int) ≤ (k : Int) := by omega
        have hk1 : (k : Int) < (us.length : Int) := by omega
        have hnq : ∀ W : World, (binOp .neq 51 (.agg #[.int .i64 xl, .int .i64 xh]) (.agg #[.int .i64 yl, .int .i64 yh])).run Try.prog W = .ok (.bool (!(xl == yl && xh == yh))) W := fun W => neq_rng xl xh yl yh W
        have hgd : Try.prog.eqGuardType Try.prog.depth 51 = false := by kernel_rfl
        cases hb : (xl == yl && xh == yh) with
        | true =>
          rw [hb] at hnq
          have HD3 : Hid (q = sameS (us.drop (k + 1)) (vs.drop (k + 1))) := by
            show _ = _
            rw [HD2.out, hb]; rfl
          clear HD HD2
          go_wp2
          go_quiet (fail)
          go_wp2
          go_roundw
          case rel => exact ⟨k + 1, by omega, by go_num, HD3, _, rfl⟩
          case measure => simp [intOf]; omega
        | false =>
          rw [hb] at hnq
          have HD3 : Hid (q = false) := by
            show _ = _
            rw [HD2.out, hb]; rfl
          clear HD HD2
          go_wp2
          go_quiet (fail)
          go_wp2
          go_ret
          refine ⟨by rw [HD3.out]; rfl, ?_⟩
          first | exact below_drewN' (below_drewN' (Below.refl _ _) _) _ | exact below_drewN' (Below.refl _ _) _
      · obtain rfl : k = us.length := by omega
        have HD3 : Hid (q = true) := by
          show _ = _
          rw [HD.out, List.drop_length, HL.out, List.drop_length]; rfl
        go_wp2
        go_ret
        exact ⟨by rw [HD3.out]; rfl, below_drewN' (Below.refl _ _) _⟩
  · have hneq : ((us.length : Int) != (vs.length : Int)) = true := by simp; omega
    have HE : Hid (q = false) := HQ.out.trans (sameS_len hl)
    clear hia hib hl
    go_enter Try.func40, Try.ntmps40
    go_wp2
    go_ret
    exact ⟨by rw [HE.out]; rfl, Below.refl _ _⟩

set_option maxRecDepth 100000 in
set_option maxHeartbeats 4000000 in
theorem sameG_any (us vs : List Rg) (hlen : us.length ≤ 600000) (va vb : Value) (w : World) (ha : RngIn w va us) (hb : RngIn w vb vs) :
    Calls Try.prog 31 #[va, vb] w fun e w' => e = .returned (.bool (sameS us vs)) ∧ Below w.heap.size w w' := by
  obtain ⟨a, ca, rfl, hca, hia⟩ := ha
  obtain ⟨b, cb, rfl, hcb, hib⟩ := hb
  obtain ⟨q, hq⟩ : ∃ q, q = sameS us vs := ⟨_, rfl⟩
  rw [← hq]
  have HQ : Hid (q = sameS us vs) := hq
  clear hq
  by_cases hl : us.length = vs.length
  · have HA : Hid (∀ i, (h : i < us.length) → ∃ g off, a = some ⟨g, off, none⟩ ∧ g < w.heap.size ∧ w.cell? ⟨g, off + i * 2, none⟩ = some (.int .i64 us[i].lo) ∧ w.cell? ⟨g, off + i * 2 + 1, none⟩ = some (.int .i64 us[i].hi)) := hia
    have HB : Hid (∀ i, (h : i < vs.length) → ∃ g off, b = some ⟨g, off, none⟩ ∧ g < w.heap.size ∧ w.cell? ⟨g, off + i * 2, none⟩ = some (.int .i64 vs[i].lo) ∧ w.cell? ⟨g, off + i * 2 + 1, none⟩ = some (.int .i64 vs[i].hi)) := hib
    have HL : Hid (us.length = vs.length) := hl
    rw [← hl] at hcb ⊢
    clear hia hib hl
    have hneq : ((us.length : Int) != (us.length : Int)) = false := by simp
    go_enter Try.func31, Try.ntmps31
    go_wp2
    go_loopw [5] (fun i wr => ∃ k : Nat, k ≤ us.length ∧ i = .int .i64 k ∧ Hid (q = sameS (us.drop k) (vs.drop k)) ∧ ∃ nd, wr = w.drewN nd) (fun i _ => us.length - (intOf i).toNat)
    case atStart => exact ⟨0, Nat.zero_le _, rfl, HQ.out, 0, rfl⟩
    case round =>
      obtain ⟨k, hk, rfl, HD, nd, rfl⟩ := hrel
      by_cases hlt : k < us.length
      · have hlt2 : k < vs.length := by have := HL.out; omega
        obtain ⟨ga, oa, rfl, hga, a0, a1⟩ := HA.out k hlt
        obtain ⟨gb, ob, rfl, hgb, b0, b1⟩ := HB.out k hlt2
        obtain ⟨xl, hxl⟩ : ∃ x, x = us[k].lo := ⟨_, rfl⟩
        obtain ⟨xh, hxh⟩ : ∃ x, x = us[k].hi := ⟨_, rfl⟩
        obtain ⟨yl, hyl⟩ : ∃ x, x = vs[k].lo := ⟨_, rfl⟩
        obtain ⟨yh, hyh⟩ : ∃ x, x = vs[k].hi := ⟨_, rfl⟩
        have HD2 : Hid (q = ((xl == yl && xh == yh) && sameS (us.drop (k + 1)) (vs.drop (k + 1)))) := by
          show _ = _
          rw [hxl, hxh, hyl, hyh, ← sameS_drop hlt hlt2]; exact HD.out
        rw [← hxl] at a0
        rw [← hxh] at a1
        rw [← hyl] at b0
        rw [← hyh] at b1
        clear hxl hxh hyl hyh hlt2
        have hk0 : (0 : Int) ≤ (k : Int) := by omega
        have hk1 : (k : Int) < (us.length : Int) := by omega
        cases h1 : (xl == yl) with
        | false =>
          have h1' : (xl != yl) = true := by simp only [bne, h1]; rfl
          have HD3 : Hid (q = false) := by
            show _ = _
            rw [HD2.out, h1]; rfl
          clear HD HD2
          go_wp2
          go_quiet (fail)
          go_wp2
          go_ret
          refine ⟨by rw [HD3.out]; rfl, ?_⟩
          first | exact below_drewN' (below_drewN' (Below.refl _ _) _) _ | exact below_drewN' (Below.refl _ _) _
        | true =>
          have h1' : (xl != yl) = false := by simp only [bne, h1]; rfl
          cases h2 : (xh == yh) with
          | false =>
            have h2' : (xh != yh) = true := by simp only [bne, h2]; rfl
            have HD3 : Hid (q = false) := by
              show _ = _
              rw [HD2.out, h1, h2]; rfl
            clear HD HD2
            go_wp2
            go_quiet (fail)
            go_wp2
            go_ret
            refine ⟨by rw [HD3.out]; rfl, ?_⟩
            first | exact below_drewN' (below_drewN' (Below.refl _ _) _) _ | exact below_drewN' (Below.refl _ _) _
          | true =>
            have h2' : (xh != yh) = false := by simp only [bne, h2]; rfl
            have HD3 : Hid (q = sameS (us.drop (k + 1)) (vs.drop (k + 1))) := by
              show _ = _
              rw [HD2.out, h1, h2]; rfl
            clear HD HD2
            go_wp2
            go_quiet (fail)
            go_wp2
            go_roundw
            case rel => exact ⟨k + 1, by omega, by go_num, HD3, _, rfl⟩
            case measure => simp [intOf]; omega
      · obtain rfl : k = us.length := by omega
        have HD3 : Hid (q = true) := by
          show _ = _
          rw [HD.out, List.drop_length, HL.out, List.drop_length]; rfl
        go_wp2
        go_ret
        exact ⟨by rw [HD3.out]; rfl, below_drewN' (Below.refl _ _) _⟩
  · have hneq : ((us.length : Int) != (vs.length : Int)) = true := by simp; omega
    have HE : Hid (q = false) := HQ.out.trans (sameS_len hl)
    clear hia hib hl
    go_enter Try.func31, Try.ntmps31
    go_wp2
    go_ret
    exact ⟨by rw [HE.out]; rfl, Below.refl _ _⟩
end Go.Proofs.Ytmknifnhcgdkaaa
