/-
  What the document's Same answers of ranges, and of tokens, that are the same.
-/
import Derived.Test.YtdjhgjnhfmggjaaGreatDoorAw7
import Derived.BigQuiet
namespace Go.Proofs.YtdjhgjnhfmggjaaGreatDoor
open Go.RowKit Go.Shelf S1
set_option linter.unusedVariables false

theorem RngIn.drewN {w : World} {v : Value} {l : List Rg} (h : RngIn w v l) (n : Nat) : RngIn (w.drewN n) v l := RngIn.below h (below_drewN' (Below.refl _ _) n)
theorem ToksIn.drewN {w : World} {v : Value} {l : List (Tok × Value)} (h : ToksIn w v l) (n : Nat) : ToksIn (w.drewN n) v l := h.below (below_drewN' (Below.refl _ _) n)

set_option maxRecDepth 100000 in
set_option maxHeartbeats 2000000 in
theorem sameR_any (us : List Rg) (hlen : us.length ≤ 600000) (va vb : Value) (w : World) (ha : RngIn w va us) (hb : RngIn w vb us) :
    Calls Tryz.prog 12 #[va, vb] w fun e w' => e = .returned (.bool true) ∧ ∃ m, w' = w.drewN m := by
  obtain ⟨a, ca, rfl, hca, hia⟩ := ha
  obtain ⟨b, cb, rfl, hcb, hib⟩ := hb
  have HA : Hid (∀ i, (h : i < us.length) → ∃ g off, a = some ⟨g, off, none⟩ ∧ g < w.heap.size ∧ w.cell? ⟨g, off + i * 2, none⟩ = some (.int .i64 us[i].lo) ∧ w.cell? ⟨g, off + i * 2 + 1, none⟩ = some (.int .i64 us[i].hi)) := hia
  have HB : Hid (∀ i, (h : i < us.length) → ∃ g off, b = some ⟨g, off, none⟩ ∧ g < w.heap.size ∧ w.cell? ⟨g, off + i * 2, none⟩ = some (.int .i64 us[i].lo) ∧ w.cell? ⟨g, off + i * 2 + 1, none⟩ = some (.int .i64 us[i].hi)) := hib
  clear hia hib
  have hneq : ((us.length : Int) != (us.length : Int)) = false := by simp
  go_enter Tryz.func12, Tryz.ntmps12
  go_wp2
  go_loopw [5] (fun i wr => ∃ k : Nat, k ≤ us.length ∧ i = .int .i64 k ∧ ∃ nd, wr = w.drewN nd) (fun i _ => us.length - (intOf i).toNat)
  case atStart => exact ⟨0, Nat.zero_le _, rfl, 0, rfl⟩
  case round =>
    obtain ⟨k, hk, rfl, nd, rfl⟩ := hrel
    by_cases hlt : k < us.length
    · obtain ⟨ga, oa, rfl, hga, a0, a1⟩ := HA.out k hlt
      obtain ⟨gb, ob, rfl, hgb, b0, b1⟩ := HB.out k hlt
      obtain ⟨u, hu⟩ : ∃ u, u = us[k] := ⟨_, rfl⟩
      rw [← hu] at a0 a1 b0 b1
      clear hu
      have hk0 : (0 : Int) ≤ (k : Int) := by omega
      have hk1 : (k : Int) < (us.length : Int) := by omega
      go_wp2
      go_quiet (fail)
      go_wp2
      go_roundw
      case rel => exact ⟨k + 1, by omega, by go_num, _, rfl⟩
      case measure => simp [intOf]; omega
    · obtain rfl : k = us.length := by omega
      go_wp2
      go_ret
      exact ⟨rfl, _, rfl⟩

/-- Two tokens are the same; their sets are. -/
def SameT (w : World) (x y : Tok × Value) : Prop := x.1.k = y.1.k ∧ x.1.p = y.1.p ∧ x.1.t = y.1.t ∧ ∃ s, s.length ≤ 600000 ∧ RngIn w x.2 s ∧ RngIn w y.2 s

set_option maxRecDepth 100000 in
set_option maxHeartbeats 4000000 in
theorem sameT_any (l m : List (Tok × Value)) (hl : l.length ≤ 20000) (hm : m.length = l.length) (va vb : Value) (w : World) (ha : ToksIn w va l) (hb : ToksIn w vb m) (hs : ∀ i, (h : i < l.length) → (h' : i < m.length) → SameT w l[i] m[i]) :
    Calls Tryz.prog 8 #[va, vb] w fun e w' => e = .returned (.bool true) ∧ ∃ nd, w' = w.drewN nd := by
  have HA : Hid (ToksIn w va l) := ha
  have HB : Hid (ToksIn w vb m) := hb
  have HS : Hid (∀ i, (h : i < l.length) → (h' : i < m.length) → SameT w l[i] m[i]) := hs
  obtain ⟨a, ca, rfl, hca, hia⟩ := ha
  obtain ⟨b, cb, rfl, hcb, hib⟩ := hb
  rw [hm] at hcb
  clear hia hib hs
  have hneq : ((l.length : Int) != (m.length : Int)) = false := by rw [hm]; simp
  obtain ⟨N, hN⟩ : ∃ N, l.length = N := ⟨_, rfl⟩
  have HN : Hid (l.length = N) := hN
  have HM : Hid (m.length = N) := by show _ = _; omega
  rw [hm, hN]
  rw [hN] at hl hneq
  rw [HM.out] at hneq
  clear hN hm hca hcb
  go_enter Tryz.func8, Tryz.ntmps8
  go_wp2
  go_loopw [5] (fun i wr => ∃ k : Nat, k ≤ N ∧ i = .int .i64 k ∧ ∃ nd, wr = w.drewN nd) (fun i _ => N - (intOf i).toNat)
  case atStart => exact ⟨0, Nat.zero_le _, rfl, 0, rfl⟩
  case round =>
    obtain ⟨k, hk, rfl, nd, rfl⟩ := hrel
    by_cases hlt : k < N
    · have hkl : k < l.length := by rw [HN.out]; exact hlt
      have hkm : k < m.length := by rw [HM.out]; exact hlt
      obtain ⟨a', ca', ea, _, hia⟩ := HA.out
      obtain ⟨b', cb', eb, _, hib⟩ := HB.out
      obtain ⟨rfl, rfl⟩ : a = a' ∧ ca = ca' := by simp at ea; exact ea
      obtain ⟨rfl, rfl⟩ : b = b' ∧ cb = cb' := by simp at eb; exact eb
      obtain ⟨ga, oa, rfl, hga, a0, a1, a2, a3⟩ := hia k hkl
      obtain ⟨gb, ob, rfl, hgb, b0, b1, b2, b3⟩ := hib k hkm
      obtain ⟨s1, s2, s3, s, hsl, sa, sb⟩ := HS.out k hkl hkm
      rw [← s1] at b0
      rw [← s2] at b1
      rw [← s3] at b2
      obtain ⟨x, hx⟩ : ∃ x, x = l[k] := ⟨_, rfl⟩
      obtain ⟨y, hy⟩ : ∃ y, y = m[k] := ⟨_, rfl⟩
      rw [← hx] at a0 a1 a2 a3 b0 b1 b2 sa
      rw [← hy] at b3 sb
      clear hx hy s1 s2 s3 hia hib ea eb
      obtain ⟨⟨kk, pp, tt, en⟩, vx⟩ := x
      obtain ⟨ty, vy⟩ := y
      simp only at a0 a1 a2 a3 b0 b1 b2 b3 sa sb
      obtain ⟨st, hst⟩ : ∃ st, st = strOfNums tt := ⟨_, rfl⟩
      rw [← hst] at a2 b2
      have hcall : ∀ n, Calls Tryz.prog 12 #[vx, vy] (w.drewN (nd + n)) fun e w' => e = .returned (.bool true) ∧ ∃ m, w' = w.drewN (nd + m) := fun n => (sameR_any s hsl vx vy (w.drewN (nd + n)) (sa.drewN _) (sb.drewN _)).mono fun e w'' ⟨he, m, hm⟩ => ⟨he, n + m, by rw [hm, World.drewN_drewN, Nat.add_assoc]⟩
      clear hst
      obtain ⟨xa, xc, rfl, _, _⟩ := sa
      obtain ⟨ya, yc, rfl, _, _⟩ := sb
      have hk0 : (0 : Int) ≤ (k : Int) := by omega
      have hk1 : (k : Int) < (N : Int) := by omega
      have hss : (st.toList == st.toList) = true := by simp
      go_wp2
      go_quiet ((go_at_call 12; exact hcall _))
      go_wp2
      go_quiet (fail)
      go_wp2
      go_roundw
      case rel => exact ⟨k + 1, by omega, by go_num, _, rfl⟩
      case measure => simp [intOf]; omega
    · obtain rfl : k = N := by omega
      go_wp2
      go_ret
      exact ⟨rfl, _, rfl⟩
end Go.Proofs.YtdjhgjnhfmggjaaGreatDoor
