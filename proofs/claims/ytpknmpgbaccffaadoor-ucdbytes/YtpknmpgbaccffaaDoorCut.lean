/-
  ucd.cut: a part whose count stands ahead.
-/
import Derived.Test.YtpknmpgbaccffaaDoorSaveU
import Derived.Test.YtpknmpgbaccffaaDoorRefLoad
import Derived.Laws.Bits64b
namespace Go.Proofs.YtpknmpgbaccffaaDoor
open Go.RowKit
set_option linter.unusedVariables false

/-- The count that stands ahead. -/
def cnB (l : List Int) : Nat := (l[0]?.getD 0).toNat + 256 * (l[1]?.getD 0).toNat + 65536 * (l[2]?.getD 0).toNat + 16777216 * (l[3]?.getD 0).toNat
def cutOk (l : List Int) : Bool := decide (4 ≤ l.length) && decide (cnB l ≤ l.length - 4)

theorem u64_in (n : Nat) (h : n < 18446744073709551616) : IntKind.u64.wrap (n : Int) = (n : Int) := by
  rw [IntKind.wrap_u64]; omega
/-- A digit put ahead of lower ones. -/
theorem or_digit (a b k s : Nat) (hs : s = 2 ^ k) (ha : a < s) (hb : b ≤ 255) (hk : s ≤ 16777216) : bits .or .u64 (a : Int) (IntKind.u64.wrap (IntKind.u64.wrap (b : Int) * (s : Int))) = ((a + s * b : Nat) : Int) := by
  have h1 : s * b ≤ 16777216 * 255 := Nat.mul_le_mul hk hb
  have e1 : (b : Int) * (s : Int) = ((s * b : Nat) : Int) := by rw [Nat.mul_comm]; simp
  rw [u64_in b (by omega), e1, u64_in (s * b) (by omega), bits_or_u64_nat a (s * b) (by omega) (by omega)]
  have h2 := Nat.two_pow_add_eq_or_of_lt (i := k) (b := a) (by omega) b
  rw [← hs] at h2
  rw [Nat.or_comm, ← h2, Nat.add_comm]

set_option maxRecDepth 100000 in
set_option maxHeartbeats 8000000 in
theorem cut_any (N : Nat) (l : List Int) (v : Value) (w : World) (hv : BytesAt N w v l) (hby : ByL l) (hl : l.length ≤ 1000000) :
    Calls Tryd.prog 31 #[v] w fun e w' => ∃ v1 v2, e = .returned (.tuple #[v1, v2, .bool (cutOk l)]) ∧ (cutOk l = true → BytesAt N w' v1 ((l.drop 4).take (cnB l)) ∧ BytesAt N w' v2 (l.drop (4 + cnB l))) ∧ Below w.heap.size w w' := by
  obtain ⟨a, cap, rfl, hcap, hcl⟩ := hv
  by_cases hs : l.length < 4
  · have hs' : (l.length : Int) < 4 := by omega
    have e0 : cutOk l = false := by unfold cutOk; simp; omega
    rw [e0]
    clear e0
    go_enter Tryd.func31, Tryd.ntmps31
    go_wp2
    go_ret3
    exact ⟨_, _, rfl, fun h => (by cases h), Below.refl _ _⟩
  · have hs' : decide ((l.length : Int) < 4) = false := by simp; omega
    obtain ⟨x0, hx0⟩ : ∃ x : Nat, l[0]'(by omega) = (x : Int) := ⟨(l[0]).toNat, by have := hby l[0] (List.getElem_mem _); omega⟩
    obtain ⟨x1, hx1⟩ : ∃ x : Nat, l[1]'(by omega) = (x : Int) := ⟨(l[1]).toNat, by have := hby l[1] (List.getElem_mem _); omega⟩
    obtain ⟨x2, hx2⟩ : ∃ x : Nat, l[2]'(by omega) = (x : Int) := ⟨(l[2]).toNat, by have := hby l[2] (List.getElem_mem _); omega⟩
    obtain ⟨x3, hx3⟩ : ∃ x : Nat, l[3]'(by omega) = (x : Int) := ⟨(l[3]).toNat, by have := hby l[3] (List.getElem_mem _); omega⟩
    obtain ⟨g, off, rfl, hg, c0⟩ := hcl 0 (by omega)
    have hcc : ∀ i (h : i < l.length), w.cell? ⟨g, off + i, none⟩ = some (.int .u8 l[i]) := fun i h => by
      obtain ⟨g', off', e, _, hc⟩ := hcl i h
      obtain ⟨rfl, rfl⟩ : g = g' ∧ off = off' := by simpa using e
      exact hc
    have d0 := hcc 0 (by omega)
    have d1 := hcc 1 (by omega)
    have d2 := hcc 2 (by omega)
    have d3 := hcc 3 (by omega)
    rw [Nat.add_zero] at d0
    rw [hx0] at d0
    rw [hx1] at d1
    rw [hx2] at d2
    rw [hx3] at d3
    have HV : Hid (BytesAt N w (.slice (some ⟨g, off, none⟩) l.length cap) l) := ⟨_, cap, rfl, hcap, hcl⟩
    obtain ⟨M, hM⟩ : ∃ M, M = l.length := ⟨_, rfl⟩
    have l0 : (0 : Int) < (M : Int) := by omega
    have l1 : (1 : Int) < (M : Int) := by omega
    have l2 : (2 : Int) < (M : Int) := by omega
    have l3 : (3 : Int) < (M : Int) := by omega
    have hs2 : decide ((M : Int) < 4) = false := by rw [hM]; exact hs'
    rw [← hM]
    have HX : Hid (x0 ≤ 255 ∧ x1 ≤ 255 ∧ x2 ≤ 255 ∧ x3 ≤ 255) := by
      have h0 := hby l[0] (List.getElem_mem _)
      have h1 := hby l[1] (List.getElem_mem _)
      have h2 := hby l[2] (List.getElem_mem _)
      have h3 := hby l[3] (List.getElem_mem _)
      rw [hx0] at h0
      rw [hx1] at h1
      rw [hx2] at h2
      rw [hx3] at h3
      show _ ∧ _
      omega
    have HCN : Hid (cnB l = x0 + 256 * x1 + 65536 * x2 + 16777216 * x3) := by
      show _ = _
      unfold cnB
      rw [List.getElem?_eq_getElem (by omega), List.getElem?_eq_getElem (by omega), List.getElem?_eq_getElem (by omega), List.getElem?_eq_getElem (by omega)]
      simp only [Option.getD_some, hx0, hx1, hx2, hx3, Int.toNat_natCast]
    have HM : Hid (M = l.length ∧ 4 ≤ M ∧ M ≤ 1000000 ∧ M ≤ cap) := ⟨hM, by omega, by omega, by omega⟩
    obtain ⟨ok, hokd⟩ : ∃ ok, ok = cutOk l := ⟨_, rfl⟩
    have HOKD : Hid (ok = cutOk l) := hokd
    rw [← hokd]
    clear hcl hcc c0 hs' hx0 hx1 hx2 hx3 hs hl hM hby hokd
    go_enter Tryd.func31, Tryd.ntmps31
    go_wp2_with fail
    go_loopw [5, 10] (fun y x wr => wr = w ∧ ((x = .int .i64 0 ∧ y = .int .u64 0) ∨ (x = .int .i64 1 ∧ y = .int .u64 (x0 : Int)) ∨ (x = .int .i64 2 ∧ y = .int .u64 ((x0 + 256 * x1 : Nat) : Int)) ∨ (x = .int .i64 3 ∧ y = .int .u64 ((x0 + 256 * x1 + 65536 * x2 : Nat) : Int)) ∨ (x = .int .i64 4 ∧ y = .int .u64 ((x0 + 256 * x1 + 65536 * x2 + 16777216 * x3 : Nat) : Int)))) (fun _ x _ => 4 - (intOf x).toNat)
    case atStart => exact ⟨rfl, .inl ⟨rfl, rfl⟩⟩
    case round =>
      obtain ⟨rfl, hc⟩ := hrel
      rcases hc with ⟨rfl, rfl⟩ | ⟨rfl, rfl⟩ | ⟨rfl, rfl⟩ | ⟨rfl, rfl⟩ | ⟨rfl, rfl⟩
      · have h1 : bits BinOp.or IntKind.u64 0 (IntKind.u64.wrap (IntKind.u64.wrap (x0 : Int))) = (x0 : Int) := by
          have := or_digit 0 x0 0 1 rfl (by omega) HX.out.1 (by omega)
          simpa using this
        have H1 : Hid (bits BinOp.or IntKind.u64 0 (IntKind.u64.wrap (IntKind.u64.wrap (x0 : Int))) = (x0 : Int)) := h1
        clear h1
        go_wp2_with fail
        go_roundw
        case rel => exact ⟨trivial, .inr (.inl ⟨rfl, congrArg (Value.int .u64) H1.out⟩)⟩
        case measure => simp [intOf]
      · have H1 : Hid (bits BinOp.or IntKind.u64 (x0 : Int) (IntKind.u64.wrap (IntKind.u64.wrap (x1 : Int) * 256)) = ((x0 + 256 * x1 : Nat) : Int)) := or_digit x0 x1 8 256 rfl (by have := HX.out; omega) HX.out.2.1 (by omega)
        go_wp2_with fail
        go_roundw
        case rel => exact ⟨trivial, .inr (.inr (.inl ⟨rfl, congrArg (Value.int .u64) H1.out⟩))⟩
        case measure => simp [intOf]
      · have H1 : Hid (bits BinOp.or IntKind.u64 ((x0 : Int) + 256 * (x1 : Int)) (IntKind.u64.wrap (IntKind.u64.wrap (x2 : Int) * 65536)) = ((x0 + 256 * x1 + 65536 * x2 : Nat) : Int)) := by
          have e : (x0 : Int) + 256 * (x1 : Int) = ((x0 + 256 * x1 : Nat) : Int) := by omega
          show _ = _
          rw [e]
          exact or_digit (x0 + 256 * x1) x2 16 65536 rfl (by have := HX.out; omega) HX.out.2.2.1 (by omega)
        go_wp2_with fail
        go_roundw
        case rel => exact ⟨trivial, .inr (.inr (.inr (.inl ⟨rfl, congrArg (Value.int .u64) H1.out⟩)))⟩
        case measure => simp [intOf]
      · have H1 : Hid (bits BinOp.or IntKind.u64 ((x0 : Int) + 256 * (x1 : Int) + 65536 * (x2 : Int)) (IntKind.u64.wrap (IntKind.u64.wrap (x3 : Int) * 16777216)) = ((x0 + 256 * x1 + 65536 * x2 + 16777216 * x3 : Nat) : Int)) := by
          have e : (x0 : Int) + 256 * (x1 : Int) + 65536 * (x2 : Int) = ((x0 + 256 * x1 + 65536 * x2 : Nat) : Int) := by omega
          show _ = _
          rw [e]
          exact or_digit (x0 + 256 * x1 + 65536 * x2) x3 24 16777216 rfl (by have := HX.out; omega) HX.out.2.2.2 (by omega)
        go_wp2_with fail
        go_roundw
        case rel => exact ⟨trivial, .inr (.inr (.inr (.inr ⟨rfl, congrArg (Value.int .u64) H1.out⟩)))⟩
        case measure => simp [intOf]
      · obtain ⟨n, hn⟩ : ∃ n, n = x0 + 256 * x1 + 65536 * x2 + 16777216 * x3 := ⟨_, rfl⟩
        have HCN2 : Hid (cnB l = n) := by show _ = _; rw [HCN.out, hn]
        have HNB : Hid (n < 4294967296) := by show _ < _; have := HX.out; omega
        rw [← hn]
        clear HCN hn d0 d1 d2 d3 HX
        have hq1 : (4 : Int) ≤ (M : Int) := by have := HM.out; omega
        have hq2 : (4 : Int) ≤ (cap : Int) := by have := HM.out; omega
        have hwM : IntKind.u64.wrap ((M - 4 : Nat) : Int) = ((M - 4 : Nat) : Int) := u64_in _ (by have := HM.out; omega)
        by_cases hcp : cap = 4
        · have hM4 : M = 4 := by have := HM.out; omega
          have HL4 : Hid (l.length = 4) := by show _ = _; have := HM.out; omega
          have HE4 : Hid (l.drop (4 + 0) = []) := by show _ = _; rw [List.drop_eq_nil_iff]; have := HL4.out; omega
          subst hM4 hcp
          by_cases hok : n = 0
          · subst hok
            have e0 : ok = true := by rw [HOKD.out]; unfold cutOk; rw [HCN2.out]; have := HL4.out; simp; omega
            subst e0
            clear HM hwM
            go_wp2_with fail
            go_quiet (fail)
            go_wp2_with fail
            go_ret3
            refine ⟨_, _, rfl, ⟨?_, ?_⟩, below_drewN' (Below.refl _ _) _⟩
            · rw [HCN2.out]; exact ⟨_, 0, rfl, Nat.le_refl _, fun i hi => by simp at hi⟩
            · rw [HCN2.out, HE4.out]; exact ⟨_, 0, rfl, Nat.le_refl _, fun i hi => by simp at hi⟩
          · have hok' : decide ((0 : Int) < (n : Int)) = true := by simp; omega
            have hok2 : decide (0 < n) = true := by simp; omega
            have e0 : ok = false := by rw [HOKD.out]; unfold cutOk; rw [HCN2.out]; have := HL4.out; simp; omega
            subst e0
            clear HM hwM hok
            go_wp2_with fail
            go_ret3
            exact ⟨_, _, rfl, fun h => (by cases h), Below.refl _ _⟩
        have hcp2 : ¬ (cap - 4 = 0) := by have := HM.out; omega
        by_cases hok : n ≤ M - 4
        · have hok' : decide (((M - 4 : Nat) : Int) < (n : Int)) = false := by simp; omega
          have hok2 : decide (M - 4 < n) = false := by simp; omega
          have e0 : ok = true := by rw [HOKD.out]; unfold cutOk; rw [HCN2.out]; have := HM.out; simp; omega
          subst e0
          have hq3 : (n : Int) ≤ ((cap - 4 : Nat) : Int) := by have := HM.out; omega
          have hq4 : (n : Int) ≤ ((M - 4 : Nat) : Int) := by omega
          have HP : Hid (BytesAt N wr (.slice (some ⟨g, off + 4, none⟩) n (cap - 4)) ((l.drop 4).take n)) := by
            have h1 : BytesAt N wr (.slice (some ⟨g, off, none⟩) l.length cap) l := HV.out
            exact h1.part (i := 4) (m := n) (by have := HM.out; omega)
          by_cases hcn : cap - 4 = n
          · have HE : Hid (l.drop (4 + n) = []) := by show _ = _; rw [List.drop_eq_nil_iff]; have := HM.out; omega
            have hmn : M - 4 = n := by have := HM.out; omega
            have hwn : IntKind.u64.wrap (n : Int) = (n : Int) := u64_in _ (by have := HNB.out; omega)
            have HP2 : Hid (BytesAt N wr (.slice (some ⟨g, off + 4, none⟩) n n) ((l.drop 4).take n)) := by have := HP.out; rw [hcn] at this; exact this
            have hir : decide ((n : Int) < (n : Int)) = false := by simp
            clear HP
            go_wp2_with fail
            go_quiet (fail)
            go_wp2_with fail
            go_ret3
            refine ⟨_, _, rfl, ⟨?_, ?_⟩, below_drewN' (Below.refl _ _) _⟩
            · rw [HCN2.out]; exact HP2.out.below (below_drewN' (Below.refl _ _) _)
            · rw [HCN2.out, HE.out]; exact ⟨_, _, rfl, Nat.zero_le _, fun i hi => by simp at hi⟩
          · have hcn2 : ¬ (cap - 4 - n = 0) := by have := HM.out; omega
            have HR : Hid (BytesAt N wr (.slice (some ⟨g, off + 4 + n, none⟩) (M - 4 - n) (cap - 4 - n)) (l.drop (4 + n))) := by
              have h1 : BytesAt N wr (.slice (some ⟨g, off, none⟩) l.length cap) l := HV.out
              have h2 := h1.part (i := 4 + n) (m := M - 4 - n) (by have := HM.out; omega)
              have e1 : (l.drop (4 + n)).take (M - 4 - n) = l.drop (4 + n) := List.take_of_length_le (by rw [List.length_drop]; have := HM.out; omega)
              rw [e1, ← Nat.add_assoc, ← Nat.sub_sub] at h2
              exact h2
            go_wp2_with fail
            go_quiet (fail)
            go_wp2_with fail
            go_ret3
            refine ⟨_, _, rfl, ⟨?_, ?_⟩, below_drewN' (Below.refl _ _) _⟩
            · rw [HCN2.out]; exact HP.out.below (below_drewN' (Below.refl _ _) _)
            · rw [HCN2.out]; exact HR.out.below (below_drewN' (Below.refl _ _) _)
        · have hok' : decide (((M - 4 : Nat) : Int) < (n : Int)) = true := by simp; omega
          have hok2 : decide (M - 4 < n) = true := by simp; omega
          have e0 : ok = false := by rw [HOKD.out]; unfold cutOk; rw [HCN2.out]; have := HM.out; simp; omega
          subst e0
          go_wp2_with fail
          go_ret3
          exact ⟨_, _, rfl, fun h => (by cases h), Below.refl _ _⟩
end Go.Proofs.YtpknmpgbaccffaaDoor
