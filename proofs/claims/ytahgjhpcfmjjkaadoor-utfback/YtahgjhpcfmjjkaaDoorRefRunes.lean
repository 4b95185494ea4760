/-
  What scansionref01.Runes and scansionref01.Valid answer.
-/
import Derived.Test.YtahgjhpcfmjjkaaDoorLawDecodes
import Derived.Test.YtahgjhpcfmjjkaaDoorRunes
import Derived.Test.YtahgjhpcfmjjkaaDoorValid
namespace Go.Proofs.YtahgjhpcfmjjkaaDoor
open Go.RowKit
set_option linter.unusedVariables false

theorem take_snoc' {α : Type} (l : List α) (k : Nat) (h : k < l.length) : l.take (k + 1) = l.take k ++ [l[k]] := by
  rw [List.take_succ_eq_append_getElem h]

set_option maxRecDepth 100000 in
set_option maxHeartbeats 2000000 in
theorem refRunes_any (zs : List Int) (hby : Byt zs) (hlen : zs.length ≤ 10000) (a : Option Addr) (len cap : Nat) (w : World) (hI : BytesAt w.heap.size w (.slice a len cap) zs) :
    Calls Tryd.prog 17 #[.slice a len cap] w fun e w' => ∃ v us, e = .returned v ∧ Run zs 0 us zs.length ∧ w'.ownsRow w.heap.size 3 1 v us.length (runesV us) ∧ Below w.heap.size w w' := by
  obtain ⟨i0, hi, hz0, hz1, hz2⟩ := info_parts Tryd.infoInt
  go_enter Tryd.func17, Tryd.ntmps17
  go_wp2_with fail
  refine (refDecode_any zs hby hlen a len cap w hI).mono ?_
  rintro e w1 ⟨v1, us, rfl, hrun, ho, hB1⟩
  have hle := Run.le hrun (Nat.zero_le _)
  have hs1 := hB1.size
  obtain ⟨a1, c1, rfl, hc1, hu⟩ := units_of_row ho
  have HU : Hid (∀ i, (h : i < us.length) → ∃ g off, a1 = some ⟨g, off, none⟩ ∧ g < w1.heap.size ∧ ∀ j, j < 4 → w1.cell? ⟨g, off + i * 4 + j, none⟩ = (cellsU us[i])[j]?) := hu
  clear hu ho hI
  go_wp2
  go_loopw [4, 5] (fun v i wr => ∃ k : Nat, k ≤ us.length ∧ i = .int .i64 k ∧ wr.ownsRow w1.heap.size 3 1 v k (runesV (us.take k)) ∧ Below w1.heap.size w1 wr) (fun _ i _ => us.length - (intOf i).toNat)
  case atStart => exact ⟨0, Nat.zero_le _, rfl, World.ownsRow_nil _ _ _ _, Below.refl _ _⟩
  case round =>
    obtain ⟨k, hk, rfl, hrow, hB⟩ := hrel
    have hbs := hB.size
    by_cases hlt : k < us.length
    · obtain ⟨g, off, rfl, hg, hj⟩ := HU.out k hlt
      obtain ⟨u, hud⟩ : ∃ u, u = us[k] := ⟨_, rfl⟩
      rw [← hud] at hj
      have c0 : wr.cell? ⟨g, off + k * 4, none⟩ = some (.int .i64 u.r) := (hB.cell (p := ⟨g, off + k * 4, none⟩) hg).trans (hj 0 (by omega))
      have HT : Hid (runesV (us.take (k + 1)) = runesV (us.take k) ++ [.int .i64 u.r]) := by
        rw [take_snoc' us k hlt, runesV_snoc, ← hud]
        rfl
      clear hj hud
      have hul : Hid (∀ j, u4.ownBlock = some j → w1.heap.size ≤ j) := fun j e => (hrow.lt j e).1
      go_wp2_with (at_builtin; refine wpList_append_lies _ rfl _ _ 32 rfl w1.heap.size 3 i0 (.int .i64 0) 1 8 Tryd.underlying32 hi hz0 hz1 hz2 rfl (by decide) _ _ _ rfl (hrow.alloc _) ⟨wr.heap.size, 0, none⟩ 1 1 [.int .i64 u.r] rfl rfl (cell_one_new _ _ _) (by simp [Value.oneCell']) (by omega) (by unfold maxLen; omega) (by omega) (by simp; omega) _ rfl ?_; intro g2 cap2 w2 hown2 hgrow2 hat2 hlt2)
      have hB2 : Below w1.heap.size w1 w2 := (hB.alloc hbs _).grown hgrow2 (by simp; omega) hul.out
      go_roundw
      case rel => exact ⟨k + 1, by omega, by go_num, by rw [HT.out]; exact hown2, hB2⟩
      case measure => simp [intOf]; omega
    · obtain rfl : k = us.length := by omega
      rw [List.take_length] at hrow
      go_wp2
      go_ret
      refine ⟨_, us, rfl, hrun, ?_, hB1.trans (hB.mono hs1)⟩
      exact ⟨hrow.1, hrow.2.elim .inl fun ⟨g, c, cur, h1, h2, h3⟩ => .inr ⟨g, c, cur, h1, by omega, h3⟩⟩

set_option maxRecDepth 100000 in
set_option maxHeartbeats 2000000 in
theorem refValid_any (zs : List Int) (hby : Byt zs) (hlen : zs.length ≤ 10000) (a : Option Addr) (len cap : Nat) (w : World) (hI : BytesAt w.heap.size w (.slice a len cap) zs) :
    Calls Tryd.prog 21 #[.slice a len cap] w fun e w' => ∃ us, e = .returned (.bool (allGood us)) ∧ Run zs 0 us zs.length ∧ Below w.heap.size w w' := by
  go_enter Tryd.func21, Tryd.ntmps21
  go_wp2_with fail
  refine (refDecode_any zs hby hlen a len cap w hI).mono ?_
  rintro e w1 ⟨v1, us, rfl, hrun, ho, hB1⟩
  have hle := Run.le hrun (Nat.zero_le _)
  have hs1 := hB1.size
  obtain ⟨a1, c1, rfl, hc1, hu⟩ := units_of_row ho
  have HU : Hid (∀ i, (h : i < us.length) → ∃ g off, a1 = some ⟨g, off, none⟩ ∧ g < w1.heap.size ∧ ∀ j, j < 4 → w1.cell? ⟨g, off + i * 4 + j, none⟩ = (cellsU us[i])[j]?) := hu
  clear hu ho hI
  go_wp2
  go_loop [4] (fun i => ∃ k : Nat, k ≤ us.length ∧ i = .int .i64 k ∧ ∀ j, (h : j < k) → (h2 : j < us.length) → us[j].bad = false) (fun i => us.length - (intOf i).toNat)
  case atStart => exact ⟨0, Nat.zero_le _, rfl, fun j h => by omega⟩
  case round =>
    obtain ⟨k, hk, rfl, hgood⟩ := hrel
    have HG : Hid (∀ j, (h : j < k) → (h2 : j < us.length) → us[j].bad = false) := hgood
    clear hgood
    by_cases hlt : k < us.length
    · obtain ⟨g, off, rfl, hg, hj⟩ := HU.out k hlt
      have c3 : w1.cell? ⟨g, off + k * 4 + 3, none⟩ = some (.bool us[k].bad) := hj 3 (by omega)
      clear hj
      cases hb : us[k].bad with
      | false =>
        rw [hb] at c3
        have HB : Hid (us[k].bad = false) := hb
        clear hb
        go_wp2
        go_round
        case rel => exact ⟨k + 1, by omega, by go_num, fun j h h2 => by
          by_cases e : j = k
          · subst e; exact HB.out
          · exact HG.out j (by omega) h2⟩
        case measure => simp [intOf]; omega
      | true =>
        rw [hb] at c3
        have HB : Hid (us[k].bad = true) := hb
        clear hb
        go_wp2
        go_ret
        exact ⟨us, by rw [allGood_false (List.prefix_refl us) (List.getElem_mem hlt) HB.out]; rfl, hrun, hB1⟩
    · have HA : Hid (allGood us = true) := allGood_true (fun u hu => by
        obtain ⟨j, hj, rfl⟩ := List.mem_iff_getElem.1 hu
        exact HG.out j (by omega) hj)
      go_wp2
      go_ret
      exact ⟨us, by rw [HA.out]; rfl, hrun, hB1⟩
end Go.Proofs.YtahgjhpcfmjjkaaDoor
