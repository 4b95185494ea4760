/-
  What the document's Make answers.
-/
import Derived.Test.YtdjhgjnhfmggjaaGreatDoorPick
namespace Go.Proofs.YtdjhgjnhfmggjaaGreatDoor
open Go.RowKit
set_option linter.unusedVariables false

/-- What the document's Make tells. -/
def RefMakeTells (l : List Rg) (w : World) (e : Ending) (w' : World) : Prop :=
  ((¬ Fits l ∧ e = .returned (.tuple #[.slice none 0 0, .int .i64 1])) ∨ (Fits l ∧ ∃ s v', Upto (hasR l) s 1114112 ∧ e = .returned (.tuple #[v', .int .i64 0]) ∧ w'.ownsRow w.heap.size 51 2 v' s.length (cellsRs s))) ∧ Below w.heap.size w w'

set_option maxRecDepth 100000 in
set_option maxHeartbeats 4000000 in
theorem refMake_any (l : List Rg) (v : Value) (w : World) (hlen : l.length ≤ 20000) (hv : RngSrc w v l) :
    Calls Tryz.prog 9 #[v] w fun e w' => RefMakeTells l w e w' := by
  have HV : Hid (RngSrc w v l) := hv
  obtain ⟨a, cap, rfl, hc, hcell⟩ := hv.1
  have HA : Hid (∀ i, (h : i < l.length) → ∃ g off, a = some ⟨g, off, none⟩ ∧ g < w.heap.size ∧ w.cell? ⟨g, off + i * 2, none⟩ = some (.int .i64 l[i].lo) ∧ w.cell? ⟨g, off + i * 2 + 1, none⟩ = some (.int .i64 l[i].hi)) := hcell
  clear hcell hv
  go_enter Tryz.func9, Tryz.ntmps9
  go_wp2
  go_loopw [4] (fun x wr => ∃ k : Nat, k ≤ l.length ∧ x = .int .i64 k ∧ (∀ i, (h : i < l.length) → i < k → 0 ≤ l[i].lo ∧ l[i].lo ≤ l[i].hi ∧ l[i].hi ≤ 1114111) ∧ ∃ nd, wr = w.drewN nd) (fun x _ => l.length - (intOf x).toNat)
  case atStart => exact ⟨0, Nat.zero_le _, rfl, fun i h q => by omega, 0, rfl⟩
  case round =>
    obtain ⟨k, hk, rfl, hok, nd, rfl⟩ := hrel
    have HOK : Hid (∀ i, (h : i < l.length) → i < k → 0 ≤ l[i].lo ∧ l[i].lo ≤ l[i].hi ∧ l[i].hi ≤ 1114111) := hok
    clear hok
    by_cases hlt : k < l.length
    · obtain ⟨g, off, rfl, hg, c0, c1⟩ := HA.out k hlt
      obtain ⟨r, hr⟩ : ∃ r, r = l[k] := ⟨_, rfl⟩
      rw [← hr] at c0 c1
      have HR : Hid (r = l[k]) := hr
      clear hr
      have HNF : Hid (¬ (0 ≤ r.lo ∧ r.lo ≤ r.hi ∧ r.hi ≤ 1114111) → ¬ Fits l) := fun q f => q (f r (by rw [HR.out]; exact List.getElem_mem hlt) |> fun z => ⟨z.1, z.2.1, z.2.2⟩)
      have hk1 : (k : Int) < (l.length : Int) := by omega
      by_cases q0 : r.lo < 0
      · have HN : Hid (¬ Fits l) := HNF.out (by omega)
        go_wp2
        go_quiet (fail)
        go_wp2
        go_ret2
        exact ⟨.inl ⟨HN.out, rfl⟩, below_drewN' (below_drewN' (Below.refl _ _) nd) nq⟩
      · have q0' : decide (r.lo < 0) = false := by simpa using q0
        by_cases q1 : 1114111 < r.hi
        · have HN : Hid (¬ Fits l) := HNF.out (by omega)
          go_wp2
          go_quiet (fail)
          go_wp2
          go_ret2
          exact ⟨.inl ⟨HN.out, rfl⟩, below_drewN' (below_drewN' (Below.refl _ _) nd) nq⟩
        · have q1' : decide (1114111 < r.hi) = false := by simpa using q1
          by_cases q2 : r.hi < r.lo
          · have HN : Hid (¬ Fits l) := HNF.out (by omega)
            go_wp2
            go_quiet (fail)
            go_wp2
            go_ret2
            exact ⟨.inl ⟨HN.out, rfl⟩, below_drewN' (below_drewN' (Below.refl _ _) nd) nq⟩
          · have q2' : decide (r.hi < r.lo) = false := by simpa using q2
            have HO2 : Hid (∀ i, (h : i < l.length) → i < k + 1 → 0 ≤ l[i].lo ∧ l[i].lo ≤ l[i].hi ∧ l[i].hi ≤ 1114111) := fun i h q => by
              by_cases e : i = k
              · subst e; rw [← HR.out]; omega
              · exact HOK.out i h (by omega)
            go_wp2
            go_quiet (fail)
            go_wp2
            go_roundw
            case rel => exact ⟨k + 1, by omega, by go_num, HO2.out, _, rfl⟩
            case measure => simp [intOf]; omega
    · obtain rfl : k = l.length := by omega
      have HF : Hid (Fits l) := fun r hr => by
        obtain ⟨i, hi, rfl⟩ := List.getElem_of_mem hr
        exact HOK.out i hi hi
      have hB : Below w.heap.size w (w.drewN nd) := below_drewN' (Below.refl _ _) _
      have HP := pick_any 0 (fun x y => x || y) (.inl ⟨rfl, rfl⟩) l [] (by omega) (by simp) HF.out (fun r hr => by cases hr) _ _ (w.drewN nd) (HV.out.below hB) (RngSrc.nil _)
      clear HOK HV HA
      go_wp2_with fail
      refine HP.mono ?_
      rintro e w1 ⟨s, v1, rfl, hu, ho, hB1⟩
      have HO : Hid (w1.ownsRow w.heap.size 51 2 v1 s.length (cellsRs s)) := ho
      have HU : Hid (Upto (hasR l) s 1114112) := hu.congr (fun x _ _ => by simp [show hasR [] x = false from rfl])
      have hB2 : Below w.heap.size w w1 := hB.trans hB1
      clear HP hu ho
      go_wp2
      go_ret2
      exact ⟨.inr ⟨HF.out, s, v1, HU.out, rfl, HO.out⟩, hB2⟩
end Go.Proofs.YtdjhgjnhfmggjaaGreatDoor
