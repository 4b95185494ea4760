/-
  What the document's Make answers. The library's contract of slices.SortFunc, laid at this program (the plain text of the shelf's own laying).
-/
import Derived.Test.YtmknifnhcgdkaaaX09
import Derived.Shelf.SlSortCmp.WholeK
import Derived.Test.YtmknifnhcgdkaaaProg
namespace Go.Proofs.Ytmknifnhcgdkaaa
open Go.RowKit
set_option linter.unusedVariables false

/-- What the document's Make tells. -/
def RefMakeTells (l : List Rg) (w : World) (e : Ending) (w' : World) : Prop :=
  ((¬ Fits l ∧ e = .returned (.tuple #[.slice none 0 0, .int .i64 1])) ∨ (Fits l ∧ ∃ s v', Upto (hasR l) s 1114112 ∧ e = .returned (.tuple #[v', .int .i64 0]) ∧ w'.ownsRow w.heap.size 51 2 v' s.length (cellsRs s))) ∧ Below w.heap.size w w'

set_option maxRecDepth 100000 in
set_option maxHeartbeats 4000000 in
theorem refMake_any (l : List Rg) (v : Value) (w : World) (hlen : l.length ≤ 20000) (hv : RngSrc w v l) :
    Calls Try.prog 30 #[v] w fun e w' => RefMakeTells l w e w' := by
  have HV : Hid (RngSrc w v l) := hv
  obtain ⟨a, cap, rfl, hc, hcell⟩ := hv.1
  have HA : Hid (∀ i, (h : i < l.length) → ∃ g off, a = some ⟨g, off, none⟩ ∧ g < w.heap.size ∧ w.cell? ⟨g, off + i * 2, none⟩ = some (.int .i64 l[i].lo) ∧ w.cell? ⟨g, off + i * 2 + 1, none⟩ = some (.int .i64 l[i].hi)) := hcell
  clear hcell hv
  go_enter Try.func30, Try.ntmps30
  go_wp2
  go_loopw [4] (fun x wr => ∃ k : Nat, k ≤ l.length ∧ x = .int .i64 k ∧ (∀ i, (h : i < l.length) → i < k → 0 ≤ l[i].lo ∧ l[i].lo ≤ l[i].hi ∧ l[i].hi ≤ 1114111) ∧ ∃ nd, wr = w.drewN nd) (fun x _ => l.length - (intOf x).toNat)
  case atStart => exact ⟨0, Nat.zero_le _, rfl, fun i h q => by omega, 0, rfl⟩
  case round =>
    obtain ⟨k, hk, rfl, hok, nd, rfl⟩ := hrel
    have HOK : Hid (∀ i, (h : i < l.length) → i < k → 0 ≤ l[i].lo ∧ l[i].lo ≤ l[i].hi ∧ l[i].hi ≤ 1114111) := hok
    clear hok
    by_cases hlt : k < l.length
    · obtain ⟨g, off, rfl, hg, c0, c1⟩ := HA.out k hlt
      obtain ⟨r, hr⟩ : ∃ r, r = l[k] := ⟨_, rfl⟩
      rw [← hr] at c0 c1
      have HR : Hid (r = l[k]) := hr
      clear hr
      have HNF : Hid (¬ (0 ≤ r.lo ∧ r.lo ≤ r.hi ∧ r.hi ≤ 1114111) → ¬ Fits l) := fun q f => q (f r (by rw [HR.out]; exact List.getElem_mem hlt) |> fun z => ⟨z.1, z.2.1, z.2.2⟩)
      have hk1 : (k : Int) < (l.length : Int) := by omega
      by_cases q0 : r.lo < 0
      · have HN : Hid (¬ Fits l) := HNF.out (by omega)
        go_wp2
        go_quiet (fail)
        go_wp2
        go_ret2
        exact ⟨.inl ⟨HN.out, rfl⟩, below_drewN' (below_drewN' (Below.refl _ _) nd) nq⟩
      · have q0' : decide (r.lo < 0) = false := by simpa using q0
        by_cases q1 : 1114111 < r.hi
        · have HN : Hid (¬ Fits l) := HNF.out (by omega)
          go_wp2
          go_quiet (fail)
          go_wp2
          go_ret2
          exact ⟨.inl ⟨HN.out, rfl⟩, below_drewN' (below_drewN' (Below.refl _ _) nd) nq⟩
        · have q1' : decide (1114111 < r.hi) = false := by simpa using q1
          by_cases q2 : r.hi < r.lo
          · have HN : Hid (¬ Fits l) := HNF.out (by omega)
            go_wp2
            go_quiet (fail)
            go_wp2
            go_ret2
            exact ⟨.inl ⟨HN.out, rfl⟩, below_drewN' (below_drewN' (Below.refl _ _) nd) nq⟩
          · have q2' : decide (r.hi < r.lo) = false := by simpa using q2
            have HO2 : Hid (∀ i, (h : i < l.length) → i < k + 1 → 0 ≤ l[i].lo ∧ l[i].lo ≤ l[i].hi ∧ l[i].hi ≤ 1114111) := fun i h q => by
              by_cases e : i = k
              · subst e; rw [← HR.out]; omega
              · exact HOK.out i h (by omega)
            go_wp2
            go_quiet (fail)
            go_wp2
            go_roundw
            case rel => exact ⟨k + 1, by omega, by go_num, HO2.out, _, rfl⟩
            case measure => simp [intOf]; omega
    · obtain rfl : k = l.length := by omega
      have HF : Hid (Fits l) := fun r hr => by
        obtain ⟨i, hi, rfl⟩ := List.getElem_of_mem hr
        exact HOK.out i hi hi
      have hB : Below w.heap.size w (w.drewN nd) := below_drewN' (Below.refl _ _) _
      have HP := pick_any 0 (fun x y => x || y) (.inl ⟨rfl, rfl⟩) l [] (by omega) (by simp) HF.out (fun r hr => by cases hr) _ _ (w.drewN nd) (HV.out.below hB) (RngSrc.nil _)
      clear HOK HV HA
      go_wp2_with fail
      refine HP.mono ?_
      rintro e w1 ⟨s, v1, rfl, hu, ho, hB1⟩
      have HO : Hid (w1.ownsRow w.heap.size 51 2 v1 s.length (cellsRs s)) := ho
      have HU : Hid (Upto (hasR l) s 1114112) := hu.congr (fun x _ _ => by simp [show hasR [] x = false from rfl])
      have hB2 : Below w.heap.size w w1 := hB.trans hB1
      clear HP hu ho
      go_wp2
      go_ret2
      exact ⟨.inr ⟨HF.out, s, v1, HU.out, rfl, HO.out⟩, hB2⟩
end Go.Proofs.Ytmknifnhcgdkaaa

namespace Go.Proofs.Ytmknifnhcgdkaaa
open Go.Shelf
def sortR_ren : Go.Shelf.Ren := ⟨fun | 6 => 50 | 15 => 61 | 14 => 60 | 28 => 74 | 29 => 75 | 20 => 66 | 21 => 67 | 22 => 68 | 23 => 69 | 24 => 70 | 25 => 71 | 26 => 72 | 27 => 73 | 46 => 76 | 47 => 77 | 48 => 78 | 49 => 79 | 50 => 80 | 57 => 81 | n => n, fun | 22 => 46 | 24 => 51 | 25 => 101 | 3 => 3 | 39 => 47 | 0 => 0 | 53 => 128 | 55 => 34 | 4 => 4 | 46 => 122 | 45 => 121 | 50 => 81 | 5 => 5 | 9 => 9 | 66 => 129 | 70 => 133 | 76 => 135 | 77 => 136 | n => n, fun | n => n⟩
theorem sortR : Go.Proofs.SlLaysF0.n6 Try.prog sortR_ren := {
  mixed := by kernel_rfl
  f6 := ⟨Try.f50.name, by decide, Try.func50.trans (congrArg some (by kernel_rfl))⟩
  f14 := ⟨Try.f60.name, by decide, Try.func60.trans (congrArg some (by kernel_rfl))⟩
  f15 := Try.func61.trans (congrArg some (by kernel_rfl))
  f20 := ⟨Try.f66.name, by decide, Try.func66.trans (congrArg some (by kernel_rfl))⟩
  f21 := ⟨Try.f67.name, by decide, Try.func67.trans (congrArg some (by kernel_rfl))⟩
  f22 := ⟨Try.f68.name, by decide, Try.func68.trans (congrArg some (by kernel_rfl))⟩
  f23 := ⟨Try.f69.name, by decide, Try.func69.trans (congrArg some (by kernel_rfl))⟩
  f24 := ⟨Try.f70.name, by decide, Try.func70.trans (congrArg some (by kernel_rfl))⟩
  f25 := ⟨Try.f71.name, by decide, Try.func71.trans (congrArg some (by kernel_rfl))⟩
  f26 := ⟨Try.f72.name, by decide, Try.func72.trans (congrArg some (by kernel_rfl))⟩
  f27 := ⟨Try.f73.name, by decide, Try.func73.trans (congrArg some (by kernel_rfl))⟩
  f28 := Try.func74.trans (congrArg some (by kernel_rfl))
  f29 := Try.func75.trans (congrArg some (by kernel_rfl))
  f46 := ⟨Try.f76.name, by decide, Try.func76.trans (congrArg some (by kernel_rfl))⟩
  f47 := Try.func77.trans (congrArg some (by kernel_rfl))
  f48 := Try.func78.trans (congrArg some (by kernel_rfl))
  f49 := ⟨Try.f79.name, by decide, Try.func79.trans (congrArg some (by kernel_rfl))⟩
  f50 := ⟨Try.f80.name, by decide, Try.func80.trans (congrArg some (by kernel_rfl))⟩
  f57 := ⟨Try.f81.name, by decide, Try.func81.trans (congrArg some (by kernel_rfl))⟩
  t0 := Try.underlying0
  a0 := Try.isAgg0
  z0 := Try.sizeOf0
  v0 := Try.zeroValue0
  t3 := Try.underlying3
  a3 := Try.isAgg3
  z3 := Try.sizeOf3
  v3 := Try.zeroValue3
  t4 := Try.underlying4
  a4 := Try.isAgg4
  z4 := Try.sizeOf4
  v4 := Try.zeroValue4
  t5 := Try.underlying5
  a5 := Try.isAgg5
  z5 := Try.sizeOf5
  v5 := Try.zeroValue5
  t9 := Try.underlying9
  a9 := Try.isAgg9
  z9 := Try.sizeOf9
  v9 := Try.zeroValue9
  t22 := Try.underlying46
  a22 := Try.isAgg46
  z22 := Try.sizeOf46
  v22 := Try.zeroValue46
  t25 := Try.underlying101
  a25 := Try.isAgg101
  z25 := Try.sizeOf101
  v25 := Try.zeroValue101
  t39 := Try.underlying47
  a39 := Try.isAgg47
  z39 := Try.sizeOf47
  v39 := Try.zeroValue47
  t45 := Try.underlying121
  a45 := Try.isAgg121
  z45 := Try.sizeOf121
  v45 := Try.zeroValue121
  t46 := Try.underlying122
  a46 := Try.isAgg122
  z46 := Try.sizeOf122
  v46 := Try.zeroValue122
  t50 := Try.underlying81
  a50 := Try.isAgg81
  z50 := Try.sizeOf81
  v50 := Try.zeroValue81
  t53 := Try.underlying128
  a53 := Try.isAgg128
  z53 := Try.sizeOf128
  v53 := Try.zeroValue128
  t55 := Try.underlying34
  a55 := Try.isAgg34
  z55 := Try.sizeOf34
  v55 := Try.zeroValue34
  t66 := Try.underlying129
  a66 := Try.isAgg129
  z66 := Try.sizeOf129
  v66 := Try.zeroValue129
  t70 := Try.underlying133
  a70 := Try.isAgg133
  z70 := Try.sizeOf133
  v70 := Try.zeroValue133
  t76 := Try.underlying135
  a76 := Try.isAgg135
  z76 := Try.sizeOf135
  v76 := Try.zeroValue135
  t77 := Try.underlying136
  a77 := Try.isAgg136
  z77 := Try.sizeOf136
  v77 := Try.zeroValue136 }
end Go.Proofs.Ytmknifnhcgdkaaa
