/-
  What ranges.Make answers: the one list of the numbers of any ranges, or the error.
-/
import Derived.Test.YtmknifnhcgdkaaaX11
namespace Go.Proofs.Ytmknifnhcgdkaaa
open Go.RowKit
set_option linter.unusedVariables false

theorem own_mono {w : World} {b c e size n : Nat} {v : Value} {xs : List Value} (h : w.ownsRow b e size v n xs) (hc : c ≤ b) : w.ownsRow c e size v n xs := by
  refine ⟨h.1, ?_⟩
  rcases h.2 with q | ⟨g, cap, cur, rfl, hb, r⟩
  · exact .inl q
  · exact .inr ⟨g, cap, cur, rfl, by omega, r⟩

/-- The ranges are such as may be handed in, or not. -/
def okR (r : Rg) : Bool := decide (0 ≤ r.lo ∧ r.lo ≤ r.hi ∧ r.hi ≤ 1114111)
theorem fits_take {l : List Rg} (h : ∀ i, (hi : i < l.length) → 0 ≤ l[i].lo ∧ l[i].lo ≤ l[i].hi ∧ l[i].hi ≤ 1114111) : Fits l := fun r hr => by
  obtain ⟨i, hi, rfl⟩ := List.getElem_of_mem hr
  exact h i hi

/-- What Make tells. -/
def MakeTells (l : List Rg) (w : World) (e : Ending) (w' : World) : Prop :=
  ((¬ Fits l ∧ e = .returned (.tuple #[.slice none 0 0, .int .i64 1])) ∨ (Fits l ∧ ∃ s v', Upto (hasR l) s 1114112 ∧ s.length ≤ l.length ∧ e = .returned (.tuple #[v', .int .i64 0]) ∧ w'.ownsRow w.heap.size 51 2 v' s.length (cellsRs s))) ∧ Below w.heap.size w w'

theorem addL_length (l : List Rg) (r : Rg) : (addL l r).length ≤ l.length + 1 := by
  rcases list_last l with rfl | ⟨ini, s, rfl⟩
  · simp [addL_nil]
  · by_cases q : r.lo ≤ s.hi + 1
    · rw [addL_join q]; simp
    · rw [addL_snoc q]; simp

set_option maxRecDepth 100000 in
set_option maxHeartbeats 4000000 in
theorem make_any (l : List Rg) (v : Value) (w : World) (hbig : l.length * 16 ≤ 140737488355328) (hv : RngIn w v l) :
    Calls Try.prog 39 #[v] w fun e w' => MakeTells l w e w' := by
  have HV : Hid (RngIn w v l) := hv
  obtain ⟨a, cap, rfl, hc, hcell⟩ := hv
  have HA : Hid (∀ i, (h : i < l.length) → ∃ g off, a = some ⟨g, off, none⟩ ∧ g < w.heap.size ∧ w.cell? ⟨g, off + i * 2, none⟩ = some (.int .i64 l[i].lo) ∧ w.cell? ⟨g, off + i * 2 + 1, none⟩ = some (.int .i64 l[i].hi)) := hcell
  clear hcell
  go_enter Try.func39, Try.ntmps39
  go_wp2
  go_loopw [12] (fun x wr => ∃ k : Nat, k ≤ l.length ∧ x = .int .i64 k ∧ (∀ i, (h : i < l.length) → i < k → 0 ≤ l[i].lo ∧ l[i].lo ≤ l[i].hi ∧ l[i].hi ≤ 1114111) ∧ Below w.heap.size w wr) (fun x _ => l.length - (intOf x).toNat)
  case atStart => exact ⟨0, Nat.zero_le _, rfl, fun i h q => by omega, Below.refl _ _⟩
  case round =>
    obtain ⟨k, hk, rfl, hok, hB⟩ := hrel
    have HOK : Hid (∀ i, (h : i < l.length) → i < k → 0 ≤ l[i].lo ∧ l[i].lo ≤ l[i].hi ∧ l[i].hi ≤ 1114111) := hok
    clear hok
    have hbs := hB.size
    by_cases hlt : k < l.length
    · obtain ⟨g, off, rfl, hg, c0, c1⟩ := HA.out k hlt
      obtain ⟨r, hr⟩ : ∃ r, r = l[k] := ⟨_, rfl⟩
      rw [← hr] at c0 c1
      have HR : Hid (r = l[k]) := hr
      have d0 : wr.cell? ⟨g, off + k * 2, none⟩ = some (.int .i64 r.lo) := (hB.cell (p := ⟨g, _, none⟩) hg).trans c0
      have d1 : wr.cell? ⟨g, off + k * 2 + 1, none⟩ = some (.int .i64 r.hi) := (hB.cell (p := ⟨g, _, none⟩) hg).trans c1
      clear c0 c1 hr
      have hB2 : Below w.heap.size w (wr.alloc (.cells #[.int .i64 r.lo, .int .i64 r.hi] 51)) := hB.alloc hbs _
      have HNF : Hid (¬ (0 ≤ r.lo ∧ r.lo ≤ r.hi ∧ r.hi ≤ 1114111) → ¬ Fits l) := fun q f => q (f r (by rw [HR.out]; exact List.getElem_mem hlt) |> fun z => ⟨z.1, z.2.1, z.2.2⟩)
      by_cases q0 : r.lo < 0
      · have HN : Hid (¬ Fits l) := HNF.out (by omega)
        go_wp2
        go_ret2
        exact ⟨.inl ⟨HN.out, rfl⟩, hB2⟩
      · by_cases q1 : 1114111 < r.hi
        · have HN : Hid (¬ Fits l) := HNF.out (by omega)
          go_wp2
          go_ret2
          exact ⟨.inl ⟨HN.out, rfl⟩, hB2⟩
        · by_cases q2 : r.hi < r.lo
          · have HN : Hid (¬ Fits l) := HNF.out (by omega)
            go_wp2
            go_ret2
            exact ⟨.inl ⟨HN.out, rfl⟩, hB2⟩
          · have HO2 : Hid (∀ i, (h : i < l.length) → i < k + 1 → 0 ≤ l[i].lo ∧ l[i].lo ≤ l[i].hi ∧ l[i].hi ≤ 1114111) := fun i h q => by
              by_cases e : i = k
              · subst e; rw [← HR.out]; omega
              · exact HOK.out i h (by omega)
            go_wp2
            go_roundw
            case rel => exact ⟨k + 1, by omega, by go_num, HO2.out, hB2⟩
            case measure => simp [intOf]; omega
    · obtain rfl : k = l.length := by omega
      have HF : Hid (Fits l) := fits_take (fun i hi => HOK.out i hi hi)
      clear HOK
      go_wp2_with fail
      refine (clone_any l _ wr hbig (HV.out.below hB)).mono ?_
      rintro e w1 ⟨v1, rfl, ho1, hB1⟩
      have hs1 := hB1.size
      have HO1 : Hid (w1.ownsRow wr.heap.size 51 2 v1 l.length (cellsRs l)) := ho1
      clear ho1
      go_wp2_with fail
      refine (sort_any wr.heap.size l v1 w1 (by omega) hs1 HO1.out).mono ?_
      rintro e w2 ⟨rfl, s, hord, hv2, hB2⟩
      have hs2 := hB2.size
      have hB02 : Below w.heap.size w w2 := (hB.trans (hB1.mono hbs)).trans (hB2.mono (by omega))
      have HV2 : Hid (RngIn w2 v1 s) := hv2
      have HORD : Hid (Ordered l s) := hord
      have hsl : s.length = l.length := hord.1
      obtain ⟨a2, cap2, rfl, hc2, hcell2⟩ := hv2
      have HC2 : Hid (∀ i, (h : i < s.length) → ∃ g off, a2 = some ⟨g, off, none⟩ ∧ g < w2.heap.size ∧ w2.cell? ⟨g, off + i * 2, none⟩ = some (.int .i64 s[i].lo) ∧ w2.cell? ⟨g, off + i * 2 + 1, none⟩ = some (.int .i64 s[i].hi)) := hcell2
      have HSF : Hid (Fits s) := fun r hr => HF.out r ((hord.2.1 r).1 hr)
      have HBB : Hid (Below w.heap.size w w2) := hB02
      have hbs2 := hB02.size
      clear hcell2 hord HO1 HV2 hB1 hB2 hB hB02 hs1 hs2 hbs HA HV
      go_wp2
      go_loopw [7, 38] (fun y x wr => ∃ (k : Nat) (out : List Rg) (b : Int), k ≤ s.length ∧ x = .int .i64 k ∧ Grown (s.take k) out b ∧ (∀ i, (h : i < s.length) → k ≤ i → b ≤ s[i].lo) ∧ out.length ≤ k ∧ wr.ownsRow w2.heap.size 51 2 y out.length (cellsRs out) ∧ Below w2.heap.size w2 wr) (fun _ x _ => s.length - (intOf x).toNat)
      case atStart => exact ⟨0, [], 0, Nat.zero_le _, rfl, ⟨trivial, fun x => rfl, fun t ht => by cases ht⟩, fun i h q => (HSF.out _ (List.getElem_mem h)).1, Nat.le_refl _, World.ownsRow_nil _ _ _ _, Below.refl _ _⟩
      case round =>
        obtain ⟨k, out, b, hk2, rfl, hgr, hbl, hol, ho, hB3⟩ := hrel
        have HGR : Hid (Grown (s.take k) out b) := hgr
        have HBL : Hid (∀ i, (h : i < s.length) → k ≤ i → b ≤ s[i].lo) := hbl
        have HO : Hid (wr.ownsRow w2.heap.size 51 2 _ out.length (cellsRs out)) := ho
        have HFT : Hid (Fits (s.take k)) := fun r hr => HSF.out r (List.mem_of_mem_take hr)
        have HUP : Hid (Upto (hasR (s.take k)) out 1114112) := hgr.upto HFT.out
        clear hgr hbl ho
        have hbs3 := hB3.size
        by_cases hlt2 : k < s.length
        · obtain ⟨g, off, rfl, hg, c0, c1⟩ := HC2.out k hlt2
          obtain ⟨r, hr⟩ : ∃ r, r = s[k] := ⟨_, rfl⟩
          rw [← hr] at c0 c1
          have HR : Hid (r = s[k]) := hr
          have hrf := HSF.out r (by rw [hr]; exact List.getElem_mem hlt2)
          have hrb : b ≤ r.lo := by rw [hr]; exact HBL.out k hlt2 (Nat.le_refl _)
          have d0 : wr.cell? ⟨g, off + k * 2, none⟩ = some (.int .i64 r.lo) := (hB3.cell (p := ⟨g, _, none⟩) hg).trans c0
          have d1 : wr.cell? ⟨g, off + k * 2 + 1, none⟩ = some (.int .i64 r.hi) := (hB3.cell (p := ⟨g, _, none⟩) hg).trans c1
          have HTK : Hid (s.take (k + 1) = s.take k ++ [r]) := by show _ = _; rw [hr]; exact List.take_succ_eq_append_getElem hlt2
          clear c0 c1 hr
          have HG2 : Hid (Grown (s.take (k + 1)) (addL out r) r.lo) := by
            show Grown _ _ _
            rw [HTK.out]
            exact HGR.out.add r hrf.1 hrb hrf.2.1
          have HL2 : Hid ((addL out r).length ≤ k + 1) := by have := addL_length out r; show _ ≤ _; omega
          have HBL2 : Hid (∀ i, (h : i < s.length) → k + 1 ≤ i → r.lo ≤ s[i].lo) := fun i h q => by rw [HR.out]; exact HORD.out.2.2 k i (by omega) hlt2 h
          go_wp2_with fail
          refine (add_any w2.heap.size out r _ (wr.alloc (.cells #[.int .i64 r.lo, .int .i64 r.hi] 51)) (by have := HUP.out.len (by omega) (by omega); omega) (fun t ht => by have := HUP.out.hi t ht; omega) (by simp; omega) (World.ownsRow.alloc HO.out _)).mono ?_
          rintro e w4 ⟨v4, rfl, ho4, hB4⟩
          have HO4 : Hid (w4.ownsRow w2.heap.size 51 2 v4 (addL out r).length (cellsRs (addL out r))) := ho4
          have hB34 : Below w2.heap.size w2 w4 := (hB3.alloc hbs3 _).trans hB4
          clear ho4 HO d0 d1
          go_wp2
          go_roundw
          case rel => exact ⟨k + 1, addL out r, r.lo, by omega, by go_num, HG2.out, HBL2.out, HL2.out, HO4.out, hB34⟩
          case measure => simp [intOf]; omega
        · obtain rfl : k = s.length := by omega
          have HUP2 : Hid (Upto (hasR l) out 1114112) := by
            have h1 := HUP.out
            rw [List.take_length] at h1
            exact h1.congr (fun x _ _ => hasR_perm HORD.out.2.1 x)
          go_wp2
          go_ret2
          exact ⟨.inr ⟨HF.out, out, _, HUP2.out, by omega, rfl, own_mono HO.out hbs2⟩, HBB.out.trans (hB3.mono hbs2)⟩
end Go.Proofs.Ytmknifnhcgdkaaa
