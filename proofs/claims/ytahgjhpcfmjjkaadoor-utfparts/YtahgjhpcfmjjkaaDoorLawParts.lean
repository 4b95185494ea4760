/-
  The law UtfParts: true, for all bytes.
-/
import Derived.Test.YtahgjhpcfmjjkaaDoorLawIndex
import Derived.Deep.RegionHeld3
namespace Go.Proofs.YtahgjhpcfmjjkaaDoor
open Go.RowKit
set_option linter.unusedVariables false

theorem Place.at {us : List U} (hr : Rise us) {i : Nat} (hi : i < us.length) {y res : Int} (hy : y = (us[i].p : Int)) (h : Place us y res) : res = i :=
  Place.unique hr h (.inl ⟨i, hi, hy.symm, rfl⟩)
theorem Place.end {us : List U} {y res : Int} (hn : ∀ i, (h : i < us.length) → (us[i].p : Int) < y) (hy : y = (endU us : Int)) (h : Place us y res) : res = us.length := by
  rcases h with ⟨i, hi, e, _⟩ | ⟨_, ⟨_, e⟩ | ⟨e, _⟩⟩
  · have := hn i hi; omega
  · exact e
  · exact absurd hy e

theorem UnitsIn.drew {w : World} {v : Value} {us : List U} (h : UnitsIn w v us) : UnitsIn w.drew v us := h

/-- Where the k-th unit begins; behind the last one: where the bytes end. -/
def startU (us : List U) (n k : Nat) : Nat := match us[k]? with
  | some u => u.p
  | none => n

theorem Run.start {b : List Int} : ∀ {us : List U} {p : Nat}, Run b p us b.length → startU us b.length 0 = p ∧ ∀ k, (h : k < us.length) → startU us b.length (k + 1) = us[k].p + us[k].w
  | [], p, h => by
    obtain rfl : p = b.length := h
    exact ⟨rfl, fun k h => by simp at h⟩
  | u :: us, p, h => by
    have hup : u.p = p := by rw [h.2.1]; rfl
    obtain ⟨h1, h2⟩ := Run.start h.2.2
    refine ⟨by show u.p = p; exact hup, fun k hk => ?_⟩
    match k, hk with
    | 0, _ =>
      show startU us b.length 0 = u.p + u.w
      rw [h1]; omega
    | k + 1, hk => exact h2 k (by simpa using hk)

theorem startU_at {us : List U} {n k : Nat} (h : k < us.length) : startU us n k = us[k].p := by
  unfold startU; rw [List.getElem?_eq_getElem h]
theorem startU_end {us : List U} {n : Nat} : startU us n us.length = n := by
  unfold startU; rw [List.getElem?_eq_none (Nat.le_refl _)]
theorem Run.endU {b : List Int} {us : List U} (h : Run b 0 us b.length) : endU us = b.length := by
  by_cases h0 : us.length = 0
  · have e := List.length_eq_zero_iff.1 h0
    subst e
    have : 0 = b.length := h
    rw [← this]; rfl
  · have h1 := (Run.start h).2 (us.length - 1) (by omega)
    rw [endU_of (by omega), ← h1]
    have e : us.length - 1 + 1 = us.length := by omega
    rw [e, startU_end]

set_option maxRecDepth 100000 in
set_option maxHeartbeats 2000000 in
theorem utfParts_any (a : Option Addr) (len cap : Nat) (zs : List Int) (w : World) (hz : IsRow .u8 w a len cap zs) (hm : Marks w) (h1 : 1 ≤ w.heap.size) :
    Calls Tryd.prog 7 #[.slice a len cap] w fun e w' => e = .returned (.bool true) ∧ Below w.heap.size w w' := by
  obtain ⟨l, hl, hby, hI⟩ := hz.bytes
  by_cases hlen : len ≤ 5000
  · have h5 : (len : Int) ≤ 5000 := by omega
    go_enter Tryd.func7, Tryd.ntmps7
    go_wp2_with fail
    refine (awake_any w hm h1).mono ?_
    rintro e w1 ⟨rfl, hB1⟩
    have hs1 := hB1.size
    go_wp2_with fail
    refine (decode_any l hby (by omega) a len cap w1 ((hI.below hB1).mono hs1)).mono ?_
    rintro e w2 ⟨v2, us, rfl, hr2, ho2, hB2⟩
    have hs2 := hB2.size
    have hle := Run.le hr2 (Nat.zero_le _)
    have hv2 := units_of_row ho2
    have hB12 : Below w.heap.size w w2 := hB1.trans (hB2.mono hs1)
    have hs2' : w.heap.size ≤ w2.heap.size := by omega
    obtain ⟨HR, HV, HI, HM⟩ : Hid (Run l 0 us l.length) ∧ Hid (UnitsIn w2 v2 us) ∧ Hid (BytesAt w.heap.size w (.slice a len cap) l) ∧ Hid (Marks w) := ⟨hr2, hv2, hI, hm⟩
    obtain ⟨a2, c2, rfl, hc2, hia⟩ := hv2
    have HA : Hid (∀ i, (h : i < us.length) → ∃ g off, a2 = some ⟨g, off, none⟩ ∧ g < w2.heap.size ∧ ∀ j, j < 4 → w2.cell? ⟨g, off + i * 4 + j, none⟩ = (cellsU us[i])[j]?) := hia
    clear hia hr2 ho2 hI hm hB1 hB2
    go_wp2
    go_loopw [5, 6] (fun x z wr => ∃ k : Nat, k ≤ us.length ∧ z = .int .i64 k ∧ x = .int .i64 (startU us len k : Int) ∧ Below w2.heap.size w2 wr) (fun _ z _ => us.length - (intOf z).toNat)
    case atStart => exact ⟨0, Nat.zero_le _, rfl, by rw [← hl, (Run.start HR.out).1]; rfl, Below.refl _ _⟩
    case round =>
      obtain ⟨k, hk, rfl, rfl, hB⟩ := hrel
      have hbs := hB.size
      have hBw : Below w.heap.size w wr := hB12.trans (hB.mono hs2')
      by_cases hlt : k < us.length
      · obtain ⟨g, off, rfl, hg, hc⟩ := HA.out k hlt
        obtain ⟨u, hu⟩ : ∃ u, u = us[k] := ⟨_, rfl⟩
        rw [← hu] at hc
        have hst : startU us len k = u.p := by rw [startU_at hlt, hu]
        have HS : Hid (startU us len (k + 1) = u.p + u.w) := by
          show _ = _
          have := (Run.start HR.out).2 k hlt
          rw [← hl, this, hu]
        have hmem := Run.mem HR.out u (by rw [hu]; exact List.getElem_mem hlt)
        have q0 : wr.cell? ⟨g, off + k * 4, none⟩ = some (.int .i64 u.r) := (hB.cell (p := ⟨g, _, none⟩) hg).trans (hc 0 (by omega))
        have q1 : wr.cell? ⟨g, off + k * 4 + 1, none⟩ = some (.int .i64 (u.p : Int)) := (hB.cell (p := ⟨g, _, none⟩) hg).trans (hc 1 (by omega))
        have q2 : wr.cell? ⟨g, off + k * 4 + 2, none⟩ = some (.int .i64 (u.w : Int)) := (hB.cell (p := ⟨g, _, none⟩) hg).trans (hc 2 (by omega))
        have q3 : wr.cell? ⟨g, off + k * 4 + 3, none⟩ = some (.bool u.bad) := (hB.cell (p := ⟨g, _, none⟩) hg).trans (hc 3 (by omega))
        rw [hst]
        have HU : Hid (u = us[k]) := hu
        have HUA : Hid (u = unitAt l u.p) := hmem.2.2.2.2.2
        obtain ⟨_, m1, m2, m3, m4, _⟩ := hmem
        clear hc hu hst
        obtain ⟨ur, hur⟩ : ∃ ur, ur = u.r := ⟨_, rfl⟩
        obtain ⟨up, hup⟩ : ∃ up, up = u.p := ⟨_, rfl⟩
        obtain ⟨uw, huw⟩ : ∃ uw, uw = u.w := ⟨_, rfl⟩
        rw [← hur] at q0
        rw [← hup] at q1 m1 m4 HS ⊢
        rw [← huw] at q2 m2 m3 m4 HS
        have p1 : ((up : Int) != (up : Int)) = false := by simp
        have HN : Hid (ur = u.r ∧ up = u.p ∧ uw = u.w) := ⟨hur, hup, huw⟩
        have HY : Hid ((up : Int) = (us[k].p : Int)) := by show _ = _; rw [hup, HU.out]
        cases hb : u.bad with
        | true =>
          rw [hb] at q3
          have HBad : u.r = 65533 ∧ u.w = 1 := by
            have e := HUA.out
            have hbad : (unD (l.drop u.p)).bad = true := by rw [← hb, e]; rfl
            have := unD_bad hbad
            rw [e]; exact this
          obtain rfl : ur = 65533 := hur.trans HBad.1
          obtain rfl : uw = 1 := huw.trans HBad.2
          clear hb HBad hur hup huw HUA
          go_wp2_with fail
          refine (encode_any 65533 (wr.heap.size + 1) _ (HM.out.below (hBw.alloc (by omega) _) h1) (by simp) (by omega)).mono ?_
          rintro e w3 ⟨v3, rfl, ho3, hB3⟩
          have x2 : w3.cell? ⟨wr.heap.size, 2, none⟩ = some (.int .i64 1) := (hB3.cell (p := ⟨wr.heap.size, 2, none⟩) (by simp)).trans (cell_of_row _ _ 2 _ _ _ (heap_new' wr _))
          have x3 : w3.cell? ⟨wr.heap.size, 3, none⟩ = some (.bool true) := (hB3.cell (p := ⟨wr.heap.size, 3, none⟩) (by simp)).trans (cell_of_row _ _ 3 _ _ _ (heap_new' wr _))
          have hszr : wr.heap.size < w3.heap.size := by have := hB3.size; simp at this; omega
          have hBr3 : Below wr.heap.size wr w3 := ((Below.refl _ wr).alloc (Nat.le_refl _) _).trans (hB3.mono (by omega))
          have hs3 := hBr3.size
          have HV3 : Hid (UnitsIn w3 (.slice (some ⟨g, off, none⟩) us.length c2) us) := (HV.out.below hB).below hBr3
          have hV3c : True := trivial
          clear hB3 ho3
          go_wp2
          refine wp_region_noPanic ?_
          refine wp_region_held_drew (S := fun w' => w'.cell? ⟨wr.heap.size, 3, none⟩ = some (.bool true)) (by kernel_rfl) x3 (fun hHeld => ?_)
          refine wpAnyH_take (i := 0) (v := .pointer (some ⟨wr.heap.size, 3, none⟩)) rfl (by kernel_rfl) (by kernel_rfl) (by kernel_rfl) (fun _ _ _ h => h) (Or.inl ⟨by rfl, fun w hSw => by go_simp⟩) hHeld ?_
          simp only [List.getElem_toArray, List.getElem_cons_zero, Act.put, List.setIfInBounds_toArray, List.set_cons_zero, List.set_cons_succ]
          refine wpAnyH_take (i := 1) (v := .bool true) rfl (by kernel_rfl) (by kernel_rfl) (by kernel_rfl) (fun _ _ _ h => h) (Or.inl ⟨by rfl, fun w hSw => by go_simp⟩) hHeld ?_
          simp only [List.getElem_toArray, List.getElem_cons_succ, List.getElem_cons_zero, Act.put, List.setIfInBounds_toArray, List.set_cons_zero, List.set_cons_succ]
          refine wpAnyH_take (i := 2) (v := .bool false) rfl (by kernel_rfl) (by kernel_rfl) (by kernel_rfl) (fun _ _ _ h => h) (Or.inl ⟨by rfl, fun w hSw => by go_simp⟩) hHeld ?_
          simp only [List.getElem_toArray, List.getElem_cons_succ, List.getElem_cons_zero, Act.put, List.setIfInBounds_toArray, List.set_cons_zero, List.set_cons_succ]
          refine wpAnyH_take (i := 3) (v := .bool false) rfl (by kernel_rfl) (by kernel_rfl) (by kernel_rfl) (fun _ _ _ h => h) (Or.inl ⟨by rfl, fun w hSw => by go_simp⟩) hHeld ?_
          simp only [List.getElem_toArray, List.getElem_cons_succ, List.getElem_cons_zero, Act.put, List.setIfInBounds_toArray, List.set_cons_zero, List.set_cons_succ]
          refine wpAnyH_take (i := 4) (v := undef) rfl (by kernel_rfl) (by kernel_rfl) (by kernel_rfl) (fun _ _ _ h => h) (Or.inr ⟨by rfl, rfl⟩) hHeld ?_
          simp only [List.getElem_toArray, List.getElem_cons_succ, List.getElem_cons_zero, Act.put, List.setIfInBounds_toArray, List.set_cons_zero, List.set_cons_succ]
          refine wpAnyH_take (i := 5) (v := undef) rfl (by kernel_rfl) (by kernel_rfl) (by kernel_rfl) (fun _ _ _ h => h) (Or.inr ⟨by rfl, rfl⟩) hHeld ?_
          simp only [List.getElem_toArray, List.getElem_cons_succ, List.getElem_cons_zero, Act.put, List.setIfInBounds_toArray, List.set_cons_zero, List.set_cons_succ]
          refine wpAnyH_take (i := 6) (v := undef) rfl (by kernel_rfl) (by kernel_rfl) (by kernel_rfl) (fun _ _ _ h => h) (Or.inr ⟨by rfl, rfl⟩) hHeld ?_
          simp only [List.getElem_toArray, List.getElem_cons_succ, List.getElem_cons_zero, Act.put, List.setIfInBounds_toArray, List.set_cons_zero, List.set_cons_succ]
          refine wpAnyH_take (i := 7) (v := undef) rfl (by kernel_rfl) (by kernel_rfl) (by kernel_rfl) (fun _ _ _ h => h) (Or.inr ⟨by rfl, rfl⟩) hHeld ?_
          simp only [List.getElem_toArray, List.getElem_cons_succ, List.getElem_cons_zero, Act.put, List.setIfInBounds_toArray, List.set_cons_zero, List.set_cons_succ]
          refine wpAnyH_take (i := 8) (v := undef) rfl (by kernel_rfl) (by kernel_rfl) (by kernel_rfl) (fun _ _ _ h => h) (Or.inr ⟨by rfl, rfl⟩) hHeld ?_
          simp only [List.getElem_toArray, List.getElem_cons_succ, List.getElem_cons_zero, Act.put, List.setIfInBounds_toArray, List.set_cons_zero, List.set_cons_succ]
          refine wpAnyH_take (i := 9) (v := undef) rfl (by kernel_rfl) (by kernel_rfl) (by kernel_rfl) (fun _ _ _ h => h) (Or.inr ⟨by rfl, rfl⟩) hHeld ?_
          simp only [List.getElem_toArray, List.getElem_cons_succ, List.getElem_cons_zero, Act.put, List.setIfInBounds_toArray, List.set_cons_zero, List.set_cons_succ]
          refine wpAnyH_take (i := 10) (v := undef) rfl (by kernel_rfl) (by kernel_rfl) (by kernel_rfl) (fun _ _ _ h => h) (Or.inr ⟨by rfl, rfl⟩) hHeld ?_
          simp only [List.getElem_toArray, List.getElem_cons_succ, List.getElem_cons_zero, Act.put, List.setIfInBounds_toArray, List.set_cons_zero, List.set_cons_succ]
          refine wpAnyH_take (i := 11) (v := undef) rfl (by kernel_rfl) (by kernel_rfl) (by kernel_rfl) (fun _ _ _ h => h) (Or.inr ⟨by rfl, rfl⟩) hHeld ?_
          simp only [List.getElem_toArray, List.getElem_cons_succ, List.getElem_cons_zero, Act.put, List.setIfInBounds_toArray, List.set_cons_zero, List.set_cons_succ]
          refine wpAnyH_take (i := 12) (v := undef) rfl (by kernel_rfl) (by kernel_rfl) (by kernel_rfl) (fun _ _ _ h => h) (Or.inr ⟨by rfl, rfl⟩) hHeld ?_
          simp only [List.getElem_toArray, List.getElem_cons_succ, List.getElem_cons_zero, Act.put, List.setIfInBounds_toArray, List.set_cons_zero, List.set_cons_succ]
          refine wpAnyH_take (i := 13) (v := undef) rfl (by kernel_rfl) (by kernel_rfl) (by kernel_rfl) (fun _ _ _ h => h) (Or.inr ⟨by rfl, rfl⟩) hHeld ?_
          simp only [List.getElem_toArray, List.getElem_cons_succ, List.getElem_cons_zero, Act.put, List.setIfInBounds_toArray, List.set_cons_zero, List.set_cons_succ]
          refine wpAnyH_take (i := 14) (v := undef) rfl (by kernel_rfl) (by kernel_rfl) (by kernel_rfl) (fun _ _ _ h => h) (Or.inr ⟨by rfl, rfl⟩) hHeld ?_
          simp only [List.getElem_toArray, List.getElem_cons_succ, List.getElem_cons_zero, Act.put, List.setIfInBounds_toArray, List.set_cons_zero, List.set_cons_succ]
          refine wpAnyH_take (i := 15) (v := undef) rfl (by kernel_rfl) (by kernel_rfl) (by kernel_rfl) (fun _ _ _ h => h) (Or.inr ⟨by rfl, rfl⟩) hHeld ?_
          simp only [List.getElem_toArray, List.getElem_cons_succ, List.getElem_cons_zero, Act.put, List.setIfInBounds_toArray, List.set_cons_zero, List.set_cons_succ]
          refine wpAnyH_take (i := 16) (v := undef) rfl (by kernel_rfl) (by kernel_rfl) (by kernel_rfl) (fun _ _ _ h => h) (Or.inr ⟨by rfl, rfl⟩) hHeld ?_
          simp only [List.getElem_toArray, List.getElem_cons_succ, List.getElem_cons_zero, Act.put, List.setIfInBounds_toArray, List.set_cons_zero, List.set_cons_succ]
          refine wpAnyH_take (i := 17) (v := undef) rfl (by kernel_rfl) (by kernel_rfl) (by kernel_rfl) (fun _ _ _ h => h) (Or.inr ⟨by rfl, rfl⟩) hHeld ?_
          simp only [List.getElem_toArray, List.getElem_cons_succ, List.getElem_cons_zero, Act.put, List.setIfInBounds_toArray, List.set_cons_zero, List.set_cons_succ]
          refine wpAnyH_take (i := 18) (v := undef) rfl (by kernel_rfl) (by kernel_rfl) (by kernel_rfl) (fun _ _ _ h => h) (Or.inr ⟨by rfl, rfl⟩) hHeld ?_
          simp only [List.getElem_toArray, List.getElem_cons_succ, List.getElem_cons_zero, Act.put, List.setIfInBounds_toArray, List.set_cons_zero, List.set_cons_succ]
          refine wpAnyH_take (i := 19) (v := .bool false) rfl (by kernel_rfl) (by kernel_rfl) (by kernel_rfl) (fun _ _ _ h => h) (Or.inl ⟨by rfl, fun w hSw => by go_simp⟩) hHeld ?_
          simp only [List.getElem_toArray, List.getElem_cons_succ, List.getElem_cons_zero, Act.put, List.setIfInBounds_toArray, List.set_cons_zero, List.set_cons_succ]
          refine wpAnyH_take (i := 20) (v := .bool false) rfl (by kernel_rfl) (by kernel_rfl) (by kernel_rfl) (fun _ _ _ h => h) (Or.inl ⟨by rfl, fun w hSw => by go_simp⟩) hHeld ?_
          simp only [List.getElem_toArray, List.getElem_cons_succ, List.getElem_cons_zero, Act.put, List.setIfInBounds_toArray, List.set_cons_zero, List.set_cons_succ]
          refine wpAnyH_take (i := 21) (v := .slice (some ⟨g, off, none⟩) us.length c2) rfl (by kernel_rfl) (by kernel_rfl) (by kernel_rfl) (fun _ _ _ h => h) (Or.inl ⟨by rfl, fun w hSw => by go_simp⟩) hHeld ?_
          simp only [List.getElem_toArray, List.getElem_cons_succ, List.getElem_cons_zero, Act.put, List.setIfInBounds_toArray, List.set_cons_zero, List.set_cons_succ]
          refine wpAnyH_take (i := 22) (v := .int .i64 (up : Int)) rfl (by kernel_rfl) (by kernel_rfl) (by kernel_rfl) (fun _ _ _ h => h) (Or.inl ⟨by rfl, fun w hSw => by go_simp⟩) hHeld ?_
          simp only [List.getElem_toArray, List.getElem_cons_succ, List.getElem_cons_zero, Act.put, List.setIfInBounds_toArray, List.set_cons_zero, List.set_cons_succ]
          refine wpAnyH_take (i := 24) (v := .int .i64 (k : Int)) rfl (by kernel_rfl) (by kernel_rfl) (by kernel_rfl) (fun _ _ _ h => h) (Or.inl ⟨by rfl, fun w hSw => by go_simp⟩) hHeld ?_
          simp only [List.getElem_toArray, List.getElem_cons_succ, List.getElem_cons_zero, Act.put, List.setIfInBounds_toArray, List.set_cons_zero, List.set_cons_succ]
          refine wpAnyH_ready (rs := [23]) (by kernel_rfl) (by simp) ?_
          refine AllReadyH.cons rfl (fun K hK => ?_) AllReadyH.nil
          go_simp
          refine (index_any us (by omega) (Run.bd (by omega) HR.out) (Run.rise HR.out) (up : Int) _ w3.drew HV3.out.drew).mono ?_
          rintro e w4 ⟨res, hp4, rfl, hB4⟩
          obtain rfl : res = (k : Int) := Place.at (Run.rise HR.out) hlt HY.out hp4
          have hB4' : Below w3.heap.size w3 w4 := ⟨hB4.os, hB4.tape, hB4.output, hB4.size, hB4.block⟩
          clear hp4 hB4
          refine hK.out _ _ ((hB4'.cell (p := ⟨wr.heap.size, 3, none⟩) hszr).trans x3) (fun hHeld4 => ?_)
          clear hK K
          have hkk : ((k : Int) != (k : Int)) = false := by simp
          refine wpAnyH_take (i := 25) (v := .bool false) rfl (by kernel_rfl) (by kernel_rfl) (by kernel_rfl) (fun _ _ _ h => h) (Or.inl ⟨by rfl, fun w hSw => by go_simp⟩) hHeld4 ?_
          simp only [List.getElem_toArray, List.getElem_cons_succ, List.getElem_cons_zero, Act.put, List.setIfInBounds_toArray, List.set_cons_zero, List.set_cons_succ]
          refine wpAnyH_take (i := 26) (v := .bool false) rfl (by kernel_rfl) (by kernel_rfl) (by kernel_rfl) (fun _ _ _ h => h) (Or.inl ⟨by rfl, fun w hSw => by go_simp⟩) hHeld4 ?_
          simp only [List.getElem_toArray, List.getElem_cons_succ, List.getElem_cons_zero, Act.put, List.setIfInBounds_toArray, List.set_cons_zero, List.set_cons_succ]
          refine wpAnyH_done (by kernel_rfl) ?_ _
          refine NoPanic.normal ?_
          have y2 : w4.cell? ⟨wr.heap.size, 2, none⟩ = some (.int .i64 1) := (hB4'.cell (p := ⟨wr.heap.size, 2, none⟩) hszr).trans x2
          have hB4w : Below w2.heap.size w2 w4 := (hB.trans (hBr3.mono hbs)).trans (hB4'.mono (by omega))
          clear hHeld4 hHeld hB4' hV3c
          go_wp2
          go_roundw
          case rel => exact ⟨k + 1, by omega, by go_num, by rw [HS.out]; go_num, hB4w⟩
          case measure => simp [intOf]; omega
        | false =>
          rw [hb] at q3
          have HG : Hid (isR ur = true ∧ encR ur = (l.drop up).take uw) := by
            have e := HUA.out
            have hgood : (unD (l.drop u.p)).bad = false := by rw [← hb, e]; rfl
            have := unD_good (by rw [List.length_drop]; omega) hgood
            have e1 : u.r = (unD (l.drop u.p)).r := by rw [e]; rfl
            have e2 : u.w = (unD (l.drop u.p)).w := by rw [e]; rfl
            rw [hur, hup, huw, e1, e2]
            exact ⟨this.1, this.2.1⟩
          clear hb hur hup huw HUA
          obtain ⟨bb, bo, rfl, hbb, hbc⟩ : ∃ bb bo, a = some ⟨bb, bo, none⟩ ∧ bb < w.heap.size ∧ ∀ j, j < l.length → w.cell? ⟨bb, bo + j, none⟩ = some (.int .u8 (l[j]?.getD 0)) := by
            rcases HI.out with ⟨a', cap', h, e⟩ | ⟨bb, bo, cap', h, _, h3, h4⟩
            · rw [e] at m1; simp at m1
            · simp only [Value.slice.injEq] at h
              exact ⟨bb, bo, h.1, h3, h4⟩
          have hlc : len ≤ cap := by
            rcases HI.out with ⟨a', cap', h, e⟩ | ⟨_, _, cap', h, h2, _, _⟩
            · rw [e] at m1; simp at m1
            · simp only [Value.slice.injEq] at h; omega
          have HBC : Hid (∀ j, j < l.length → w.cell? ⟨bb, bo + j, none⟩ = some (.int .u8 (l[j]?.getD 0))) := hbc
          clear hbc
          have e1 : errR ur = 0 := by unfold errR; rw [HG.out.1]; rfl
          have e2 : encL ur = encR ur := by unfold encL; rw [HG.out.1]; rfl
          have HE1 : Hid (errR ur = 0) := e1
          have HE2 : Hid (encL ur = encR ur) := e2
          clear e1 e2
          go_wp2_with fail
          refine (encode_any ur (wr.heap.size + 1) _ (HM.out.below (hBw.alloc (by omega) _) h1) (by simp) (by omega)).mono ?_
          rintro e w3 ⟨v3, rfl, ho3, hB3⟩
          have x2 : w3.cell? ⟨wr.heap.size, 2, none⟩ = some (.int .i64 (uw : Int)) := (hB3.cell (p := ⟨wr.heap.size, 2, none⟩) (by simp)).trans (cell_of_row _ _ 2 _ _ _ (heap_new' wr _))
          have x3 : w3.cell? ⟨wr.heap.size, 3, none⟩ = some (.bool false) := (hB3.cell (p := ⟨wr.heap.size, 3, none⟩) (by simp)).trans (cell_of_row _ _ 3 _ _ _ (heap_new' wr _))
          have hszr : wr.heap.size < w3.heap.size := by have := hB3.size; simp at this; omega
          have hBr3 : Below wr.heap.size wr w3 := ((Below.refl _ wr).alloc (Nat.le_refl _) _).trans (hB3.mono (by omega))
          have hs3 := hBr3.size
          have HV3 : Hid (UnitsIn w3 (.slice (some ⟨g, off, none⟩) us.length c2) us) := (HV.out.below hB).below hBr3
          have hV3c : True := trivial
          rw [HE1.out]
          rw [HE2.out] at ho3
          have HB3w : Hid (∀ W, Below w3.heap.size w3 W → (convert 23 9 v3).run Tryd.prog W = .ok (.string (strOfNums (encR ur))) W ∧ (convert 23 9 (.slice (some ⟨bb, bo + up, none⟩) uw (cap - up))).run Tryd.prog W = .ok (.string (strOfNums (encR ur))) W) := by
            intro W hW
            refine ⟨(ho3.below hW).convert, ?_⟩
            rw [HG.out.2]
            refine convert_cut (l.drop up) uw (by rw [List.length_drop]; omega) bb (bo + up) (cap - up) W (fun j hj => ?_)
            rw [List.length_drop] at hj
            have hBW : Below w.heap.size w W := (hBw.trans (hBr3.mono (by omega))).trans (hW.mono (by omega))
            rw [hBW.cell (p := ⟨bb, bo + up + j, none⟩) hbb, Nat.add_assoc, HBC.out (up + j) (by omega), List.getElem?_drop]
          clear hB3 ho3
          obtain ⟨E, hE⟩ : ∃ E, E = encR ur := ⟨_, rfl⟩
          rw [← hE] at HB3w
          clear hE
          have hEE : ((strOfNums E).toList == (strOfNums E).toList) = true := by simp
          have hn0 : (0 : Int) ≤ (up : Int) := by omega
          have hn1 : (up : Int) ≤ (up : Int) + (uw : Int) := by omega
          have hn2 : (up : Int) + (uw : Int) ≤ (cap : Int) := by omega
          go_wp2
          refine wp_region_noPanic ?_
          refine wp_region_held_drew (S := fun w' => w'.cell? ⟨wr.heap.size, 2, none⟩ = some (.int .i64 (uw : Int)) ∧ w'.cell? ⟨wr.heap.size, 3, none⟩ = some (.bool false) ∧ (convert 23 9 v3).run Tryd.prog w' = .ok (.string (strOfNums E)) w' ∧ (convert 23 9 (.slice (some ⟨bb, bo + up, none⟩) uw (cap - up))).run Tryd.prog w' = .ok (.string (strOfNums E)) w') (by kernel_rfl) ⟨x2, x3, HB3w.out w3.drew (Below.refl _ _).drew⟩ (fun hHeld => ?_)
          refine wpAnyH_take (i := 0) (v := .pointer (some ⟨wr.heap.size, 3, none⟩)) rfl (by kernel_rfl) (by kernel_rfl) (by kernel_rfl) (fun _ _ _ h => h) (Or.inl ⟨by rfl, fun w hSw => by go_simp⟩) hHeld ?_
          simp only [List.getElem_toArray, List.getElem_cons_zero, Act.put, List.setIfInBounds_toArray, List.set_cons_zero, List.set_cons_succ]
          refine wpAnyH_take (i := 1) (v := .bool false) rfl (by kernel_rfl) (by kernel_rfl) (by kernel_rfl) (fun _ _ _ h => h) (Or.inl ⟨by rfl, fun w hSw => by go_simp⟩) hHeld ?_
          simp only [List.getElem_toArray, List.getElem_cons_succ, List.getElem_cons_zero, Act.put, List.setIfInBounds_toArray, List.set_cons_zero, List.set_cons_succ]
          refine wpAnyH_take (i := 2) (v := .bool true) rfl (by kernel_rfl) (by kernel_rfl) (by kernel_rfl) (fun _ _ _ h => h) (Or.inl ⟨by rfl, fun w hSw => by go_simp⟩) hHeld ?_
          simp only [List.getElem_toArray, List.getElem_cons_succ, List.getElem_cons_zero, Act.put, List.setIfInBounds_toArray, List.set_cons_zero, List.set_cons_succ]
          refine wpAnyH_take (i := 3) (v := .bool true) rfl (by kernel_rfl) (by kernel_rfl) (by kernel_rfl) (fun _ _ _ h => h) (Or.inl ⟨by rfl, fun w hSw => by go_simp⟩) hHeld ?_
          simp only [List.getElem_toArray, List.getElem_cons_succ, List.getElem_cons_zero, Act.put, List.setIfInBounds_toArray, List.set_cons_zero, List.set_cons_succ]
          refine wpAnyH_take (i := 4) (v := .int .i64 0) rfl (by kernel_rfl) (by kernel_rfl) (by kernel_rfl) (fun _ _ _ h => h) (Or.inl ⟨by rfl, fun w hSw => by go_simp⟩) hHeld ?_
          simp only [List.getElem_toArray, List.getElem_cons_succ, List.getElem_cons_zero, Act.put, List.setIfInBounds_toArray, List.set_cons_zero, List.set_cons_succ]
          refine wpAnyH_take (i := 5) (v := .bool false) rfl (by kernel_rfl) (by kernel_rfl) (by kernel_rfl) (fun _ _ _ h => h) (Or.inl ⟨by rfl, fun w hSw => by go_simp⟩) hHeld ?_
          simp only [List.getElem_toArray, List.getElem_cons_succ, List.getElem_cons_zero, Act.put, List.setIfInBounds_toArray, List.set_cons_zero, List.set_cons_succ]
          refine wpAnyH_take (i := 6) (v := .bool false) rfl (by kernel_rfl) (by kernel_rfl) (by kernel_rfl) (fun _ _ _ h => h) (Or.inl ⟨by rfl, fun w hSw => by go_simp⟩) hHeld ?_
          simp only [List.getElem_toArray, List.getElem_cons_succ, List.getElem_cons_zero, Act.put, List.setIfInBounds_toArray, List.set_cons_zero, List.set_cons_succ]
          refine wpAnyH_take (i := 7) (v := v3) rfl (by kernel_rfl) (by kernel_rfl) (by kernel_rfl) (fun _ _ _ h => h) (Or.inl ⟨by rfl, fun w hSw => by go_simp⟩) hHeld ?_
          simp only [List.getElem_toArray, List.getElem_cons_succ, List.getElem_cons_zero, Act.put, List.setIfInBounds_toArray, List.set_cons_zero, List.set_cons_succ]
          refine wpAnyH_take (i := 8) (v := .string (strOfNums E)) rfl (by kernel_rfl) (by kernel_rfl) (by kernel_rfl) (fun _ _ _ h => h) (Or.inl ⟨by rfl, fun w hSw => by go_simp⟩) hHeld ?_
          simp only [List.getElem_toArray, List.getElem_cons_succ, List.getElem_cons_zero, Act.put, List.setIfInBounds_toArray, List.set_cons_zero, List.set_cons_succ]
          refine wpAnyH_take (i := 9) (v := .slice (some ⟨bb, bo, none⟩) len cap) rfl (by kernel_rfl) (by kernel_rfl) (by kernel_rfl) (fun _ _ _ h => h) (Or.inl ⟨by rfl, fun w hSw => by go_simp⟩) hHeld ?_
          simp only [List.getElem_toArray, List.getElem_cons_succ, List.getElem_cons_zero, Act.put, List.setIfInBounds_toArray, List.set_cons_zero, List.set_cons_succ]
          refine wpAnyH_take (i := 10) (v := .int .i64 (up : Int)) rfl (by kernel_rfl) (by kernel_rfl) (by kernel_rfl) (fun _ _ _ h => h) (Or.inl ⟨by rfl, fun w hSw => by go_simp⟩) hHeld ?_
          simp only [List.getElem_toArray, List.getElem_cons_succ, List.getElem_cons_zero, Act.put, List.setIfInBounds_toArray, List.set_cons_zero, List.set_cons_succ]
          refine wpAnyH_take (i := 11) (v := .int .i64 (up : Int)) rfl (by kernel_rfl) (by kernel_rfl) (by kernel_rfl) (fun _ _ _ h => h) (Or.inl ⟨by rfl, fun w hSw => by go_simp⟩) hHeld ?_
          simp only [List.getElem_toArray, List.getElem_cons_succ, List.getElem_cons_zero, Act.put, List.setIfInBounds_toArray, List.set_cons_zero, List.set_cons_succ]
          refine wpAnyH_take (i := 12) (v := .pointer (some ⟨wr.heap.size, 2, none⟩)) rfl (by kernel_rfl) (by kernel_rfl) (by kernel_rfl) (fun _ _ _ h => h) (Or.inl ⟨by rfl, fun w hSw => by go_simp⟩) hHeld ?_
          simp only [List.getElem_toArray, List.getElem_cons_succ, List.getElem_cons_zero, Act.put, List.setIfInBounds_toArray, List.set_cons_zero, List.set_cons_succ]
          refine wpAnyH_take (i := 13) (v := .int .i64 (uw : Int)) rfl (by kernel_rfl) (by kernel_rfl) (by kernel_rfl) (fun _ _ _ h => h) (Or.inl ⟨by rfl, fun w hSw => by go_simp⟩) hHeld ?_
          simp only [List.getElem_toArray, List.getElem_cons_succ, List.getElem_cons_zero, Act.put, List.setIfInBounds_toArray, List.set_cons_zero, List.set_cons_succ]
          refine wpAnyH_take (i := 14) (v := .int .i64 ((up : Int) + (uw : Int))) rfl (by kernel_rfl) (by kernel_rfl) (by kernel_rfl) (fun _ _ _ h => h) (Or.inl ⟨by rfl, fun w hSw => by go_simp; exact IntWalk.i64_in _ ⟨by omega, by omega⟩⟩) hHeld ?_
          simp only [List.getElem_toArray, List.getElem_cons_succ, List.getElem_cons_zero, Act.put, List.setIfInBounds_toArray, List.set_cons_zero, List.set_cons_succ]
          refine wpAnyH_take (i := 15) (v := .slice (some ⟨bb, bo + up, none⟩) uw (cap - up)) rfl (by kernel_rfl) (by kernel_rfl) (by kernel_rfl) (fun _ _ _ h => h) (Or.inl ⟨by rfl, fun w hSw => by go_simp; exact ⟨fun h => by omega, by omega⟩⟩) hHeld ?_
          simp only [List.getElem_toArray, List.getElem_cons_succ, List.getElem_cons_zero, Act.put, List.setIfInBounds_toArray, List.set_cons_zero, List.set_cons_succ]
          refine wpAnyH_take (i := 16) (v := .string (strOfNums E)) rfl (by kernel_rfl) (by kernel_rfl) (by kernel_rfl) (fun _ _ _ h => h) (Or.inl ⟨by rfl, fun w hSw => by go_simp⟩) hHeld ?_
          simp only [List.getElem_toArray, List.getElem_cons_succ, List.getElem_cons_zero, Act.put, List.setIfInBounds_toArray, List.set_cons_zero, List.set_cons_succ]
          refine wpAnyH_take (i := 17) (v := .bool false) rfl (by kernel_rfl) (by kernel_rfl) (by kernel_rfl) (fun _ _ _ h => h) (Or.inl ⟨by rfl, fun w hSw => by go_simp⟩) hHeld ?_
          simp only [List.getElem_toArray, List.getElem_cons_succ, List.getElem_cons_zero, Act.put, List.setIfInBounds_toArray, List.set_cons_zero, List.set_cons_succ]
          refine wpAnyH_take (i := 18) (v := .bool false) rfl (by kernel_rfl) (by kernel_rfl) (by kernel_rfl) (fun _ _ _ h => h) (Or.inl ⟨by rfl, fun w hSw => by go_simp⟩) hHeld ?_
          simp only [List.getElem_toArray, List.getElem_cons_succ, List.getElem_cons_zero, Act.put, List.setIfInBounds_toArray, List.set_cons_zero, List.set_cons_succ]
          refine wpAnyH_take (i := 19) (v := .bool false) rfl (by kernel_rfl) (by kernel_rfl) (by kernel_rfl) (fun _ _ _ h => h) (Or.inl ⟨by rfl, fun w hSw => by go_simp⟩) hHeld ?_
          simp only [List.getElem_toArray, List.getElem_cons_succ, List.getElem_cons_zero, Act.put, List.setIfInBounds_toArray, List.set_cons_zero, List.set_cons_succ]
          refine wpAnyH_take (i := 20) (v := .bool false) rfl (by kernel_rfl) (by kernel_rfl) (by kernel_rfl) (fun _ _ _ h => h) (Or.inl ⟨by rfl, fun w hSw => by go_simp⟩) hHeld ?_
          simp only [List.getElem_toArray, List.getElem_cons_succ, List.getElem_cons_zero, Act.put, List.setIfInBounds_toArray, List.set_cons_zero, List.set_cons_succ]
          refine wpAnyH_take (i := 21) (v := .slice (some ⟨g, off, none⟩) us.length c2) rfl (by kernel_rfl) (by kernel_rfl) (by kernel_rfl) (fun _ _ _ h => h) (Or.inl ⟨by rfl, fun w hSw => by go_simp⟩) hHeld ?_
          simp only [List.getElem_toArray, List.getElem_cons_succ, List.getElem_cons_zero, Act.put, List.setIfInBounds_toArray, List.set_cons_zero, List.set_cons_succ]
          refine wpAnyH_take (i := 22) (v := .int .i64 (up : Int)) rfl (by kernel_rfl) (by kernel_rfl) (by kernel_rfl) (fun _ _ _ h => h) (Or.inl ⟨by rfl, fun w hSw => by go_simp⟩) hHeld ?_
          simp only [List.getElem_toArray, List.getElem_cons_succ, List.getElem_cons_zero, Act.put, List.setIfInBounds_toArray, List.set_cons_zero, List.set_cons_succ]
          refine wpAnyH_take (i := 24) (v := .int .i64 (k : Int)) rfl (by kernel_rfl) (by kernel_rfl) (by kernel_rfl) (fun _ _ _ h => h) (Or.inl ⟨by rfl, fun w hSw => by go_simp⟩) hHeld ?_
          simp only [List.getElem_toArray, List.getElem_cons_succ, List.getElem_cons_zero, Act.put, List.setIfInBounds_toArray, List.set_cons_zero, List.set_cons_succ]
          refine wpAnyH_ready (rs := [23]) (by kernel_rfl) (by simp) ?_
          refine AllReadyH.cons rfl (fun K hK => ?_) AllReadyH.nil
          go_simp
          refine (index_any us (by omega) (Run.bd (by omega) HR.out) (Run.rise HR.out) (up : Int) _ w3.drew HV3.out.drew).mono ?_
          rintro e w4 ⟨res, hp4, rfl, hB4⟩
          obtain rfl : res = (k : Int) := Place.at (Run.rise HR.out) hlt HY.out hp4
          have hB4' : Below w3.heap.size w3 w4 := ⟨hB4.os, hB4.tape, hB4.output, hB4.size, hB4.block⟩
          clear hp4 hB4
          refine hK.out _ _ (⟨(hB4'.cell (p := ⟨wr.heap.size, 2, none⟩) hszr).trans x2, (hB4'.cell (p := ⟨wr.heap.size, 3, none⟩) hszr).trans x3, HB3w.out w4 hB4'⟩) (fun hHeld4 => ?_)
          clear hK K
          have hkk : ((k : Int) != (k : Int)) = false := by simp
          refine wpAnyH_take (i := 25) (v := .bool false) rfl (by kernel_rfl) (by kernel_rfl) (by kernel_rfl) (fun _ _ _ h => h) (Or.inl ⟨by rfl, fun w hSw => by go_simp⟩) hHeld4 ?_
          simp only [List.getElem_toArray, List.getElem_cons_succ, List.getElem_cons_zero, Act.put, List.setIfInBounds_toArray, List.set_cons_zero, List.set_cons_succ]
          refine wpAnyH_take (i := 26) (v := .bool false) rfl (by kernel_rfl) (by kernel_rfl) (by kernel_rfl) (fun _ _ _ h => h) (Or.inl ⟨by rfl, fun w hSw => by go_simp⟩) hHeld4 ?_
          simp only [List.getElem_toArray, List.getElem_cons_succ, List.getElem_cons_zero, Act.put, List.setIfInBounds_toArray, List.set_cons_zero, List.set_cons_succ]
          refine wpAnyH_done (by kernel_rfl) ?_ _
          refine NoPanic.normal ?_
          have y2 : w4.cell? ⟨wr.heap.size, 2, none⟩ = some (.int .i64 (uw : Int)) := (hB4'.cell (p := ⟨wr.heap.size, 2, none⟩) hszr).trans x2
          have hB4w : Below w2.heap.size w2 w4 := (hB.trans (hBr3.mono hbs)).trans (hB4'.mono (by omega))
          clear hHeld4 hHeld hB4' hV3c
          go_wp2
          go_roundw
          case rel => exact ⟨k + 1, by omega, by go_num, by rw [HS.out]; go_num, hB4w⟩
          case measure => simp [intOf]; omega
      · obtain rfl : k = us.length := by omega
        rw [startU_end]
        have HN : Hid (∀ i, (h : i < us.length) → (us[i].p : Int) < (len : Int)) := fun i h => by
          have := Run.mem HR.out us[i] (List.getElem_mem h)
          omega
        have HE : Hid ((len : Int) = (endU us : Int)) := by
          show _ = _
          rw [Run.endU HR.out, hl]
        have hll : ((len : Int) == (len : Int)) = true := by simp
        have huu : ((us.length : Int) == (us.length : Int)) = true := by simp
        go_wp2_with fail
        refine (index_any us (by omega) (Run.bd (by omega) HR.out) (Run.rise HR.out) (len : Int) _ wr (HV.out.below hB)).mono ?_
        rintro e w4 ⟨res, hp4, rfl, hB4⟩
        obtain rfl : res = (us.length : Int) := Place.end HN.out HE.out hp4
        have hBz : Below w.heap.size w w4 := hBw.trans (hB4.mono (by omega))
        clear hp4 hB4
        go_wp2
        go_ret
        exact ⟨rfl, hBz⟩
  · have h5 : ¬ (len : Int) ≤ 5000 := by omega
    go_enter Tryd.func7, Tryd.ntmps7
    go_wp2_with fail
    refine (awake_any w hm h1).mono ?_
    rintro e w1 ⟨rfl, hB1⟩
    clear hI
    go_wp2
    go_ret
    exact ⟨rfl, hB1⟩
end Go.Proofs.YtahgjhpcfmjjkaaDoor
