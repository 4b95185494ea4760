/-
  least.Alike.
-/
import Derived.Test.YtleafbbcgebmpaaDoorLsAp
namespace Go.Proofs.YtleafbbcgebmpaaDoor
open Go.RowKit Go.Shelf
set_option linter.unusedVariables false

def akB (N : List (List Int)) (F : List Bool) (N' : List (List Int)) (F' : List Bool) : Bool := bothB N F N' F' && !(apO N F N' F').isSome

set_option maxRecDepth 100000 in
set_option maxHeartbeats 4000000 in
theorem alike_any (N : List (List Int)) (F : List Bool) (dv : Value) (N' : List (List Int)) (F' : List Bool) (dv' : Value) (w : World) (hd : DfaAt w dv N F) (hd' : DfaAt w dv' N' F') (hbig : N.length * N'.length ≤ 100000) : Calls Tryd.prog 16 #[dv, dv'] w fun e w' => e = .returned (.tuple #[.bool (akB N F N' F'), .int .i64 (apE N F N' F')]) ∧ Below w.heap.size w w' := by
  have HD : Hid (DfaAt w dv N F ∧ DfaAt w dv' N' F') := ⟨hd, hd'⟩
  obtain ⟨na, nc, fa, fc, rfl, hnc, hfc, hx, hfx⟩ := dfa_parts hd
  obtain ⟨na', nc', fa', fc', rfl, hnc', hfc', hx', hfx'⟩ := dfa_parts hd'
  obtain ⟨W0, hW0⟩ : ∃ W, W = (w.alloc (.cells #[.slice na N.length nc, .slice fa F.length fc] 25)).alloc (.cells #[.slice na' N'.length nc', .slice fa' F'.length fc'] 25) := ⟨_, rfl⟩
  obtain ⟨h0, h1, hB0, hs0⟩ := alloc2 hW0
  have HB0 : Hid (Below w.heap.size w W0) := hB0
  have hc := apart_any N F _ N' F' _ W0 (hd.below hB0) (hd'.below hB0) hbig
  unfold ApA at hc
  obtain ⟨O, hO⟩ : ∃ O, O = apO N F N' F' := ⟨_, rfl⟩
  obtain ⟨E, hE⟩ : ∃ E, E = apE N F N' F' := ⟨_, rfl⟩
  have HR : Hid (akB N F N' F' = ((E == 0) && !O.isSome)) := by
    unfold Hid akB
    rw [hO, hE]
    unfold apE
    cases bothB N F N' F' <;> rfl
  have HE : Hid (E = 0 ∨ E = 1) := by
    unfold Hid
    rw [hE]
    unfold apE
    split
    · exact .inl rfl
    · exact .inr rfl
  rw [← hO, ← hE] at hc
  rw [← hE]
  have HW0 : Hid (W0 = _) := hW0
  have h0 : DBox W0 w.heap.size (.slice na N.length nc) (.slice fa F.length fc) := h0
  have h1 : DBox W0 (w.heap.size + 1) (.slice na' N'.length nc') (.slice fa' F'.length fc') := h1
  have a0 := h0.c0
  have a1 := h0.c1
  have al := h0.lt
  have b0 := h1.c0
  have b1 := h1.c1
  have bl := h1.lt
  obtain ⟨b, hb⟩ : ∃ b, b = O.isSome := ⟨_, rfl⟩
  rw [← hb] at hc HR
  have HR2 : Hid (akB N F N' F' = ((E == 0) && !b)) := HR
  obtain ⟨K, hK⟩ : ∃ K, K = akB N F N' F' := ⟨_, rfl⟩
  rw [← hK] at HR2 ⊢
  clear hd hd' hx hfx hx' hfx' h0 h1 hB0 hs0 hW0 hnc hfc hnc' hfc' hO hE hb hK HR
  go_enter Tryd.func16, Tryd.ntmps16
  go_upto_region 1 with fail
  rw [← HW0.out]
  go_wp2_with fail
  refine hc.mono ?_
  rintro e w1 ⟨v, rfl, hv, hB⟩
  have HB : Hid (Below w.heap.size w w1) := below_after HB0.out hB
  clear hc hv hB a0 a1 al b0 b1 bl
  rcases HE.out with e | e
  · subst e
    cases b with
    | true =>
      go_wp2
      go_ret2
      exact ⟨by rw [HR2.out]; rfl, HB.out⟩
    | false =>
      go_wp2
      go_ret2
      exact ⟨by rw [HR2.out]; rfl, HB.out⟩
  · subst e
    cases b with
    | true =>
      go_wp2
      go_ret2
      exact ⟨by rw [HR2.out]; rfl, HB.out⟩
    | false =>
      go_wp2
      go_ret2
      exact ⟨by rw [HR2.out]; rfl, HB.out⟩
end Go.Proofs.YtleafbbcgebmpaaDoor
