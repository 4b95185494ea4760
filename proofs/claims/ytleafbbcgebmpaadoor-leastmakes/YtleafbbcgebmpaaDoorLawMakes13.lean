/-
  scansionlaw13.LeastMakes.
-/
import Derived.Test.YtleafbbcgebmpaaDoorGQ
namespace Go.Proofs.YtleafbbcgebmpaaDoor
open Go.RowKit Go.Shelf
set_option linter.unusedVariables false

set_option maxRecDepth 100000 in
set_option maxHeartbeats 16000000 in
theorem leastMakes_any (dv : Value) (N : List (List Int)) (F : List Bool) (w : World) (hP : PowT w) (hd : DfaAt w dv N F) :
    Calls Tryd.prog 3 #[dv] w fun e w' => e = .returned (.bool true) ∧ Below w.heap.size w w' := by
  have HD : Hid (DfaAt w dv N F ∧ PowT w) := ⟨hd, hP⟩
  obtain ⟨na, nc, fa, fc, rfl, _⟩ := dfa_parts hd
  obtain ⟨n, hn⟩ : ∃ x, x = N.length := ⟨_, rfl⟩
  obtain ⟨m, hm⟩ : ∃ x, x = F.length := ⟨_, rfl⟩
  rw [← hn, ← hm] at HD ⊢
  obtain ⟨W0, hW0⟩ : ∃ W, W = w.alloc (.cells #[.slice na n nc, .slice fa m fc] 25) := ⟨_, rfl⟩
  have hB0 : Below w.heap.size w W0 := by rw [hW0]; exact below_alloc _ _
  have hbx : DBox W0 w.heap.size (.slice na n nc) (.slice fa m fc) := by rw [hW0]; exact heap_new' _ _
  have HBX : Hid (DBox W0 w.heap.size (.slice na n nc) (.slice fa m fc)) := hbx
  have HW0 : Hid (W0 = _) := hW0
  have HB0 : Hid (Below w.heap.size w W0) := hB0
  have haw := awake_any13 W0 (hP.below hB0)
  have HFW : Hid (∀ W, Below w.heap.size w W → Calls Tryd.prog 10 #[.agg #[.slice na n nc, .slice fa m fc], .int .i64 25] W fun e w' => ∃ b, e = .returned (.bool b) ∧ (b = true → FewD N F 25) ∧ Below W.heap.size W w') := fun W hb => rfew_any12 N F _ 25 (by decide) W (HD.out.1.below hb)
  obtain ⟨LN, hLN⟩ : ∃ x, x = lesN N F := ⟨_, rfl⟩
  obtain ⟨LF, hLF⟩ : ∃ x, x = lesF N F := ⟨_, rfl⟩
  obtain ⟨E, hE⟩ : ∃ x, x = lesE N F := ⟨_, rfl⟩
  obtain ⟨n2, hn2⟩ : ∃ x, x = LN.length := ⟨_, rfl⟩
  obtain ⟨m2, hm2⟩ : ∃ x, x = LF.length := ⟨_, rfl⟩
  have HL1 : Hid (∀ W, Below w.heap.size w W → Calls Tryd.prog 11 #[.agg #[.slice na n nc, .slice fa m fc]] W fun e w' => ∃ ga gc qa qc, e = .returned (.tuple #[.agg #[.slice ga n2 gc, .slice qa m2 qc], .int .i64 E]) ∧ Hid (DfaAt w' (.agg #[.slice ga n2 gc, .slice qa m2 qc]) LN LF) ∧ Below W.heap.size W w') := fun W hb => by
    have := (least_any N F _ W (HD.out.1.below hb) (HD.out.2.below hb)).mono (fun _ _ h => h.c)
    rw [← hLN, ← hLF, ← hE] at this
    unfold LesC at this
    rw [← hn2, ← hm2] at this
    exact this
  have HL2 : Hid (∀ W, Below w.heap.size w W → Calls Tryd.prog 12 #[.agg #[.slice na n nc, .slice fa m fc]] W fun e w' => ∃ ga gc qa qc, e = .returned (.tuple #[.agg #[.slice ga n2 gc, .slice qa m2 qc], .int .i64 E]) ∧ Hid (DfaAt w' (.agg #[.slice ga n2 gc, .slice qa m2 qc]) LN LF) ∧ Below W.heap.size W w') := fun W hb => by
    have := (rleast_any N F _ W (HD.out.1.below hb)).mono (fun _ _ h => h.c)
    rw [← hLN, ← hLF, ← hE] at this
    unfold LesC at this
    rw [← hn2, ← hm2] at this
    exact this
  have HSM : Hid (∀ W x y, DfaAt W x LN LF → DfaAt W y LN LF → Calls Tryd.prog 13 #[x, y] W fun e w' => e = .returned (.bool true) ∧ Below W.heap.size W w') := fun W x y hx hy => by
    obtain ⟨k1, k2, k3⟩ := les_small N F
    rw [← hLN, ← hLF] at *
    exact (rsame_any13 LN LF LN LF x y W hx hy k1 k1 k2 k2 k3).mono (fun e w' h => ⟨by rw [h.1, decide_eq_true ⟨rfl, rfl⟩], h.2⟩)
  rw [hW0] at haw
  clear hn hm hbx hW0 hB0 hP hd hLN hLF hE hn2 hm2
  go_enter Tryd.func3, Tryd.ntmps3
  go_wp2_with fail
  refine haw.mono ?_
  rw [← HW0.out]
  rintro e w1 ⟨rfl, hB1⟩
  have HB1 : Hid (Below w.heap.size w w1) := below_after HB0.out hB1
  have HX1 : Hid (DBox w1 w.heap.size (.slice na n nc) (.slice fa m fc)) := HBX.out.below hB1
  have c0 := HX1.out.c0
  have c1 := HX1.out.c1
  have hlt := HX1.out.lt
  have hfw := HFW.out w1 HB1.out
  clear haw hB1
  go_wp2_with fail
  refine hfw.mono ?_
  rintro e w2 ⟨ok, rfl, hok, hB2⟩
  have HB2 : Hid (Below w.heap.size w w2) := below_after HB1.out hB2
  have HX2 : Hid (DBox w2 w.heap.size (.slice na n nc) (.slice fa m fc)) := HX1.out.below hB2
  clear hfw hB2 c0 c1 hlt hok
  cases ok with
  | false =>
    go_wp2
    go_ret
    exact ⟨rfl, HB2.out⟩
  | true =>
  have c0 := HX2.out.c0
  have c1 := HX2.out.c1
  have hlt := HX2.out.lt
  have hl1 := HL1.out w2 HB2.out
  go_wp2_with fail
  refine hl1.mono ?_
  rintro e w3 ⟨ga, gc, qa, qc, rfl, HD3, hB3⟩
  obtain ⟨W3, hW3⟩ : ∃ W, W = w3.alloc (.cells #[.slice ga n2 gc, .slice qa m2 qc] 25) := ⟨_, rfl⟩
  have hB3' : Below w3.heap.size w3 W3 := by rw [hW3]; exact below_alloc _ _
  obtain ⟨b3, hb3⟩ : ∃ x, x = w3.heap.size := ⟨_, rfl⟩
  have HX3 : Hid (DBox W3 b3 (.slice ga n2 gc) (.slice qa m2 qc)) := by rw [hW3, hb3]; exact heap_new' _ _
  have HD4 : Hid (DfaAt W3 (.agg #[.slice ga n2 gc, .slice qa m2 qc]) LN LF) := HD3.out.below hB3'
  have hB23 : Below w2.heap.size w2 W3 := below_after hB3 hB3'
  have HB3 : Hid (Below w.heap.size w W3) := below_after HB2.out hB23
  have HXA : Hid (DBox W3 w.heap.size (.slice na n nc) (.slice fa m fc)) := HX2.out.below hB23
  have HW3 : Hid (W3 = _) := hW3
  have HBE : Hid (b3 = _) := hb3
  clear hl1 hB3 hB3' hB23 hW3 HD3 c0 c1 hlt
  have c0 := HXA.out.c0
  have c1 := HXA.out.c1
  have hlt := HXA.out.lt
  have hl2 := HL2.out W3 HB3.out
  clear hb3
  go_upto_region 6 with fail
  rw [← HW3.out, ← HBE.out]
  go_wp2_with fail
  refine hl2.mono ?_
  rintro e w4 ⟨ga2, gc2, qa2, qc2, rfl, HD5, hB4⟩
  obtain ⟨W4, hW4⟩ : ∃ W, W = w4.alloc (.cells #[.slice ga2 n2 gc2, .slice qa2 m2 qc2] 25) := ⟨_, rfl⟩
  have hB4' : Below w4.heap.size w4 W4 := by rw [hW4]; exact below_alloc _ _
  obtain ⟨b4, hb4⟩ : ∃ x, x = w4.heap.size := ⟨_, rfl⟩
  have hx4 : DBox W4 b4 (.slice ga2 n2 gc2) (.slice qa2 m2 qc2) := by rw [hW4, hb4]; exact heap_new' _ _
  have hB34 : Below W3.heap.size W3 W4 := below_after hB4 hB4'
  have HB4 : Hid (Below w.heap.size w W4) := below_after HB3.out hB34
  have hx3 := HX3.out.below hB34
  have d0 := hx3.c0
  have d1 := hx3.c1
  have dl := hx3.lt
  have e0 := hx4.c0
  have e1 := hx4.c1
  have el := hx4.lt
  have hsm := HSM.out W4 _ _ (HD4.out.below hB34) (HD5.out.below hB4')
  have HW4 : Hid (W4 = _) := hW4
  have HBE4 : Hid (b4 = _) := hb4
  clear hl2 hB4 hB4' hB34 hW4 HD5 c0 c1 hlt hx3 hx4 hb4
  go_upto_region 7 with fail
  rw [← HW4.out, ← HBE4.out]
  go_wp2_with fail
  refine hsm.mono ?_
  rintro e w5 ⟨rfl, hB5⟩
  have hee : (E == E) = true := by simp
  have HB5 : Hid (Below w.heap.size w w5) := below_after HB4.out hB5
  clear hsm hB5
  go_wp2
  go_ret
  exact ⟨rfl, HB5.out⟩
end Go.Proofs.YtleafbbcgebmpaaDoor
