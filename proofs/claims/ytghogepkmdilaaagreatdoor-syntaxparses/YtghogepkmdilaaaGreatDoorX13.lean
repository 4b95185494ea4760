/-
  What kept, all and set of the document's reader answer. slices.Equal over ranges, and the place of a set among those of the program.
-/
import Derived.Test.YtghogepkmdilaaaGreatDoorX12
import Derived.Laws.StructEq
namespace Go.Proofs.YtghogepkmdilaaaGreatDoor
open Go.RowKit Go.Shelf S1
set_option linter.unusedVariables false

theorem strB_eq {x : List Int} (hx : Byt x) (y : List Int) (hy : Byt y) {l : List UInt8} (hl : (y.map fun n => UInt8.ofNat n.toNat) = l) : ((strOfNums x).toList == l) = decide (x = y) := by
  have := strNums_eq hx hy
  rw [strL y, hl] at this
  exact this
/-- Is a text one of the language's own? -/
def keptB (x : List Int) : Bool := decide (x = wSet) || (decide (x = wBreak) || decide (x = wKeep))

set_option maxRecDepth 100000 in
theorem kept_any (x : List Int) (hx : Byt x) (w : World) : Calls Tryz.prog 51 #[.string (strOfNums x)] w fun e w' => e = .returned (.bool (keptB x)) ∧ w = w' := by
  have s1 : ((strOfNums x).toList == ([115, 101, 116] : List UInt8)) = decide (x = wSet) := strB_eq hx wSet byt_set rfl
  have s2 : ((strOfNums x).toList == ([98, 114, 101, 97, 107] : List UInt8)) = decide (x = wBreak) := strB_eq hx wBreak byt_break rfl
  have s3 : ((strOfNums x).toList == ([107, 101, 101, 112] : List UInt8)) = decide (x = wKeep) := strB_eq hx wKeep byt_keep rfl
  obtain ⟨b, hb⟩ : ∃ b, b = keptB x := ⟨_, rfl⟩
  rw [← hb]
  have HB : Hid (b = keptB x) := hb
  clear hb
  by_cases q1 : x = wSet
  · rw [decide_eq_true q1] at s1
    have HE : Hid (b = true) := by show _ = _; rw [HB.out]; simp [keptB, q1]
    clear q1 s2 s3
    go_enter Tryz.func51, Tryz.ntmps51
    go_wp2
    go_ret
    rw [HE.out]; exact ⟨rfl, rfl⟩
  · rw [decide_eq_false q1] at s1
    by_cases q2 : x = wBreak
    · rw [decide_eq_true q2] at s2
      have HE : Hid (b = true) := by show _ = _; rw [HB.out]; simp [keptB, q2]
      clear q1 q2 s3
      go_enter Tryz.func51, Tryz.ntmps51
      go_wp2
      go_ret
      rw [HE.out]; exact ⟨rfl, rfl⟩
    · rw [decide_eq_false q2] at s2
      by_cases q3 : x = wKeep
      · rw [decide_eq_true q3] at s3
        have HE : Hid (b = true) := by show _ = _; rw [HB.out]; simp [keptB, q3]
        clear q1 q2 q3
        go_enter Tryz.func51, Tryz.ntmps51
        go_wp2
        go_ret
        rw [HE.out]; exact ⟨rfl, rfl⟩
      · rw [decide_eq_false q3] at s3
        have HE : Hid (b = false) := by show _ = _; rw [HB.out]; simp [keptB, q1, q2, q3]
        clear q1 q2 q3
        go_enter Tryz.func51, Tryz.ntmps51
        go_wp2
        go_ret
        rw [HE.out]; exact ⟨rfl, rfl⟩
theorem name_kept {t : Tok} : tkName t = (t.k == 1 && !keptB t.t) := by
  unfold tkName tkRule tkWord keptB
  cases h : (t.k == 1) with
  | false => simp
  | true =>
    by_cases a : t.t = wSet <;> by_cases b : t.t = wBreak <;> by_cases c : t.t = wKeep <;> simp [a, b, c]

theorem all_any8 (w : World) : Calls Tryz.prog 161 #[] w fun e w' => ∃ v, e = .returned v ∧ w'.ownsRow w.heap.size 80 2 v allS.length (cellsRs allS) ∧ Below w.heap.size w w' := by
  have HB : Hid (Below w.heap.size w (w.alloc (.cells #[.int .i64 0, .int .i64 1114111] 80))) := below_alloc _ _
  have HO : Hid ((w.alloc (.cells #[.int .i64 0, .int .i64 1114111] 80)).ownsRow w.heap.size 80 2 (.slice (some ⟨w.heap.size, 0, none⟩) 1 1) allS.length (cellsRs allS)) := ⟨rfl, .inr ⟨w.heap.size, 1, _, rfl, Nat.le_refl _, heap_new' _ _, Nat.le_refl _, by unfold maxLen; omega, rfl, rfl⟩⟩
  go_enter Tryz.func161, Tryz.ntmps161
  go_wp2
  go_ret
  exact ⟨_, rfl, HO.out, HB.out⟩

/-- What set tells, of the document's reader. -/
def RSA (c : Pc) (X : Nat → Prop) (P : Nat) (t : Tok) (r : List Tok) (st : Sts) (d : Nat) (w : World) (e : Ending) (w' : World) : Prop :=
  Fr w.heap.size P w w' ∧ ((d = 0 ∧ ∃ s v, setM c.N t = .inr s ∧ IsSet s ∧ RngS (Im X w' P) w' v s ∧ e = .returned (.tuple #[v, .bool true]) ∧ Pa c X P w' (t :: r) st 0) ∨
   (e = .returned (.tuple #[.slice none 0 0, .bool false]) ∧ ∃ x, Pa c X P w' (t :: r) st x ∧ ((d ≠ 0 ∧ x = d) ∨ (d = 0 ∧ x = 0 ∧ setM c.N t = .inl 6) ∨ (d = 0 ∧ x = 4 ∧ setM c.N t = .inl 4))))

set_option maxRecDepth 100000 in
set_option maxHeartbeats 8000000 in
theorem rset_any (c : Pc) (X : Nat → Prop) (P : Nat) (w : World) (t : Tok) (r : List Tok) (st : Sts) (d : Nat) (hpa : Pa c X P w (t :: r) st d) :
    Calls Tryz.prog 131 #[.pointer (some ⟨P, 0, none⟩)] w fun e w' => RSA c X P t r st d w e w' := by
  have h1 := now_any c X P w t r st d hpa
  have HPA : Hid (Pa c X P w (t :: r) st d) := hpa
  obtain ⟨_, _, _, _, _, _, _, _, _, _, _, _, _, _, hset, hby, hln, _⟩ := hpa.next
  have HBY : Hid (Byt t.t ∧ t.t.length ≤ 70000) := ⟨hby, hln⟩
  have HSET : Hid (IsSet t.s) := hset
  have hPl := hpa.lt
  have s46 : ((strOfNums t.t).toList == ([46] : List UInt8)) = decide (t.t = [46]) := strB_eq hby [46] (fun y hy => by simp at hy; omega) rfl
  clear hpa hset hby hln
  go_enter Tryz.func131, Tryz.ntmps131
  go_wp2_with fail
  refine h1.mono ?_
  rintro e w1 ⟨v, rfl, hr, hB⟩
  obtain ⟨va, vc, rfl⟩ := hr.slice
  have HR : Hid (RngS (Im X w P) w (.slice va t.s.length vc) t.s) := hr
  clear h1 hr
  unfold tokV
  have hB2 : Below w.heap.size w (w1.alloc (.cells #[.int .i64 t.k, .int .i64 (t.p : Int), .string (strOfNums t.t), .slice va t.s.length vc] 55)) := below_after hB (below_alloc _ _)
  have HP2 : Hid (Pa c X P (w1.alloc (.cells #[.int .i64 t.k, .int .i64 (t.p : Int), .string (strOfNums t.t), .slice va t.s.length vc] 55)) (t :: r) st d) := HPA.out.below hB2
  have HB2 : Hid (Below w.heap.size w (w1.alloc (.cells #[.int .i64 t.k, .int .i64 (t.p : Int), .string (strOfNums t.t), .slice va t.s.length vc] 55))) := hB2
  have HF2 : Hid (Fr w.heap.size P w (w1.alloc (.cells #[.int .i64 t.k, .int .i64 (t.p : Int), .string (strOfNums t.t), .slice va t.s.length vc] 55))) := HPA.out.fr hB2
  have c5 : w1.cell? ⟨P, 5, none⟩ = some (.int .i64 (d : Int)) := (HPA.out.below hB).dep.1
  have hPl1 : P < w1.heap.size := Nat.lt_of_lt_of_le hPl hB.size
  clear hB2
  by_cases h0 : d = 0
  · subst h0
    by_cases h3 : t.k = 3
    · have h3' : (t.k == 3) = true := by simpa using h3
      have HE : Hid (setM c.N t = .inr t.s) := setM_set h3
      clear h3
      go_wp2
      go_ret2
      exact ⟨HF2.out, .inl ⟨rfl, t.s, _, HE.out, HSET.out, HR.out.fr HF2.out, rfl, HP2.out⟩⟩
    · have h3' : (t.k == 3) = false := by simpa using h3
      have H3 : Hid (¬ t.k = 3) := h3
      clear h3
      cases h4 : tkSign 46 t with
      | true =>
        obtain ⟨q1, q2⟩ := sign_k h4
        have h2' : (t.k == 2) = true := by simpa using q1
        rw [decide_eq_true q2] at s46
        have HE : Hid (setM c.N t = .inr allS) := setM_all H3.out h4
        have h5 := all_any8 (w1.alloc (.cells #[.int .i64 t.k, .int .i64 (t.p : Int), .string (strOfNums t.t), .slice va t.s.length vc] 55))
        clear q1 q2
        go_wp2_with fail
        refine h5.mono ?_
        rintro e w3 ⟨v3, rfl, ho, hB3⟩
        have hr3 := HP2.out.rngS hB3 ho
        obtain ⟨a3, c3, rfl⟩ := hr3.slice
        clear h5 ho
        go_wp2
        go_ret2
        exact ⟨HF2.out.then (HP2.out.fr hB3) HF2.out.size, .inl ⟨rfl, allS, _, HE.out, allS_set, hr3, rfl, HP2.out.below hB3⟩⟩
      | false =>
        have H4 : Hid (tkSign 46 t = false) := h4
        have hcase : (t.k == 2) = false ∨ ((t.k == 2) = true ∧ ((strOfNums t.t).toList == ([46] : List UInt8)) = false) := by
          cases q : (t.k == 2) with
          | false => exact .inl rfl
          | true =>
            refine .inr ⟨rfl, ?_⟩
            rw [s46]
            apply decide_eq_false
            intro q2
            unfold tkSign at h4
            rw [q, q2] at h4
            simp at h4
        clear s46 h4
        -- the name, or none
        have hnm := name_kept (t := t)
        by_cases hk1 : t.k = 1
        · have hk1' : (t.k != 1) = false := by simpa using hk1
          have hk12 : (t.k == 1) = true := by simpa using hk1
          have hk2 : (t.k == 2) = false := by rw [beq_eq_false_iff_ne, hk1]; decide
          rw [hk12] at hnm
          have h5 := kept_any t.t HBY.out.1 (w1.alloc (.cells #[.int .i64 t.k, .int .i64 (t.p : Int), .string (strOfNums t.t), .slice va t.s.length vc] 55))
          clear hk1 hk12 hcase
          cases hkp : keptB t.t with
          | true =>
            rw [hkp] at h5 hnm
            have HE : Hid (setM c.N t = .inl 6) := setM_bad H3.out H4.out (by rw [hnm]; rfl)
            clear hnm
            go_wp2_with fail
            refine h5.mono ?_
            rintro e w3 ⟨rfl, rfl⟩
            clear h5
            go_wp2
            go_ret2
            exact ⟨HF2.out, .inr ⟨rfl, 0, HP2.out, .inr (.inl ⟨rfl, rfl, HE.out⟩)⟩⟩
          | false =>
            rw [hkp] at h5 hnm
            have HNM : Hid (tkName t = true) := by show _ = _; rw [hnm]; rfl
            clear hnm
            obtain ⟨hmc, hnms⟩ := HP2.out.names
            rcases (nms_drew hnms).look t.t HBY.out.1 HBY.out.2 with ⟨hN, v4, hrun⟩ | ⟨s, v4, hN, hs, hr4, hrun⟩
            · have HE : Hid (setM c.N t = .inl 4) := setM_none H3.out H4.out HNM.out hN
              have hpd : Pa c X P (w1.alloc (.cells #[.int .i64 t.k, .int .i64 (t.p : Int), .string (strOfNums t.t), .slice va t.s.length vc] 55)).drew (t :: r) st 0 := HP2.out.below ((Below.refl _ _).drew)
              have h6 : Calls Tryz.prog 52 #[.pointer (some ⟨P, 0, none⟩), .int .i64 4] (w1.alloc (.cells #[.int .i64 t.k, .int .i64 (t.p : Int), .string (strOfNums t.t), .slice va t.s.length vc] 55)).drew fun e w' => e = .returned (.tuple #[]) ∧ Pa c X P w' (t :: r) st 4 ∧ Fr (w1.alloc (.cells #[.int .i64 t.k, .int .i64 (t.p : Int), .string (strOfNums t.t), .slice va t.s.length vc] 55)).drew.heap.size P (w1.alloc (.cells #[.int .i64 t.k, .int .i64 (t.p : Int), .string (strOfNums t.t), .slice va t.s.length vc] 55)).drew w' := fail_any c X P _ st 0 hpd 4 (by decide)
              have HFD : Hid (Fr w.heap.size P w (w1.alloc (.cells #[.int .i64 t.k, .int .i64 (t.p : Int), .string (strOfNums t.t), .slice va t.s.length vc] 55)).drew) := HF2.out.then (HP2.out.fr ((Below.refl _ _).drew)) HF2.out.size
              clear hN hnms hpd
              have hmc1 : w1.cell? ⟨P, 2, none⟩ = some (.map (some c.mb)) := (HPA.out.below hB).names.1
              go_wp2_with fail
              refine h5.mono ?_
              rintro e w3 ⟨rfl, rfl⟩
              clear h5
              go_wp2
              go_region
              go_wp2_with fail
              refine h6.mono ?_
              rintro e w4 ⟨rfl, hp4, hf4⟩
              clear h6
              go_wp2
              go_ret2
              exact ⟨HFD.out.then hf4 HFD.out.size, .inr ⟨rfl, 4, hp4, .inr (.inr ⟨rfl, rfl, HE.out⟩)⟩⟩
            · have HE : Hid (setM c.N t = .inr s) := setM_some H3.out H4.out HNM.out hN
              have HRS : Hid (IsSet s ∧ RngS (Im X (w1.alloc (.cells #[.int .i64 t.k, .int .i64 (t.p : Int), .string (strOfNums t.t), .slice va t.s.length vc] 55)) P) (w1.alloc (.cells #[.int .i64 t.k, .int .i64 (t.p : Int), .string (strOfNums t.t), .slice va t.s.length vc] 55)).drew v4 s) := ⟨hs, hr4⟩
              have HPD : Hid (Pa c X P (w1.alloc (.cells #[.int .i64 t.k, .int .i64 (t.p : Int), .string (strOfNums t.t), .slice va t.s.length vc] 55)).drew (t :: r) st 0) := HP2.out.below ((Below.refl _ _).drew)
              have HFD : Hid (Fr w.heap.size P w (w1.alloc (.cells #[.int .i64 t.k, .int .i64 (t.p : Int), .string (strOfNums t.t), .slice va t.s.length vc] 55)).drew) := HF2.out.then (HP2.out.fr ((Below.refl _ _).drew)) HF2.out.size
              clear hN hnms hs hr4
              have hmc1 : w1.cell? ⟨P, 2, none⟩ = some (.map (some c.mb)) := (HPA.out.below hB).names.1
              go_wp2_with fail
              refine h5.mono ?_
              rintro e w3 ⟨rfl, rfl⟩
              clear h5
              go_wp2
              go_region
              go_wp2
              go_ret2
              exact ⟨HFD.out, .inl ⟨rfl, s, v4, HE.out, HRS.out.1, HRS.out.2, rfl, HPD.out⟩⟩
        · have hk1' : (t.k != 1) = true := by simpa using hk1
          have hk12 : (t.k == 1) = false := by simpa using hk1
          have HE : Hid (setM c.N t = .inl 6) := setM_bad H3.out H4.out (by rw [hnm, hk12]; rfl)
          clear hk1 hk12 hnm
          rcases hcase with h2' | ⟨h2', h6'⟩
          · go_wp2
            go_ret2
            exact ⟨HF2.out, .inr ⟨rfl, 0, HP2.out, .inr (.inl ⟨rfl, rfl, HE.out⟩)⟩⟩
          · go_wp2
            go_ret2
            exact ⟨HF2.out, .inr ⟨rfl, 0, HP2.out, .inr (.inl ⟨rfl, rfl, HE.out⟩)⟩⟩
  · have h0' : ((d : Int) != 0) = true := by simp; omega
    have H0 : Hid (d ≠ 0) := h0
    clear h0
    go_wp2
    go_ret2
    exact ⟨HF2.out, .inr ⟨rfl, d, HP2.out, .inl ⟨H0.out, rfl⟩⟩⟩
end Go.Proofs.YtghogepkmdilaaaGreatDoor

namespace Go.Proofs.YtghogepkmdilaaaGreatDoor
open Go.RowKit Go.Shelf S1
set_option linter.unusedVariables false

theorem neq_rng (a b x y : Int) (w : World) : (binOp .neq 80 (.agg #[.int .i64 a, .int .i64 b]) (.agg #[.int .i64 x, .int .i64 y])).run Tryz.prog w = .ok (.bool (!(a == x && b == y))) w := by
  have u3 := Tryz.underlying3
  have a3 := Tryz.isAgg3
  have z3 := Tryz.sizeOf3
  have hS : Tryz.prog.underlying 80 = some (.struct (Tryz.prog.fieldsOf 80)) := by kernel_rfl
  have hp : Tryz.prog.stoodInHeld 80 = false := by kernel_rfl
  rw [run_neq_struct, show (10000 : Nat) = 9999 + 1 from rfl, run_equalIn_agg w 9999 80 _ _ hS hp]
  simp only [Program.fieldsOf, Tryz.underlying80]
  go_simp
  by_cases h1 : a = x <;> by_cases h2 : b = y <;> simp [h1, h2]

theorem sameS_len {a b : List Rg} (h : a.length ≠ b.length) : sameS a b = false := by
  cases q : sameS a b with
  | false => rfl
  | true => exact absurd (congrArg List.length (sameS_iff.1 q)) h
theorem sameS_drop {a b : List Rg} {k : Nat} (ha : k < a.length) (hb : k < b.length) : sameS (a.drop k) (b.drop k) = ((a[k].lo == b[k].lo && a[k].hi == b[k].hi) && sameS (a.drop (k + 1)) (b.drop (k + 1))) := by
  rw [List.drop_eq_getElem_cons ha, List.drop_eq_getElem_cons hb]
  rfl

set_option maxRecDepth 100000 in
set_option maxHeartbeats 4000000 in
theorem equal_any (us vs : List Rg) (hlen : us.length ≤ 600000) (va vb : Value) (w : World) (ha : RngIn w va us) (hb : RngIn w vb vs) :
    Calls Tryz.prog 61 #[va, vb] w fun e w' => e = .returned (.bool (sameS us vs)) ∧ Below w.heap.size w w' := by
  obtain ⟨a, ca, rfl, hca, hia⟩ := ha
  obtain ⟨b, cb, rfl, hcb, hib⟩ := hb
  obtain ⟨q, hq⟩ : ∃ q, q = sameS us vs := ⟨_, rfl⟩
  rw [← hq]
  have HQ : Hid (q = sameS us vs) := hq
  clear hq
  by_cases hl : us.length = vs.length
  · have HA : Hid (∀ i, (h : i < us.length) → ∃ g off, a = some ⟨g, off, none⟩ ∧ g < w.heap.size ∧ w.cell? ⟨g, off + i * 2, none⟩ = some (.int .i64 us[i].lo) ∧ w.cell? ⟨g, off + i * 2 + 1, none⟩ = some (.int .i64 us[i].hi)) := hia
    have HB : Hid (∀ i, (h : i < vs.length) → ∃ g off, b = some ⟨g, off, none⟩ ∧ g < w.heap.size ∧ w.cell? ⟨g, off + i * 2, none⟩ = some (.int .i64 vs[i].lo) ∧ w.cell? ⟨g, off + i * 2 + 1, none⟩ = some (.int .i64 vs[i].hi)) := hib
    have HL : Hid (us.length = vs.length) := hl
    rw [← hl] at hcb ⊢
    clear hia hib hl
    have hneq : ((us.length : Int) != (us.length : Int)) = false := by simp
    go_enter Tryz.func61, Tryz.ntmps61
    go_wp2
    go_loopw [13] (fun i wr => ∃ k : Nat, k ≤ us.length ∧ i = .int .i64 k ∧ Hid (q = sameS (us.drop k) (vs.drop k)) ∧ ∃ nd, wr = w.drewN nd) (fun i _ => us.length - (intOf i).toNat)
    case atStart => exact ⟨0, Nat.zero_le _, rfl, HQ.out, 0, rfl⟩
    case round =>
      obtain ⟨k, hk, rfl, HD, nd, rfl⟩ := hrel
      by_cases hlt : k < us.length
      · have hlt2 : k < vs.length := by have := HL.out; omega
        obtain ⟨ga, oa, rfl, hga, a0, a1⟩ := HA.out k hlt
        obtain ⟨gb, ob, rfl, hgb, b0, b1⟩ := HB.out k hlt2
        obtain ⟨xl, hxl⟩ : ∃ x, x = us[k].lo := ⟨_, rfl⟩
        obtain ⟨xh, hxh⟩ : ∃ x, x = us[k].hi := ⟨_, rfl⟩
        obtain ⟨yl, hyl⟩ : ∃ x, x = vs[k].lo := ⟨_, rfl⟩
        obtain ⟨yh, hyh⟩ : ∃ x, x = vs[k].hi := ⟨_, rfl⟩
        have HD2 : Hid (q = ((xl == yl && xh == yh) && sameS (us.drop (k + 1)) (vs.drop (k + 1)))) := by
          show _ = _
          rw [hxl, hxh, hyl, hyh, ← sameS_drop hlt hlt2]; exact HD.out
        rw [← hxl] at a0
        rw [← hxh] at a1
        rw [← hyl] at b0
        rw [← hyh] at b1
        clear hxl hxh hyl hyh hlt2
        have hk0 : (0 : Int) ≤ (k : Int) := by omega
        have hk1 : (k : Int) < (us.length : Int) := by omega
        have hnq : ∀ W : World, (binOp .neq 80 (.agg #[.int .i64 xl, .int .i64 xh]) (.agg #[.int .i64 yl, .int .i64 yh])).run Tryz.prog W = .ok (.bool (!(xl == yl && xh == yh))) W := fun W => neq_rng xl xh yl yh W
        have hgd : Tryz.prog.eqGuardType Tryz.prog.depth 80 = false := by kernel_rfl
        cases hb : (xl == yl && xh == yh) with
        | true =>
          rw [hb] at hnq
          have HD3 : Hid (q = sameS (us.drop (k + 1)) (vs.drop (k + 1))) := by
            show _ = _
            rw [HD2.out, hb]; rfl
          clear HD HD2
          go_wp2
          go_quiet (fail)
          go_wp2
          go_roundw
          case rel => exact ⟨k + 1, by omega, by go_num, HD3, _, rfl⟩
          case measure => simp [intOf]; omega
        | false =>
          rw [hb] at hnq
          have HD3 : Hid (q = false) := by
            show _ = _
            rw [HD2.out, hb]; rfl
          clear HD HD2
          go_wp2
          go_quiet (fail)
          go_wp2
          go_ret
          refine ⟨by rw [HD3.out]; rfl, ?_⟩
          first | exact below_drewN' (below_drewN' (Below.refl _ _) _) _ | exact below_drewN' (Below.refl _ _) _
      · obtain rfl : k = us.length := by omega
        have HD3 : Hid (q = true) := by
          show _ = _
          rw [HD.out, List.drop_length, HL.out, List.drop_length]; rfl
        go_wp2
        go_ret
        exact ⟨by rw [HD3.out]; rfl, below_drewN' (Below.refl _ _) _⟩
  · have hneq : ((us.length : Int) != (vs.length : Int)) = true := by simp; omega
    have HE : Hid (q = false) := HQ.out.trans (sameS_len hl)
    clear hia hib hl
    go_enter Tryz.func61, Tryz.ntmps61
    go_wp2
    go_ret
    exact ⟨by rw [HE.out]; rfl, Below.refl _ _⟩
end Go.Proofs.YtghogepkmdilaaaGreatDoor
