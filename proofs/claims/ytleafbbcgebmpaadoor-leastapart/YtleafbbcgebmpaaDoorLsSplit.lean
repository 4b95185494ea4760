/-
  scansionref13.split: which pairs of states can be told apart.
-/
import Derived.Test.YtleafbbcgebmpaaDoorLsMat
import Derived.Test.YtleafbbcgebmpaaDoorLsDfa
namespace Go.Proofs.YtleafbbcgebmpaaDoor
open Go.RowKit Go.Shelf
set_option linter.unusedVariables false

theorem run_make13 (W : World) (t e : TypeId) (i : TypeInfo) (z : Value) (ht : Tryd.prog.underlying t = some (.slice e)) (hi : Tryd.prog.info? e = some i) (hz : i.zero = some z) (hs : i.size = 1) (hc : z.cells = #[z]) (n : Nat) (hn : n ≤ 100000) (hb : i.bytes ≤ 1000) :
    Sem.run Tryd.prog (Instr.makeSlice t (.int .i64 (n : Int)) (.int .i64 (n : Int))) W = .ok (.slice (some ⟨W.heap.size, 0, none⟩) n n) (W.alloc (.cells (madeCells #[z] n) e)) := by
  have hle : n * i.bytes ≤ 100000 * 1000 := Nat.mul_le_mul hn hb
  have := run_make (P := Tryd.prog) W t e i z ht hi hz .i64 .i64 (n : Int) (n : Int) (by omega) (by omega) (by rw [Int.mul_comm, ← Int.natCast_mul]; omega) (by omega)
  rw [this, hs, hc]
  simp
section
variable {M : Mach} {m : Nat → Nat → Bool} {r i k : Nat}
def LoS (M : Mach) (r : Nat) (m : Nat → Nat → Bool) : Prop := ∀ a b, a < M.n → b < M.n → M.apt r a b = true → m a b = true
def UpS (M : Mach) (m : Nat → Nat → Bool) : Prop := ∀ a b, a < M.n → b < M.n → m a b = true → M.apt M.n a b = true
theorem upB_mono {a b : Nat} {x : Bool} (h : m a b = true) : upB m i k (m i k || x) a b = true := by
  unfold upB
  split
  · rename_i e
    rw [← e.1, ← e.2, h]; rfl
  · exact h
theorem upS_step (h : M.Ok) (hu : UpS M m) {c : Nat} (hi : i < M.n) (hk : k < M.n) (hc : c < M.k) : UpS M (upB m i k (m i k || m (M.d i c) (M.d k c))) := fun a b ha hb hm => by
  unfold upB at hm
  split at hm
  · rename_i e
    obtain ⟨rfl, rfl⟩ := e
    cases hx : m a b with
    | true => exact hu a b ha hb hx
    | false =>
      rw [hx, Bool.false_or] at hm
      have := hu _ _ (h.cl a c ha hc) (h.cl b c hb hc) hm
      obtain ⟨w, h1, h2, h3⟩ := (apt_iff _ _ _).1 this
      exact apt_all h ha hb (w := c :: w) (wd_cons.2 ⟨hc, h1⟩) h3
  · exact hu a b ha hb hm
theorem upB_hit (x : Bool) : upB m i k (m i k || x) i k = (m i k || x) := by simp [upB]
theorem apt_next {a b : Nat} : M.apt (r + 1) a b = true ↔ M.apt r a b = true ∨ ∃ c, c < M.k ∧ M.apt r (M.d a c) (M.d b c) = true := by
  show (M.apt r a b || (List.range M.k).any fun c => M.apt r (M.d a c) (M.d b c)) = true ↔ _
  rw [Bool.or_eq_true, List.any_eq_true]
  simp
/-- In a round: the rows ahead of p are through, and of p the entries ahead of q, and of p, q the classes ahead of c. -/
def RdS (M : Mach) (r p q c : Nat) (m : Nat → Nat → Bool) : Prop := LoS M r m ∧ UpS M m ∧ (∀ a b, a < p → b < M.n → M.apt (r + 1) a b = true → m a b = true) ∧ (∀ b, b < q → M.apt (r + 1) p b = true → m p b = true) ∧ (∀ z, z < c → M.apt r (M.d p z) (M.d q z) = true → m p q = true)
theorem RdS.step {p q c : Nat} (h : M.Ok) (hs : RdS M r p q c m) (hp : p < M.n) (hq : q < M.n) (hc : c < M.k) : RdS M r p q (c + 1) (upB m p q (m p q || m (M.d p c) (M.d q c))) := by
  obtain ⟨h1, h2, h3, h4, h5⟩ := hs
  refine ⟨fun a b ha hb e => upB_mono (h1 a b ha hb e), upS_step h h2 hp hq hc, fun a b ha hb e => upB_mono (h3 a b ha hb e), fun b hb e => upB_mono (h4 b hb e), fun z hz e => ?_⟩
  rw [upB_hit]
  by_cases k : z = c
  · subst k
    rw [h1 _ _ (h.cl p z hp hc) (h.cl q z hq hc) e]
    simp
  · rw [h5 z (by omega) e]; rfl
theorem RdS.col {p q : Nat} (hs : RdS M r p q M.k m) (hp : p < M.n) (hq : q < M.n) : RdS M r p (q + 1) 0 m := by
  obtain ⟨h1, h2, h3, h4, h5⟩ := hs
  refine ⟨h1, h2, h3, fun b hb e => ?_, fun z hz => absurd hz (by omega)⟩
  by_cases k : b = q
  · subst k
    rcases apt_next.1 e with e | ⟨c, hc, e⟩
    · exact h1 _ _ hp hq e
    · exact h5 c hc e
  · exact h4 b (by omega) e
theorem RdS.row {p q : Nat} (hs : RdS M r p q 0 m) (hq : M.n ≤ q) : RdS M r (p + 1) 0 0 m := by
  obtain ⟨h1, h2, h3, h4, h5⟩ := hs
  refine ⟨h1, h2, fun a b ha hb e => ?_, fun b hb => absurd hb (by omega), fun z hz => absurd hz (by omega)⟩
  by_cases k : a = p
  · subst k
    exact h4 b (by omega) e
  · exact h3 a b (by omega) hb e
theorem RdS.round {p : Nat} (hs : RdS M r p 0 0 m) (hp : M.n ≤ p) : LoS M (r + 1) m ∧ UpS M m := ⟨fun a b ha hb e => hs.2.2.1 a b (by omega) hb e, hs.2.1⟩
theorem RdS.start (h : LoS M r m ∧ UpS M m) : RdS M r 0 0 0 m := ⟨h.1, h.2, fun a b ha => absurd ha (by omega), fun b hb => absurd hb (by omega), fun z hz => absurd hz (by omega)⟩
theorem loUp (h : LoS M M.n m ∧ UpS M m) {a b : Nat} (ha : a < M.n) (hb : b < M.n) : m a b = M.apt M.n a b := by
  cases hx : m a b with
  | true => rw [h.2 a b ha hb hx]
  | false =>
    cases hy : M.apt M.n a b with
    | false => rfl
    | true =>
      rw [h.1 a b ha hb hy] at hx
      cases hx
end

set_option maxRecDepth 100000 in
set_option maxHeartbeats 16000000 in
theorem rsplit_any (N : List (List Int)) (F : List Bool) (dv : Value) (w : World) (hd : DfaAt w dv N F) (hr : rightD N F = true) :
    Calls Tryd.prog 23 #[dv] w fun e w' => ∃ (B og : Nat) (g : Nat → Nat) (m : Nat → Nat → Bool), w.heap.size ≤ B ∧ e = .returned (.slice (some ⟨og, 0, none⟩) N.length N.length) ∧ MatI w' B og N.length N.length g m ∧ (∀ a b, a < N.length → b < N.length → m a b = (mch N F).apt N.length a b) ∧ Below w.heap.size w w' := by
  obtain ⟨iR, hiR, hzR0, hzR1, hzR2⟩ := info_parts Tryd.infoBools13
  obtain ⟨iB, hiB, hzB0, hzB1, hzB2⟩ := info_parts Tryd.infoBool12
  have HD : Hid (DfaAt w dv N F) := hd
  have HR : Hid (rightD N F = true) := hr
  obtain ⟨na, nc, fa, fc, rfl, hnc, hfc, hx, hfx⟩ := dfa_parts hd
  have hri := rightD_iff.1 hr
  have HRI : Hid _ := hri
  obtain ⟨n, hn⟩ : ∃ x, x = N.length := ⟨_, rfl⟩
  obtain ⟨C, hC⟩ : ∃ x, x = (N.getD 0 []).length := ⟨_, rfl⟩
  have HN : Hid (n = N.length ∧ n = F.length ∧ C = (N.getD 0 []).length) := ⟨hn, by rw [hn]; exact hri.2.2.1.symm, hC⟩
  have hFl : F.length = n := by rw [hn]; exact hri.2.2.1
  obtain ⟨W0, hW0⟩ : ∃ W, W = w.alloc (.cells #[.slice na n nc, .slice fa n fc] 25) := ⟨_, rfl⟩
  have hB0 : Below w.heap.size w W0 := by rw [hW0]; exact below_alloc _ _
  have hbx : DBox W0 w.heap.size (.slice na n nc) (.slice fa n fc) := by rw [hW0]; exact heap_new' _ _
  have HROW : Hid (∀ W, Below W0.heap.size W0 W → ∀ a c, (ha : a < n) → (hc : c < C) → ∃ g off y yc g2 o2, na = some ⟨g, off, none⟩ ∧ g < W.heap.size ∧ W.cell? ⟨g, off + a, none⟩ = some (.slice y C yc) ∧ y = some ⟨g2, o2, none⟩ ∧ C ≤ yc ∧ g2 < W.heap.size ∧ W.cell? ⟨g2, o2 + c, none⟩ = some (.int .i64 (((mch N F).d a c : Nat) : Int)) ∧ (mch N F).d a c < n) := fun W hb a c ha hc => by
    have hdW := hd.below (below_after hB0 hb)
    obtain ⟨na', nc', fa', fc', e, _, _, hx', _⟩ := dfa_parts hdW
    have hna : na = na' := by
      injection e with e
      have := congrArg (fun z : Array Value => z.getD 0 (.bool false)) e
      simp at this
      exact this.1
    subst hna
    have haN : a < N.length := by omega
    obtain ⟨g, off, x, h1, h2, h3, h4⟩ := hx' a haN
    obtain ⟨y, yc, rfl, hyc⟩ := h4.slice
    have hl : N[a].length = C := by rw [hC]; exact (hri.2.2.2.2.2 a haN).1
    have hcN : c < N[a].length := by omega
    obtain ⟨g2, o2, k1, k2, k3⟩ := h4.at hcN
    obtain ⟨q, q1, q2, q3⟩ := mch_ent hr haN (c := c) (by omega)
    have e2 : (N.getD a []).getD c 0 = N[a][c] := by
      have eN : N.getD a [] = N[a] := by rw [List.getD_eq_getElem?_getD, List.getElem?_eq_getElem haN]; rfl
      rw [eN, List.getD_eq_getElem?_getD, List.getElem?_eq_getElem hcN]
      rfl
    rw [q2] at e2
    rw [hl] at h3 hyc
    refine ⟨g, off, y, yc, g2, o2, h1, h2, h3, k1, hyc, k2, ?_, by rw [q3]; omega⟩
    rw [k3, ← e2, q3]
  have HFIN : Hid (∀ W, Below W0.heap.size W0 W → ∀ a, (ha : a < n) → ∃ g off, fa = some ⟨g, off, none⟩ ∧ g < W.heap.size ∧ W.cell? ⟨g, off + a, none⟩ = some (.bool ((mch N F).f a))) := fun W hb a ha => by
    have haF : a < F.length := by omega
    obtain ⟨g, off, h1, h2, h3⟩ := hfx a haF
    have hb2 := below_after hB0 hb
    refine ⟨g, off, h1, Nat.lt_of_lt_of_le h2 hb2.size, ((hb2.cell (p := ⟨g, _, none⟩) h2).trans h3).trans ?_⟩
    show _ = some (Value.bool (F.getD a false))
    rw [List.getD_eq_getElem?_getD, List.getElem?_eq_getElem haF]
    rfl
  rw [hFl] at hfc ⊢
  rw [← hn] at hnc ⊢
  have hn1 : 1 ≤ n := by rw [hn]; exact hri.1
  have hn5 : n ≤ 5000 := by rw [hn]; exact hri.2.1
  have hC2 : C ≤ 200 := by rw [hC]; exact hri.2.2.2.2.1
  have HMO : Hid ((mch N F).Ok ∧ (mch N F).n = n ∧ (mch N F).k = C) := ⟨mch_ok hr, hn.symm, hC.symm⟩
  have HMK : Hid (∀ W, Sem.run Tryd.prog (Instr.makeSlice 23 (.int .i64 (n : Int)) (.int .i64 (n : Int))) W = .ok (.slice (some ⟨W.heap.size, 0, none⟩) n n) (W.alloc (.cells (madeCells #[.bool false] n) 4))) := fun W => run_make13 W 23 4 iB (.bool false) Tryd.underlying23 hiB hzB0 hzB1 rfl n (by omega) (by omega)
  have hmk0 := run_make13 W0 45 23 iR (.slice none 0 0) Tryd.underlying45 hiR hzR0 hzR1 rfl n (by omega) (by omega)
  have c0 := hbx.c0
  have c1 := hbx.c1
  have hlt := hbx.lt
  have HBX : Hid (∀ W, Below W0.heap.size W0 W → W.cell? ⟨w.heap.size, 0, none⟩ = some (.slice na n nc) ∧ W.cell? ⟨w.heap.size, 1, none⟩ = some (.slice fa n fc) ∧ w.heap.size < W.heap.size) := fun W hb => ⟨(hbx.below hb).c0, (hbx.below hb).c1, (hbx.below hb).lt⟩
  have HB0 : Hid (Below w.heap.size w W0) := hB0
  have HW0 : Hid (W0 = _) := hW0
  have hmat := mat_made (n := n) (base := W0.heap.size) W0 (Nat.le_refl _) (by unfold maxLen; omega) (fun _ => 0) (fun _ _ => false)
  obtain ⟨W1, hW1⟩ : ∃ W, W = W0.alloc (.cells (madeCells #[.slice none 0 0] n) 23) := ⟨_, rfl⟩
  rw [← hW1] at hmat hmk0
  have HB1 : Hid (Below W0.heap.size W0 W1) := by rw [hW1]; exact below_alloc _ _
  have HM1 : Hid (MatI W1 W0.heap.size W0.heap.size n 0 (fun _ => 0) (fun _ _ => false)) := hmat
  obtain ⟨og, hog⟩ : ∃ x, x = W0.heap.size := ⟨_, rfl⟩
  have HOG : Hid (og = W0.heap.size) := hog
  clear hd hr hri hx hfx hn hC hFl hW0 hB0 hbx hW1 hmat hzR0 hzR1 hzR2 hzB0 hzB1 hzB2 hiR hiB
  go_enter Tryd.func23, Tryd.ntmps23
  go_upto_region 1 with fail
  rw [← HW0.out]
  go_upto_region 3 with fail
  rw [← hog] at HM1 ⊢
  clear c0 c1 hlt hmk0 hog
  go_wp2
  go_loopw [5] (fun x5 wr => ∃ (i : Nat) (g : Nat → Nat) (m : Nat → Nat → Bool), i ≤ n ∧ x5 = .int .i64 (i : Int) ∧ Hid (MatI wr og og n i g m) ∧ Hid (∀ a b, a < i → b < n → m a b = ((mch N F).f a != (mch N F).f b)) ∧ Hid (Below W0.heap.size W0 wr)) (fun x5 _ => n - (intOf x5).toNat)
  case atStart => exact ⟨0, _, _, Nat.zero_le _, rfl, HM1, fun a b h => absurd h (by omega), HB1⟩
  case round =>
    obtain ⟨i, g, m, hi, rfl, HM, HV, HB⟩ := hrel
    by_cases hil : i < n
    case pos =>
      have hmk := HMK.out wr
      have hO := HM.out.ltO
      obtain ⟨WX, hWX⟩ : ∃ W, W = wr.alloc (.cells (madeCells #[.bool false] n) 4) := ⟨_, rfl⟩
      have hBX : Below wr.heap.size wr WX := by rw [hWX]; exact below_alloc _ _
      have hp := HM.out.push hil (by unfold maxLen; omega)
      have hnf := nf_own (HM.out.below hBX).out i
      have hlX : og < WX.heap.size := (HM.out.below hBX).ltO.1
      have hcl : WX.cell? ⟨og, i, none⟩ = some (.slice none 0 0) := by
        have := (HM.out.below hBX).out.cells (g := og) rfl i (.slice none 0 0) (by simp [outB, hil])
        rw [add_lit', Nat.zero_add] at this
        exact this
      rw [← hWX] at hmk hp
      have HM2 : Hid (MatI (WX.setCell ⟨og, i, none⟩ (.slice (some ⟨wr.heap.size, 0, none⟩) n n)) og og n (i + 1) (fun q => if q = i then wr.heap.size else g q) (fun x y => if x = i then false else m x y)) := hp
      have HB2 : Hid (Below W0.heap.size W0 (WX.setCell ⟨og, i, none⟩ (.slice (some ⟨wr.heap.size, 0, none⟩) n n))) := (below_after HB.out hBX).setCell (p := ⟨og, i, none⟩) (by rw [HOG.out]; exact Nat.le_refl _) _
      have hi0 : (0 : Int) ≤ (i : Int) := by omega
      have hi1 : (i : Int) < (n : Int) := by omega
      have HV2 : Hid (∀ a b, a < i → b < n → (fun x y => if x = i then false else m x y) a b = ((mch N F).f a != (mch N F).f b)) := fun a b ha hb => by
        have : ¬ a = i := by omega
        simp only [if_neg this]
        exact HV.out a b ha hb
      clear hWX hBX hp hO
      go_upto_region 7 with fail
      go_wp2
      go_loopw [6] (fun x6 wr2 => ∃ (k : Nat) (g : Nat → Nat) (m : Nat → Nat → Bool), k ≤ n ∧ x6 = .int .i64 (k : Int) ∧ Hid (MatI wr2 og og n (i + 1) g m) ∧ Hid ((∀ a b, a < i → b < n → m a b = ((mch N F).f a != (mch N F).f b)) ∧ ∀ b, b < k → m i b = ((mch N F).f i != (mch N F).f b)) ∧ Hid (Below W0.heap.size W0 wr2)) (fun x6 _ => n - (intOf x6).toNat)
      case atStart => exact ⟨0, _, _, Nat.zero_le _, rfl, HM2, ⟨HV2.out, fun b h => absurd h (by omega)⟩, HB2⟩
      case round =>
        obtain ⟨k, g, m, hk, rfl, HM, HV, HB⟩ := hrel
        by_cases hkl : k < n
        case pos =>
          obtain ⟨gf, of, rfl, hgf, f0⟩ := HFIN.out wr HB.out i hil
          obtain ⟨gf2, of2, e2, _, f1⟩ := HFIN.out wr HB.out k hkl
          obtain ⟨rfl, rfl⟩ : gf = gf2 ∧ of = of2 := by
            injection e2 with e2
            injection e2 with h1 h2 _
            exact ⟨h1, h2⟩
          obtain ⟨c0, c1, cl⟩ := HBX.out wr HB.out
          have r0 := HM.out.atO (q := i) (by omega) hil
          have rl := (HM.out.ltR (q := i) (by omega)).1
          have ol := HM.out.ltO.1
          have nf := nf_own (HM.out.row i (by omega)) k
          have r1 := HM.out.atR (q := i) (k := k) (by omega) hkl
          obtain ⟨b1, hb1⟩ : ∃ b, b = (mch N F).f i := ⟨_, rfl⟩
          obtain ⟨b2, hb2⟩ : ∃ b, b = (mch N F).f k := ⟨_, rfl⟩
          have HM3 : Hid (MatI (wr.setCell ⟨g i, k, none⟩ (.bool (b1 != b2))) og og n (i + 1) g (upB m i k (b1 != b2))) := HM.out.set (by omega) hkl _
          have HB3 : Hid (Below W0.heap.size W0 (wr.setCell ⟨g i, k, none⟩ (.bool (b1 != b2)))) := HB.out.setCell (p := ⟨g i, k, none⟩) (by have := (HM.out.ltR (q := i) (by omega)).2; have := HOG.out; show W0.heap.size ≤ g i; omega) _
          have HV3 : Hid ((∀ a b, a < i → b < n → upB m i k (b1 != b2) a b = ((mch N F).f a != (mch N F).f b)) ∧ ∀ b, b < k + 1 → upB m i k (b1 != b2) i b = ((mch N F).f i != (mch N F).f b)) := by
            refine ⟨fun a b ha hb => ?_, fun b hb => ?_⟩
            · have : ¬ (a = i ∧ b = k) := by omega
              unfold upB
              rw [if_neg this]
              exact HV.out.1 a b ha hb
            · by_cases e : b = k
              · subst e
                simp [upB, hb1, hb2]
              · have : ¬ (i = i ∧ b = k) := by omega
                unfold upB
                rw [if_neg this]
                exact HV.out.2 b (by omega)
          rw [← hb1] at f0
          rw [← hb2] at f1
          obtain ⟨bv, hbv⟩ : ∃ b, b = (b1 != b2) := ⟨_, rfl⟩
          have HBV : Hid (bv = (b1 != b2)) := hbv
          rw [← hbv] at HM3 HB3 HV3
          obtain ⟨be, hbe⟩ : ∃ b, b = (b1 == b2) := ⟨_, rfl⟩
          have hbe' : (b1 == b2) = be := hbe.symm
          have hbx : bv = !be := by rw [hbv, hbe]; rfl
          obtain ⟨G, hG⟩ : ∃ x, x = g i := ⟨_, rfl⟩
          rw [← hG] at r0 r1 rl nf HM3 HB3
          have hi0 : (0 : Int) ≤ (i : Int) := by omega
          have hi1 : (i : Int) < (n : Int) := by omega
          have hk0 : (0 : Int) ≤ (k : Int) := by omega
          have hk1 : (k : Int) < (n : Int) := by omega
          have HM4 : Hid (MatI (wr.setCell ⟨G, k, none⟩ (.bool bv)).drew og og n (i + 1) g (upB m i k bv)) := HM3.out.below (Below.refl _ _).drew
          have HB4 : Hid (Below W0.heap.size W0 (wr.setCell ⟨G, k, none⟩ (.bool bv)).drew) := HB3.out.drew
          rw [hbx] at HM4 HB4 HV3
          clear hb1 hb2 hG hbv hbe hbx HM3 HB3
          go_wp2
          go_region
          all_goals (
            go_wp2
            go_roundw
            case rel => exact ⟨k + 1, g, _, by omega, by go_num, HM4, HV3, HB4⟩
            case measure => simp [intOf]; omega)
        case neg =>
        obtain rfl : k = n := by omega
        have HV4 : Hid (∀ a b, a < i + 1 → b < k → m a b = ((mch N F).f a != (mch N F).f b)) := fun a b ha hb => by
          by_cases e : a = i
          · subst e; exact HV.out.2 b hb
          · exact HV.out.1 a b (by omega) hb
        go_wp2
        go_roundw
        case rel => exact ⟨i + 1, g, m, by omega, by go_num, HM, HV4, HB⟩
        case measure => simp [intOf]; omega
    case neg =>
    obtain rfl : i = n := by omega
    have HL0 : Hid (LoS (mch N F) 0 m ∧ UpS (mch N F) m) := by
      have h1 := HMO.out.2.1
      refine ⟨fun a b ha hb h => ?_, fun a b ha hb h => ?_⟩
      · rw [HV.out a b (by omega) (by omega)]
        exact h
      · rw [HV.out a b (by omega) (by omega)] at h
        exact apt_more (Nat.zero_le _) (show (mch N F).apt 0 a b = true from h)
    have hC1 : 1 ≤ C := by have := HRI.out.2.2.2.1; have := HN.out.2.2; omega
    clear hil
    go_upto_region 11 with fail
    go_wp2
    go_loopw [7] (fun x7 wr => ∃ (r : Nat) (m : Nat → Nat → Bool), r ≤ i ∧ x7 = .int .i64 (r : Int) ∧ Hid (MatI wr og og i i g m) ∧ Hid (LoS (mch N F) r m ∧ UpS (mch N F) m) ∧ Hid (Below W0.heap.size W0 wr)) (fun x7 _ => i - (intOf x7).toNat)
    case atStart => exact ⟨0, m, Nat.zero_le _, rfl, HM, HL0, HB⟩
    case round =>
      obtain ⟨r, m, hr, rfl, HM, HL, HB⟩ := hrel
      by_cases hrl : r < i
      case pos =>
        have HRD : Hid (RdS (mch N F) r 0 0 0 m) := RdS.start HL.out
        clear HL
        go_wp2
        go_loopw [8] (fun x8 wr => ∃ (p : Nat) (m : Nat → Nat → Bool), p ≤ i ∧ x8 = .int .i64 (p : Int) ∧ Hid (MatI wr og og i i g m) ∧ Hid (RdS (mch N F) r p 0 0 m) ∧ Hid (Below W0.heap.size W0 wr)) (fun x8 _ => i - (intOf x8).toNat)
        case atStart => exact ⟨0, m, Nat.zero_le _, rfl, HM, HRD, HB⟩
        case round =>
          obtain ⟨p, m, hp, rfl, HM, HRD, HB⟩ := hrel
          by_cases hpl : p < i
          case pos =>
            go_wp2
            go_loopw [9] (fun x9 wr => ∃ (q : Nat) (m : Nat → Nat → Bool), q ≤ i ∧ x9 = .int .i64 (q : Int) ∧ Hid (MatI wr og og i i g m) ∧ Hid (RdS (mch N F) r p q 0 m) ∧ Hid (Below W0.heap.size W0 wr)) (fun x9 _ => i - (intOf x9).toNat)
            case atStart => exact ⟨0, m, Nat.zero_le _, rfl, HM, HRD, HB⟩
            case round =>
              obtain ⟨q, m, hq, rfl, HM, HRD, HB⟩ := hrel
              by_cases hql : q < i
              case pos =>
                go_wp2
                go_loopw [10] (fun x10 wr => ∃ (c : Nat) (m : Nat → Nat → Bool), c ≤ C ∧ x10 = .int .i64 (c : Int) ∧ Hid (MatI wr og og i i g m) ∧ Hid (RdS (mch N F) r p q c m) ∧ Hid (Below W0.heap.size W0 wr)) (fun x10 _ => C - (intOf x10).toNat)
                case atStart => exact ⟨0, m, Nat.zero_le _, rfl, HM, HRD, HB⟩
                case round =>
                  obtain ⟨c, m, hc, rfl, HM, HRD, HB⟩ := hrel
                  obtain ⟨c0, c1, cl⟩ := HBX.out wr HB.out
                  have hp0 : (0 : Int) ≤ (p : Int) := by omega
                  have hp1 : (p : Int) < (i : Int) := by omega
                  by_cases hcl : c < C
                  case pos =>
                    obtain ⟨ga, oa, ya, yca, g2, o2, e1, l1, z1, e2, _, l2, z2, hdp⟩ := HROW.out wr HB.out p c hpl hcl
                    obtain ⟨gb, ob, yb, ycb, g3, o3, e3, l3, z3, e4, _, l4, z4, hdq⟩ := HROW.out wr HB.out q c hql hcl
                    subst e1 e2 e4
                    obtain ⟨rfl, rfl⟩ : ga = gb ∧ oa = ob := by
                      injection e3 with e3
                      injection e3 with h1 h2 _
                      exact ⟨h1, h2⟩
                    obtain ⟨D1, hD1⟩ : ∃ x, x = (mch N F).d p c := ⟨_, rfl⟩
                    obtain ⟨D2, hD2⟩ : ∃ x, x = (mch N F).d q c := ⟨_, rfl⟩
                    rw [← hD1] at z2 hdp
                    rw [← hD2] at z4 hdq
                    have r0 := HM.out.atO (q := p) hpl hpl
                    have r1 := HM.out.atR (q := p) (k := q) hpl hql
                    have s0 := HM.out.atO (q := D1) hdp hdp
                    have s1 := HM.out.atR (q := D1) (k := D2) hdp hdq
                    have rl := (HM.out.ltR (q := p) hpl).1
                    have sl := (HM.out.ltR (q := D1) hdp).1
                    have ol := HM.out.ltO.1
                    have nf := nf_own (HM.out.row p hpl) q
                    have HNX : Hid (RdS (mch N F) r p q (c + 1) (upB m p q (m p q || m D1 D2))) := by
                      rw [hD1, hD2]
                      exact HRD.out.step HMO.out.1 (by rw [HMO.out.2.1]; exact hpl) (by rw [HMO.out.2.1]; exact hql) (by rw [HMO.out.2.2]; exact hcl)
                    have HMX : Hid (∀ b, MatI (wr.setCell ⟨g p, q, none⟩ (.bool b)).drew og og i i g (upB m p q b) ∧ Below W0.heap.size W0 (wr.setCell ⟨g p, q, none⟩ (.bool b)).drew) := fun b => ⟨(HM.out.set hpl hql b).below (Below.refl _ _).drew, (HB.out.setCell (p := ⟨g p, q, none⟩) (by have := (HM.out.ltR (q := p) hpl).2; have := HOG.out; show W0.heap.size ≤ g p; omega) _).drew⟩
                    obtain ⟨x1, hx1⟩ : ∃ b, b = m p q := ⟨_, rfl⟩
                    obtain ⟨x2, hx2⟩ : ∃ b, b = m D1 D2 := ⟨_, rfl⟩
                    rw [← hx1] at r1
                    rw [← hx2] at s1
                    rw [← hx1, ← hx2] at HNX
                    obtain ⟨G1, hG1⟩ : ∃ x, x = g p := ⟨_, rfl⟩
                    obtain ⟨G2, hG2⟩ : ∃ x, x = g D1 := ⟨_, rfl⟩
                    rw [← hG1] at r0 r1 rl nf HMX
                    rw [← hG2] at s0 s1 sl
                    have hq0 : (0 : Int) ≤ (q : Int) := by omega
                    have hq1 : (q : Int) < (i : Int) := by omega
                    have hc0 : (0 : Int) ≤ (c : Int) := by omega
                    have hc1 : (c : Int) < (C : Int) := by omega
                    have hd0 : (0 : Int) ≤ (D1 : Int) := by omega
                    have hd1 : (D1 : Int) < (i : Int) := by omega
                    have hd2 : (0 : Int) ≤ (D2 : Int) := by omega
                    have hd3 : (D2 : Int) < (i : Int) := by omega
                    clear hx1 hx2 hD1 hD2 hG1 hG2 HRD e3
                    cases x1 with
                    | true =>
                      obtain ⟨hm4, hb4⟩ := HMX.out true
                      have HM4 : Hid _ := hm4
                      have HB4 : Hid _ := hb4
                      clear hm4 hb4
                      go_wp2
                      go_region
                      all_goals (
                        go_wp2
                        go_roundw
                        case rel => exact ⟨c + 1, _, by omega, by go_num, HM4, HNX, HB4⟩
                        case measure => simp [intOf]; omega)
                    | false =>
                      obtain ⟨hm4, hb4⟩ := HMX.out x2
                      have HM4 : Hid _ := hm4
                      have HB4 : Hid _ := hb4
                      rw [Bool.false_or] at HNX
                      clear hm4 hb4
                      go_wp2
                      go_region
                      all_goals (
                        go_wp2
                        go_roundw
                        case rel => exact ⟨c + 1, _, by omega, by go_num, HM4, HNX, HB4⟩
                        case measure => simp [intOf]; omega)
                  case neg =>
                  obtain rfl : c = C := by omega
                  obtain ⟨ga, oa, ya, yca, g2, o2, e1, l1, z1, e2, _, l2, z2, hdp⟩ := HROW.out wr HB.out p 0 hpl (by omega)
                  subst e1 e2
                  have HNX : Hid (RdS (mch N F) r p (q + 1) 0 m) := by
                    have := HRD.out
                    rw [← HMO.out.2.2] at this
                    exact this.col (by rw [HMO.out.2.1]; exact hpl) (by rw [HMO.out.2.1]; exact hql)
                  clear z2 hdp l2
                  go_wp2
                  go_roundw
                  case rel => exact ⟨q + 1, m, by omega, by go_num, HM, HNX, HB⟩
                  case measure => simp [intOf]; omega
              case neg =>
              have HNX : Hid (RdS (mch N F) r (p + 1) 0 0 m) := HRD.out.row (by rw [HMO.out.2.1]; omega)
              go_wp2
              go_roundw
              case rel => exact ⟨p + 1, m, by omega, by go_num, HM, HNX, HB⟩
              case measure => simp [intOf]; omega
          case neg =>
          have HNX : Hid (LoS (mch N F) (r + 1) m ∧ UpS (mch N F) m) := HRD.out.round (by rw [HMO.out.2.1]; omega)
          go_wp2
          go_roundw
          case rel => exact ⟨r + 1, m, by omega, by go_num, HM, HNX, HB⟩
          case measure => simp [intOf]; omega
      case neg =>
      obtain rfl : r = i := by omega
      go_wp2
      go_ret
      refine ⟨og, og, g, m, by have := HOG.out; have := HB0.out.size; omega, rfl, HM.out, fun a b ha hb => ?_, below_after HB0.out HB.out⟩
      have h1 := HL.out
      rw [← HMO.out.2.1] at h1
      have := loUp h1 (a := a) (b := b) (by rw [HMO.out.2.1]; exact ha) (by rw [HMO.out.2.1]; exact hb)
      rw [HMO.out.2.1] at this
      exact this
end Go.Proofs.YtleafbbcgebmpaaDoor
