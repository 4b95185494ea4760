/-
  least.links: numbers that are linked.
-/
import Derived.Test.YtleafbbcgebmpaaDoorLsSplit
import Derived.Test.YtleafbbcgebmpaaDoorLsUf
namespace Go.Proofs.YtleafbbcgebmpaaDoor
open Go.RowKit Go.Shelf
set_option linter.unusedVariables false

def rowN (n : Nat) (L : Nat → Nat) : List Value := (List.range n).map fun x => Value.int .i64 ((L x : Nat) : Int)
theorem rowN_set {n : Nat} {L : Nat → Nat} {i : Nat} (hi : i < n) (v : Nat) : (rowN n L).set i (.int .i64 (v : Int)) = rowN n (upN L i v) := by
  refine List.ext_getElem (by simp [rowN]) (fun k h1 h2 => ?_)
  rw [List.getElem_set]
  by_cases e : i = k
  · subst e
    simp [rowN, upN]
  · have e2 : ¬ k = i := fun q => e q.symm
    simp [rowN, upN, e, e2]
/-- The block g holds the n numbers that L tells. -/
def RowN (w : World) (base g n : Nat) (L : Nat → Nat) : Prop := w.ownsRow base 3 1 (.slice (some ⟨g, 0, none⟩) n n) n (rowN n L)
section
variable {w w' : World} {base g n : Nat} {L : Nat → Nat}
theorem RowN.below (h : RowN w base g n L) (hb : Below w.heap.size w w') : RowN w' base g n L := ownsRow_below h hb
theorem RowN.at (h : RowN w base g n L) {i : Nat} (hi : i < n) : w.cell? ⟨g, i, none⟩ = some (.int .i64 ((L i : Nat) : Int)) := by
  have := h.cells (g := g) rfl i (.int .i64 ((L i : Nat) : Int)) (by simp [rowN, hi])
  rw [add_lit', Nat.zero_add] at this
  exact this
theorem RowN.lt (h : RowN w base g n L) : g < w.heap.size ∧ base ≤ g := by
  have := World.ownsRow.lt h g rfl
  exact ⟨this.2, this.1⟩
theorem RowN.nf (h : RowN w base g n L) (i : Nat) : w.frozen? ⟨g, i, none⟩ = false := nf_own h i
theorem RowN.typed (h : RowN w base g n L) : ∃ cs, w.heap[g]? = some (.cells cs 3 (0, 0)) := own_typed h (k := g) rfl
theorem RowN.set (h : RowN w base g n L) {i : Nat} (hi : i < n) (v : Nat) : RowN (w.setCell ⟨g, i, none⟩ (.int .i64 (v : Int))) base g n (upN L i v) := by
  have := own_set (i := i) h (.int .i64 (v : Int))
  rw [rowN_set hi] at this
  exact this
theorem RowN.blk (h : RowN w base g n L) (hk : w'.heap[g]? = w.heap[g]?) : RowN w' base g n L := own_blk h (fun k e => by
  have : g = k := by injection e
  subst this
  exact hk)
theorem RowN.same (h : RowN w base g n L) {L' : Nat → Nat} (e : ∀ x, x < n → L x = L' x) : RowN w base g n L' := by
  have e2 : rowN n L = rowN n L' := List.map_congr_left (fun x hx => by rw [e x (List.mem_range.1 hx)])
  unfold RowN at h ⊢
  rw [← e2]
  exact h
theorem row_made (w : World) (hb : base ≤ w.heap.size) (hn : n ≤ maxLen) : RowN (w.alloc (.cells (madeCells #[.int .i64 0] n) 3)) base w.heap.size n (fun _ => 0) := by
  have := World.ownsRow_lit (base := base) (e := 3) (size := 1) w (madeCells #[.int .i64 0] n) n hb hn (by simp [size_madeCells])
  rw [made_one] at this
  exact this
end

set_option maxRecDepth 100000 in
set_option maxHeartbeats 4000000 in
theorem newLinks_any (n : Nat) (w : World) (hn : n ≤ 100000) : Calls Tryd.prog 35 #[.int .i64 (n : Int)] w fun e w' => ∃ g, e = .returned (.slice (some ⟨g, 0, none⟩) n n) ∧ RowN w' w.heap.size g n id ∧ Below w.heap.size w w' := by
  obtain ⟨iI, hiI, hzI0, hzI1, hzI2⟩ := info_parts Tryd.infoInt
  have hmk := run_make13 w 69 3 iI (.int .i64 0) Tryd.underlying69 hiI hzI0 hzI1 rfl n (by omega) (by omega)
  have hm := row_made (base := w.heap.size) w (Nat.le_refl _) (show n ≤ maxLen by unfold maxLen; omega)
  obtain ⟨W, hW⟩ : ∃ W, W = w.alloc (.cells (madeCells #[.int .i64 0] n) 3) := ⟨_, rfl⟩
  rw [← hW] at hmk hm
  have hb : Below w.heap.size w W := by rw [hW]; exact below_alloc _ _
  obtain ⟨g, hg⟩ : ∃ g, g = w.heap.size := ⟨_, rfl⟩
  rw [← hg] at hmk hm ⊢
  have HM : Hid (RowN W g g n (fun _ => 0)) := hm
  have HB : Hid (Below w.heap.size w W) := hb
  have HG : Hid (g = w.heap.size) := hg
  clear hW hb hm hg
  go_enter Tryd.func35, Tryd.ntmps35
  go_upto_region 2 with fail
  go_wp2
  go_loopw [9] (fun x wr => ∃ (i : Nat) (L : Nat → Nat), i ≤ n ∧ x = .int .i64 (i : Int) ∧ Hid (RowN wr g g n L) ∧ Hid (∀ x, x < i → L x = x) ∧ Hid (Below w.heap.size w wr)) (fun x _ => n - (intOf x).toNat)
  case atStart => exact ⟨0, _, Nat.zero_le _, rfl, HM, fun x h => absurd h (by omega), HB⟩
  case round =>
    obtain ⟨i, L, hi, rfl, HM, HL, HB⟩ := hrel
    by_cases hil : i < n
    · have c0 := HM.out.at hil
      have nf := HM.out.nf i
      have gl := HM.out.lt.1
      have hi0 : (0 : Int) ≤ (i : Int) := by omega
      have hi1 : (i : Int) < (n : Int) := by omega
      have HM2 : Hid (RowN (wr.setCell ⟨g, i, none⟩ (.int .i64 (i : Int))) g g n (upN L i i)) := HM.out.set hil i
      have HL2 : Hid (∀ x, x < i + 1 → upN L i i x = x) := fun x hx => by
        unfold upN
        split
        · rename_i e; exact e.symm
        · exact HL.out x (by omega)
      have HB2 : Hid (Below w.heap.size w (wr.setCell ⟨g, i, none⟩ (.int .i64 (i : Int)))) := HB.out.setCell (p := ⟨g, i, none⟩) (by have := HG.out; show w.heap.size ≤ g; omega) _
      go_wp2
      go_roundw
      case rel => exact ⟨i + 1, _, by omega, by go_num, HM2, HL2, HB2⟩
      case measure => simp [intOf]; omega
    · obtain rfl : i = n := by omega
      go_wp2
      go_ret
      refine ⟨g, rfl, ?_, by have := HB.out; rwa [← HG.out] at this⟩
      exact HM.out.same (L' := id) (fun x hx => HL.out x hx)

set_option maxRecDepth 100000 in
set_option maxHeartbeats 4000000 in
theorem all_any13 (base g N : Nat) (L cl h : Nat → Nat) (B i : Nat) (w : World) (hr : RowN w base g N L) (hu : Uf N L cl h B) (hi : i < N) (hN : N ≤ 100000) :
    Calls Tryd.prog 45 #[.slice (some ⟨g, 0, none⟩) N N, .int .i64 (i : Int)] w fun e w' => e = .returned (.int .i64 ((cl i : Nat) : Int)) ∧ cl i < N ∧ ∃ L', RowN w' base g N L' ∧ Uf N L' cl h B ∧ (∀ x, x < N → L x = x → L' x = x) ∧ L' (cl i) = cl i ∧ OnlyB g w w' := by
  have HR : Hid (RowN w base g N L) := hr
  have HU : Hid (Uf N L cl h B) := hu
  clear hr hu
  go_enter Tryd.func45, Tryd.ntmps45
  go_wp2
  go_loopw [1] (fun x wr => ∃ (k : Nat) (L' : Nat → Nat), k < N ∧ x = .int .i64 (k : Int) ∧ Hid (RowN wr base g N L') ∧ Hid (Uf N L' cl h B ∧ cl k = cl i ∧ ∀ x, x < N → L x = x → L' x = x) ∧ Hid (OnlyB g w wr)) (fun x _ => B - h (intOf x).toNat)
  case atStart => exact ⟨i, L, hi, rfl, HR, ⟨HU.out, rfl, fun x _ e => e⟩, OnlyB.refl _ _⟩
  case round =>
    obtain ⟨k, L', hk, rfl, HR, HU, HO⟩ := hrel
    have hlk := HU.out.1.lt k hk
    have c0 := HR.out.at hk
    have c1 := HR.out.at hlk
    have nf := HR.out.nf k
    have gl := HR.out.lt.1
    have hk0 : (0 : Int) ≤ (k : Int) := by omega
    have hk1 : (k : Int) < (N : Int) := by omega
    obtain ⟨p, hp⟩ : ∃ p, p = L' k := ⟨_, rfl⟩
    have HP : Hid (p = L' k) := hp
    rw [← hp] at c0 c1 hlk
    have hp0 : (0 : Int) ≤ (p : Int) := by omega
    have hp1 : (p : Int) < (N : Int) := by omega
    clear hp
    by_cases e : p = k
    · have hne : ((p : Int) != (k : Int)) = false := by simp [e]
      have HE : Hid (cl k = k ∧ L' k = k) := ⟨HU.out.1.root k hk (by rw [← HP.out, e]), by rw [← HP.out, e]⟩
      clear e
      go_wp2
      go_ret
      have h1 := HU.out.2.1
      have h2 := HE.out.1
      have h3 : ((cl i : Nat) : Int) = (k : Int) := by rw [← h1, h2]
      exact ⟨by rw [h3]; rfl, by omega, L', HR.out, HU.out.1, HU.out.2.2, by rw [← h1, h2]; exact HE.out.2, HO.out⟩
    · have hne : ((p : Int) != (k : Int)) = true := by simp; omega
      obtain ⟨q, hq⟩ : ∃ q, q = L' p := ⟨_, rfl⟩
      have hv := HU.out.1.halve hk (by rw [← HP.out]; exact e)
      rw [← HP.out, ← hq] at hv
      rw [← hq] at c1
      have HV : Hid (Uf N (upN L' k q) cl h B ∧ q < N ∧ cl q = cl k ∧ h k < h q) := hv
      have HR2 : Hid (RowN (wr.setCell ⟨g, k, none⟩ (.int .i64 (q : Int))) base g N (upN L' k q)) := HR.out.set hk q
      have c2 := HR2.out.at hk
      have e2 : upN L' k q k = q := by unfold upN; rw [if_pos rfl]
      rw [e2] at c2
      have gl2 := HR2.out.lt.1
      have hql : q < N := hv.2.1
      have HO2 : Hid (OnlyB g w (wr.setCell ⟨g, k, none⟩ (.int .i64 (q : Int)))) := HO.out.set _ _
      have HRT : Hid (∀ x, x < N → L x = x → upN L' k q x = x) := fun x hx ex => by
        unfold upN
        split
        · rename_i e3
          subst e3
          have := HU.out.2.2 x hx ex
          rw [← HP.out] at this
          exact absurd this e
        · exact HU.out.2.2 x hx ex
      clear hv hq e e2
      go_wp2
      go_roundw
      case rel => exact ⟨q, _, hql, rfl, HR2, ⟨HV.out.1, HV.out.2.2.1.trans HU.out.2.1, HRT.out⟩, HO2⟩
      case measure =>
        simp [intOf]
        have h1 := HV.out.2.2.2
        have h2 := HV.out.1.top q hql
        omega

set_option maxRecDepth 100000 in
set_option maxHeartbeats 4000000 in
theorem link_any13 (base g N : Nat) (L cl h : Nat → Nat) (B i j : Nat) (w : World) (hr : RowN w base g N L) (hu : Uf N L cl h B) (hi : i < N) (hj : j < N) (hN : N ≤ 100000) :
    Calls Tryd.prog 36 #[.slice (some ⟨g, 0, none⟩) N N, .int .i64 (i : Int), .int .i64 (j : Int)] w fun e w' => e = .returned (.bool (!decide (cl i = cl j))) ∧ ∃ L' h' B', RowN w' base g N L' ∧ Uf N L' (lnk cl i j) h' B' ∧ OnlyB g w w' := by
  have hc1 := all_any13 base g N L cl h B i w hr hu hi hN
  have HC2 : Hid (∀ w' L', RowN w' base g N L' → Uf N L' cl h B → Calls Tryd.prog 45 #[.slice (some ⟨g, 0, none⟩) N N, .int .i64 (j : Int)] w' fun e w'' => e = .returned (.int .i64 ((cl j : Nat) : Int)) ∧ cl j < N ∧ ∃ L'', RowN w'' base g N L'' ∧ Uf N L'' cl h B ∧ (∀ x, x < N → L' x = x → L'' x = x) ∧ L'' (cl j) = cl j ∧ OnlyB g w' w'') := fun w' L' h1 h2 => all_any13 base g N L' cl h B j w' h1 h2 hj hN
  obtain ⟨b, hb⟩ : ∃ b, b = decide (cl i = cl j) := ⟨_, rfl⟩
  have hne : (((cl i : Nat) : Int) != ((cl j : Nat) : Int)) = !b := by
    rw [hb]
    by_cases q : cl i = cl j
    · simp [q]
    · have : ((cl i : Nat) : Int) ≠ ((cl j : Nat) : Int) := by omega
      simp [q, this]
  rw [← hb]
  clear hr hu hb
  go_enter Tryd.func36, Tryd.ntmps36
  go_wp2_with fail
  refine hc1.mono ?_
  rintro e w1 ⟨rfl, ri, L1, a1, a2, a3, a4, a5⟩
  have H1 : Hid (L1 (cl i) = cl i ∧ OnlyB g w w1) := ⟨a4, a5⟩
  have hc2 := HC2.out w1 L1 a1 a2
  clear a1 a2 a3 a4 a5 hc1
  go_wp2_with fail
  refine hc2.mono ?_
  rintro e w2 ⟨rfl, rj, L2, b1, b2, b3, b4, b5⟩
  have HR : Hid (RowN w2 base g N L2) := b1
  have H2 : Hid (Uf N L2 cl h B ∧ L2 (cl i) = cl i ∧ L2 (cl j) = cl j ∧ OnlyB g w w2) := ⟨b2, b3 _ ri H1.out.1, b4, ⟨b5.os.trans H1.out.2.os, b5.tape.trans H1.out.2.tape, b5.output.trans H1.out.2.output, b5.size.trans H1.out.2.size, fun k hk => (b5.block k hk).trans (H1.out.2.block k hk)⟩⟩
  clear b1 b2 b3 b4 b5 hc2
  have c0 := HR.out.at ri
  have nf := HR.out.nf (cl i)
  have gl := HR.out.lt.1
  have HL : Hid (∃ h' B', Uf N (upN L2 (cl i) (cl j)) (lnk cl i j) h' B') := H2.out.1.link hi hj ri rj H2.out.2.1 H2.out.2.2.1
  have HR2 : Hid (RowN (w2.setCell ⟨g, cl i, none⟩ (.int .i64 ((cl j : Nat) : Int))) base g N (upN L2 (cl i) (cl j))) := HR.out.set ri _
  have HO2 : Hid (OnlyB g w (w2.setCell ⟨g, cl i, none⟩ (.int .i64 ((cl j : Nat) : Int)))) := H2.out.2.2.2.set _ _
  have hi0 : (0 : Int) ≤ ((cl i : Nat) : Int) := by omega
  have hi1 : ((cl i : Nat) : Int) < (N : Int) := by omega
  go_wp2
  go_ret
  obtain ⟨h', B', hu'⟩ := HL.out
  exact ⟨rfl, _, h', B', HR2.out, hu', HO2.out⟩
end Go.Proofs.YtleafbbcgebmpaaDoor
