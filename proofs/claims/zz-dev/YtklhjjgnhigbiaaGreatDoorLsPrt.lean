/-
  The parts of states in memory; least.parting.put.
-/
import Derived.Test.YtklhjjgnhigbiaaGreatDoorLsDel
import Derived.Test.YtklhjjgnhigbiaaGreatDoorLsHop
namespace Go.Proofs.YtklhjjgnhigbiaaGreatDoor
open Go.RowKit Go.Shelf
set_option linter.unusedVariables false

/-- The parting's own variables. -/
def PStr (w : World) (PB gp n : Nat) (mv iv : Value) (gw : Nat) : Prop := w.heap[PB]? = some (.cells #[.slice (some ⟨gp, 0, none⟩) n n, mv, iv, .slice (some ⟨gw, 0, none⟩) n n] 97 (0, 0))
/-- The members of the parts. -/
structure MbI (w : World) (base : Nat) (mv : Value) (rows : List Value) (B : List (List Nat)) : Prop where
  arr : w.ownsRow base 26 1 mv B.length rows
  row : ∀ i, (h1 : i < rows.length) → (h2 : i < B.length) → w.ownsRow base 3 1 rows[i] B[i].length (cellP B[i])
  inj : ∀ i j, (hi : i < rows.length) → (hj : j < rows.length) → ∀ k, rows[i].ownBlock = some k → rows[j].ownBlock = some k → i = j
theorem MbI.len {w : World} {base : Nat} {mv : Value} {rows : List Value} {B : List (List Nat)} (h : MbI w base mv rows B) : rows.length = B.length := by have := h.arr.1; omega
theorem MbI.to {w w' : World} {base : Nat} {mv : Value} {rows : List Value} {B : List (List Nat)} (h : MbI w base mv rows B) (h1 : ∀ k, mv.ownBlock = some k → w'.heap[k]? = w.heap[k]?) (h2 : ∀ u ∈ rows, ∀ k, u.ownBlock = some k → w'.heap[k]? = w.heap[k]?) : MbI w' base mv rows B :=
  ⟨own_blk h.arr h1, fun i a b => own_blk (h.row i a b) (h2 _ (List.getElem_mem a)), h.inj⟩
theorem MbI.below {w w' : World} {base : Nat} {mv : Value} {rows : List Value} {B : List (List Nat)} (h : MbI w base mv rows B) (hb : Below w.heap.size w w') : MbI w' base mv rows B :=
  ⟨ownsRow_below h.arr hb, fun i a b => ownsRow_below (h.row i a b) hb, h.inj⟩
theorem putP_snoc (p : Nat → Nat) (l : List Nat) (y x : Nat) : upN (putP p l x) y x = putP p (l ++ [y]) x := by
  funext s
  unfold upN putP
  by_cases h1 : s = y <;> by_cases h2 : s ∈ l <;> simp [h1, h2]

set_option maxRecDepth 100000 in
set_option maxHeartbeats 4000000 in
theorem put_any13 (PB gp n : Nat) (mv iv : Value) (gw base b2 : Nat) (p : Nat → Nat) (v : Value) (l : List Nat) (x : Nat) (w : World) (hs : PStr w PB gp n mv iv gw) (hp : RowN w base gp n p) (hv : w.ownsRow b2 3 1 v l.length (cellP l)) (hne : v.ownBlock ≠ some gp) (hl : ∀ y ∈ l, y < n) (hn : n ≤ 100000) (hll : l.length ≤ 100000) :
    Calls Tryz.prog 69 #[.pointer (some ⟨PB, 0, none⟩), v, .int .i64 (x : Int)] w fun e w' => e = .returned (.tuple #[]) ∧ RowN w' base gp n (putP p l x) ∧ OnlyB gp w w' := by
  have HS : Hid (PStr w PB gp n mv iv gw) := hs
  have HP : Hid (RowN w base gp n p) := hp
  have HV : Hid (w.ownsRow b2 3 1 v l.length (cellP l)) := hv
  have HNE : Hid (v.ownBlock ≠ some gp) := hne
  have HL : Hid (∀ y ∈ l, y < n) := hl
  have HPB : Hid (PB ≠ gp) := fun e => by
    subst e
    obtain ⟨cs, hc⟩ := hp.typed
    have h2 := hs
    unfold PStr at h2
    rw [hc] at h2
    injection h2 with h2
    injection h2 with _ h2 _
    exact absurd h2 (by decide)
  obtain ⟨va, vn, vc, rfl⟩ := own_any hv
  have hvn : vn = l.length := by
    rcases hv.2 with ⟨e, h0⟩ | ⟨g', cap, cur, e, _⟩
    · simp at e; omega
    · simp at e; exact e.2.1
  have HVN : Hid (vn = l.length) := hvn
  rw [← hvn] at hll
  clear hs hp hv hne hl hvn
  go_enter Tryz.func69, Tryz.ntmps69
  go_wp2
  go_loopw [10] (fun x10 wr => ∃ i : Nat, i ≤ vn ∧ x10 = .int .i64 (i : Int) ∧ Hid (RowN wr base gp n (putP p (l.take i) x)) ∧ Hid (OnlyB gp w wr)) (fun x10 _ => vn - (intOf x10).toNat)
  case atStart =>
    have e : putP p (l.take 0) x = p := by funext s; simp [putP]
    exact ⟨0, Nat.zero_le _, rfl, by rw [e]; exact HP, OnlyB.refl _ _⟩
  case round =>
    obtain ⟨i, hi, rfl, HR, HO⟩ := hrel
    by_cases hil : i < vn
    · have hin : i < l.length := by rw [← HVN.out]; exact hil
      obtain ⟨y, hy⟩ : ∃ y, y = l[i] := ⟨_, rfl⟩
      obtain ⟨G, hva⟩ : ∃ G, va = some ⟨G, 0, none⟩ := by
        rcases HV.out.2 with ⟨e, h0⟩ | ⟨g', cap, cur, e, _⟩
        · omega
        · simp at e; exact ⟨g', e.1⟩
      subst hva
      have hGg : G ≠ gp := fun e => HNE.out (by rw [← e]; rfl)
      have e0 := HV.out.cells (g := G) rfl i (.int .i64 (y : Int)) (by simp [cellP, hin, hy])
      rw [add_lit', Nat.zero_add] at e0
      have e1 : wr.cell? ⟨G, i, none⟩ = some (.int .i64 (y : Int)) := (World.cell?_of_block (a := ⟨G, i, none⟩) (HO.out.block G hGg)).trans e0
      have gl : G < wr.heap.size := by rw [HO.out.size]; exact (HV.out.lt G rfl).2
      have hyn : y < n := by rw [hy]; exact HL.out _ (List.getElem_mem hin)
      have c0 := HR.out.at hyn
      have nf := HR.out.nf y
      have pl := HR.out.lt.1
      have hs2 : wr.heap[PB]? = some (.cells #[.slice (some ⟨gp, 0, none⟩) n n, mv, iv, .slice (some ⟨gw, 0, none⟩) n n] 97 (0, 0)) := (HO.out.block PB HPB.out).trans HS.out
      have s0 := cell_in hs2 0
      have sl := lt_of_heap hs2
      simp at s0
      have HR2 : Hid (RowN (wr.setCell ⟨gp, y, none⟩ (.int .i64 (x : Int))) base gp n (putP p (l.take (i + 1)) x)) := by
        have := HR.out.set hyn x
        rw [putP_snoc] at this
        have e3 : l.take (i + 1) = l.take i ++ [y] := by rw [List.take_add_one, List.getElem?_eq_getElem hin, hy]; rfl
        rw [e3]
        exact this
      have HO2 : Hid (OnlyB gp w (wr.setCell ⟨gp, y, none⟩ (.int .i64 (x : Int)))) := HO.out.set _ _
      have hi0 : (0 : Int) ≤ (i : Int) := by omega
      have hi1 : (i : Int) < (vn : Int) := by omega
      have hy0 : (0 : Int) ≤ (y : Int) := by omega
      have hy1 : (y : Int) < (n : Int) := by omega
      clear e0 hs2 hy
      go_wp2
      go_roundw
      case rel => exact ⟨i + 1, by omega, by go_num, HR2, HO2⟩
      case measure => simp [intOf]; omega
    · obtain rfl : i = vn := by omega
      have HEQ : Hid (l.take i = l) := List.take_of_length_le (by rw [← HVN.out]; exact Nat.le_refl _)
      go_wp2
      go_end0
      refine ⟨rfl, ?_, HO.out⟩
      have := HR.out
      rw [HEQ.out] at this
      exact this

/-- leave's closure: whether a state is of the part that was added. -/
theorem leaf_any (PB gp n : Nat) (mv iv : Value) (gw base bp ba : Nat) (p : Nat → Nat) (s x : Nat) (w : World) (hs : PStr w PB gp n mv iv gw) (hp : RowN w base gp n p) (hbp : w.heap[bp]? = some (.cells #[.pointer (some ⟨PB, 0, none⟩)] 91 (0, 0))) (hba : w.heap[ba]? = some (.cells #[.int .i64 (x : Int)] 3 (0, 0))) (hsn : s < n) :
    Calls Tryz.prog 71 #[.int .i64 (s : Int), .pointer (some ⟨bp, 0, none⟩), .pointer (some ⟨ba, 0, none⟩)] w fun e w' => e = .returned (.bool (decide (p s = x))) ∧ ∃ nd, w' = w.drewN nd := by
  have c0 := cell_in hs 0
  have sl := lt_of_heap hs
  have c1 := hp.at hsn
  have gl := hp.lt.1
  have c2 := cell_in hbp 0
  have bl := lt_of_heap hbp
  have c3 := cell_in hba 0
  have al := lt_of_heap hba
  simp at c0 c2 c3
  obtain ⟨y, hy⟩ : ∃ y, y = p s := ⟨_, rfl⟩
  rw [← hy] at c1 ⊢
  obtain ⟨b, hb⟩ : ∃ b, b = decide (y = x) := ⟨_, rfl⟩
  have heq : ((y : Int) == (x : Int)) = b := by
    rw [hb]
    by_cases q : y = x
    · simp [q]
    · have : (y : Int) ≠ (x : Int) := by omega
      simp [q, this]
  rw [← hb]
  have hs0 : (0 : Int) ≤ (s : Int) := by omega
  have hs1 : (s : Int) < (n : Int) := by omega
  clear hs hp hbp hba hy hb
  go_enter Tryz.func71, Tryz.ntmps71
  go_wp2
  go_region
  all_goals (
    go_wp2
    go_ret
    exact ⟨rfl, 1, rfl⟩)
end Go.Proofs.YtklhjjgnhigbiaaGreatDoor
