/-
  scansionref13.place; the variables of the document's Least.
-/
import Derived.Test.YtleafbbcgebmpaaDoorLsSplit
import Derived.Deep.AppendLies
namespace Go.Proofs.YtleafbbcgebmpaaDoor
open Go.RowKit Go.Shelf
set_option linter.unusedVariables false

theorem idx_first13 : ∀ {S : List Nat} {x k : Nat}, (hk : k < S.length) → S[k] = x → (∀ q, (h : q < S.length) → q < k → S[q] ≠ x) → S.idxOf x = k
  | s :: S, x, 0, _, h, _ => by
    have : s = x := h
    subst this
    exact List.idxOf_cons_self
  | s :: S, x, k + 1, hk, h, hq => by
    have hx : s ≠ x := hq 0 (by simp) (by omega)
    rw [List.idxOf_cons, show (s == x) = false by simpa using hx, cond_false]
    rw [idx_first13 (k := k) (by simpa using hk) h (fun q h1 h2 => fun e => hq (q + 1) (by simpa using h1) (by omega) (by rw [← e]; rfl))]

set_option maxRecDepth 100000 in
set_option maxHeartbeats 8000000 in
theorem rplace_any (M : Mach) (hM : M.Ok) (base og : Nat) (g : Nat → Nat) (m : Nat → Nat → Bool) (l : List Nat) (lv : Value) (s : Nat) (w : World) (hmat : MatI w base og M.n M.n g m) (hm : ∀ a b, a < M.n → b < M.n → m a b = M.apt M.n a b) (hl : IntsAt w lv (upI l)) (hln : ∀ x ∈ l, x < M.n) (hs : s < M.n) (hll : l.length ≤ 100000) :
    Calls Tryd.prog 24 #[.slice (some ⟨og, 0, none⟩) M.n M.n, lv, .int .i64 (s : Int)] w fun e w' => e = .returned (.int .i64 (if rep M s ∈ l.map (rep M) then (((l.map (rep M)).idxOf (rep M s) : Nat) : Int) else -1)) ∧ w' = w := by
  have HMAT : Hid (MatI w base og M.n M.n g m) := hmat
  have HL : Hid (IntsAt w lv (upI l)) := hl
  have HV : Hid (∀ a, (h : a < l.length) → m l[a] s = true ∧ rep M l[a] ≠ rep M s ∨ m l[a] s = false ∧ rep M l[a] = rep M s) := fun a h => by
    have ha := hln _ (List.getElem_mem h)
    have e := hm _ _ ha hs
    have k : rep M l[a] = rep M s ↔ M.apt M.n l[a] s = false := rep_eq ha hs
    cases hb : M.apt M.n l[a] s with
    | true => exact .inl ⟨by rw [e, hb], fun q => by rw [k.1 q] at hb; cases hb⟩
    | false => exact .inr ⟨by rw [e, hb], k.2 hb⟩
  have HLN : Hid (∀ x ∈ l, x < M.n) := hln
  obtain ⟨la, lc, hle, hlc⟩ := hl.slice
  obtain ⟨L, hL⟩ : ∃ x, x = l.length := ⟨_, rfl⟩
  have hup : (upI l).length = L := by rw [hL]; simp [upI]
  rw [hup] at hle hlc
  subst hle
  have HLL : Hid (L = l.length) := hL
  obtain ⟨n, hn⟩ : ∃ x, x = M.n := ⟨_, rfl⟩
  have HN : Hid (n = M.n) := hn
  obtain ⟨R, hR⟩ : ∃ R : Int, R = (if rep M s ∈ l.map (rep M) then (((l.map (rep M)).idxOf (rep M s) : Nat) : Int) else -1) := ⟨_, rfl⟩
  have HR : Hid (R = (if rep M s ∈ l.map (rep M) then (((l.map (rep M)).idxOf (rep M s) : Nat) : Int) else -1)) := hR
  rw [← hR]
  rw [← hn] at hs HMAT ⊢
  rw [← hL] at hll
  clear hmat hm hl hln hL hup hn hR
  go_enter Tryd.func24, Tryd.ntmps24
  go_wp2
  go_loopw [7] (fun x wr => ∃ k : Nat, k ≤ L ∧ x = .int .i64 k ∧ Hid (∀ q, (h1 : q < l.length) → q < k → rep M l[q] ≠ rep M s) ∧ wr = w) (fun x _ => L - (intOf x).toNat)
  case atStart => exact ⟨0, Nat.zero_le _, rfl, fun q _ h => absurd h (by omega), rfl⟩
  case round =>
    obtain ⟨k, hk, rfl, HK, hwr⟩ := hrel
    obtain rfl := hwr.symm
    by_cases hlt : k < L
    · have hkl : k < l.length := by rw [← HLL.out]; exact hlt
      have hku : k < (upI l).length := by simp [upI]; exact hkl
      obtain ⟨ga, oa, rfl, hga, z0⟩ := HL.out.at hku
      have e0 : (upI l)[k] = ((l[k] : Nat) : Int) := by simp [upI]
      rw [e0] at z0
      have hx := HLN.out _ (List.getElem_mem hkl)
      rw [← HN.out] at hx
      have hv := HV.out k hkl
      have HVK : Hid (m l[k] s = true ∧ rep M l[k] ≠ rep M s ∨ m l[k] s = false ∧ rep M l[k] = rep M s) := hv
      have HKS : Hid (rep M l[k] = (l.map (rep M))[k]'(by rw [List.length_map]; exact hkl)) := by show _ = _; simp
      obtain ⟨X, hX⟩ : ∃ X, X = l[k] := ⟨_, rfl⟩
      rw [← hX] at z0 hx HVK HKS
      have HXK : Hid (X = l[k]) := hX
      have r0 := HMAT.out.atO hx hx
      have r1 := HMAT.out.atR (k := s) hx hs
      obtain ⟨G, hG⟩ : ∃ G, G = g X := ⟨_, rfl⟩
      rw [← hG] at r0 r1
      obtain ⟨b, hb⟩ : ∃ b, b = m X s := ⟨_, rfl⟩
      rw [← hb] at r1 HVK
      have hk0 : (0 : Int) ≤ (k : Int) := by omega
      have hk1 : (k : Int) < (L : Int) := by omega
      have hX0 : (0 : Int) ≤ (X : Int) := by omega
      have hX1 : (X : Int) < (n : Int) := by omega
      have hs0 : (0 : Int) ≤ (s : Int) := by omega
      have hs1 : (s : Int) < (n : Int) := by omega
      clear hv hX hG hb e0 hku
      cases b with
      | true =>
        have HNE : Hid (rep M X ≠ rep M s) := by
          rcases HVK.out with h | h
          · exact h.2
          · exact absurd h.1 (by simp)
        go_wp2
        go_roundw
        case rel =>
          refine ⟨k + 1, by omega, by go_num, fun q h1 e => ?_, by first | rfl | trivial⟩
          by_cases e2 : q < k
          · exact HK.out q h1 e2
          · obtain rfl : q = k := by omega
            rw [← HXK.out]
            exact HNE.out
        case measure => simp [intOf]; omega
      | false =>
        have HEQ : Hid (rep M X = rep M s) := by
          rcases HVK.out with h | h
          · exact absurd h.1 (by simp)
          · exact h.2
        have hq : R = (k : Int) := by
          have hkm : k < (l.map (rep M)).length := by rw [List.length_map]; exact hkl
          have e1 : (l.map (rep M))[k] = rep M s := by rw [← HKS.out]; exact HEQ.out
          rw [HR.out, if_pos (by rw [← e1]; exact List.getElem_mem hkm), idx_first13 hkm e1 (fun q h1 h2 => by
            have := HK.out q (by rw [List.length_map] at h1; exact h1) h2
            simpa using this)]
        subst hq
        go_wp2
        go_ret
        exact ⟨rfl, rfl⟩
    · obtain rfl : k = L := by omega
      have hq : R = -1 := by
        rw [HR.out, if_neg (fun h => by
          obtain ⟨q, h1, h2⟩ := List.mem_iff_getElem.1 h
          have h3 : q < l.length := by rw [List.length_map] at h1; exact h1
          exact HK.out q h3 (by have := HLL.out; omega) (by simpa using h2))]
      subst hq
      go_wp2
      go_ret
      exact ⟨rfl, rfl⟩

/-- The variables of Least, behind split: the states, the rows, which are final, the row that is made. -/
structure LfI (w1 : World) (bd : Nat) (w : World) (lv : Value) (l : List Nat) (nv fv : Value) (ns : List Value) (N : List (List Nat)) (F : List Bool) (rv : Value) (R : List Nat) : Prop where
  bl : Below w1.heap.size w1 w
  lbd : w1.heap.size ≤ bd
  dbx : w.heap[bd]? = some (.cells #[nv, fv] 25 (0, 0))
  lrow : w.ownsRow w1.heap.size 3 1 lv l.length (cellP l)
  rrow : w.ownsRow w1.heap.size 3 1 rv R.length (cellP R)
  lr : ∀ k, lv.ownBlock = some k → rv.ownBlock ≠ some k
  nl : ns.length = N.length
  nrow : w.ownsRow w1.heap.size 33 1 nv N.length ns
  nlst : ∀ i, (h1 : i < ns.length) → (h2 : i < N.length) → LstAt w1.heap.size w ns[i] N[i]
  frow : w.ownsRow w1.heap.size 4 1 fv F.length (cellBo F)
  old : ∀ u, u ∈ ns → ∀ k, u.ownBlock = some k → k < w.heap.size ∧ rv.ownBlock ≠ some k ∧ lv.ownBlock ≠ some k
section
variable {w1 : World} {bd : Nat} {w w2 w' : World} {lv nv fv rv : Value} {l : List Nat} {ns : List Value} {N : List (List Nat)} {F : List Bool} {R : List Nat}
theorem LfI.below (h : LfI w1 bd w lv l nv fv ns N F rv R) (hb : Below w.heap.size w w') : LfI w1 bd w' lv l nv fv ns N F rv R :=
  ⟨h.bl.trans (hb.mono h.bl.size), h.lbd, (hb.block _ (lt_of_heap h.dbx)).trans h.dbx, ownsRow_below h.lrow hb, ownsRow_below h.rrow hb, h.lr, h.nl, ownsRow_below h.nrow hb, fun i k1 k2 => (h.nlst i k1 k2).below hb, ownsRow_below h.frow hb, fun u hu k e => ⟨Nat.lt_of_lt_of_le (h.old u hu k e).1 hb.size, (h.old u hu k e).2⟩⟩
theorem LfI.lt (h : LfI w1 bd w lv l nv fv ns N F rv R) : bd < w.heap.size := lt_of_heap h.dbx
theorem LfI.c0 (h : LfI w1 bd w lv l nv fv ns N F rv R) : w.cell? ⟨bd, 0, none⟩ = some nv := cell_in h.dbx 0
theorem LfI.c1 (h : LfI w1 bd w lv l nv fv ns N F rv R) : w.cell? ⟨bd, 1, none⟩ = some fv := cell_in h.dbx 1
/-- A state more. -/
theorem LfI.pushL {lv' : Value} {x : Nat} (h : LfI w1 bd w lv l nv fv ns N F rv R) (hg : w.grownBy w2 lv.ownBlock) (ho : w2.ownsRow w1.heap.size 3 1 lv' (l.length + 1) (cellP l ++ [.int .i64 (x : Int)])) (hat : ∀ k, lv'.ownBlock = some k → lv.ownBlock = some k ∨ w.heap.size ≤ k) : LfI w1 bd w2 lv' (l ++ [x]) nv fv ns N F rv R := by
  have hblk : ∀ (k : Nat) (cs : Array Value) (t : TypeId) (fr : Nat × Nat), w.heap[k]? = some (.cells cs t fr) → t ≠ 3 → w2.heap[k]? = w.heap[k]? := fun k cs t fr hk ht => hg.block k (lt_of_heap hk) (fun e => by
    obtain ⟨cs', hc⟩ := own_typed h.lrow e.symm
    exact ht (typ_ne hk hc))
  refine ⟨h.bl.grown hg h.bl.size (fun k e => (h.lrow.lt k e).1), h.lbd, (hblk _ _ _ _ h.dbx (by decide)).trans h.dbx, by rw [List.length_append, List.length_singleton, cellP_snoc]; exact ho, own_blk h.rrow (fun k e => hg.block k (h.rrow.lt k e).2 (fun q => h.lr k q.symm e)), fun k e e2 => ?_, h.nl, own_blk h.nrow (fun k e => ?_), fun i k1 k2 => (h.nlst i k1 k2).blk (fun j cs fr e hj => hg.block j (lt_of_heap hj) (fun q => (h.old _ (List.getElem_mem k1) j e).2.2 q.symm)), own_blk h.frow (fun k e => ?_), fun u hu k e => ⟨Nat.lt_of_lt_of_le (h.old u hu k e).1 hg.size, (h.old u hu k e).2.1, fun e2 => ?_⟩⟩
  · rcases hat k e with q | q
    · exact h.lr k q e2
    · have := (h.rrow.lt k e2).2
      omega
  · obtain ⟨cs, hc⟩ := own_typed h.nrow e
    exact hblk k _ _ _ hc (by decide)
  · obtain ⟨cs, hc⟩ := own_typed h.frow e
    exact hblk k _ _ _ hc (by decide)
  · rcases hat k e2 with q | q
    · exact (h.old u hu k e).2.2 q
    · have := (h.old u hu k e).1
      omega
/-- A number more in the row. -/
theorem LfI.pushR {rv' : Value} {x : Nat} (h : LfI w1 bd w lv l nv fv ns N F rv R) (hg : w.grownBy w2 rv.ownBlock) (ho : w2.ownsRow w1.heap.size 3 1 rv' (R.length + 1) (cellP R ++ [.int .i64 (x : Int)])) (hat : ∀ k, rv'.ownBlock = some k → rv.ownBlock = some k ∨ w.heap.size ≤ k) : LfI w1 bd w2 lv l nv fv ns N F rv' (R ++ [x]) := by
  have hblk : ∀ (k : Nat) (cs : Array Value) (t : TypeId) (fr : Nat × Nat), w.heap[k]? = some (.cells cs t fr) → t ≠ 3 → w2.heap[k]? = w.heap[k]? := fun k cs t fr hk ht => hg.block k (lt_of_heap hk) (fun e => by
    obtain ⟨cs', hc⟩ := own_typed h.rrow e.symm
    exact ht (typ_ne hk hc))
  refine ⟨h.bl.grown hg h.bl.size (fun k e => (h.rrow.lt k e).1), h.lbd, (hblk _ _ _ _ h.dbx (by decide)).trans h.dbx, own_blk h.lrow (fun k e => hg.block k (h.lrow.lt k e).2 (fun q => h.lr k e q.symm)), by rw [List.length_append, List.length_singleton, cellP_snoc]; exact ho, fun k e e2 => ?_, h.nl, own_blk h.nrow (fun k e => ?_), fun i k1 k2 => (h.nlst i k1 k2).blk (fun j cs fr e hj => hg.block j (lt_of_heap hj) (fun q => (h.old _ (List.getElem_mem k1) j e).2.1 q.symm)), own_blk h.frow (fun k e => ?_), fun u hu k e => ⟨Nat.lt_of_lt_of_le (h.old u hu k e).1 hg.size, fun e2 => ?_, (h.old u hu k e).2.2⟩⟩
  · rcases hat k e2 with q | q
    · exact h.lr k e q
    · have := (h.lrow.lt k e).2
      omega
  · obtain ⟨cs, hc⟩ := own_typed h.nrow e
    exact hblk k _ _ _ hc (by decide)
  · obtain ⟨cs, hc⟩ := own_typed h.frow e
    exact hblk k _ _ _ hc (by decide)
  · rcases hat k e2 with q | q
    · exact (h.old u hu k e).2.1 q
    · have := (h.old u hu k e).1
      omega
/-- The row is through: a row more, and the next one is empty. -/
theorem LfI.pushN {g cap : Nat} (h : LfI w1 bd w lv l nv fv ns N F rv R) (hg : w.grownBy w2 nv.ownBlock) (ho : w2.ownsRow w1.heap.size 33 1 (.slice (some ⟨g, 0, none⟩) (N.length + 1) cap) (N.length + 1) (ns ++ [rv])) :
    (w2.cell? ⟨bd, 0, none⟩ = some nv ∧ w2.frozen? ⟨bd, 0, none⟩ = false) ∧ LfI w1 bd (w2.setCell ⟨bd, 0, none⟩ (.slice (some ⟨g, 0, none⟩) (N.length + 1) cap)) lv l (.slice (some ⟨g, 0, none⟩) (N.length + 1) cap) fv (ns ++ [rv]) (N ++ [R]) F (.slice none 0 0) [] := by
  have hb1 : ∀ (k : Nat) (cs : Array Value) (t : TypeId) (fr : Nat × Nat), w.heap[k]? = some (.cells cs t fr) → t ≠ 33 → w2.heap[k]? = w.heap[k]? := fun k cs t fr hk ht => hg.block k (lt_of_heap hk) (fun e => by
    obtain ⟨cs', hc⟩ := own_typed h.nrow e.symm
    exact ht (typ_ne hk hc))
  have hd1 := (hb1 _ _ _ _ h.dbx (by decide)).trans h.dbx
  have hO : OnlyB bd w2 (w2.setCell ⟨bd, 0, none⟩ (.slice (some ⟨g, 0, none⟩) (N.length + 1) cap)) := (OnlyB.refl _ _).set _ _
  have hblk : ∀ (k : Nat) (cs : Array Value) (t : TypeId) (fr : Nat × Nat), w.heap[k]? = some (.cells cs t fr) → t ≠ 33 → t ≠ 25 → (w2.setCell ⟨bd, 0, none⟩ (.slice (some ⟨g, 0, none⟩) (N.length + 1) cap)).heap[k]? = w.heap[k]? := fun k cs t fr hk ht ht2 => (hO.block k (fun e => by
    subst e
    exact ht2 (typ_ne hk h.dbx))).trans (hb1 k cs t fr hk ht)
  have hl : ∀ u k, LstAt w1.heap.size w u k → LstAt w1.heap.size (w2.setCell ⟨bd, 0, none⟩ (.slice (some ⟨g, 0, none⟩) (N.length + 1) cap)) u k := fun u k q => q.blk (fun j cs fr _ hj => hblk j _ _ _ hj (by decide) (by decide))
  refine ⟨⟨cell_in hd1 0, by simp [World.frozen?, hd1]⟩, (h.bl.grown hg h.bl.size (fun k e => (h.nrow.lt k e).1)).setCell (p := ⟨bd, 0, none⟩) h.lbd _, h.lbd, by have := heap_setN (i := 0) hd1 (.slice (some ⟨g, 0, none⟩) (N.length + 1) cap); simpa using this, own_blk h.lrow (fun k e => ?_), World.ownsRow_nil _ _ _ _, fun k e e2 => (by cases e2), by simp [h.nl], ?_, fun i k1 k2 => ?_, own_blk h.frow (fun k e => ?_), fun u hu k e => ⟨?_, fun e2 => (by cases e2), fun e2 => ?_⟩⟩
  · obtain ⟨cs, hc⟩ := own_typed h.lrow e
    exact hblk k _ _ _ hc (by decide) (by decide)
  · rw [List.length_append, List.length_singleton]
    refine own_blk ho (fun k e => hO.block k (fun q => ?_))
    subst q
    obtain ⟨cs, hc⟩ := own_typed ho e
    exact absurd (typ_ne hc hd1) (by decide)
  · by_cases hi : i < ns.length
    · have hi2 : i < N.length := by have := h.nl; omega
      rw [List.getElem_append_left hi, List.getElem_append_left hi2]
      exact hl _ _ (h.nlst i hi hi2)
    · have hie : i = ns.length := by simp at k1; omega
      subst hie
      rw [List.getElem_append_right (Nat.le_refl _), List.getElem_append_right (by rw [h.nl]; exact Nat.le_refl _)]
      simp only [Nat.sub_self, List.getElem_cons_zero, h.nl]
      exact hl _ _ (lst_of_row h.rrow (Nat.le_refl _))
  · obtain ⟨cs, hc⟩ := own_typed h.frow e
    exact hblk k _ _ _ hc (by decide) (by decide)
  · have key : k < w.heap.size := by
      rcases List.mem_append.1 hu with hu | hu
      · exact (h.old u hu k e).1
      · obtain rfl := List.mem_singleton.1 hu
        exact (h.rrow.lt k e).2
    rw [hO.size]
    exact Nat.lt_of_lt_of_le key hg.size
  · rcases List.mem_append.1 hu with hu | hu
    · exact (h.old u hu k e).2.2 e2
    · obtain rfl := List.mem_singleton.1 hu
      exact h.lr k e2 e
/-- A mark more. -/
theorem LfI.pushF {v' : Value} {x : Bool} (h : LfI w1 bd w lv l nv fv ns N F rv R) (hg : w.grownBy w2 fv.ownBlock) (ho : w2.ownsRow w1.heap.size 4 1 v' (F.length + 1) (cellBo F ++ [.bool x])) :
    (w2.cell? ⟨bd, 1, none⟩ = some fv ∧ w2.frozen? ⟨bd, 1, none⟩ = false) ∧ LfI w1 bd (w2.setCell ⟨bd, 1, none⟩ v') lv l nv v' ns N (F ++ [x]) rv R := by
  have hb1 : ∀ (k : Nat) (cs : Array Value) (t : TypeId) (fr : Nat × Nat), w.heap[k]? = some (.cells cs t fr) → t ≠ 4 → w2.heap[k]? = w.heap[k]? := fun k cs t fr hk ht => hg.block k (lt_of_heap hk) (fun e => by
    obtain ⟨cs', hc⟩ := own_typed h.frow e.symm
    exact ht (typ_ne hk hc))
  have hd1 := (hb1 _ _ _ _ h.dbx (by decide)).trans h.dbx
  have hO : OnlyB bd w2 (w2.setCell ⟨bd, 1, none⟩ v') := (OnlyB.refl _ _).set _ _
  have hblk : ∀ (k : Nat) (cs : Array Value) (t : TypeId) (fr : Nat × Nat), w.heap[k]? = some (.cells cs t fr) → t ≠ 4 → t ≠ 25 → (w2.setCell ⟨bd, 1, none⟩ v').heap[k]? = w.heap[k]? := fun k cs t fr hk ht ht2 => (hO.block k (fun e => by
    subst e
    exact ht2 (typ_ne hk h.dbx))).trans (hb1 k cs t fr hk ht)
  have hl : ∀ u k, LstAt w1.heap.size w u k → LstAt w1.heap.size (w2.setCell ⟨bd, 1, none⟩ v') u k := fun u k q => q.blk (fun j cs fr _ hj => hblk j _ _ _ hj (by decide) (by decide))
  refine ⟨⟨cell_in hd1 1, by simp [World.frozen?, hd1]⟩, (h.bl.grown hg h.bl.size (fun k e => (h.frow.lt k e).1)).setCell (p := ⟨bd, 1, none⟩) h.lbd _, h.lbd, by have := heap_setN (i := 1) hd1 v'; simpa using this, own_blk h.lrow (fun k e => ?_), own_blk h.rrow (fun k e => ?_), h.lr, h.nl, own_blk h.nrow (fun k e => ?_), fun i k1 k2 => hl _ _ (h.nlst i k1 k2), ?_, fun u hu k e => ⟨by rw [hO.size]; exact Nat.lt_of_lt_of_le (h.old u hu k e).1 hg.size, (h.old u hu k e).2⟩⟩
  · obtain ⟨cs, hc⟩ := own_typed h.lrow e
    exact hblk k _ _ _ hc (by decide) (by decide)
  · obtain ⟨cs, hc⟩ := own_typed h.rrow e
    exact hblk k _ _ _ hc (by decide) (by decide)
  · obtain ⟨cs, hc⟩ := own_typed h.nrow e
    exact hblk k _ _ _ hc (by decide) (by decide)
  · have e1 : cellBo (F ++ [x]) = cellBo F ++ [.bool x] := by simp [cellBo]
    rw [e1, List.length_append, List.length_singleton]
    refine own_blk ho (fun k e => hO.block k (fun q => ?_))
    subst q
    obtain ⟨cs, hc⟩ := own_typed ho e
    exact absurd (typ_ne hc hd1) (by decide)
end
end Go.Proofs.YtleafbbcgebmpaaDoor
