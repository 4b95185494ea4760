/-
  The program's turned expression.
-/
import Derived.Test.YtlllmoelhholfaaMtRev
namespace Go.Proofs.Ytlllmoelhholfaa
open Go.RowKit Go.Shelf
set_option linter.unusedVariables false

/-- One cell of a row is set. -/
theorem own_set3 {w : World} {base e size G n C i : Nat} {xs : List Value} (h : w.ownsRow base e size (.slice (some ⟨G, 0, none⟩) n C) n xs) (u : Value) : (w.setCell ⟨G, i, none⟩ u).ownsRow base e size (.slice (some ⟨G, 0, none⟩) n C) n (xs.set i u) := by
  have hl := h.1
  rcases h.2 with ⟨e0, _⟩ | ⟨g', cap', cur, e0, hb, hg, hc, hm, hs, ht⟩
  · cases e0
  · obtain ⟨rfl, rfl⟩ : G = g' ∧ C = cap' := by simpa using e0
    refine ⟨by simpa using hl, .inr ⟨G, C, cur.setIfInBounds i u, rfl, hb, ?_, hc, hm, by simpa using hs, ?_⟩⟩
    · simp [World.setCell, Array.getElem?_modify, hg]
    · rw [show (cur.setIfInBounds i u).toList = cur.toList.set i u by simp, List.take_set, ht]
theorem own_form {w : World} {base e size n : Nat} {v : Value} {xs : List Value} (h : w.ownsRow base e size v n xs) : ∃ a c, v = .slice a n c ∧ n ≤ c ∧ (0 < n → ∃ g, a = some ⟨g, 0, none⟩ ∧ base ≤ g ∧ g < w.heap.size ∧ (∀ j, w.frozen? ⟨g, j, none⟩ = false) ∧ ∀ j u, xs[j]? = some u → w.cell? ⟨g, j, none⟩ = some u) := by
  rcases h.2 with ⟨rfl, h0⟩ | ⟨g, cap, cur, rfl, hb, hg, hc, hm, hs, ht⟩
  · subst h0
    exact ⟨none, 0, rfl, Nat.le_refl _, fun h => absurd h (by omega)⟩
  · refine ⟨_, cap, rfl, hc, fun _ => ⟨g, rfl, hb, lt_of_heap hg, fun j => by simp [World.frozen?, hg], fun j u hu => ?_⟩⟩
    have := h.cells (g := g) rfl j u hu
    rw [add_lit', Nat.zero_add] at this
    exact this
theorem cells_put (l1 l2 : List (Nd × Value)) (x y : Nd × Value) : (((cellsNs (l1 ++ x :: l2)).set (l1.length * 3) (.int .i64 y.1.k)).set (l1.length * 3 + 1) (.int .i64 y.1.s)).set (l1.length * 3 + 2) y.2 = cellsNs (l1 ++ y :: l2) := by
  have e : ∀ z : Nd × Value, cellsNs (l1 ++ z :: l2) = cellsNs l1 ++ (Value.int .i64 z.1.k :: Value.int .i64 z.1.s :: z.2 :: cellsNs l2) := fun z => by simp [cellsNs, cellsN]
  have hl : (cellsNs l1).length = l1.length * 3 := cellsNs_length l1
  rw [e, e, List.set_append_right _ _ (by omega), List.set_append_right _ _ (by omega), List.set_append_right _ _ (by omega), hl]
  simp

set_option maxRecDepth 100000 in
set_option maxHeartbeats 16000000 in
theorem turned_body (n : Nd) (za : Option Addr) (ca : Nat) (w : World) (hkl : n.kids.length ≤ 1000) (hz : KdX (fun k => k < w.heap.size) w (.slice za n.kids.length ca) n.kids)
    (HR : ∀ x ∈ n.kids, ∀ (z : Value) (W : World), KdX (fun k => k < W.heap.size) W z x.kids → Calls Try.prog 31 #[ndV x z] W (TurnA x W)) :
    Calls Try.prog 31 #[.agg #[.int .i64 n.k, .int .i64 n.s, .slice za n.kids.length ca]] w (TurnA n w) := by
  obtain ⟨W0, hW0⟩ : ∃ W, W = (w.alloc (.cells #[.int .i64 n.k, .int .i64 n.s, .slice za n.kids.length ca] 24)).alloc (.cells #[.int .i64 0, .int .i64 0, .slice none 0 0] 24) := ⟨_, rfl⟩
  have hB0 : Below w.heap.size w W0 := by rw [hW0]; exact below_after (below_alloc _ _) (below_alloc _ _)
  have hs0 : W0.heap.size = w.heap.size + 1 + 1 := by rw [hW0]; simp
  have hcl := clone_any (fun k => k < w.heap.size) (.slice za n.kids.length ca) n.kids W0 (fun k hk => by omega) (hz.to (fun k hk => ⟨hB0.block k hk, hk⟩)) hkl
  obtain ⟨len, hlen⟩ : ∃ len, len = n.kids.length := ⟨_, rfl⟩
  obtain ⟨nk, hnk⟩ : ∃ x, x = n.k := ⟨_, rfl⟩
  obtain ⟨ns, hns⟩ : ∃ x, x = n.s := ⟨_, rfl⟩
  have HLEN : Hid (len = n.kids.length ∧ nk = n.k ∧ ns = n.s) := ⟨hlen, hnk, hns⟩
  have HHR : Hid (∀ x ∈ n.kids, ∀ (z : Value) (W : World), KdX (fun k => k < W.heap.size) W z x.kids → Calls Try.prog 31 #[ndV x z] W (TurnA x W)) := HR
  rw [← hlen] at hcl hW0 hkl ⊢
  rw [← hnk, ← hns] at hW0 ⊢
  have HE0 : Hid (W0.heap[w.heap.size]? = some (.cells #[.int .i64 nk, .int .i64 ns, .slice za len ca] 24 (0, 0)) ∧ W0.heap[w.heap.size + 1]? = some (.cells #[.int .i64 0, .int .i64 0, .slice none 0 0] 24 (0, 0))) := by
    have k1 := heap_new' w (.cells #[.int .i64 nk, .int .i64 ns, .slice za len ca] 24)
    have k2 := heap_new' (w.alloc (.cells #[.int .i64 nk, .int .i64 ns, .slice za len ca] 24)) (.cells #[.int .i64 0, .int .i64 0, .slice none 0 0] 24)
    rw [World.size_alloc] at k2
    rw [hW0]
    exact ⟨((below_alloc _ _).block _ (by rw [World.size_alloc]; omega)).trans k1, k2⟩
  have HB0 : Hid (Below w.heap.size w W0) := hB0
  have HS0 : Hid (W0.heap.size = w.heap.size + 1 + 1) := hs0
  rw [hW0] at hcl
  clear HR hlen hnk hns hB0 hs0 hz
  go_enter Try.func31, Try.ntmps31
  go_wp2_with fail
  refine hcl.mono ?_
  rintro e w1 ⟨v, lz, rfl, ho1, hm1, hk1, hB1⟩
  rw [← hW0] at ho1 hB1
  have HO1 : Hid (w1.ownsRow (w.heap.size + 1 + 1) 24 3 v len (cellsNs lz)) := by rw [← HS0.out]; exact ho1
  have HM1 : Hid (lz.map Prod.fst = n.kids) := hm1
  have HK1 : Hid (KidsX (fun k => k < w.heap.size) w1 lz) := hk1
  have HE1 : Hid (w1.heap[w.heap.size]? = some (.cells #[.int .i64 nk, .int .i64 ns, .slice za len ca] 24 (0, 0)) ∧ w1.heap[w.heap.size + 1]? = some (.cells #[.int .i64 0, .int .i64 0, .slice none 0 0] 24 (0, 0))) := ⟨(hB1.block _ (by rw [HS0.out]; omega)).trans HE0.out.1, (hB1.block _ (by rw [HS0.out]; omega)).trans HE0.out.2⟩
  have HBW1 : Hid (Below w.heap.size w w1) := below_after HB0.out hB1
  obtain ⟨va, vc, rfl, hvc, _⟩ := own_form HO1.out
  have c2 : w1.cell? ⟨w.heap.size, 2, none⟩ = some (.slice za len ca) := cell_in HE1.out.1 2
  have f2 : w1.frozen? ⟨w.heap.size, 2, none⟩ = false := frozen_of_row _ _ 2 _ _ HE1.out.1
  clear hcl ho1 hm1 hk1 hB1 hW0
  go_wp2
  go_loopw [12] (fun x wr => ∃ (j : Nat) (l1 l2 : List (Nd × Value)), j ≤ len ∧ x = .int .i64 (j : Int) ∧ Hid (wr.heap[w.heap.size]? = some (.cells #[.int .i64 nk, .int .i64 ns, .slice va len vc] 24 (0, 0)) ∧ wr.heap[w.heap.size + 1]? = some (.cells #[.int .i64 0, .int .i64 0, .slice none 0 0] 24 (0, 0))) ∧ Hid (wr.ownsRow (w.heap.size + 1 + 1) 24 3 (.slice va len vc) len (cellsNs (l1 ++ l2))) ∧ Hid (KidsX (fun k => w.heap.size + 1 + 1 ≤ k ∧ k < wr.heap.size ∧ (Value.slice va len vc).ownBlock ≠ some k) wr l1) ∧ Hid (KidsX (fun k => k < w.heap.size) wr l2) ∧ Hid (l1.map Prod.fst = (n.kids.take j).map turnN ∧ l2.map Prod.fst = n.kids.drop j ∧ l1.length = j) ∧ Hid (Below w.heap.size w wr)) (fun x _ => len - (intOf x).toNat)
  case atStart =>
    have hset : ∀ k, k ≠ w.heap.size → (w1.setCell ⟨w.heap.size, 2, none⟩ (.slice va len vc)).heap[k]? = w1.heap[k]? := fun k hk => Below.heap_setCell _ _ _ k (by simpa using hk)
    exact ⟨0, [], lz, Nat.zero_le _, rfl, ⟨heap_setN HE1.out.1 _, (hset _ (by omega)).trans HE1.out.2⟩, own_block HO1.out (fun k hk => hset k (by have := (HO1.out.lt k hk).1; omega)), (fun x hx => by cases hx), HK1.out.to (fun k hk => ⟨hset k (by omega), hk⟩), ⟨by simp, by rw [List.drop_zero]; exact HM1.out, rfl⟩, HBW1.out.setCell (by simp) _⟩
  case round =>
    obtain ⟨j, l1, l2, hj, rfl, HE, HO, HK1r, HK2r, HMP, HBr⟩ := hrel
    have n2 : wr.cell? ⟨w.heap.size, 2, none⟩ = some (.slice va len vc) := cell_in HE.out.1 2
    have hlt1 : w.heap.size + 1 < wr.heap.size := lt_of_heap HE.out.2
    by_cases hjl : j < len
    · have hjn : j < n.kids.length := by rw [← HLEN.out.1]; exact hjl
      obtain ⟨a', c', ef, _, hf⟩ := own_form HO.out
      obtain ⟨g, hg0, hgb, hgs, hfz, hcs⟩ := hf (by omega)
      obtain ⟨rfl, rfl⟩ : va = a' ∧ vc = c' := by simpa using ef
      subst hg0
      obtain ⟨x, l2', rfl⟩ : ∃ x l2', l2 = x :: l2' := by
        cases l2 with
        | nil =>
          have := congrArg List.length HMP.out.2.1
          rw [List.length_drop] at this
          simp at this
          omega
        | cons x l => exact ⟨x, l, rfl⟩
      have hx1 : x.1 = n.kids[j] := by
        have := HMP.out.2.1
        rw [List.drop_eq_getElem_cons hjn, List.map_cons] at this
        exact (List.cons.inj this).1
      have HTL : Hid (l2'.map Prod.fst = n.kids.drop (j + 1)) := by
        have := HMP.out.2.1
        rw [List.drop_eq_getElem_cons hjn, List.map_cons] at this
        exact (List.cons.inj this).2
      have hkx := HK2r.out x (by simp)
      obtain ⟨xn, xz⟩ := x
      obtain rfl : xn = n.kids[j] := hx1
      obtain ⟨kid, hkid⟩ : ∃ kid, kid = n.kids[j] := ⟨_, rfl⟩
      rw [← hkid] at hkx HO HK2r hcs
      have hkx : KdX (fun k => k < w.heap.size) wr xz kid.kids := hkx
      obtain ⟨xa, xc, rfl, _⟩ := hkx.slice
      obtain ⟨xl, hxl⟩ : ∃ xl, xl = kid.kids.length := ⟨_, rfl⟩
      obtain ⟨yk, hyk⟩ : ∃ y, y = kid.k := ⟨_, rfl⟩
      obtain ⟨ys, hys⟩ : ∃ y, y = kid.s := ⟨_, rfl⟩
      rw [← hxl] at hkx HO HK2r hcs
      have HY : Hid (yk = kid.k ∧ ys = kid.s ∧ kid ∈ n.kids) := ⟨hyk, hys, by rw [hkid]; exact List.getElem_mem hjn⟩
      have HKID : Hid (kid = n.kids[j]) := hkid
      have hcell : ∀ c, c < 3 → wr.cell? ⟨g, j * 3 + c, none⟩ = (cellsN (kid, Value.slice xa xl xc))[c]? := fun c hc => by
        have h3 : c < (cellsN (kid, Value.slice xa xl xc)).length := by simpa [cellsN] using hc
        have hjl1 : j < (l1 ++ (kid, Value.slice xa xl xc) :: l2').length := by rw [List.length_append, HMP.out.2.2]; simp
        have hat : (l1 ++ (kid, Value.slice xa xl xc) :: l2')[j] = (kid, Value.slice xa xl xc) := by
          rw [List.getElem_append_right (by rw [HMP.out.2.2]; exact Nat.le_refl _)]
          simp [HMP.out.2.2]
        rw [List.getElem?_eq_getElem h3]
        refine hcs _ _ ?_
        have := cellsNs_at (l1 ++ (kid, Value.slice xa xl xc) :: l2') j c hjl1 hc
        rw [this, hat, List.getElem?_eq_getElem h3]
      have r0 : wr.cell? ⟨g, j * 3, none⟩ = some (.int .i64 yk) := by have := hcell 0 (by omega); rw [hyk]; exact this
      have r1 : wr.cell? ⟨g, j * 3 + 1, none⟩ = some (.int .i64 ys) := by have := hcell 1 (by omega); rw [hys]; exact this
      have r2 : wr.cell? ⟨g, j * 3 + 2, none⟩ = some (.slice xa xl xc) := hcell 2 (by omega)
      have hj0 : (0 : Int) ≤ (j : Int) := by omega
      have hj1 : (j : Int) < (len : Int) := by omega
      clear hcell hcs hyk hys hxl hkid
      have HCL : Hid (∀ W, Below wr.heap.size wr W → Calls Try.prog 31 #[.agg #[.int .i64 yk, .int .i64 ys, .slice xa xl xc]] W fun e w' => ∃ (sa : Option Addr) (sl sc : Nat), e = .returned (.agg #[.int .i64 yk, .int .i64 ys, .slice sa sl sc]) ∧ KdX (fun k => wr.heap.size ≤ k ∧ k < w'.heap.size) w' (.slice sa sl sc) (turnN kid).kids ∧ Below W.heap.size W w') := fun W h => by
        have h1 := HHR.out kid HY.out.2.2 (.slice xa xl xc) W (hkx.to (fun k hk => ⟨h.block k (by omega), by have := h.size; omega⟩))
        unfold ndV at h1
        rw [← HY.out.1, ← HY.out.2.1] at h1
        refine Calls.mono h1 (fun e w' ⟨z', e1, e2, e3⟩ => ?_)
        obtain ⟨a, c, rfl, _⟩ := e2.slice
        rw [← HY.out.1, ← HY.out.2.1] at e1
        exact ⟨a, _, c, e1, e2.to (fun k hk => ⟨rfl, by have := hk.1; have := h.size; omega, hk.2⟩), e3⟩
      have HPS : Hid (∀ W, Below wr.heap.size wr W → W.cell? ⟨w.heap.size, 2, none⟩ = some (.slice (some ⟨g, 0, none⟩) len vc) ∧ W.cell? ⟨g, j * 3, none⟩ = some (.int .i64 yk) ∧ W.cell? ⟨g, j * 3 + 1, none⟩ = some (.int .i64 ys) ∧ W.cell? ⟨g, j * 3 + 2, none⟩ = some (.slice xa xl xc) ∧ W.frozen? ⟨g, j * 3, none⟩ = false ∧ W.frozen? ⟨g, j * 3 + 1, none⟩ = false ∧ W.frozen? ⟨g, j * 3 + 2, none⟩ = false) := fun W h => ⟨(h.cell (p := ⟨w.heap.size, 2, none⟩) (by show w.heap.size < wr.heap.size; omega)).trans n2, (h.cell (p := ⟨g, _, none⟩) hgs).trans r0, (h.cell (p := ⟨g, _, none⟩) hgs).trans r1, (h.cell (p := ⟨g, _, none⟩) hgs).trans r2, (World.frozen?_of_block (a := ⟨g, _, none⟩) (h.block g hgs)).trans (hfz _), (World.frozen?_of_block (a := ⟨g, _, none⟩) (h.block g hgs)).trans (hfz _), (World.frozen?_of_block (a := ⟨g, _, none⟩) (h.block g hgs)).trans (hfz _)⟩
      have HTK : Hid ((n.kids.take (j + 1)).map turnN = (n.kids.take j).map turnN ++ [turnN kid]) := by
        show _ = _
        rw [List.take_add_one, List.getElem?_eq_getElem hjn, HKID.out, List.map_append]; rfl
      have HKX2 : Hid (KidsX (fun k => k < w.heap.size) wr l2') := fun y hy => HK2r.out y (by simp [hy])
      have a2 := (HPS.out _ (below_alloc wr (.cells #[.int .i64 yk, .int .i64 ys, .slice xa xl xc] 24))).1
      clear hkx
      go_wp2
      go_region_law (first | (go_simp; refine (HCL.out _ (by first | exact below_drewN' (below_alloc _ _) 1 | exact below_alloc _ _)).mono ?_; rintro e wS ⟨sa, sl, sc, rfl, hkd, hBS⟩; have hBS' : Below wr.heap.size wr wS := below_after (by first | exact below_drewN' (below_alloc _ _) 1 | exact below_alloc _ _) hBS; obtain ⟨q0, q1, q2, q3, q4, q5, q6⟩ := HPS.out _ hBS'; try dsimp only))
      all_goals (
        obtain ⟨W', hW'⟩ : ∃ W', W' = ((wS.setCell ⟨g, j * 3, none⟩ (.int .i64 yk)).setCell ⟨g, j * 3 + 1, none⟩ (.int .i64 ys)).setCell ⟨g, j * 3 + 2, none⟩ (.slice sa sl sc) := ⟨_, rfl⟩
        have hset : ∀ k, k ≠ g → W'.heap[k]? = wS.heap[k]? := fun k hk => by
          rw [hW', Below.heap_setCell _ _ _ k (by simpa using hk), Below.heap_setCell _ _ _ k (by simpa using hk), Below.heap_setCell _ _ _ k (by simpa using hk)]
        have hsz : W'.heap.size = wS.heap.size := by rw [hW']; simp
        have hwS : wr.heap.size ≤ wS.heap.size := hBS'.size
        have HZE : Hid (W'.heap[w.heap.size]? = some (.cells #[.int .i64 nk, .int .i64 ns, .slice (some ⟨g, 0, none⟩) len vc] 24 (0, 0)) ∧ W'.heap[w.heap.size + 1]? = some (.cells #[.int .i64 0, .int .i64 0, .slice none 0 0] 24 (0, 0))) := ⟨(hset _ (by omega)).trans ((hBS'.block _ (by omega)).trans HE.out.1), (hset _ (by omega)).trans ((hBS'.block _ (by omega)).trans HE.out.2)⟩
        have HZO : Hid (W'.ownsRow (w.heap.size + 1 + 1) 24 3 (.slice (some ⟨g, 0, none⟩) len vc) len (cellsNs ((l1 ++ [(turnN kid, .slice sa sl sc)]) ++ l2'))) := by
          have h0 := own_set3 (own_set3 (own_set3 (ownsRow_below HO.out hBS') (i := j * 3) (.int .i64 yk)) (i := j * 3 + 1) (.int .i64 ys)) (i := j * 3 + 2) (.slice sa sl sc)
          have e := cells_put l1 l2' (kid, .slice xa xl xc) (turnN kid, .slice sa sl sc)
          rw [HMP.out.2.2] at e
          have ek : (turnN kid, Value.slice sa sl sc).1.k = yk := by rw [HY.out.1]; exact turnN_k kid
          have es : (turnN kid, Value.slice sa sl sc).1.s = ys := by rw [HY.out.2.1]; exact turnN_s kid
          rw [ek, es] at e
          show W'.ownsRow _ _ _ _ _ _
          rw [hW', List.append_assoc, List.singleton_append, ← e]
          exact h0
        have HZ1 : Hid (KidsX (fun k => w.heap.size + 1 + 1 ≤ k ∧ k < W'.heap.size ∧ (Value.slice (some ⟨g, 0, none⟩) len vc).ownBlock ≠ some k) W' (l1 ++ [(turnN kid, .slice sa sl sc)])) := fun y hy => by
          rcases List.mem_append.1 hy with hy | hy
          · exact (HK1r.out y hy).to (fun k hk => ⟨(hset k (fun q => hk.2.2 (by rw [q]; rfl))).trans (hBS'.block k hk.2.1), hk.1, by have := hk.2.1; omega, hk.2.2⟩)
          · obtain rfl : y = (turnN kid, Value.slice sa sl sc) := by simpa using hy
            exact hkd.to (fun k hk => ⟨hset k (by have := hk.1; omega), by have := hk.1; omega, by have := hk.2; omega, fun q => by
              have : g = k := by simpa [Value.ownBlock] using q
              have := hk.1
              omega⟩)
        have HZ2 : Hid (KidsX (fun k => k < w.heap.size) W' l2') := HKX2.out.to (fun k hk => ⟨(hset k (by omega)).trans (hBS'.block k (by omega)), hk⟩)
        have HZ3 : Hid ((l1 ++ [(turnN kid, Value.slice sa sl sc)]).map Prod.fst = (n.kids.take (j + 1)).map turnN ∧ l2'.map Prod.fst = n.kids.drop (j + 1) ∧ (l1 ++ [(turnN kid, Value.slice sa sl sc)]).length = j + 1) := ⟨by rw [List.map_append, HMP.out.1, HTK.out]; rfl, HTL.out, by rw [List.length_append, HMP.out.2.2]; rfl⟩
        have HZ4 : Hid (Below w.heap.size w W') := by
          rw [hW']
          exact (((below_after HBr.out hBS').setCell (by show w.heap.size ≤ g; omega) _).setCell (by show w.heap.size ≤ g; omega) _).setCell (by show w.heap.size ≤ g; omega) _
        first | rw [← hW'] | (simp only [Nat.zero_add]; rw [← hW']) | trace_state
        clear hset hBS hBS' q0 q1 q2 q3 q4 q5 q6 hkd hW'
        go_wp2
        go_roundw
        case rel => exact ⟨j + 1, _, l2', by omega, by go_num, HZE, HZO, HZ1, HZ2, HZ3, HZ4⟩
        case measure => simp [intOf]; omega)
    · obtain rfl : j = len := by omega
      have n0 : wr.cell? ⟨w.heap.size, 0, none⟩ = some (.int .i64 nk) := cell_in HE.out.1 0
      have n1 : wr.cell? ⟨w.heap.size, 1, none⟩ = some (.int .i64 ns) := cell_in HE.out.1 1
      have hl2 : l2 = [] := by
        have := congrArg List.length HMP.out.2.1
        rw [List.length_drop, HLEN.out.1] at this
        simp at this
        exact this
      subst hl2
      rw [List.append_nil] at HO
      have HLL : Hid (l1.length = j) := HMP.out.2.2
      have HMA : Hid (l1.map Prod.fst = n.kids.map turnN) := by
        have := HMP.out.1
        rw [List.take_of_length_le (by rw [← HLEN.out.1]; exact Nat.le_refl _)] at this
        exact this
      have FIN : Hid (∀ (W : World), W.heap[w.heap.size + 1]? = some (.cells #[.int .i64 0, .int .i64 0, .slice none 0 0] 24 (0, 0)) → Below w.heap.size w W → KdX (fun k => w.heap.size + 1 + 1 ≤ k ∧ k < W.heap.size) W (.slice va j vc) (turnN n).kids → W.cell? ⟨w.heap.size + 1, 0, none⟩ = some (.int .i64 0) ∧ W.cell? ⟨w.heap.size + 1, 1, none⟩ = some (.int .i64 0) ∧ W.cell? ⟨w.heap.size + 1, 2, none⟩ = some (.slice none 0 0) ∧ W.frozen? ⟨w.heap.size + 1, 0, none⟩ = false ∧ W.frozen? ⟨w.heap.size + 1, 1, none⟩ = false ∧ W.frozen? ⟨w.heap.size + 1, 2, none⟩ = false ∧ (((W.setCell ⟨w.heap.size + 1, 0, none⟩ (.int .i64 nk)).setCell ⟨w.heap.size + 1, 1, none⟩ (.int .i64 ns)).setCell ⟨w.heap.size + 1, 2, none⟩ (.slice va j vc)).heap[w.heap.size + 1]? = some (.cells #[.int .i64 nk, .int .i64 ns, .slice va j vc] 24 (0, 0)) ∧ TurnA n w (.returned (.agg #[.int .i64 nk, .int .i64 ns, .slice va j vc])) (((W.setCell ⟨w.heap.size + 1, 0, none⟩ (.int .i64 nk)).setCell ⟨w.heap.size + 1, 1, none⟩ (.int .i64 ns)).setCell ⟨w.heap.size + 1, 2, none⟩ (.slice va j vc))) := fun W hE1 hB hK => by
        refine ⟨cell_in hE1 0, cell_in hE1 1, cell_in hE1 2, frozen_of_row _ _ 0 _ _ hE1, frozen_of_row _ _ 1 _ _ hE1, frozen_of_row _ _ 2 _ _ hE1, heap_setN (heap_setN (heap_setN hE1 _) _) _, ?_⟩
        have hset : ∀ k, k ≠ w.heap.size + 1 → (((W.setCell ⟨w.heap.size + 1, 0, none⟩ (.int .i64 nk)).setCell ⟨w.heap.size + 1, 1, none⟩ (.int .i64 ns)).setCell ⟨w.heap.size + 1, 2, none⟩ (.slice va j vc)).heap[k]? = W.heap[k]? := fun k hk => by
          rw [Below.heap_setCell _ _ _ k (by simpa using hk), Below.heap_setCell _ _ _ k (by simpa using hk), Below.heap_setCell _ _ _ k (by simpa using hk)]
        have hsz : (((W.setCell ⟨w.heap.size + 1, 0, none⟩ (.int .i64 nk)).setCell ⟨w.heap.size + 1, 1, none⟩ (.int .i64 ns)).setCell ⟨w.heap.size + 1, 2, none⟩ (.slice va j vc)).heap.size = W.heap.size := by simp
        refine ⟨.slice va j vc, by rw [HLEN.out.2.1, HLEN.out.2.2], hK.to (fun k hk => ⟨hset k (by have := hk.1; omega), by have := hk.1; omega, by rw [hsz]; exact hk.2⟩), ?_⟩
        exact ((hB.setCell (by show w.heap.size ≤ w.heap.size + 1; omega) _).setCell (by show w.heap.size ≤ w.heap.size + 1; omega) _).setCell (by show w.heap.size ≤ w.heap.size + 1; omega) _
      by_cases hk0 : nk = 0
      · subst hk0
        have hrv := rev_any wr (w.heap.size + 1 + 1) (.slice va j vc) l1 (fun k => w.heap.size + 1 + 1 ≤ k ∧ k < wr.heap.size) (by omega) (by rw [HLL.out]; omega) (by rw [HLL.out]; exact HO.out) (HK1r.out.to (fun k hk => ⟨rfl, ⟨hk.1, hk.2.1⟩, hk.2.2⟩)) (fun g hg => ⟨(HO.out.lt g hg).1, (HO.out.lt g hg).2⟩)
        go_wp2_with fail
        refine hrv.mono ?_
        rintro e w5 ⟨rfl, hkd5, hbl5, hsz5, hB5⟩
        have hno : ∀ k, k < w.heap.size + 1 + 1 → (Value.slice va j vc).ownBlock ≠ some k := fun k hk q => by have := (HO.out.lt k q).1; omega
        have HE5 : Hid (w5.heap[w.heap.size]? = some (.cells #[.int .i64 0, .int .i64 ns, .slice va j vc] 24 (0, 0)) ∧ w5.heap[w.heap.size + 1]? = some (.cells #[.int .i64 0, .int .i64 0, .slice none 0 0] 24 (0, 0))) := ⟨(hbl5 _ (hno _ (by omega))).trans HE.out.1, (hbl5 _ (hno _ (by omega))).trans HE.out.2⟩
        obtain ⟨s0, s1, s2, sf0, sf1, sf2, hres, hfin⟩ := FIN.out w5 HE5.out.2 (HBr.out.trans (hB5.mono (by omega))) (by
          have e : (turnN n).kids = (l1.map Prod.fst).reverse := by
            rw [HMA.out, turnN_eq]
            show (if n.k = 0 then _ else _) = _
            rw [if_pos (by rw [← HLEN.out.2.1])]
          rw [e]
          exact hkd5.to (fun k hk => ⟨rfl, hk.1, by rw [hsz5]; exact hk.2⟩))
        have m0 : w5.cell? ⟨w.heap.size, 0, none⟩ = some (.int .i64 0) := cell_in HE5.out.1 0
        have m1 : w5.cell? ⟨w.heap.size, 1, none⟩ = some (.int .i64 ns) := cell_in HE5.out.1 1
        have m2 : w5.cell? ⟨w.heap.size, 2, none⟩ = some (.slice va j vc) := cell_in HE5.out.1 2
        clear hrv hkd5 hbl5 hsz5 hB5
        go_wp2
        exact bodyPost_ret (results_cell_row rfl _ _ (w.heap.size + 1) 24 #[.int .i64 0, .int .i64 ns, .slice va j vc] (0, 0) _ rfl hres Try.underlying24 rfl (by kernel_rfl)) rfl hfin
      · have hk0' : (nk == 0) = false := by simpa using hk0
        obtain ⟨s0, s1, s2, sf0, sf1, sf2, hres, hfin⟩ := FIN.out wr HE.out.2 HBr.out (by
          have e : (turnN n).kids = l1.map Prod.fst := by
            rw [HMA.out, turnN_eq]
            show (if n.k = 0 then _ else _) = _
            rw [if_neg (by rw [← HLEN.out.2.1]; exact hk0)]
          rw [e]
          exact kids_of_row (base := w.heap.size + 1 + 1) (by rw [HLL.out]; exact HO.out) (HK1r.out.to (fun k hk => ⟨rfl, hk.1, hk.2.1⟩)) (fun g hg => HO.out.lt g hg))
        go_wp2
        exact bodyPost_ret (results_cell_row rfl _ _ (w.heap.size + 1) 24 #[.int .i64 nk, .int .i64 ns, .slice va j vc] (0, 0) _ rfl hres Try.underlying24 rfl (by kernel_rfl)) rfl hfin
theorem turned_any : ∀ (d : Nat) (n : Nd) (z : Value) (w : World), Dp d n.kids → KdX (fun k => k < w.heap.size) w z n.kids → Calls Try.prog 31 #[ndV n z] w (TurnA n w)
  | d, n, z, w, hd, hz => by
    obtain ⟨a, ca, rfl, _⟩ := hz.slice
    refine turned_body n a ca w hd.len hz (fun x hx z' W hz' => ?_)
    match d, hd with
    | 0, hd =>
      have h0 : n.kids = [] := hd
      rw [h0] at hx
      cases hx
    | d + 1, hd => exact turned_any d x z' W (hd.2 _ hx) hz'
end Go.Proofs.Ytlllmoelhholfaa
