/-
  The document's turned expression.
-/
import Derived.Test.YtidaoamfdbkfiaaDoorFlBackM
import Derived.Test.YtidaoamfdbkfiaaDoorFlFew
import Derived.Deep.AppendLies
import Derived.Deep.CutRange
namespace Go.Proofs.YtidaoamfdbkfiaaDoor
open Go.RowKit Go.Shelf
set_option linter.unusedVariables false

theorem Tryd.infoNode10 : (Tryd.prog.info? 24).map (fun i => (i.zero, i.size, i.bytes)) = some (some (.agg #[.int .i64 0, .int .i64 0, .slice none 0 0]), 3, 40) := by kernel_rfl
theorem own_block {w w' : World} {base e size n : Nat} {v : Value} {xs : List Value} (h : w.ownsRow base e size v n xs) (hb : ∀ k, v.ownBlock = some k → w'.heap[k]? = w.heap[k]?) : w'.ownsRow base e size v n xs := by
  refine ⟨h.1, ?_⟩
  rcases h.2 with hn | ⟨g, cap, cur, rfl, hl, hgg, rest⟩
  · exact .inl hn
  · exact .inr ⟨g, cap, cur, rfl, hl, (hb g rfl).trans hgg, rest⟩
theorem own_slice {w : World} {base e size n : Nat} {v : Value} {xs : List Value} (h : w.ownsRow base e size v n xs) : ∃ a m c, v = .slice a m c := by
  rcases h.2 with ⟨e, _⟩ | ⟨g, cap, cur, e, _⟩
  · exact ⟨_, _, _, e⟩
  · exact ⟨_, _, _, e⟩
/-- What a turned expression is: its parts are in memory that is new. -/
def TurnA (n : Nd) (w : World) (e : Ending) (w' : World) : Prop := ∃ z', e = .returned (.agg #[.int .i64 n.k, .int .i64 n.s, z']) ∧ KdX (fun k => w.heap.size ≤ k ∧ k < w'.heap.size) w' z' (turnN n).kids ∧ Below w.heap.size w w'
/-- Which part comes as the j-th. -/
def tIx (k : Int) (len j : Nat) : Nat := if k = 0 then len - 1 - j else j
theorem turn_at (n : Nd) (j : Nat) (h : j < n.kids.length) : ∃ hx, (turnN n).kids[j]? = some (turnN (n.kids[tIx n.k n.kids.length j]'hx)) := by
  have hx : tIx n.k n.kids.length j < n.kids.length := by unfold tIx; split <;> omega
  refine ⟨hx, ?_⟩
  rw [turnN_eq]
  show (if n.k = 0 then (n.kids.map turnN).reverse else n.kids.map turnN)[j]? = _
  by_cases hk : n.k = 0
  · rw [if_pos hk, List.getElem?_reverse (by simpa using h), List.length_map, List.getElem?_map]
    have e : tIx n.k n.kids.length j = n.kids.length - 1 - j := if_pos hk
    rw [← e, List.getElem?_eq_getElem hx]; rfl
  · rw [if_neg hk, List.getElem?_map]
    have e : tIx n.k n.kids.length j = j := if_neg hk
    rw [List.getElem?_eq_getElem h]
    simp only [e, Option.map_some]

set_option maxRecDepth 100000 in
set_option maxHeartbeats 16000000 in
theorem refTurn_body (n : Nd) (za : Option Addr) (ca : Nat) (w : World) (hkl : n.kids.length ≤ 1000)
    (HR : ∀ i, (h : i < n.kids.length) → n.kids.length ≤ ca ∧ ∃ ga oa xa ka, za = some ⟨ga, oa, none⟩ ∧ ga < w.heap.size ∧ w.cell? ⟨ga, oa + i * 3, none⟩ = some (.int .i64 n.kids[i].k) ∧ w.cell? ⟨ga, oa + i * 3 + 1, none⟩ = some (.int .i64 n.kids[i].s) ∧ w.cell? ⟨ga, oa + i * 3 + 2, none⟩ = some (.slice xa n.kids[i].kids.length ka) ∧
      ∀ W, Below w.heap.size w W → Calls Tryd.prog 21 #[.agg #[.int .i64 n.kids[i].k, .int .i64 n.kids[i].s, .slice xa n.kids[i].kids.length ka]] W (TurnA n.kids[i] W)) :
    Calls Tryd.prog 21 #[.agg #[.int .i64 n.k, .int .i64 n.s, .slice za n.kids.length ca]] w (TurnA n w) := by
  obtain ⟨i0, hi0, hz0, hz1, hz2⟩ := info_parts Tryd.infoNode10
  obtain ⟨len, hlen⟩ : ∃ len, len = n.kids.length := ⟨_, rfl⟩
  obtain ⟨nk, hnk⟩ : ∃ x, x = n.k := ⟨_, rfl⟩
  obtain ⟨ns, hns⟩ : ∃ x, x = n.s := ⟨_, rfl⟩
  have HLEN : Hid (len = n.kids.length ∧ nk = n.k ∧ ns = n.s) := ⟨hlen, hnk, hns⟩
  have HHR : Hid (∀ i, (h : i < n.kids.length) → len ≤ ca ∧ ∃ (ga oa : Nat) (xa : Option Addr) (ka : Nat) (yk ys : Int) (yl : Nat), (yk = n.kids[i].k ∧ ys = n.kids[i].s) ∧ za = some ⟨ga, oa, none⟩ ∧ ga < w.heap.size ∧ w.cell? ⟨ga, oa + i * 3, none⟩ = some (.int .i64 yk) ∧ w.cell? ⟨ga, oa + i * 3 + 1, none⟩ = some (.int .i64 ys) ∧ w.cell? ⟨ga, oa + i * 3 + 2, none⟩ = some (.slice xa yl ka) ∧
      ∀ W, Below w.heap.size w W → Calls Tryd.prog 21 #[.agg #[.int .i64 yk, .int .i64 ys, .slice xa yl ka]] W (TurnA n.kids[i] W)) := fun i hi => by
    obtain ⟨h1, ga, oa, xa, ka, h⟩ := HR i hi
    exact ⟨by omega, ga, oa, xa, ka, _, _, _, ⟨rfl, rfl⟩, h⟩
  rw [← hlen, ← hnk, ← hns]
  have hl1000 : len ≤ 1000 := by omega
  clear HR hlen hnk hns hkl
  go_enter Tryd.func21, Tryd.ntmps21
  have HX0 : Hid (((((w.alloc (.cells #[.int .i64 nk, .int .i64 ns, .slice za len ca] 24)).alloc (.cells #[.int .i64 0, .int .i64 0, .slice none 0 0] 24)).alloc (.cells #[.int .i64 nk, .int .i64 ns, .slice none 0 0] 24)).heap[w.heap.size]? = some (.cells #[.int .i64 nk, .int .i64 ns, .slice za len ca] 24 (0, 0))) ∧ ((((w.alloc (.cells #[.int .i64 nk, .int .i64 ns, .slice za len ca] 24)).alloc (.cells #[.int .i64 0, .int .i64 0, .slice none 0 0] 24)).alloc (.cells #[.int .i64 nk, .int .i64 ns, .slice none 0 0] 24)).heap[w.heap.size + 1]? = some (.cells #[.int .i64 0, .int .i64 0, .slice none 0 0] 24 (0, 0))) ∧ ((((w.alloc (.cells #[.int .i64 nk, .int .i64 ns, .slice za len ca] 24)).alloc (.cells #[.int .i64 0, .int .i64 0, .slice none 0 0] 24)).alloc (.cells #[.int .i64 nk, .int .i64 ns, .slice none 0 0] 24)).heap[w.heap.size + 1 + 1]? = some (.cells #[.int .i64 nk, .int .i64 ns, .slice none 0 0] 24 (0, 0))) ∧ Below w.heap.size w (((w.alloc (.cells #[.int .i64 nk, .int .i64 ns, .slice za len ca] 24)).alloc (.cells #[.int .i64 0, .int .i64 0, .slice none 0 0] 24)).alloc (.cells #[.int .i64 nk, .int .i64 ns, .slice none 0 0] 24))) := by
    have k1 := heap_new' w (.cells #[.int .i64 nk, .int .i64 ns, .slice za len ca] 24)
    have k2 := heap_new' (w.alloc (.cells #[.int .i64 nk, .int .i64 ns, .slice za len ca] 24)) (.cells #[.int .i64 0, .int .i64 0, .slice none 0 0] 24)
    have k3 := heap_new' ((w.alloc (.cells #[.int .i64 nk, .int .i64 ns, .slice za len ca] 24)).alloc (.cells #[.int .i64 0, .int .i64 0, .slice none 0 0] 24)) (.cells #[.int .i64 nk, .int .i64 ns, .slice none 0 0] 24)
    have b1 := below_alloc w (.cells #[.int .i64 nk, .int .i64 ns, .slice za len ca] 24)
    have b2 := below_alloc (w.alloc (.cells #[.int .i64 nk, .int .i64 ns, .slice za len ca] 24)) (.cells #[.int .i64 0, .int .i64 0, .slice none 0 0] 24)
    have b3 := below_alloc ((w.alloc (.cells #[.int .i64 nk, .int .i64 ns, .slice za len ca] 24)).alloc (.cells #[.int .i64 0, .int .i64 0, .slice none 0 0] 24)) (.cells #[.int .i64 nk, .int .i64 ns, .slice none 0 0] 24)
    simp only [World.size_alloc] at k2 k3
    refine ⟨?_, ?_, k3, below_after b1 (below_after b2 b3)⟩
    · exact (b3.block _ (by rw [World.size_alloc, World.size_alloc]; omega)).trans ((b2.block _ (by rw [World.size_alloc]; omega)).trans k1)
    · exact (b3.block _ (by rw [World.size_alloc, World.size_alloc]; omega)).trans k2
  go_wp2
  go_loopw [4] (fun x wr => ∃ (j : Nat) (v : Value) (l : List (Nd × Value)), j ≤ len ∧ x = .int .i64 (j : Int) ∧ wr.heap[w.heap.size + 1 + 1]? = some (.cells #[.int .i64 nk, .int .i64 ns, v] 24 (0, 0)) ∧ Hid (wr.heap[w.heap.size]? = some (.cells #[.int .i64 nk, .int .i64 ns, .slice za len ca] 24 (0, 0)) ∧ wr.heap[w.heap.size + 1]? = some (.cells #[.int .i64 0, .int .i64 0, .slice none 0 0] 24 (0, 0))) ∧ Hid (wr.ownsRow (w.heap.size + 3) 24 3 v j (cellsNs l)) ∧ Hid (KidsX (fun k => w.heap.size + 3 ≤ k ∧ k < wr.heap.size ∧ v.ownBlock ≠ some k) wr l) ∧ Hid (l.map Prod.fst = (turnN n).kids.take j) ∧ Hid (l.length = j) ∧ Hid (Below w.heap.size w wr)) (fun x _ => len - (intOf x).toNat)
  case atStart => exact ⟨0, .slice none 0 0, [], Nat.zero_le _, rfl, HX0.out.2.2.1, ⟨HX0.out.1, HX0.out.2.1⟩, (by show World.ownsRow _ _ _ _ _ _ _; simpa [cellsNs] using World.ownsRow_nil _ _ _ _), (fun x hx => by cases hx), (by show _ = _; rw [List.take_zero]; rfl), (by show _ = _; rfl), HX0.out.2.2.2⟩
  case round =>
    obtain ⟨j, v, l, hj, rfl, hE2, HE01, HOW, HKX, HMP, HLL, HBr⟩ := hrel
    have hlt2 : w.heap.size + 1 + 1 < wr.heap.size := lt_of_heap hE2
    obtain ⟨va, vn, vc, rfl⟩ := own_slice HOW.out
    have p2 : wr.cell? ⟨w.heap.size + 1 + 1, 2, none⟩ = some (.slice va vn vc) := cell_in hE2 2
    have pf2 : wr.frozen? ⟨w.heap.size + 1 + 1, 2, none⟩ = false := frozen_of_row _ _ 2 _ _ hE2
    have HE2 : Hid (wr.heap[w.heap.size + 1 + 1]? = some (.cells #[.int .i64 nk, .int .i64 ns, .slice va vn vc] 24 (0, 0))) := hE2
    have n0 : wr.cell? ⟨w.heap.size, 0, none⟩ = some (.int .i64 nk) := cell_in HE01.out.1 0
    have n2 : wr.cell? ⟨w.heap.size, 2, none⟩ = some (.slice za len ca) := cell_in HE01.out.1 2
    have o0 : wr.cell? ⟨w.heap.size + 1 + 1, 0, none⟩ = some (.int .i64 nk) := cell_in HE2.out 0
    have o1 : wr.cell? ⟨w.heap.size + 1 + 1, 1, none⟩ = some (.int .i64 ns) := cell_in HE2.out 1
    clear hE2
    by_cases hjl : j < len
    · have hjl' : decide ((j : Int) < (len : Int)) = true := by simp; omega
      obtain ⟨i, hi⟩ : ∃ i, i = tIx nk len j := ⟨_, rfl⟩
      have hin : i < len := by rw [hi]; unfold tIx; split <;> omega
      have HTK : Hid (∃ h : i < n.kids.length, (turnN n).kids.take (j + 1) = (turnN n).kids.take j ++ [turnN n.kids[i]]) := by
        have hjn : j < n.kids.length := by rw [← HLEN.out.1]; exact hjl
        obtain ⟨h', e⟩ := turn_at n j hjn
        have ei : i = tIx n.k n.kids.length j := by rw [hi, HLEN.out.1, HLEN.out.2.1]
        subst ei
        exact ⟨h', by rw [List.take_add_one, e]; rfl⟩
      obtain ⟨hik, HTK2⟩ := HTK.out
      have HTK2 : Hid ((turnN n).kids.take (j + 1) = (turnN n).kids.take j ++ [turnN n.kids[i]]) := HTK2
      obtain ⟨hca, ga, oa, xa, ka, yk, ys, yl, hyk, rfl, hga, c0, c1, c2, hcall⟩ := HHR.out i hik
      have HYK : Hid (yk = n.kids[i].k ∧ ys = n.kids[i].s) := hyk
      have r0 : wr.cell? ⟨ga, oa + i * 3, none⟩ = some (.int .i64 yk) := (HBr.out.cell (p := ⟨ga, _, none⟩) hga).trans c0
      have r1 : wr.cell? ⟨ga, oa + i * 3 + 1, none⟩ = some (.int .i64 ys) := (HBr.out.cell (p := ⟨ga, _, none⟩) hga).trans c1
      have r2 : wr.cell? ⟨ga, oa + i * 3 + 2, none⟩ = some (.slice xa yl ka) := (HBr.out.cell (p := ⟨ga, _, none⟩) hga).trans c2
      obtain ⟨kid, hkid⟩ : ∃ kid, kid = n.kids[i] := ⟨_, rfl⟩
      rw [← hkid] at HTK2 HYK hcall
      have HCL : Hid (∀ W, Below wr.heap.size wr W → Calls Tryd.prog 21 #[.agg #[.int .i64 yk, .int .i64 ys, .slice xa yl ka]] W fun e w' => ∃ (sa : Option Addr) (sl sc : Nat), e = .returned (.agg #[.int .i64 yk, .int .i64 ys, .slice sa sl sc]) ∧ KdX (fun k => W.heap.size ≤ k ∧ k < w'.heap.size) w' (.slice sa sl sc) (turnN kid).kids ∧ Below W.heap.size W w') := fun W h => (hcall W (below_after HBr.out h)).mono (fun e w' ⟨z', e1, e2, e3⟩ => by
        obtain ⟨a, c, rfl, _⟩ := e2.slice
        rw [← HYK.out.1, ← HYK.out.2] at e1
        exact ⟨a, _, c, e1, e2, e3⟩)
      have HOWN : Hid (∀ W, Below wr.heap.size wr W → W.ownsRow (w.heap.size + 3) 24 3 (.slice va vn vc) j (cellsNs l)) := fun W hW => own_block HOW.out (fun k hk => hW.block k (HOW.out.lt k hk).2)
      have HP2 : Hid (∀ W, Below wr.heap.size wr W → W.cell? ⟨w.heap.size + 1 + 1, 2, none⟩ = some (.slice va vn vc) ∧ W.frozen? ⟨w.heap.size + 1 + 1, 2, none⟩ = false) := fun W hW => ⟨(hW.cell (p := ⟨_, _, none⟩) hlt2).trans p2, (World.frozen?_of_block (a := ⟨w.heap.size + 1 + 1, 2, none⟩) (hW.block _ hlt2)).trans pf2⟩
      have HNO : Hid ((Value.slice va vn vc).ownBlock ≠ some (w.heap.size + 1 + 1)) := fun q => by have := (HOW.out.lt _ q).1; omega
      have hi0' : (0 : Int) ≤ (i : Int) := by omega
      have hi1' : (i : Int) < (len : Int) := by omega
      clear hcall c0 c1 c2 hyk HTK hkid
      by_cases hk0 : nk = 0
      · subst hk0
        have hii : (len : Int) - 1 - (j : Int) = (i : Int) := by
          have : i = len - 1 - j := by rw [hi]; exact if_pos rfl
          omega
        clear hi
        go_wp2
        go_region_law (first | (go_simp; refine (HCL.out _ (by exact below_drewN' (Below.refl _ _) 1)).mono ?_; rintro e wS ⟨sa, sl, sc, rfl, hkd, hBS⟩; have hBS' : Below wr.heap.size wr wS := (below_drewN' (Below.refl _ _) 1).trans hBS; have q0 := (HP2.out _ hBS').1; have hPS : w.heap.size + 1 + 1 < wS.heap.size := Nat.lt_of_lt_of_le hlt2 hBS'.size; try dsimp only) | (refine step_append_lies _ (by rfl) (.tmp 29) (.tmp 36) 22 (by rfl) (w.heap.size + 3) 24 i0 (.agg #[.int .i64 0, .int .i64 0, .slice none 0 0]) 3 40 Tryd.underlying22 hi0 hz0 hz1 hz2 rfl (by decide) (.slice va vn vc) j _ (by rfl) (by exact (HOWN.out _ hBS').alloc _) ⟨wS.heap.size, 0, none⟩ 1 1 [.int .i64 yk, .int .i64 ys, .slice sa sl sc] (by rfl) rfl (by exact World.news_of_block (heap_new' _ _)) (by simp [Value.oneCell']) (by omega) (by unfold maxLen; omega) (by omega) (by simp; omega) _ rfl ?_; intro g cap2 wz hown hgrow hat hltg; have c32 : wz.cell? ⟨w.heap.size + 1 + 1, 2, none⟩ = some (.slice va vn vc) := hgrow.cell (((below_alloc wS _).cell (p := ⟨w.heap.size + 1 + 1, 2, none⟩) hPS).trans (HP2.out _ hBS').1) (Ne.symm HNO.out); have f32 : wz.frozen? ⟨w.heap.size + 1 + 1, 2, none⟩ = false := (World.frozen?_of_block (a := ⟨w.heap.size + 1 + 1, 2, none⟩) (hgrow.block (w.heap.size + 1 + 1) (by simp; omega) (Ne.symm HNO.out))).trans ((World.frozen?_of_block (a := ⟨w.heap.size + 1 + 1, 2, none⟩) ((below_alloc wS _).block _ hPS)).trans (HP2.out _ hBS').2)))
        all_goals (
          have hkd' : KdX (fun k => wr.heap.size ≤ k ∧ k < wS.heap.size) wS (.slice sa sl sc) (turnN kid).kids := hkd.to (fun k hk => ⟨rfl, by first | exact hk.1 | simpa using hk.1, hk.2⟩)
          have hzP : wz.heap[w.heap.size + 1 + 1]? = some (.cells #[.int .i64 0, .int .i64 ns, .slice va vn vc] 24 (0, 0)) := (hgrow.block (w.heap.size + 1 + 1) (by simp; omega) (Ne.symm HNO.out)).trans (((below_alloc wS _).block _ hPS).trans ((hBS'.block _ hlt2).trans HE2.out))
          have hg3 : w.heap.size + 3 ≤ g := (hown.lt g (by simp [Value.ownBlock])).1
          have hszw : wS.heap.size + 1 ≤ wz.heap.size := by have := hgrow.size; rwa [World.size_alloc] at this
          have hwS : wr.heap.size ≤ wS.heap.size := hBS'.size
          obtain ⟨W', hW'⟩ : ∃ W', W' = wz.setCell ⟨w.heap.size + 1 + 1, 2, none⟩ (.slice (some ⟨g, 0, none⟩) (j + 1) cap2) := ⟨_, rfl⟩
          have HZ1 : Hid (W'.heap[w.heap.size + 1 + 1]? = some (.cells #[.int .i64 0, .int .i64 ns, .slice (some ⟨g, 0, none⟩) (j + 1) cap2] 24 (0, 0))) := by rw [hW']; exact heap_setN hzP _
          have hset : ∀ k, k ≠ w.heap.size + 1 + 1 → W'.heap[k]? = wz.heap[k]? := fun k hk => by rw [hW']; exact Below.heap_setCell wz ⟨w.heap.size + 1 + 1, 2, none⟩ _ k (by simpa using hk)
          have hszW : W'.heap.size = wz.heap.size := by rw [hW']; simp
          have hfar : ∀ k, k < wr.heap.size → (Value.slice va vn vc).ownBlock ≠ some k → wz.heap[k]? = wr.heap[k]? := fun k h1 h2 => (hgrow.block k (by rw [World.size_alloc]; omega) (Ne.symm h2)).trans (((below_alloc wS _).block k (by omega)).trans (hBS'.block k h1))
          have HZ0 : Hid (W'.heap[w.heap.size]? = some (.cells #[.int .i64 0, .int .i64 ns, .slice (some ⟨ga, oa, none⟩) len ca] 24 (0, 0)) ∧ W'.heap[w.heap.size + 1]? = some (.cells #[.int .i64 0, .int .i64 0, .slice none 0 0] 24 (0, 0))) := ⟨(hset _ (by omega)).trans ((hfar _ (by omega) (fun q => by have := (HOW.out.lt _ q).1; omega)).trans HE01.out.1), (hset _ (by omega)).trans ((hfar _ (by omega) (fun q => by have := (HOW.out.lt _ q).1; omega)).trans HE01.out.2)⟩
          have HZ2 : Hid (W'.ownsRow (w.heap.size + 3) 24 3 (.slice (some ⟨g, 0, none⟩) (j + 1) cap2) (j + 1) (cellsNs (l ++ [(turnN kid, .slice sa sl sc)]))) := by
            have e : cellsN (turnN kid, Value.slice sa sl sc) = [.int .i64 yk, .int .i64 ys, .slice sa sl sc] := by
              unfold cellsN
              rw [turnN_k, turnN_s, HYK.out.1, HYK.out.2]
            show W'.ownsRow _ _ _ _ _ _
            rw [cellsNs_snoc, e]
            exact own_block hown (fun k hk => hset k (by have : g = k := by simpa [Value.ownBlock] using hk
                                                         omega))
          have HZ3 : Hid (KidsX (fun k => w.heap.size + 3 ≤ k ∧ k < W'.heap.size ∧ (Value.slice (some ⟨g, 0, none⟩) (j + 1) cap2).ownBlock ≠ some k) W' (l ++ [(turnN kid, .slice sa sl sc)])) := fun y hy => by
            have hgk : ∀ k, k < wS.heap.size → (Value.slice va vn vc).ownBlock ≠ some k → (Value.slice (some ⟨g, 0, none⟩) (j + 1) cap2).ownBlock ≠ some k := fun k h1 h2 q => by
              have : g = k := by simpa [Value.ownBlock] using q
              subst this
              rcases hat with h | h
              · exact h2 h
              · rw [World.size_alloc] at h; omega
            rcases List.mem_append.1 hy with hy | hy
            · exact (HKX.out y hy).to (fun k hk => ⟨(hset k (by have := hk.1; omega)).trans (hfar k hk.2.1 hk.2.2), hk.1, by have := hk.2.1; omega, hgk k (by have := hk.2.1; omega) hk.2.2⟩)
            · obtain rfl : y = (turnN kid, Value.slice sa sl sc) := by simpa using hy
              exact hkd'.to (fun k hk => by
                have hne : (Value.slice va vn vc).ownBlock ≠ some k := fun q => by have := (HOW.out.lt k q).2; have := hk.1; omega
                exact ⟨(hset k (by have := hk.1; omega)).trans ((hgrow.block k (by rw [World.size_alloc]; have := hk.2; omega) (Ne.symm hne)).trans ((below_alloc wS _).block k hk.2)), by have := hk.1; omega, by have := hk.2; omega, hgk k hk.2 hne⟩)
          have HZ4 : Hid (Below w.heap.size w W') := by
            have h1 : Below w.heap.size w wS := below_after HBr.out hBS'
            have h2 := h1.alloc h1.size (.cells #[.int .i64 yk, .int .i64 ys, .slice sa sl sc] 24)
            have h3 : Below w.heap.size w wz := h2.grown hgrow (by simp; omega) (fun k hk => by have := (HOW.out.lt k hk).1; omega)
            rw [hW']
            exact h3.setCell (by show w.heap.size ≤ w.heap.size + 1 + 1; omega) _
          have HZ5 : Hid ((l ++ [(turnN kid, Value.slice sa sl sc)]).map Prod.fst = (turnN n).kids.take (j + 1)) := by
            show _ = _
            rw [List.map_append, HMP.out, HTK2.out]; rfl
          have HZ6 : Hid ((l ++ [(turnN kid, Value.slice sa sl sc)]).length = j + 1) := by
            show _ = _
            rw [List.length_append, HLL.out]; rfl
          rw [← hW']
          clear hown hgrow hat hzP hset hfar hBS hBS' q0 c32 f32 hkd hkd' hW'
          go_wp2
          go_roundw
          case rel => exact ⟨j + 1, _, l ++ [(turnN kid, .slice sa sl sc)], by omega, by go_num, HZ1.out, HZ0, HZ2, HZ3, HZ5, HZ6, HZ4⟩
          case measure => simp [intOf]; omega)
      · have hk0' : (nk == 0) = false := by simpa using hk0
        obtain rfl : i = j := by rw [hi]; exact if_neg hk0
        clear hi
        go_wp2
        go_region_law (first | (go_simp; refine (HCL.out _ (by exact below_drewN' (Below.refl _ _) 1)).mono ?_; rintro e wS ⟨sa, sl, sc, rfl, hkd, hBS⟩; have hBS' : Below wr.heap.size wr wS := (below_drewN' (Below.refl _ _) 1).trans hBS; have q0 := (HP2.out _ hBS').1; have hPS : w.heap.size + 1 + 1 < wS.heap.size := Nat.lt_of_lt_of_le hlt2 hBS'.size; try dsimp only) | (refine step_append_lies _ (by rfl) (.tmp 29) (.tmp 36) 22 (by rfl) (w.heap.size + 3) 24 i0 (.agg #[.int .i64 0, .int .i64 0, .slice none 0 0]) 3 40 Tryd.underlying22 hi0 hz0 hz1 hz2 rfl (by decide) (.slice va vn vc) i _ (by rfl) (by exact (HOWN.out _ hBS').alloc _) ⟨wS.heap.size, 0, none⟩ 1 1 [.int .i64 yk, .int .i64 ys, .slice sa sl sc] (by rfl) rfl (by exact World.news_of_block (heap_new' _ _)) (by simp [Value.oneCell']) (by omega) (by unfold maxLen; omega) (by omega) (by simp; omega) _ rfl ?_; intro g cap2 wz hown hgrow hat hltg; have c32 : wz.cell? ⟨w.heap.size + 1 + 1, 2, none⟩ = some (.slice va vn vc) := hgrow.cell (((below_alloc wS _).cell (p := ⟨w.heap.size + 1 + 1, 2, none⟩) hPS).trans (HP2.out _ hBS').1) (Ne.symm HNO.out); have f32 : wz.frozen? ⟨w.heap.size + 1 + 1, 2, none⟩ = false := (World.frozen?_of_block (a := ⟨w.heap.size + 1 + 1, 2, none⟩) (hgrow.block (w.heap.size + 1 + 1) (by simp; omega) (Ne.symm HNO.out))).trans ((World.frozen?_of_block (a := ⟨w.heap.size + 1 + 1, 2, none⟩) ((below_alloc wS _).block _ hPS)).trans (HP2.out _ hBS').2)))
        all_goals (
          have hkd' : KdX (fun k => wr.heap.size ≤ k ∧ k < wS.heap.size) wS (.slice sa sl sc) (turnN kid).kids := hkd.to (fun k hk => ⟨rfl, by first | exact hk.1 | simpa using hk.1, hk.2⟩)
          have hzP : wz.heap[w.heap.size + 1 + 1]? = some (.cells #[.int .i64 nk, .int .i64 ns, .slice va vn vc] 24 (0, 0)) := (hgrow.block (w.heap.size + 1 + 1) (by simp; omega) (Ne.symm HNO.out)).trans (((below_alloc wS _).block _ hPS).trans ((hBS'.block _ hlt2).trans HE2.out))
          have hg3 : w.heap.size + 3 ≤ g := (hown.lt g (by simp [Value.ownBlock])).1
          have hszw : wS.heap.size + 1 ≤ wz.heap.size := by have := hgrow.size; rwa [World.size_alloc] at this
          have hwS : wr.heap.size ≤ wS.heap.size := hBS'.size
          obtain ⟨W', hW'⟩ : ∃ W', W' = wz.setCell ⟨w.heap.size + 1 + 1, 2, none⟩ (.slice (some ⟨g, 0, none⟩) (i + 1) cap2) := ⟨_, rfl⟩
          have HZ1 : Hid (W'.heap[w.heap.size + 1 + 1]? = some (.cells #[.int .i64 nk, .int .i64 ns, .slice (some ⟨g, 0, none⟩) (i + 1) cap2] 24 (0, 0))) := by rw [hW']; exact heap_setN hzP _
          have hset : ∀ k, k ≠ w.heap.size + 1 + 1 → W'.heap[k]? = wz.heap[k]? := fun k hk => by rw [hW']; exact Below.heap_setCell wz ⟨w.heap.size + 1 + 1, 2, none⟩ _ k (by simpa using hk)
          have hszW : W'.heap.size = wz.heap.size := by rw [hW']; simp
          have hfar : ∀ k, k < wr.heap.size → (Value.slice va vn vc).ownBlock ≠ some k → wz.heap[k]? = wr.heap[k]? := fun k h1 h2 => (hgrow.block k (by rw [World.size_alloc]; omega) (Ne.symm h2)).trans (((below_alloc wS _).block k (by omega)).trans (hBS'.block k h1))
          have HZ0 : Hid (W'.heap[w.heap.size]? = some (.cells #[.int .i64 nk, .int .i64 ns, .slice (some ⟨ga, oa, none⟩) len ca] 24 (0, 0)) ∧ W'.heap[w.heap.size + 1]? = some (.cells #[.int .i64 0, .int .i64 0, .slice none 0 0] 24 (0, 0))) := ⟨(hset _ (by omega)).trans ((hfar _ (by omega) (fun q => by have := (HOW.out.lt _ q).1; omega)).trans HE01.out.1), (hset _ (by omega)).trans ((hfar _ (by omega) (fun q => by have := (HOW.out.lt _ q).1; omega)).trans HE01.out.2)⟩
          have HZ2 : Hid (W'.ownsRow (w.heap.size + 3) 24 3 (.slice (some ⟨g, 0, none⟩) (i + 1) cap2) (i + 1) (cellsNs (l ++ [(turnN kid, .slice sa sl sc)]))) := by
            have e : cellsN (turnN kid, Value.slice sa sl sc) = [.int .i64 yk, .int .i64 ys, .slice sa sl sc] := by
              unfold cellsN
              rw [turnN_k, turnN_s, HYK.out.1, HYK.out.2]
            show W'.ownsRow _ _ _ _ _ _
            rw [cellsNs_snoc, e]
            exact own_block hown (fun k hk => hset k (by have : g = k := by simpa [Value.ownBlock] using hk
                                                         omega))
          have HZ3 : Hid (KidsX (fun k => w.heap.size + 3 ≤ k ∧ k < W'.heap.size ∧ (Value.slice (some ⟨g, 0, none⟩) (i + 1) cap2).ownBlock ≠ some k) W' (l ++ [(turnN kid, .slice sa sl sc)])) := fun y hy => by
            have hgk : ∀ k, k < wS.heap.size → (Value.slice va vn vc).ownBlock ≠ some k → (Value.slice (some ⟨g, 0, none⟩) (i + 1) cap2).ownBlock ≠ some k := fun k h1 h2 q => by
              have : g = k := by simpa [Value.ownBlock] using q
              subst this
              rcases hat with h | h
              · exact h2 h
              · rw [World.size_alloc] at h; omega
            rcases List.mem_append.1 hy with hy | hy
            · exact (HKX.out y hy).to (fun k hk => ⟨(hset k (by have := hk.1; omega)).trans (hfar k hk.2.1 hk.2.2), hk.1, by have := hk.2.1; omega, hgk k (by have := hk.2.1; omega) hk.2.2⟩)
            · obtain rfl : y = (turnN kid, Value.slice sa sl sc) := by simpa using hy
              exact hkd'.to (fun k hk => by
                have hne : (Value.slice va vn vc).ownBlock ≠ some k := fun q => by have := (HOW.out.lt k q).2; have := hk.1; omega
                exact ⟨(hset k (by have := hk.1; omega)).trans ((hgrow.block k (by rw [World.size_alloc]; have := hk.2; omega) (Ne.symm hne)).trans ((below_alloc wS _).block k hk.2)), by have := hk.1; omega, by have := hk.2; omega, hgk k hk.2 hne⟩)
          have HZ4 : Hid (Below w.heap.size w W') := by
            have h1 : Below w.heap.size w wS := below_after HBr.out hBS'
            have h2 := h1.alloc h1.size (.cells #[.int .i64 yk, .int .i64 ys, .slice sa sl sc] 24)
            have h3 : Below w.heap.size w wz := h2.grown hgrow (by simp; omega) (fun k hk => by have := (HOW.out.lt k hk).1; omega)
            rw [hW']
            exact h3.setCell (by show w.heap.size ≤ w.heap.size + 1 + 1; omega) _
          have HZ5 : Hid ((l ++ [(turnN kid, Value.slice sa sl sc)]).map Prod.fst = (turnN n).kids.take (i + 1)) := by
            show _ = _
            rw [List.map_append, HMP.out, HTK2.out]; rfl
          have HZ6 : Hid ((l ++ [(turnN kid, Value.slice sa sl sc)]).length = i + 1) := by
            show _ = _
            rw [List.length_append, HLL.out]; rfl
          rw [← hW']
          clear hown hgrow hat hzP hset hfar hBS hBS' q0 c32 f32 hkd hkd' hW'
          go_wp2
          go_roundw
          case rel => exact ⟨i + 1, _, l ++ [(turnN kid, .slice sa sl sc)], by omega, by go_num, HZ1.out, HZ0, HZ2, HZ3, HZ5, HZ6, HZ4⟩
          case measure => simp [intOf]; omega)
    · obtain rfl : j = len := by omega
      have hjl' : decide ((j : Int) < (j : Int)) = false := by simp
      have s0 : wr.cell? ⟨w.heap.size + 1, 0, none⟩ = some (.int .i64 0) := cell_in HE01.out.2 0
      have s1 : wr.cell? ⟨w.heap.size + 1, 1, none⟩ = some (.int .i64 0) := cell_in HE01.out.2 1
      have s2 : wr.cell? ⟨w.heap.size + 1, 2, none⟩ = some (.slice none 0 0) := cell_in HE01.out.2 2
      have sf0 : wr.frozen? ⟨w.heap.size + 1, 0, none⟩ = false := frozen_of_row _ _ 0 _ _ HE01.out.2
      have sf1 : wr.frozen? ⟨w.heap.size + 1, 1, none⟩ = false := frozen_of_row _ _ 1 _ _ HE01.out.2
      have sf2 : wr.frozen? ⟨w.heap.size + 1, 2, none⟩ = false := frozen_of_row _ _ 2 _ _ HE01.out.2
      go_wp2
      refine bodyPost_ret (results_cell_row rfl _ _ (w.heap.size + 1) 24 #[.int .i64 nk, .int .i64 ns, .slice va vn vc] (0, 0) _ rfl ?_ Tryd.underlying24 rfl (by kernel_rfl)) rfl ?_
      · exact heap_setN (heap_setN (heap_setN HE01.out.2 _) _) _
      · have hset : ∀ k, k ≠ w.heap.size + 1 → (((wr.setCell ⟨w.heap.size + 1, 0, none⟩ (.int .i64 nk)).setCell ⟨w.heap.size + 1, 1, none⟩ (.int .i64 ns)).setCell ⟨w.heap.size + 1, 2, none⟩ (.slice va vn vc)).heap[k]? = wr.heap[k]? := fun k hk => by
          rw [Below.heap_setCell _ _ _ k (by simpa using hk), Below.heap_setCell _ _ _ k (by simpa using hk), Below.heap_setCell _ _ _ k (by simpa using hk)]
        have hsz : (((wr.setCell ⟨w.heap.size + 1, 0, none⟩ (.int .i64 nk)).setCell ⟨w.heap.size + 1, 1, none⟩ (.int .i64 ns)).setCell ⟨w.heap.size + 1, 2, none⟩ (.slice va vn vc)).heap.size = wr.heap.size := by simp
        obtain ⟨W3, hW3⟩ : ∃ W3, W3 = (((wr.setCell ⟨w.heap.size + 1, 0, none⟩ (.int .i64 nk)).setCell ⟨w.heap.size + 1, 1, none⟩ (.int .i64 ns)).setCell ⟨w.heap.size + 1, 2, none⟩ (.slice va vn vc)) := ⟨_, rfl⟩
        have hBW : Below w.heap.size w W3 := by
          rw [hW3]
          exact ((HBr.out.setCell (by show w.heap.size ≤ w.heap.size + 1; omega) _).setCell (by show w.heap.size ≤ w.heap.size + 1; omega) _).setCell (by show w.heap.size ≤ w.heap.size + 1; omega) _
        rw [← hW3] at hset hsz ⊢
        have hall : l.map Prod.fst = (turnN n).kids := by rw [HMP.out, List.take_of_length_le (by rw [turnN_len, ← HLEN.out.1]; exact Nat.le_refl _)]
        refine ⟨.slice va vn vc, by rw [HLEN.out.2.1, HLEN.out.2.2], ?_, hBW⟩
        rw [← hall]
        refine kids_of_row (base := w.heap.size + 3) ?_ ?_ ?_
        · rw [HLL.out]
          exact own_block HOW.out (fun k hk => hset k (by have := (HOW.out.lt k hk).1; omega))
        · exact HKX.out.to (fun k hk => ⟨hset k (by have := hk.1; omega), by have := hk.1; omega, by rw [hsz]; exact hk.2.1⟩)
        · exact fun g hg => by have := HOW.out.lt g hg; exact ⟨by omega, by rw [hsz]; exact this.2⟩

theorem refTurn_any : ∀ (d : Nat) (n : Nd) (z : Value) (w : World), Dp d n.kids → KdX (fun k => k < w.heap.size) w z n.kids → Calls Tryd.prog 21 #[ndV n z] w (TurnA n w)
  | d, n, z, w, hd, hz => by
    obtain ⟨a, ca, rfl, _⟩ := hz.slice
    refine refTurn_body n a ca w hd.len (fun i hi => ?_)
    obtain ⟨g, off, cap, z', e1, e2, e3, e4, e5, e6, e7⟩ := hz.at i hi
    obtain ⟨rfl, _, rfl⟩ : a = some ⟨g, off, none⟩ ∧ n.kids.length = n.kids.length ∧ ca = cap := by simpa using e1
    obtain ⟨xa, xc, rfl, _⟩ := e7.slice
    refine ⟨e2, g, off, xa, xc, rfl, e3, e4, e5, e6, fun W hB => ?_⟩
    match d, hd with
    | 0, hd =>
      have h0 : n.kids = [] := hd
      rw [h0] at hi
      cases hi
    | d + 1, hd => exact refTurn_any d n.kids[i] (.slice xa n.kids[i].kids.length xc) W (hd.2 _ (List.getElem_mem hi)) (kdx_below e7 hB)
theorem dp_turnL : ∀ (d : Nat) (l : List Nd), Dp d l → Dp d (l.map turnN)
  | 0, l, h => by
    have h0 : l = [] := h
    subst h0; rfl
  | d + 1, l, h => by
    refine ⟨by rw [List.length_map]; exact h.1, fun x hx => ?_⟩
    obtain ⟨y, hy, rfl⟩ := List.mem_map.1 hx
    have := dp_turnL d y.kids (h.2 y hy)
    rw [turnN_eq]
    show Dp d (if y.k = 0 then (y.kids.map turnN).reverse else y.kids.map turnN)
    split
    · cases d with
      | zero => have h0 : y.kids.map turnN = [] := this; rw [h0]; rfl
      | succ d => exact ⟨by rw [List.length_reverse]; exact this.1, fun x hx => this.2 x (List.mem_reverse.1 hx)⟩
    · exact this
theorem dp_turn {d : Nat} {n : Nd} (h : Dp d n.kids) : Dp d (turnN n).kids := by
  have := dp_turnL d n.kids h
  rw [turnN_eq]
  show Dp d (if n.k = 0 then (n.kids.map turnN).reverse else n.kids.map turnN)
  split
  · cases d with
    | zero => have h0 : n.kids.map turnN = [] := this; rw [h0]; rfl
    | succ d => exact ⟨by rw [List.length_reverse]; exact this.1, fun x hx => this.2 x (List.mem_reverse.1 hx)⟩
  · exact this
end Go.Proofs.YtidaoamfdbkfiaaDoor
