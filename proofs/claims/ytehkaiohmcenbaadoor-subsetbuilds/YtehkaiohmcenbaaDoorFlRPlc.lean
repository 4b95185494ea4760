/-
  The document's count of places, up to a most.
-/
import Derived.Test.YtehkaiohmcenbaaDoorGB
namespace Go.Proofs.YtehkaiohmcenbaaDoor
open Go.RowKit Go.Shelf
set_option linter.unusedVariables false

theorem setsL_take : ∀ (l : List Nd) (j : Nat) (h : j < l.length), (setsL (l.take (j + 1))).length = (setsL (l.take j)).length + (setsN l[j]).length
  | x :: l, 0, h => by simp [setsL]
  | x :: l, j + 1, h => by
    have := setsL_take l j (by simpa using h)
    simp [setsL] at this ⊢
    omega

set_option maxRecDepth 100000 in
set_option maxHeartbeats 4000000 in
theorem rplaces_body (n : Nd) (za : Option Addr) (ca : Nat) (m : Nat) (hm1 : 1 ≤ m) (hm : m ≤ 1000) (hkl : n.kids.length ≤ 1000) (w : World)
    (HR : ∀ i, (h : i < n.kids.length) → n.kids.length ≤ ca ∧ ∃ ga oa xa ka, za = some ⟨ga, oa, none⟩ ∧ ga < w.heap.size ∧ w.cell? ⟨ga, oa + i * 3, none⟩ = some (.int .i64 n.kids[i].k) ∧ w.cell? ⟨ga, oa + i * 3 + 1, none⟩ = some (.int .i64 n.kids[i].s) ∧ w.cell? ⟨ga, oa + i * 3 + 2, none⟩ = some (.slice xa n.kids[i].kids.length ka) ∧
      (∀ (m' : Nat) W, 1 ≤ m' → m' ≤ 1000 → Below w.heap.size w W → Calls Tryd.prog 45 #[.agg #[.int .i64 n.kids[i].k, .int .i64 n.kids[i].s, .slice xa n.kids[i].kids.length ka], .int .i64 (m' : Int)] W fun e w'' => e = .returned (.int .i64 ((min (setsN n.kids[i]).length m' : Nat) : Int)) ∧ Below W.heap.size W w'')) :
    Calls Tryd.prog 45 #[.agg #[.int .i64 n.k, .int .i64 n.s, .slice za n.kids.length ca], .int .i64 (m : Int)] w fun e w' => e = .returned (.int .i64 ((min (setsN n).length m : Nat) : Int)) ∧ Below w.heap.size w w' := by
  have HHR : Hid (∀ i, (h : i < n.kids.length) → n.kids.length ≤ ca ∧ ∃ (ga oa : Nat) (xa : Option Addr) (ka : Nat) (yk ys : Int) (yl : Nat), za = some ⟨ga, oa, none⟩ ∧ ga < w.heap.size ∧ w.cell? ⟨ga, oa + i * 3, none⟩ = some (.int .i64 yk) ∧ w.cell? ⟨ga, oa + i * 3 + 1, none⟩ = some (.int .i64 ys) ∧ w.cell? ⟨ga, oa + i * 3 + 2, none⟩ = some (.slice xa yl ka) ∧
      (∀ (m' : Nat) W, 1 ≤ m' → m' ≤ 1000 → Below w.heap.size w W → Calls Tryd.prog 45 #[.agg #[.int .i64 yk, .int .i64 ys, .slice xa yl ka], .int .i64 (m' : Int)] W fun e w'' => e = .returned (.int .i64 ((min (setsN n.kids[i]).length m' : Nat) : Int)) ∧ Below W.heap.size W w'')) := fun i hi => by
    obtain ⟨h1, ga, oa, xa, ka, h⟩ := HR i hi
    exact ⟨h1, ga, oa, xa, ka, _, _, _, h⟩
  clear HR
  have HS1 : Hid (n.k = 1 → (setsN n).length = 1) := fun h => by rw [setsN_eq, if_pos h]; rfl
  have HS2 : Hid (n.k ≠ 1 → (setsN n).length = (setsL n.kids).length) := fun h => by rw [setsN_eq, if_neg h]
  obtain ⟨len, hlen⟩ : ∃ len, len = n.kids.length := ⟨_, rfl⟩
  obtain ⟨nk, hnk⟩ : ∃ x, x = n.k := ⟨_, rfl⟩
  obtain ⟨ns, hns⟩ : ∃ x, x = n.s := ⟨_, rfl⟩
  rw [← hlen] at hkl
  rw [← hlen, ← hnk, ← hns]
  rw [← hnk] at HS1 HS2
  have HLEN : Hid (len = n.kids.length) := hlen
  have HB0 : Hid (Below w.heap.size w (w.alloc (.cells #[.int .i64 nk, .int .i64 ns, .slice za len ca] 24))) := below_alloc _ _
  have HEA : Hid ((w.alloc (.cells #[.int .i64 nk, .int .i64 ns, .slice za len ca] 24)).heap[w.heap.size]? = some (.cells #[.int .i64 nk, .int .i64 ns, .slice za len ca] 24 (0, 0))) := heap_new' w _
  obtain ⟨T, hT⟩ : ∃ T, T = (setsN n).length := ⟨_, rfl⟩
  rw [← hT] at HS1 HS2 ⊢
  clear hlen hnk hns hT
  by_cases h1 : nk = 1
  · subst h1
    have e1 : min T m = 1 := by have := HS1.out rfl; omega
    rw [e1]
    go_enter Tryd.func45, Tryd.ntmps45
    go_wp2
    go_ret
    exact ⟨rfl, HB0.out⟩
  have hne : (nk == 1) = false := by simpa using h1
  have HT : Hid (T = (setsL n.kids).length) := HS2.out h1
  clear HS1 HS2 h1
  go_enter Tryd.func45, Tryd.ntmps45
  go_wp2
  go_loopw [5, 6] (fun x5 x6 wr => ∃ (j k : Nat), j ≤ len ∧ x6 = .int .i64 (j : Int) ∧ x5 = .int .i64 (k : Int) ∧ k ≤ m ∧ Hid (k = min (setsL (n.kids.take j)).length m) ∧ wr.heap[w.heap.size]? = some (.cells #[.int .i64 nk, .int .i64 ns, .slice za len ca] 24 (0, 0)) ∧ Below w.heap.size w wr) (fun _ x6 _ => len - (intOf x6).toNat)
  case atStart => exact ⟨0, 0, Nat.zero_le _, rfl, rfl, by omega, (by show _ = _; simp [setsL]), HEA.out, HB0.out⟩
  case round =>
    obtain ⟨j, k, hj, rfl, rfl, hkm, HK, hEA, hB⟩ := hrel
    have hlt : w.heap.size < wr.heap.size := (Array.getElem?_eq_some_iff.1 hEA).1
    have a2 : wr.cell? ⟨w.heap.size, 2, none⟩ = some (.slice za len ca) := cell_in hEA 2
    have HEA' : Hid (wr.heap[w.heap.size]? = some (.cells #[.int .i64 nk, .int .i64 ns, .slice za len ca] 24 (0, 0))) := hEA
    clear hEA
    by_cases hjl : j < len
    · have hjl' : decide ((j : Int) < (len : Int)) = true := by simp; omega
      by_cases hkm2 : k < m
      · have hjn : j < n.kids.length := by rw [← HLEN.out]; exact hjl
        obtain ⟨hca, ga, oa, xa, ka, yk, ys, yl, rfl, hga, p0, p1, p2, hcall⟩ := HHR.out j hjn
        have r0 : wr.cell? ⟨ga, oa + j * 3, none⟩ = some (.int .i64 yk) := (hB.cell (p := ⟨ga, _, none⟩) hga).trans p0
        have r1 : wr.cell? ⟨ga, oa + j * 3 + 1, none⟩ = some (.int .i64 ys) := (hB.cell (p := ⟨ga, _, none⟩) hga).trans p1
        have r2 : wr.cell? ⟨ga, oa + j * 3 + 2, none⟩ = some (.slice xa yl ka) := (hB.cell (p := ⟨ga, _, none⟩) hga).trans p2
        have hga' : ga < wr.heap.size := by omega
        have hj0 : (0 : Int) ≤ (j : Int) := by omega
        have hj1 : (j : Int) < (len : Int) := by omega
        have hk2 : decide ((k : Int) < (m : Int)) = true := by simp; omega
        have hcl : Calls Tryd.prog 45 #[.agg #[.int .i64 yk, .int .i64 ys, .slice xa yl ka], .int .i64 ((m : Int) - (k : Int))] wr fun e w'' => ∃ r : Nat, e = .returned (.int .i64 (r : Int)) ∧ k + r ≤ m ∧ Hid (k + r = min (setsL (n.kids.take (j + 1))).length m) ∧ Below wr.heap.size wr w'' := by
          have := hcall (m - k) wr (by omega) (by omega) hB
          rw [show (((m - k : Nat)) : Int) = (m : Int) - (k : Int) by omega] at this
          refine this.mono ?_
          rintro e w'' ⟨h1, h5⟩
          refine ⟨_, h1, by omega, ?_, h5⟩
          show _ = _
          have := HK.out
          rw [setsL_take _ _ hjn]
          omega
        have hca2 : len ≤ ca := by rw [HLEN.out]; exact hca
        clear p0 p1 p2 hcall hca
        go_wp2_with fail
        refine hcl.mono ?_
        rintro e w1 ⟨r, rfl, hr2, HK2, hB1⟩
        clear hcl
        go_wp2
        go_roundw
        case rel => exact ⟨j + 1, k + r, by omega, by go_num, by go_num, hr2, HK2, (hB1.block _ hlt).trans HEA'.out, below_after hB hB1⟩
        case measure => simp [intOf]; omega
      · have hk2 : decide ((k : Int) < (m : Int)) = false := by simp; omega
        have HE : Hid (min T m = k) := by
          have h1 := HK.out
          have h2 : (setsL (n.kids.take j)).length ≤ (setsL n.kids).length := by
            have e : setsL n.kids = setsL (n.kids.take j) ++ setsL (n.kids.drop j) := by
              rw [← setsL_map, ← setsL_map, ← setsL_map, ← List.flatten_append, ← List.map_append, List.take_append_drop]
            rw [e, List.length_append]; omega
          have h3 := HT.out
          show _ = _
          omega
        go_wp2
        go_ret
        exact ⟨by rw [HE.out]; rfl, hB⟩
    · have hjl' : decide ((j : Int) < (len : Int)) = false := by simp; omega
      have HE : Hid (min T m = k) := by
        have h1 := HK.out
        have e : n.kids.take j = n.kids := List.take_of_length_le (by rw [← HLEN.out]; omega)
        rw [e] at h1
        have h3 := HT.out
        show _ = _
        omega
      go_wp2
      go_ret
      exact ⟨by rw [HE.out]; rfl, hB⟩

theorem rplaces_any : ∀ (d : Nat) (n : Nd) (z : Value) (m : Nat) (w : World), 1 ≤ m → m ≤ 1000 → Dp d n.kids → KdX (fun k => k < w.heap.size) w z n.kids →
    Calls Tryd.prog 45 #[ndV n z, .int .i64 (m : Int)] w fun e w' => e = .returned (.int .i64 ((min (setsN n).length m : Nat) : Int)) ∧ Below w.heap.size w w'
  | d, n, z, m, w, hm1, hm, hd, hz => by
    obtain ⟨a, ca, rfl, _⟩ := hz.slice
    refine rplaces_body n a ca m hm1 hm hd.len w (fun i hi => ?_)
    obtain ⟨g, off, cap, z', e1, e2, e3, e4, e5, e6, e7⟩ := hz.at i hi
    obtain ⟨rfl, _, rfl⟩ : a = some ⟨g, off, none⟩ ∧ n.kids.length = n.kids.length ∧ ca = cap := by simpa using e1
    obtain ⟨xa, xc, rfl, _⟩ := e7.slice
    refine ⟨e2, g, off, xa, xc, rfl, e3, e4, e5, e6, fun m' W h1 h2 hB => ?_⟩
    match d, hd with
    | 0, hd =>
      have h0 : n.kids = [] := hd
      rw [h0] at hi
      cases hi
    | d + 1, hd => exact rplaces_any d n.kids[i] (.slice xa n.kids[i].kids.length xc) m' W h1 h2 (hd.2 _ (List.getElem_mem hi)) (kdx_below e7 hB)
end Go.Proofs.YtehkaiohmcenbaaDoor
