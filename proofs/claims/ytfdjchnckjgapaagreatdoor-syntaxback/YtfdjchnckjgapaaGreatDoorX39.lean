/-
  FewP
-/
import Derived.Test.YtfdjchnckjgapaaGreatDoorX33
namespace Go.Proofs.YtfdjchnckjgapaaGreatDoor
open Go.RowKit Go.Shelf S1
set_option linter.unusedVariables false
def Dp : Nat → List Nd → Prop
  | 0, l => l = []
  | d + 1, l => l.length ≤ 3100 ∧ ∀ x ∈ l, Dp d x.kids
def Sz : Nat → Nd → Nat
  | 0, _ => 1
  | d + 1, n => 1 + (n.kids.map (Sz d)).sum
def DpS (d : Nat) (n : Nd) (r : Nat) : Prop := Dp d n.kids ∧ Sz d n = r
set_option maxRecDepth 100000 in
set_option maxHeartbeats 8000000 in
theorem nodes_body (n : Nd) (za : Option Addr) (ca : Nat) (d m : Nat) (hd : d ≤ 60) (hm1 : 1 ≤ m) (hm : m ≤ 150) (w : World)
    (HR : ∀ i, (h : i < n.kids.length) → n.kids.length ≤ ca ∧ ∃ ga oa xa ka, za = some ⟨ga, oa, none⟩ ∧ ga < w.heap.size ∧ w.cell? ⟨ga, oa + i * 3, none⟩ = some (.int .i64 n.kids[i].k) ∧ w.cell? ⟨ga, oa + i * 3 + 1, none⟩ = some (.int .i64 n.kids[i].s) ∧ w.cell? ⟨ga, oa + i * 3 + 2, none⟩ = some (.slice xa n.kids[i].kids.length ka) ∧
      (0 < d → ∀ (m' : Nat) W, 1 ≤ m' → m' ≤ 150 → Below w.heap.size w W → Calls Tryz.prog 25 #[.agg #[.int .i64 n.kids[i].k, .int .i64 n.kids[i].s, .slice xa n.kids[i].kids.length ka], .int .i64 (m' : Int), .int .i64 ((d : Int) - 1)] W fun e w'' => ∃ r : Nat, e = .returned (.int .i64 (r : Int)) ∧ 1 ≤ r ∧ r ≤ m' ∧ (r < m' → DpS (d - 1) n.kids[i] r) ∧ Below W.heap.size W w'')) :
    Calls Tryz.prog 25 #[.agg #[.int .i64 n.k, .int .i64 n.s, .slice za n.kids.length ca], .int .i64 (m : Int), .int .i64 (d : Int)] w fun e w' => ∃ r : Nat, e = .returned (.int .i64 (r : Int)) ∧ 1 ≤ r ∧ r ≤ m ∧ (r < m → DpS d n r) ∧ Below w.heap.size w w' := by
  have HHR : Hid (∀ i, (h : i < n.kids.length) → n.kids.length ≤ ca ∧ ∃ (ga oa : Nat) (xa : Option Addr) (ka : Nat) (yk ys : Int) (yl : Nat), za = some ⟨ga, oa, none⟩ ∧ ga < w.heap.size ∧ w.cell? ⟨ga, oa + i * 3, none⟩ = some (.int .i64 yk) ∧ w.cell? ⟨ga, oa + i * 3 + 1, none⟩ = some (.int .i64 ys) ∧ w.cell? ⟨ga, oa + i * 3 + 2, none⟩ = some (.slice xa yl ka) ∧
      (0 < d → ∀ (m' : Nat) W, 1 ≤ m' → m' ≤ 150 → Below w.heap.size w W → Calls Tryz.prog 25 #[.agg #[.int .i64 yk, .int .i64 ys, .slice xa yl ka], .int .i64 (m' : Int), .int .i64 ((d : Int) - 1)] W fun e w'' => ∃ r : Nat, e = .returned (.int .i64 (r : Int)) ∧ 1 ≤ r ∧ r ≤ m' ∧ (r < m' → DpS (d - 1) n.kids[i] r) ∧ Below W.heap.size W w'')) := fun i hi => by
    obtain ⟨h1, ga, oa, xa, ka, h⟩ := HR i hi
    exact ⟨h1, ga, oa, xa, ka, _, _, _, h⟩
  clear HR
  obtain ⟨len, hlen⟩ : ∃ len, len = n.kids.length := ⟨_, rfl⟩
  obtain ⟨nk, hnk⟩ : ∃ x, x = n.k := ⟨_, rfl⟩
  obtain ⟨ns, hns⟩ : ∃ x, x = n.s := ⟨_, rfl⟩
  rw [← hlen, ← hnk, ← hns]
  have HLEN : Hid (len = n.kids.length) := hlen
  have HB0 : Hid (Below w.heap.size w (w.alloc (.cells #[.int .i64 nk, .int .i64 ns, .slice za len ca] 39))) := below_alloc _ _
  have HEA : Hid ((w.alloc (.cells #[.int .i64 nk, .int .i64 ns, .slice za len ca] 39)).heap[w.heap.size]? = some (.cells #[.int .i64 nk, .int .i64 ns, .slice za len ca] 39 (0, 0))) := heap_new' w _
  clear hlen hnk hns
  go_enter Tryz.func25, Tryz.ntmps25
  go_wp2
  go_loopw [7, 8] (fun x7 x8 wr => ∃ (j k : Nat), j ≤ len ∧ x8 = .int .i64 (j : Int) ∧ x7 = .int .i64 (k : Int) ∧ 1 + j ≤ k ∧ k ≤ m ∧ Hid (k < m → (0 < j → 0 < d) ∧ ∀ i, (h : i < n.kids.length) → i < j → Dp (d - 1) n.kids[i].kids) ∧ Hid (k < m → k = 1 + ((n.kids.take j).map (Sz (d - 1))).sum) ∧ wr.heap[w.heap.size]? = some (.cells #[.int .i64 nk, .int .i64 ns, .slice za len ca] 39 (0, 0)) ∧ Below w.heap.size w wr) (fun _ x8 _ => len - (intOf x8).toNat)
  case atStart => exact ⟨0, 1, Nat.zero_le _, rfl, rfl, by omega, hm1, fun _ => ⟨fun h => (by omega), fun i _ h => (by omega)⟩, (fun _ => by simp), HEA.out, HB0.out⟩
  case round =>
    obtain ⟨j, k, hj, rfl, rfl, hjk, hkm, HD, HZ, hEA, hB⟩ := hrel
    have hlt : w.heap.size < wr.heap.size := (Array.getElem?_eq_some_iff.1 hEA).1
    have a2 : wr.cell? ⟨w.heap.size, 2, none⟩ = some (.slice za len ca) := cell_of_row _ _ 2 _ _ _ hEA
    have HEA' : Hid (wr.heap[w.heap.size]? = some (.cells #[.int .i64 nk, .int .i64 ns, .slice za len ca] 39 (0, 0))) := hEA
    clear hEA
    by_cases hjl : j < len
    · have hjl' : decide ((j : Int) < (len : Int)) = true := by simp; omega
      by_cases hfull : m ≤ k ∨ d = 0
      · by_cases hkm2 : m ≤ k
        · have h1 : decide ((k : Int) ≥ (m : Int)) = true := by simp; omega
          clear hfull
          go_wp2
          go_ret
          exact ⟨m, rfl, hm1, Nat.le_refl _, fun h => absurd h (Nat.lt_irrefl _), hB⟩
        · have h1 : decide ((k : Int) ≥ (m : Int)) = false := by simp; omega
          obtain rfl : d = 0 := by omega
          clear hfull
          go_wp2
          go_ret
          exact ⟨m, rfl, hm1, Nat.le_refl _, fun h => absurd h (Nat.lt_irrefl _), hB⟩
      · have hkm2 : k < m := by omega
        have hd0 : 0 < d := by omega
        have h1 : decide ((k : Int) ≥ (m : Int)) = false := by simp; omega
        have h2 : decide ((d : Int) ≤ 0) = false := by simp; omega
        have hjn : j < n.kids.length := by rw [← HLEN.out]; exact hjl
        obtain ⟨hca, ga, oa, xa, ka, yk, ys, yl, rfl, hga, p0, p1, p2, hcall⟩ := HHR.out j hjn
        have r0 : wr.cell? ⟨ga, oa + j * 3, none⟩ = some (.int .i64 yk) := (hB.cell (p := ⟨ga, _, none⟩) hga).trans p0
        have r1 : wr.cell? ⟨ga, oa + j * 3 + 1, none⟩ = some (.int .i64 ys) := (hB.cell (p := ⟨ga, _, none⟩) hga).trans p1
        have r2 : wr.cell? ⟨ga, oa + j * 3 + 2, none⟩ = some (.slice xa yl ka) := (hB.cell (p := ⟨ga, _, none⟩) hga).trans p2
        have hga' : ga < wr.heap.size := by omega
        have hj0 : (0 : Int) ≤ (j : Int) := by omega
        have hj1 : (j : Int) < (len : Int) := by omega
        have hcl : Calls Tryz.prog 25 #[.agg #[.int .i64 yk, .int .i64 ys, .slice xa yl ka], .int .i64 ((m : Int) - (k : Int)), .int .i64 ((d : Int) - 1)] wr fun e w'' => ∃ r : Nat, e = .returned (.int .i64 (r : Int)) ∧ 1 ≤ r ∧ k + r ≤ m ∧ (k + r < m → DpS (d - 1) n.kids[j] r) ∧ Below wr.heap.size wr w'' := by
          have := hcall hd0 (m - k) wr (by omega) (by omega) hB
          rw [show (((m - k : Nat)) : Int) = (m : Int) - (k : Int) by omega] at this
          refine this.mono ?_
          rintro e w'' ⟨r, h1, h2, h3, h4, h5⟩
          exact ⟨r, h1, h2, by omega, fun h => h4 (by omega), h5⟩
        have hca2 : len ≤ ca := by rw [HLEN.out]; exact hca
        clear p0 p1 p2 hcall hfull hca
        go_wp2_with fail
        refine hcl.mono ?_
        rintro e w1 ⟨r, rfl, hr1, hr2, hr3, hB1⟩
        have HD2 : Hid (k + r < m → (0 < j + 1 → 0 < d) ∧ ∀ i, (h : i < n.kids.length) → i < j + 1 → Dp (d - 1) n.kids[i].kids) := fun hlt => ⟨fun _ => hd0, fun i h hi => by
          by_cases q : i < j
          · exact (HD.out (by omega)).2 i h q
          · obtain rfl : i = j := by omega
            exact (hr3 hlt).1⟩
        have HZ2 : Hid (k + r < m → k + r = 1 + ((n.kids.take (j + 1)).map (Sz (d - 1))).sum) := fun hlt => by
          have h1 := HZ.out (by omega)
          have h2 := (hr3 hlt).2
          rw [List.take_add_one, List.getElem?_eq_getElem hjn]
          simp only [Option.toList_some, List.map_append, List.sum_append, List.map_cons, List.map_nil, List.sum_cons, List.sum_nil]
          omega
        clear hcl hr3
        go_wp2
        go_roundw
        case rel => exact ⟨j + 1, k + r, by omega, by go_num, by go_num, by omega, hr2, HD2, HZ2, (hB1.block _ hlt).trans HEA'.out, below_after hB hB1⟩
        case measure => simp [intOf]; omega
    · have hjl' : decide ((j : Int) < (len : Int)) = false := by simp; omega
      have hmn : (if (k : Int) < (m : Int) then (k : Int) else (m : Int)) = (k : Int) := by split <;> omega
      have HJL : Hid (j = len) := by show _ = _; omega
      go_wp2
      go_ret
      refine ⟨k, by first | rfl | rw [hmn] | (simp; omega), by omega, hkm, fun h => ?_, hB⟩
      have hd := HD.out h
      have hz := HZ.out h
      cases d with
      | zero =>
        have hk0 : n.kids = [] := by
          have : ¬ 0 < j := fun h => by have := hd.1 h; omega
          apply List.length_eq_zero_iff.1
          rw [← HLEN.out]; have := HJL.out; omega
        refine ⟨hk0, ?_⟩
        rw [hk0] at hz
        simp at hz
        show 1 = k
        omega
      | succ d =>
        refine ⟨⟨by rw [← HLEN.out]; have := HJL.out; omega, fun x hx => ?_⟩, ?_⟩
        · obtain ⟨i, hi, rfl⟩ := List.getElem_of_mem hx
          exact hd.2 i hi (by rw [← HLEN.out] at hi; have := HJL.out; omega)
        · show 1 + (n.kids.map (Sz d)).sum = k
          have e : n.kids.take j = n.kids := List.take_of_length_le (by rw [← HLEN.out]; have := HJL.out; omega)
          rw [e] at hz
          exact hz.symm
theorem nodes_any : ∀ (d : Nat) (n : Nd) (z : Value) (m : Nat) (w : World), d ≤ 60 → 1 ≤ m → m ≤ 150 → KdX (fun k => k < w.heap.size) w z n.kids →
    Calls Tryz.prog 25 #[ndV n z, .int .i64 (m : Int), .int .i64 (d : Int)] w fun e w' => ∃ r : Nat, e = .returned (.int .i64 (r : Int)) ∧ 1 ≤ r ∧ r ≤ m ∧ (r < m → DpS d n r) ∧ Below w.heap.size w w'
  | 0, n, z, m, w, hd, hm1, hm, hz => by
    obtain ⟨a, ca, rfl, _⟩ := hz.slice
    refine nodes_body n a ca 0 m hd hm1 hm w (fun i hi => ?_)
    obtain ⟨g, off, cap, z', e1, e2, e3, e4, e5, e6, e7⟩ := hz.at i hi
    obtain ⟨rfl, _, rfl⟩ : a = some ⟨g, off, none⟩ ∧ n.kids.length = n.kids.length ∧ ca = cap := by simpa using e1
    obtain ⟨xa, xc, rfl, _⟩ := e7.slice
    exact ⟨e2, g, off, xa, xc, rfl, e3, e4, e5, e6, fun h => absurd h (Nat.lt_irrefl _)⟩
  | d + 1, n, z, m, w, hd, hm1, hm, hz => by
    obtain ⟨a, ca, rfl, _⟩ := hz.slice
    refine nodes_body n a ca (d + 1) m hd hm1 hm w (fun i hi => ?_)
    obtain ⟨g, off, cap, z', e1, e2, e3, e4, e5, e6, e7⟩ := hz.at i hi
    obtain ⟨rfl, _, rfl⟩ : a = some ⟨g, off, none⟩ ∧ n.kids.length = n.kids.length ∧ ca = cap := by simpa using e1
    obtain ⟨xa, xc, rfl, _⟩ := e7.slice
    refine ⟨e2, g, off, xa, xc, rfl, e3, e4, e5, e6, fun _ m' W h1 h2 hB => ?_⟩
    have hq : ∀ k, k < w.heap.size → W.heap[k]? = w.heap[k]? ∧ k < W.heap.size := fun k hk => ⟨hB.block k hk, Nat.lt_of_lt_of_le hk hB.size⟩
    have := nodes_any d n.kids[i] _ m' W (by omega) h1 h2 (e7.to hq)
    rw [show (((d + 1 : Nat)) : Int) - 1 = (d : Int) by omega]
    exact this
theorem Dp.more : ∀ {d e : Nat} {l : List Nd}, Dp d l → d ≤ e → Dp e l
  | 0, 0, l, h, _ => h
  | 0, e + 1, l, h, _ => by
    rw [show l = [] from h]
    exact ⟨by simp, fun x hx => by cases hx⟩
  | d + 1, e + 1, l, h, he => ⟨h.1, fun x hx => Dp.more (h.2 x hx) (by omega)⟩
theorem Sz.more : ∀ {d e : Nat} {n : Nd}, Dp d n.kids → d ≤ e → Sz e n = Sz d n
  | 0, 0, n, h, _ => rfl
  | 0, e + 1, n, h, _ => by
    show 1 + (n.kids.map (Sz e)).sum = 1
    rw [show n.kids = [] from h]
    rfl
  | d + 1, e + 1, n, h, he => by
    show 1 + (n.kids.map (Sz e)).sum = 1 + (n.kids.map (Sz d)).sum
    rw [List.map_congr_left (fun x hx => Sz.more (h.2 x hx) (by omega))]
def FewOk (st : Sts) (rl : List Rl) : Prop := st.length ≤ 70 ∧ rl.length ≤ 70 ∧ (∀ s ∈ st, s.length ≤ 3100) ∧ ∀ x ∈ rl, (Dp 120 x.l.kids ∧ Sz 120 x.l < 3100) ∧ Dp 120 x.r.kids ∧ Sz 120 x.r < 3100
theorem dp_few {n : Nd} (h : Dp 60 n.kids ∧ Sz 60 n < 150) : Dp 120 n.kids ∧ Sz 120 n < 3100 := ⟨h.1.more (by omega), by rw [Sz.more h.1 (by omega)]; omega⟩
set_option maxRecDepth 100000 in
set_option maxHeartbeats 8000000 in
theorem few_any (st : Sts) (rl : List Rl) (sv rv : Value) (w : World) (h : SetIn w sv st) (k : RulIn w rv rl) :
    Calls Tryz.prog 12 #[.agg #[sv, rv]] w fun e w' => ∃ b, e = .returned (.bool b) ∧ (b = true → FewOk st rl) ∧ Below w.heap.size w w' := by
  have HSA : Hid (SetIn w sv st) := h
  have HRA : Hid (RulIn w rv rl) := k
  obtain ⟨za, ca, rfl, hca, _⟩ := h
  obtain ⟨ya, da, rfl, hda, _⟩ := k
  obtain ⟨ns, hns⟩ : ∃ x, x = st.length := ⟨_, rfl⟩
  obtain ⟨nr, hnr⟩ : ∃ x, x = rl.length := ⟨_, rfl⟩
  rw [← hns] at HSA hca ⊢
  rw [← hnr] at HRA hda ⊢
  have HNS : Hid (ns = st.length) := hns
  have HNR : Hid (nr = rl.length) := hnr
  have HB0 : Hid (Below w.heap.size w (w.alloc (.cells #[.slice za ns ca, .slice ya nr da] 27))) := below_alloc _ _
  have HEA : Hid ((w.alloc (.cells #[.slice za ns ca, .slice ya nr da] 27)).heap[w.heap.size]? = some (.cells #[.slice za ns ca, .slice ya nr da] 27 (0, 0))) := heap_new' w _
  clear hns hnr
  by_cases h1 : 70 < ns
  · have h1' : decide ((ns : Int) > 70) = true := by simp; omega
    clear h1
    go_enter Tryz.func12, Tryz.ntmps12
    go_wp2
    go_ret
    exact ⟨false, rfl, fun h => (by cases h), HB0.out⟩
  have h1' : decide ((ns : Int) > 70) = false := by simp; omega
  by_cases h2 : 70 < nr
  · have h2' : decide ((nr : Int) > 70) = true := by simp; omega
    clear h1 h2
    go_enter Tryz.func12, Tryz.ntmps12
    go_wp2
    go_ret
    exact ⟨false, rfl, fun h => (by cases h), HB0.out⟩
  have h2' : decide ((nr : Int) > 70) = false := by simp; omega
  have hns70 : ns ≤ 70 := by omega
  have hnr70 : nr ≤ 70 := by omega
  clear h1 h2
  go_enter Tryz.func12, Tryz.ntmps12
  go_wp2
  go_loopw [3] (fun x wr => ∃ (j : Nat), j ≤ ns ∧ x = .int .i64 (j : Int) ∧ Hid (∀ i, (h : i < st.length) → i < j → st[i].length ≤ 40) ∧ wr = w.alloc (.cells #[.slice za ns ca, .slice ya nr da] 27)) (fun x _ => ns - (intOf x).toNat)
  case atStart => exact ⟨0, Nat.zero_le _, rfl, (fun i _ h => (by omega)), rfl⟩
  case round =>
    obtain ⟨j, hj, rfl, HD, rfl⟩ := hrel
    by_cases hjl : j < ns
    · obtain ⟨ga, oa, xa, xca, yl, rfl, hga, r0, hyl⟩ : ∃ (ga oa : Nat) (xa : Option Addr) (xca yl : Nat), za = some ⟨ga, oa, none⟩ ∧ ga < w.heap.size ∧ w.cell? ⟨ga, oa + j, none⟩ = some (.slice xa yl xca) ∧ Hid (∀ h : j < st.length, yl = st[j].length) := by
        obtain ⟨a, ca', e1, _, hi⟩ := HSA.out
        have hjs : j < st.length := by have := HNS.out; omega
        obtain ⟨ga, oa, x, rfl, hga, h0, h1⟩ := hi j hjs
        obtain ⟨xa, xca, rfl, _⟩ := h1
        exact ⟨ga, oa, xa, xca, _, by simp at e1; exact e1.1, hga, h0, fun _ => rfl⟩
      have hj0 : (0 : Int) ≤ (j : Int) := by omega
      have hj1 : (j : Int) < (ns : Int) := by omega
      by_cases hy : 40 < yl
      · have hy' : decide ((yl : Int) > 40) = true := by simp; omega
        clear hy
        go_wp2
        go_ret
        exact ⟨false, rfl, fun h => (by cases h), HB0.out⟩
      · have hy' : decide ((yl : Int) > 40) = false := by simp; omega
        have HD2 : Hid (∀ i, (h : i < st.length) → i < j + 1 → st[i].length ≤ 40) := fun i h hi => by
          by_cases q : i < j
          · exact HD.out i h q
          · obtain rfl : i = j := by omega
            rw [← hyl.out h]; omega
        clear hy
        go_wp2
        go_roundw
        case rel => exact ⟨j + 1, by omega, by go_num, HD2, by trivial⟩
        case measure => simp [intOf]; omega
    · obtain rfl : ns = j := by omega
      have HDS : Hid (∀ s ∈ st, s.length ≤ 40) := fun s hs => by
        obtain ⟨i, hi, rfl⟩ := List.getElem_of_mem hs
        exact HD.out i hi (by rw [HNS.out]; exact hi)
      clear hjl
      go_wp2
      go_loopw [4] (fun x wr => ∃ (j : Nat), j ≤ nr ∧ x = .int .i64 (j : Int) ∧ Hid (∀ i, (h : i < rl.length) → i < j → (Dp 60 rl[i].l.kids ∧ Sz 60 rl[i].l < 150) ∧ Dp 60 rl[i].r.kids ∧ Sz 60 rl[i].r < 150) ∧ wr.heap[w.heap.size]? = some (.cells #[.slice za ns ca, .slice ya nr da] 27 (0, 0)) ∧ Below w.heap.size w wr) (fun x _ => nr - (intOf x).toNat)
      case atStart => exact ⟨0, Nat.zero_le _, rfl, (fun i _ h => (by omega)), HEA.out, HB0.out⟩
      case round =>
        obtain ⟨j, hj, rfl, HD, hEA, hB⟩ := hrel
        have hlt0 : w.heap.size < wr.heap.size := (Array.getElem?_eq_some_iff.1 hEA).1
        have a1 : wr.cell? ⟨w.heap.size, 1, none⟩ = some (.slice ya nr da) := cell_of_row _ _ 1 _ _ _ hEA
        have HEA2 : Hid (wr.heap[w.heap.size]? = some (.cells #[.slice za ns ca, .slice ya nr da] 27 (0, 0))) := hEA
        clear hEA
        by_cases hjl : j < nr
        · have hjs : j < rl.length := by have := HNR.out; omega
          obtain ⟨ga, oa, lk, ls, la, ln, lca, rk, rs, ra, rn, rca, rfl, hga, ⟨l0, l1, l2⟩, hrr, hcl, hcr⟩ : ∃ (ga oa : Nat) (lk ls : Int) (la : Option Addr) (ln lca : Nat) (rk rs : Int) (ra : Option Addr) (rn rca : Nat), ya = some ⟨ga, oa, none⟩ ∧ ga < wr.heap.size ∧ (wr.cell? ⟨ga, oa + j * 7 + 1, none⟩ = some (.int .i64 lk) ∧ wr.cell? ⟨ga, oa + j * 7 + 2, none⟩ = some (.int .i64 ls) ∧ wr.cell? ⟨ga, oa + j * 7 + 3, none⟩ = some (.slice la ln lca)) ∧
              (wr.cell? ⟨ga, oa + j * 7 + 4, none⟩ = some (.int .i64 rk) ∧ wr.cell? ⟨ga, oa + j * 7 + 5, none⟩ = some (.int .i64 rs) ∧ wr.cell? ⟨ga, oa + j * 7 + 6, none⟩ = some (.slice ra rn rca)) ∧
              (Calls Tryz.prog 25 #[.agg #[.int .i64 lk, .int .i64 ls, .slice la ln lca], .int .i64 150, .int .i64 60] wr fun e w' => ∃ r : Nat, e = .returned (.int .i64 (r : Int)) ∧ 1 ≤ r ∧ r ≤ 150 ∧ (r < 150 → DpS 60 rl[j].l r) ∧ Below wr.heap.size wr w') ∧
              (∀ W, Below wr.heap.size wr W → Calls Tryz.prog 25 #[.agg #[.int .i64 rk, .int .i64 rs, .slice ra rn rca], .int .i64 150, .int .i64 60] W fun e w' => ∃ r : Nat, e = .returned (.int .i64 (r : Int)) ∧ 1 ≤ r ∧ r ≤ 150 ∧ (r < 150 → DpS 60 rl[j].r r) ∧ Below W.heap.size W w') := by
            obtain ⟨a, ca', e1, _, hi⟩ := HRA.out.below hB
            obtain ⟨ga, oa, zl, zr, rfl, hga, c0, c1, c2, c3, c4, c5, c6, c7, c8⟩ := hi j hjs
            obtain ⟨x1, x2, rfl, _⟩ := c7.slice
            obtain ⟨x3, x4, rfl, _⟩ := c8.slice
            have e1' : ya = some ⟨ga, oa, none⟩ := by simp at e1; exact e1.1
            have hq : ∀ W, Below wr.heap.size wr W → ∀ k, k < wr.heap.size → W.heap[k]? = wr.heap[k]? ∧ k < W.heap.size := fun W hW k hk => ⟨hW.block k hk, Nat.lt_of_lt_of_le hk hW.size⟩
            exact ⟨ga, oa, _, _, x1, _, x2, _, _, x3, _, x4, e1', hga, ⟨c1, c2, c3⟩, ⟨c4, c5, c6⟩, nodes_any 60 rl[j].l _ 150 wr (by omega) (by omega) (by omega) c7, fun W hW => nodes_any 60 rl[j].r _ 150 W (by omega) (by omega) (by omega) (c8.to (hq W hW))⟩
          have hj0 : (0 : Int) ≤ (j : Int) := by omega
          have hj1 : (j : Int) < (nr : Int) := by omega
          have HRR : Hid (wr.cell? ⟨ga, oa + j * 7 + 4, none⟩ = some (.int .i64 rk) ∧ wr.cell? ⟨ga, oa + j * 7 + 5, none⟩ = some (.int .i64 rs) ∧ wr.cell? ⟨ga, oa + j * 7 + 6, none⟩ = some (.slice ra rn rca)) := hrr
          have HCR : Hid (∀ W, Below wr.heap.size wr W → Calls Tryz.prog 25 #[.agg #[.int .i64 rk, .int .i64 rs, .slice ra rn rca], .int .i64 150, .int .i64 60] W fun e w' => ∃ r : Nat, e = .returned (.int .i64 (r : Int)) ∧ 1 ≤ r ∧ r ≤ 150 ∧ (r < 150 → DpS 60 rl[j].r r) ∧ Below W.heap.size W w') := hcr
          clear hrr hcr
          go_wp2_with fail
          refine hcl.mono ?_
          rintro e w1 ⟨r, rfl, hr1, hr2, hr3, hB1⟩
          have HB1 : Hid (Below wr.heap.size wr w1) := hB1
          have hs1 := hB1.size
          clear hcl
          by_cases hr : 150 ≤ r
          · have hr' : decide ((r : Int) ≥ 150) = true := by simp; omega
            clear hr hr3 hB1
            go_wp2
            go_ret
            exact ⟨false, rfl, fun h => (by cases h), below_after hB HB1.out⟩
          · have hr' : decide ((r : Int) ≥ 150) = false := by simp; omega
            have HDL : Hid (Dp 60 rl[j].l.kids ∧ Sz 60 rl[j].l < 150) := by
              have q := hr3 (by omega)
              exact ⟨q.1, by have := q.2; omega⟩
            have a11 : w1.cell? ⟨w.heap.size, 1, none⟩ = some (.slice (some ⟨ga, oa, none⟩) nr da) := (hB1.cell (p := ⟨_, _, none⟩) hlt0).trans a1
            have m0 : w1.cell? ⟨ga, oa + j * 7 + 4, none⟩ = some (.int .i64 rk) := (hB1.cell (p := ⟨ga, _, none⟩) hga).trans HRR.out.1
            have m1 : w1.cell? ⟨ga, oa + j * 7 + 5, none⟩ = some (.int .i64 rs) := (hB1.cell (p := ⟨ga, _, none⟩) hga).trans HRR.out.2.1
            have m2 : w1.cell? ⟨ga, oa + j * 7 + 6, none⟩ = some (.slice ra rn rca) := (hB1.cell (p := ⟨ga, _, none⟩) hga).trans HRR.out.2.2
            have hga1 : ga < w1.heap.size := by omega
            have hlt1 : w.heap.size < w1.heap.size := by omega
            have hcr := HCR.out w1 hB1
            clear hr hr3 hB1
            go_wp2_with fail
            refine hcr.mono ?_
            rintro e w2 ⟨r', rfl, hr1', hr2', hr3', hB2⟩
            have HB2 : Hid (Below wr.heap.size wr w2) := below_after HB1.out hB2
            clear hcr hB2
            by_cases hr : 150 ≤ r'
            · have hr'' : decide ((r' : Int) ≥ 150) = true := by simp; omega
              clear hr hr3'
              go_wp2
              go_ret
              exact ⟨false, rfl, fun h => (by cases h), below_after hB HB2.out⟩
            · have hr'' : decide ((r' : Int) ≥ 150) = false := by simp; omega
              have HDR : Hid (Dp 60 rl[j].r.kids ∧ Sz 60 rl[j].r < 150) := by
                have q := hr3' (by omega)
                exact ⟨q.1, by have := q.2; omega⟩
              have HD2 : Hid (∀ i, (h : i < rl.length) → i < j + 1 → (Dp 60 rl[i].l.kids ∧ Sz 60 rl[i].l < 150) ∧ Dp 60 rl[i].r.kids ∧ Sz 60 rl[i].r < 150) := fun i h hi => by
                by_cases q : i < j
                · exact HD.out i h q
                · obtain rfl : i = j := by omega
                  exact ⟨HDL.out, HDR.out⟩
              clear hr hr3'
              go_wp2
              go_roundw
              case rel => exact ⟨j + 1, by omega, by go_num, HD2, (HB2.out.block _ hlt0).trans HEA2.out, below_after hB HB2.out⟩
              case measure => simp [intOf]; omega
        · obtain rfl : nr = j := by omega
          have HOK : Hid (FewOk st rl) := ⟨by have := HNS.out; omega, by have := HNR.out; omega, fun s hs => Nat.le_trans (HDS.out s hs) (by omega), fun x hx => by
            obtain ⟨i, hi, rfl⟩ := List.getElem_of_mem hx
            have q := HD.out i hi (by rw [HNR.out]; exact hi)
            exact ⟨dp_few q.1, dp_few q.2⟩⟩
          go_wp2
          go_ret
          exact ⟨true, rfl, fun _ => HOK.out, hB⟩
end Go.Proofs.YtfdjchnckjgapaaGreatDoor
