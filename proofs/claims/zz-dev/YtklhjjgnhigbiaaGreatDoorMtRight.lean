/-
  Whether an expression may be.
-/
import Derived.Test.YtklhjjgnhigbiaaGreatDoorMtThru
namespace Go.Proofs.YtklhjjgnhigbiaaGreatDoor
open Go.RowKit Go.Shelf
set_option linter.unusedVariables false

/-- No deeper than d; no more than 1000 parts anywhere. -/
def Dp : Nat → List Nd → Prop
  | 0, l => l = []
  | d + 1, l => l.length ≤ 1000 ∧ ∀ x ∈ l, Dp d x.kids
theorem Dp.len {d : Nat} {l : List Nd} (h : Dp d l) : l.length ≤ 1000 := by
  cases d with
  | zero => rw [show l = [] from h]; simp
  | succ d => exact h.1
theorem Dp.up : ∀ {d : Nat} {l : List Nd}, Dp d l → Dp (d + 1) l
  | 0, l, h => by
    rw [show l = [] from h]
    exact ⟨by simp, fun x hx => by cases hx⟩
  | d + 1, l, h => ⟨h.1, fun x hx => (h.2 x hx).up⟩
theorem Dp.more {d : Nat} {l : List Nd} (h : Dp d l) : ∀ k, Dp (d + k) l
  | 0 => h
  | k + 1 => (h.more k).up
def allN (p : Nd → Bool) : Nd → Bool
  | ⟨k, s, l⟩ => p ⟨k, s, l⟩ && (l.map (allN p)).all id
def allL (p : Nd → Bool) : List Nd → Bool
  | [] => true
  | x :: l => allN p x && allL p l
theorem allL_map (p : Nd → Bool) : ∀ l, (l.map (allN p)).all id = allL p l
  | [] => rfl
  | x :: l => by rw [List.map_cons, List.all_cons, allL_map p l, allL]; rfl
theorem allN_mk (p : Nd → Bool) (k s : Int) (l : List Nd) : allN p ⟨k, s, l⟩ = (p ⟨k, s, l⟩ && allL p l) := by
  rw [allN, allL_map]
theorem allN_eq (p : Nd → Bool) (n : Nd) : allN p n = (p n && allL p n.kids) := by cases n; rw [allN_mk]
theorem allL_iff (p : Nd → Bool) : ∀ (l : List Nd), allL p l = true ↔ ∀ x ∈ l, allN p x = true
  | [] => by simp [allL]
  | x :: l => by rw [allL, Bool.and_eq_true, allL_iff p l]; simp
def mayN (n : Nd) : Bool := mayK n.k n.s n.kids.length
theorem allL_right_of : ∀ l, (∀ x ∈ l, allN mayN x = rightN x) → allL mayN l = rightL l
  | [], _ => by rw [allL, rightL]
  | x :: l, ih => by rw [allL, rightL, ih x (by simp), allL_right_of l (fun y hy => ih y (by simp [hy]))]
theorem allN_right : ∀ n, allN mayN n = rightN n :=
  Nd.ind fun k s l ih => by rw [allN_mk, rightN_mk, allL_right_of l ih]; rfl
theorem allL_true_of : ∀ l, (∀ x ∈ l, allN (fun _ => true) x = true) → allL (fun _ => true) l = true
  | [], _ => by rw [allL]
  | x :: l, ih => by rw [allL, ih x (by simp), allL_true_of l (fun y hy => ih y (by simp [hy]))]; rfl
theorem allN_true : ∀ n, allN (fun _ => true) n = true :=
  Nd.ind fun k s l ih => by rw [allN_mk, allL_true_of l ih]; rfl

set_option maxRecDepth 100000 in
set_option maxHeartbeats 4000000 in
theorem mayBe_any (k s : Int) (a : Option Addr) (len c : Nat) (w : World) : Calls Tryz.prog 28 #[.agg #[.int .i64 k, .int .i64 s, .slice a len c]] w fun e w' => e = .returned (.bool (mayK k s len)) ∧ Below w.heap.size w w' := by
  have HB0 : Hid (Below w.heap.size w (w.alloc (.cells #[.int .i64 k, .int .i64 s, .slice a len c] 24))) := below_alloc _ _
  by_cases k0 : k = 0
  · subst k0
    go_enter Tryz.func28, Tryz.ntmps28
    go_wp2
    go_ret
    exact ⟨by simp [mayK], HB0.out⟩
  have k0' : (k == 0) = false := by simpa using k0
  by_cases k1 : k = 1
  · subst k1
    clear k0 k0'
    by_cases hl : len = 0
    · subst hl
      by_cases hs0 : 0 ≤ s
      · have hs0' : decide (0 ≤ s) = true := by simpa using hs0
        go_enter Tryz.func28, Tryz.ntmps28
        go_wp2
        go_ret
        exact ⟨by simp [mayK, hs0], HB0.out⟩
      · have hs0' : decide (0 ≤ s) = false := by simpa using hs0
        go_enter Tryz.func28, Tryz.ntmps28
        go_wp2
        go_ret
        exact ⟨by simp [mayK]; omega, HB0.out⟩
    · have hl' : ((len : Int) == 0) = false := by simp; omega
      go_enter Tryz.func28, Tryz.ntmps28
      go_wp2
      go_ret
      exact ⟨by simp [mayK, hl], HB0.out⟩
  have k1' : (k == 1) = false := by simpa using k1
  by_cases k2 : k = 2
  · subst k2
    clear k0 k0' k1 k1'
    have hl' : decide ((len : Int) ≥ 1) = decide (1 ≤ len) := by
      rw [Bool.eq_iff_iff]; simp; omega
    go_enter Tryz.func28, Tryz.ntmps28
    go_wp2
    go_ret
    exact ⟨by simp [mayK], HB0.out⟩
  have k2' : (k == 2) = false := by simpa using k2
  have hl1 : ((len : Int) == 1) = decide (len = 1) := by
    rw [Bool.eq_iff_iff]; simp; omega
  by_cases k3 : k = 3
  · subst k3
    clear k0 k0' k1 k1' k2 k2'
    go_enter Tryz.func28, Tryz.ntmps28
    go_wp2
    go_ret
    exact ⟨by simp [mayK], HB0.out⟩
  have k3' : (k == 3) = false := by simpa using k3
  by_cases k4 : k = 4
  · subst k4
    clear k0 k0' k1 k1' k2 k2' k3 k3'
    go_enter Tryz.func28, Tryz.ntmps28
    go_wp2
    go_ret
    exact ⟨by simp [mayK], HB0.out⟩
  have k4' : (k == 4) = false := by simpa using k4
  by_cases k5 : k = 5
  · subst k5
    clear k0 k0' k1 k1' k2 k2' k3 k3' k4 k4'
    go_enter Tryz.func28, Tryz.ntmps28
    go_wp2
    go_ret
    exact ⟨by simp [mayK], HB0.out⟩
  have k5' : (k == 5) = false := by simpa using k5
  have HE : Hid (mayK k s len = false) := by
    show _ = _
    unfold mayK
    rw [if_neg k0, if_neg k1, if_neg k2, if_neg (by simp [k3, k4, k5])]
  clear k0 k1 k2 k3 k4 k5
  go_enter Tryz.func28, Tryz.ntmps28
  go_wp2
  go_ret
  exact ⟨by rw [HE.out]; rfl, HB0.out⟩

set_option maxRecDepth 100000 in
set_option maxHeartbeats 8000000 in
theorem all_body (hf : Nat) (p : Nd → Bool) (eg : ∀ args w, (callFunc hf args).run Tryz.prog w = .ok (.enter hf args) w) (n : Nd) (za : Option Addr) (ca dep : Nat) (hd : dep ≤ 65536) (w : World) (hkl : n.kids.length ≤ 1000)
    (hpc : ∀ W, Calls Tryz.prog hf #[.agg #[.int .i64 n.k, .int .i64 n.s, .slice za n.kids.length ca]] W fun e w' => e = .returned (.bool (p n)) ∧ Below W.heap.size W w')
    (HR : ∀ i, (h : i < n.kids.length) → n.kids.length ≤ ca ∧ ∃ ga oa xa ka, za = some ⟨ga, oa, none⟩ ∧ ga < w.heap.size ∧ w.cell? ⟨ga, oa + i * 3, none⟩ = some (.int .i64 n.kids[i].k) ∧ w.cell? ⟨ga, oa + i * 3 + 1, none⟩ = some (.int .i64 n.kids[i].s) ∧ w.cell? ⟨ga, oa + i * 3 + 2, none⟩ = some (.slice xa n.kids[i].kids.length ka) ∧
      ∀ W, Below w.heap.size w W → Calls Tryz.prog 27 #[.agg #[.int .i64 n.kids[i].k, .int .i64 n.kids[i].s, .slice xa n.kids[i].kids.length ka], .int .i64 ((dep : Int) + 1), .func (.func hf) #[] #[]] W fun e w' => e = .returned (.bool (allN p n.kids[i])) ∧ Below W.heap.size W w') :
    Calls Tryz.prog 27 #[.agg #[.int .i64 n.k, .int .i64 n.s, .slice za n.kids.length ca], .int .i64 (dep : Int), .func (.func hf) #[] #[]] w fun e w' => e = .returned (.bool (allN p n)) ∧ Below w.heap.size w w' := by
  obtain ⟨len, hlen⟩ : ∃ len, len = n.kids.length := ⟨_, rfl⟩
  obtain ⟨nk, hnk⟩ : ∃ x, x = n.k := ⟨_, rfl⟩
  obtain ⟨ns, hns⟩ : ∃ x, x = n.s := ⟨_, rfl⟩
  have HHR : Hid (∀ i, (h : i < n.kids.length) → len ≤ ca ∧ ∃ (ga oa : Nat) (xa : Option Addr) (ka : Nat) (yk ys : Int) (yl : Nat), za = some ⟨ga, oa, none⟩ ∧ ga < w.heap.size ∧ w.cell? ⟨ga, oa + i * 3, none⟩ = some (.int .i64 yk) ∧ w.cell? ⟨ga, oa + i * 3 + 1, none⟩ = some (.int .i64 ys) ∧ w.cell? ⟨ga, oa + i * 3 + 2, none⟩ = some (.slice xa yl ka) ∧
      ∀ W, Below w.heap.size w W → Calls Tryz.prog 27 #[.agg #[.int .i64 yk, .int .i64 ys, .slice xa yl ka], .int .i64 ((dep : Int) + 1), .func (.func hf) #[] #[]] W fun e w' => e = .returned (.bool (allN p n.kids[i])) ∧ Below W.heap.size W w') := fun i hi => by
    obtain ⟨h1, ga, oa, xa, ka, h⟩ := HR i hi
    exact ⟨by omega, ga, oa, xa, ka, _, _, _, h⟩
  rw [← hlen, ← hnk, ← hns]
  rw [← hlen, ← hnk, ← hns] at hpc
  have HLEN : Hid (len = n.kids.length) := hlen
  have hl1000 : len ≤ 1000 := by omega
  have hdd : decide ((dep : Int) > 65536) = false := by simp; omega
  have HB0 : Hid (Below w.heap.size w (w.alloc (.cells #[.int .i64 nk, .int .i64 ns, .slice za len ca] 24))) := below_alloc _ _
  have HEA : Hid ((w.alloc (.cells #[.int .i64 nk, .int .i64 ns, .slice za len ca] 24)).heap[w.heap.size]? = some (.cells #[.int .i64 nk, .int .i64 ns, .slice za len ca] 24 (0, 0))) := heap_new' w _
  have hp0 := hpc (w.alloc (.cells #[.int .i64 nk, .int .i64 ns, .slice za len ca] 24))
  obtain ⟨b, hb⟩ : ∃ b, b = p n := ⟨_, rfl⟩
  rw [← hb] at hp0
  have HBN : Hid (b = p n) := hb
  have HN : Hid (allN p n = (p n && allL p n.kids)) := allN_eq p n
  clear HR hlen hnk hns hkl hpc hb
  cases b with
  | false =>
    have HF : Hid (allN p n = false) := by show _ = _; rw [HN.out, ← HBN.out]; rfl
    go_enter Tryz.func27, Tryz.ntmps27
    go_wp2_with fail
    refine hp0.mono ?_
    rintro e w1 ⟨rfl, hB1⟩
    clear hp0
    go_wp2
    go_ret
    exact ⟨by rw [HF.out]; rfl, below_after HB0.out hB1⟩
  | true =>
    go_enter Tryz.func27, Tryz.ntmps27
    go_wp2_with fail
    refine hp0.mono ?_
    rintro e w1 ⟨rfl, hB1⟩
    have HB1 : Hid (Below w.heap.size w w1) := below_after HB0.out hB1
    have HEA1 : Hid (w1.heap[w.heap.size]? = some (.cells #[.int .i64 nk, .int .i64 ns, .slice za len ca] 24 (0, 0))) := (hB1.block w.heap.size (by simp)).trans HEA.out
    have a2 : w1.cell? ⟨w.heap.size, 2, none⟩ = some (.slice za len ca) := cell_in HEA1.out 2
    clear hp0 hB1
    go_wp2
    go_loopw [20] (fun x20 wr => ∃ (j : Nat), j ≤ len ∧ x20 = .int .i64 (j : Int) ∧ Hid (∀ i, (h : i < n.kids.length) → i < j → allN p n.kids[i] = true) ∧ Hid (Below w.heap.size w wr)) (fun x20 _ => len - (intOf x20).toNat)
    case atStart => exact ⟨0, Nat.zero_le _, rfl, (fun i h hi => by omega), HB1⟩
    case round =>
      obtain ⟨j, hj, rfl, HAL, HB⟩ := hrel
      have hws : w.heap.size ≤ wr.heap.size := HB.out.size
      by_cases hjl : j < len
      · have hjn : j < n.kids.length := by rw [← HLEN.out]; exact hjl
        obtain ⟨hca, ga, oa, xa, ka, yk, ys, yl, rfl, hga, p0, p1, p2, hcall⟩ := HHR.out j hjn
        have r0 : wr.cell? ⟨ga, oa + j * 3, none⟩ = some (.int .i64 yk) := (HB.out.cell (p := ⟨ga, _, none⟩) hga).trans p0
        have r1 : wr.cell? ⟨ga, oa + j * 3 + 1, none⟩ = some (.int .i64 ys) := (HB.out.cell (p := ⟨ga, _, none⟩) hga).trans p1
        have r2 : wr.cell? ⟨ga, oa + j * 3 + 2, none⟩ = some (.slice xa yl ka) := (HB.out.cell (p := ⟨ga, _, none⟩) hga).trans p2
        have hj0 : (0 : Int) ≤ (j : Int) := by omega
        have hj1 : (j : Int) < (len : Int) := by omega
        have hga2 : ga < wr.heap.size := by omega
        have hcl := hcall (wr.alloc (.cells #[.int .i64 yk, .int .i64 ys, .slice xa yl ka] 24)) (HB.out.alloc hws _)
        have HBA : Hid (Below wr.heap.size wr (wr.alloc (.cells #[.int .i64 yk, .int .i64 ys, .slice xa yl ka] 24))) := below_alloc _ _
        obtain ⟨c, hc⟩ : ∃ c, c = allN p n.kids[j] := ⟨_, rfl⟩
        rw [← hc] at hcl
        have HC : Hid (c = allN p n.kids[j]) := hc
        clear p0 p1 p2 hcall hc
        cases c with
        | false =>
          have HF : Hid (allN p n = false) := by
            show _ = _
            rw [HN.out]
            cases h : allL p n.kids with
            | false => simp
            | true => have := (allL_iff p n.kids).1 h _ (List.getElem_mem hjn); rw [← HC.out] at this; cases this
          go_wp2_with fail
          refine hcl.mono ?_
          rintro e w2 ⟨rfl, hB2⟩
          clear hcl
          go_wp2
          go_ret
          exact ⟨by rw [HF.out]; rfl, HB.out.trans ((below_after HBA.out hB2).mono hws)⟩
        | true =>
          go_wp2_with fail
          refine hcl.mono ?_
          rintro e w2 ⟨rfl, hB2⟩
          clear hcl
          have HB2 : Hid (Below w.heap.size w w2) := HB.out.trans ((below_after HBA.out hB2).mono hws)
          have HAL2 : Hid (∀ i, (h : i < n.kids.length) → i < j + 1 → allN p n.kids[i] = true) := fun i h hi => by
            by_cases q : i < j
            · exact HAL.out i h q
            · obtain rfl : i = j := by omega
              exact HC.out.symm
          clear hB2
          go_wp2
          go_roundw
          case rel => exact ⟨j + 1, by omega, by go_num, HAL2, HB2⟩
          case measure => simp [intOf]; omega
      · obtain rfl : j = len := by omega
        have HT : Hid (allN p n = true) := by
          show _ = _
          rw [HN.out, ← HBN.out]
          have : allL p n.kids = true := (allL_iff p n.kids).2 (fun x hx => by
            obtain ⟨i, hi, rfl⟩ := List.getElem_of_mem hx
            exact HAL.out i hi (by rw [HLEN.out]; exact hi))
          rw [this]; rfl
        go_wp2
        go_ret
        exact ⟨by rw [HT.out]; rfl, HB.out⟩

theorem all_any (hf : Nat) (p : Nd → Bool) (eg : ∀ args w, (callFunc hf args).run Tryz.prog w = .ok (.enter hf args) w)
    (hpc : ∀ (n : Nd) (za : Option Addr) (ca : Nat) (W : World), Calls Tryz.prog hf #[.agg #[.int .i64 n.k, .int .i64 n.s, .slice za n.kids.length ca]] W fun e w' => e = .returned (.bool (p n)) ∧ Below W.heap.size W w') :
    ∀ (d : Nat) (n : Nd) (z : Value) (dep : Nat) (w : World), dep + d ≤ 65536 → Dp d n.kids → KdX (fun k => k < w.heap.size) w z n.kids → Calls Tryz.prog 27 #[ndV n z, .int .i64 (dep : Int), .func (.func hf) #[] #[]] w fun e w' => e = .returned (.bool (allN p n)) ∧ Below w.heap.size w w'
  | d, n, z, dep, w, hdd, hd, hz => by
    obtain ⟨a, ca, rfl, _⟩ := hz.slice
    refine all_body hf p eg n a ca dep (by omega) w hd.len (fun W => hpc n a ca W) (fun i hi => ?_)
    obtain ⟨g, off, cap, z', e1, e2, e3, e4, e5, e6, e7⟩ := hz.at i hi
    obtain ⟨rfl, _, rfl⟩ : a = some ⟨g, off, none⟩ ∧ n.kids.length = n.kids.length ∧ ca = cap := by simpa using e1
    obtain ⟨xa, xc, rfl, _⟩ := e7.slice
    refine ⟨e2, g, off, xa, xc, rfl, e3, e4, e5, e6, fun W hB => ?_⟩
    have hq : ∀ k, k < w.heap.size → W.heap[k]? = w.heap[k]? ∧ k < W.heap.size := fun k hk => ⟨hB.block k hk, Nat.lt_of_lt_of_le hk hB.size⟩
    match d, hd with
    | 0, hd =>
      have h0 : n.kids = [] := hd
      rw [h0] at hi
      cases hi
    | d + 1, hd =>
      have := all_any hf p eg hpc d n.kids[i] (.slice xa n.kids[i].kids.length xc) (dep + 1) W (by omega) (hd.2 _ (List.getElem_mem hi)) (e7.to hq)
      rw [show ((dep + 1 : Nat) : Int) = (dep : Int) + 1 by simp] at this
      exact this

theorem right_any (d : Nat) (hd : d ≤ 60000) (n : Nd) (z : Value) (w : World) (hdp : Dp d n.kids) (hz : KdX (fun k => k < w.heap.size) w z n.kids) : Calls Tryz.prog 7 #[ndV n z] w fun e w' => e = .returned (.bool (rightN n)) ∧ Below w.heap.size w w' := by
  obtain ⟨a, ca, rfl, _⟩ := hz.slice
  have hB : Below w.heap.size w (w.alloc (.cells #[.int .i64 n.k, .int .i64 n.s, .slice a n.kids.length ca] 24)) := below_alloc _ _
  have hc := all_any 28 mayN (enters_of Tryz.func28 (by kernel_rfl) rfl) (fun n za ca W => mayBe_any n.k n.s za n.kids.length ca W) d n (.slice a n.kids.length ca) 0 (w.alloc (.cells #[.int .i64 n.k, .int .i64 n.s, .slice a n.kids.length ca] 24)) (by omega) hdp (hz.to (fun k hk => ⟨hB.block k hk, by simp; omega⟩))
  rw [allN_right] at hc
  unfold ndV at hc ⊢
  obtain ⟨nk, hnk⟩ : ∃ x, x = n.k := ⟨_, rfl⟩
  obtain ⟨ns, hns⟩ : ∃ x, x = n.s := ⟨_, rfl⟩
  obtain ⟨len, hlen⟩ : ∃ x, x = n.kids.length := ⟨_, rfl⟩
  obtain ⟨b, hb⟩ : ∃ x, x = rightN n := ⟨_, rfl⟩
  rw [← hnk, ← hns, ← hlen] at hc hB ⊢
  rw [← hb] at hc ⊢
  have HB : Hid (Below w.heap.size w (w.alloc (.cells #[.int .i64 nk, .int .i64 ns, .slice a len ca] 24))) := hB
  clear hnk hns hlen hb hB hz hdp
  go_enter Tryz.func7, Tryz.ntmps7
  go_wp2_with fail
  refine hc.mono ?_
  rintro e w1 ⟨rfl, hB1⟩
  clear hc
  go_wp2
  go_ret
  exact ⟨rfl, below_after HB.out hB1⟩

theorem through_any (ws : List Nat) (hL : ws.length < 64) (wa : Option Addr) (wc b0 : Nat) : ∀ (d : Nat) (n : Nd) (z : Value) (w : World), Dp d n.kids → rightN n = true → KdX (fun k => k < b0) w z n.kids → WrdAt b0 w (.slice wa ws.length wc) ws → b0 ≤ w.heap.size → Calls Tryz.prog 59 #[ndV n z, .slice wa ws.length wc] w (ThrA ws b0 n w)
  | d, n, z, w, hd, hr, hz, hw, hb0 => by
    obtain ⟨a, ca, rfl, _⟩ := hz.slice
    refine through_body n a ca wa wc ws b0 w hw hL hb0 hr hd.len (fun i hi => ?_)
    obtain ⟨g, off, cap, z', e1, e2, e3, e4, e5, e6, e7⟩ := hz.at i hi
    obtain ⟨rfl, _, rfl⟩ : a = some ⟨g, off, none⟩ ∧ n.kids.length = n.kids.length ∧ ca = cap := by simpa using e1
    obtain ⟨xa, xc, rfl, _⟩ := e7.slice
    refine ⟨e2, g, off, xa, xc, rfl, e3, e4, e5, e6, fun W hB => ?_⟩
    have hq : ∀ k, k < b0 → W.heap[k]? = w.heap[k]? ∧ k < b0 := fun k hk => ⟨hB.block k (by omega), hk⟩
    match d, hd with
    | 0, hd =>
      have h0 : n.kids = [] := hd
      rw [h0] at hi
      cases hi
    | d + 1, hd =>
      have hri : rightN n.kids[i] = true := by
        rw [rightN_eq, Bool.and_eq_true] at hr
        exact (rightL_iff _).1 hr.2 _ (List.getElem_mem hi)
      exact through_any ws hL wa wc b0 d n.kids[i] (.slice xa n.kids[i].kids.length xc) W (hd.2 _ (List.getElem_mem hi)) hri (e7.to hq) (hw.to (fun k hk => hB.block k (by omega)) (Nat.le_refl _)) (by have := hB.size; omega)
end Go.Proofs.YtklhjjgnhigbiaaGreatDoor
