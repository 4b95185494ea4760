/-
  What few and awake of the statements answer.
-/
import Derived.Test.YtlllmoelhholfabMtEnds
namespace Go.Proofs.Ytlllmoelhholfab
open Go.RowKit Go.Shelf
set_option linter.unusedVariables false

/-- How many expressions there are in one, so deep. -/
def Sz : Nat → Nd → Nat
  | 0, _ => 1
  | d + 1, n => 1 + (n.kids.map (Sz d)).sum
/-- All of it is seen. -/
def DpS (d : Nat) (n : Nd) (r : Nat) : Prop := Dp d n.kids ∧ Sz d n = r

set_option maxRecDepth 100000 in
set_option maxHeartbeats 8000000 in
theorem nodes_body (n : Nd) (za : Option Addr) (ca : Nat) (d m : Nat) (hd : d ≤ 60) (hm1 : 1 ≤ m) (hm : m ≤ 150) (w : World)
    (HR : ∀ i, (h : i < n.kids.length) → n.kids.length ≤ ca ∧ ∃ ga oa xa ka, za = some ⟨ga, oa, none⟩ ∧ ga < w.heap.size ∧ w.cell? ⟨ga, oa + i * 3, none⟩ = some (.int .i64 n.kids[i].k) ∧ w.cell? ⟨ga, oa + i * 3 + 1, none⟩ = some (.int .i64 n.kids[i].s) ∧ w.cell? ⟨ga, oa + i * 3 + 2, none⟩ = some (.slice xa n.kids[i].kids.length ka) ∧
      (0 < d → ∀ (m' : Nat) W, 1 ≤ m' → m' ≤ 150 → Below w.heap.size w W → Calls Try.prog 10 #[.agg #[.int .i64 n.kids[i].k, .int .i64 n.kids[i].s, .slice xa n.kids[i].kids.length ka], .int .i64 (m' : Int), .int .i64 ((d : Int) - 1)] W fun e w'' => ∃ r : Nat, e = .returned (.int .i64 (r : Int)) ∧ 1 ≤ r ∧ r ≤ m' ∧ (r < m' → DpS (d - 1) n.kids[i] r) ∧ Below W.heap.size W w'')) :
    Calls Try.prog 10 #[.agg #[.int .i64 n.k, .int .i64 n.s, .slice za n.kids.length ca], .int .i64 (m : Int), .int .i64 (d : Int)] w fun e w' => ∃ r : Nat, e = .returned (.int .i64 (r : Int)) ∧ 1 ≤ r ∧ r ≤ m ∧ (r < m → DpS d n r) ∧ Below w.heap.size w w' := by
  have HHR : Hid (∀ i, (h : i < n.kids.length) → n.kids.length ≤ ca ∧ ∃ (ga oa : Nat) (xa : Option Addr) (ka : Nat) (yk ys : Int) (yl : Nat), za = some ⟨ga, oa, none⟩ ∧ ga < w.heap.size ∧ w.cell? ⟨ga, oa + i * 3, none⟩ = some (.int .i64 yk) ∧ w.cell? ⟨ga, oa + i * 3 + 1, none⟩ = some (.int .i64 ys) ∧ w.cell? ⟨ga, oa + i * 3 + 2, none⟩ = some (.slice xa yl ka) ∧
      (0 < d → ∀ (m' : Nat) W, 1 ≤ m' → m' ≤ 150 → Below w.heap.size w W → Calls Try.prog 10 #[.agg #[.int .i64 yk, .int .i64 ys, .slice xa yl ka], .int .i64 (m' : Int), .int .i64 ((d : Int) - 1)] W fun e w'' => ∃ r : Nat, e = .returned (.int .i64 (r : Int)) ∧ 1 ≤ r ∧ r ≤ m' ∧ (r < m' → DpS (d - 1) n.kids[i] r) ∧ Below W.heap.size W w'')) := fun i hi => by
    obtain ⟨h1, ga, oa, xa, ka, h⟩ := HR i hi
    exact ⟨h1, ga, oa, xa, ka, _, _, _, h⟩
  clear HR
  obtain ⟨len, hlen⟩ : ∃ len, len = n.kids.length := ⟨_, rfl⟩
  obtain ⟨nk, hnk⟩ : ∃ x, x = n.k := ⟨_, rfl⟩
  obtain ⟨ns, hns⟩ : ∃ x, x = n.s := ⟨_, rfl⟩
  rw [← hlen, ← hnk, ← hns]
  have HLEN : Hid (len = n.kids.length) := hlen
  have HB0 : Hid (Below w.heap.size w (w.alloc (.cells #[.int .i64 nk, .int .i64 ns, .slice za len ca] 24))) := below_alloc _ _
  have HEA : Hid ((w.alloc (.cells #[.int .i64 nk, .int .i64 ns, .slice za len ca] 24)).heap[w.heap.size]? = some (.cells #[.int .i64 nk, .int .i64 ns, .slice za len ca] 24 (0, 0))) := heap_new' w _
  clear hlen hnk hns
  go_enter Try.func10, Try.ntmps10
  go_wp2
  go_loopw [7, 8] (fun x7 x8 wr => ∃ (j k : Nat), j ≤ len ∧ x8 = .int .i64 (j : Int) ∧ x7 = .int .i64 (k : Int) ∧ 1 + j ≤ k ∧ k ≤ m ∧ Hid (k < m → (0 < j → 0 < d) ∧ ∀ i, (h : i < n.kids.length) → i < j → Dp (d - 1) n.kids[i].kids) ∧ Hid (k < m → k = 1 + ((n.kids.take j).map (Sz (d - 1))).sum) ∧ wr.heap[w.heap.size]? = some (.cells #[.int .i64 nk, .int .i64 ns, .slice za len ca] 24 (0, 0)) ∧ Below w.heap.size w wr) (fun _ x8 _ => len - (intOf x8).toNat)
  case atStart => exact ⟨0, 1, Nat.zero_le _, rfl, rfl, by omega, hm1, fun _ => ⟨fun h => (by omega), fun i _ h => (by omega)⟩, (fun _ => by simp), HEA.out, HB0.out⟩
  case round =>
    obtain ⟨j, k, hj, rfl, rfl, hjk, hkm, HD, HZ, hEA, hB⟩ := hrel
    have hlt : w.heap.size < wr.heap.size := (Array.getElem?_eq_some_iff.1 hEA).1
    have a2 : wr.cell? ⟨w.heap.size, 2, none⟩ = some (.slice za len ca) := cell_in hEA 2
    have HEA' : Hid (wr.heap[w.heap.size]? = some (.cells #[.int .i64 nk, .int .i64 ns, .slice za len ca] 24 (0, 0))) := hEA
    clear hEA
    by_cases hjl : j < len
    · have hjl' : decide ((j : Int) < (len : Int)) = true := by simp; omega
      by_cases hfull : m ≤ k ∨ d = 0
      · by_cases hkm2 : m ≤ k
        · have h1 : decide ((k : Int) ≥ (m : Int)) = true := by simp; omega
          clear hfull
          go_wp2
          go_ret
          exact ⟨m, rfl, hm1, Nat.le_refl _, fun h => absurd h (Nat.lt_irrefl _), hB⟩
        · have h1 : decide ((k : Int) ≥ (m : Int)) = false := by simp; omega
          obtain rfl : d = 0 := by omega
          clear hfull
          go_wp2
          go_ret
          exact ⟨m, rfl, hm1, Nat.le_refl _, fun h => absurd h (Nat.lt_irrefl _), hB⟩
      · have hkm2 : k < m := by omega
        have hd0 : 0 < d := by omega
        have h1 : decide ((k : Int) ≥ (m : Int)) = false := by simp; omega
        have h2 : decide ((d : Int) ≤ 0) = false := by simp; omega
        have hjn : j < n.kids.length := by rw [← HLEN.out]; exact hjl
        obtain ⟨hca, ga, oa, xa, ka, yk, ys, yl, rfl, hga, p0, p1, p2, hcall⟩ := HHR.out j hjn
        have r0 : wr.cell? ⟨ga, oa + j * 3, none⟩ = some (.int .i64 yk) := (hB.cell (p := ⟨ga, _, none⟩) hga).trans p0
        have r1 : wr.cell? ⟨ga, oa + j * 3 + 1, none⟩ = some (.int .i64 ys) := (hB.cell (p := ⟨ga, _, none⟩) hga).trans p1
        have r2 : wr.cell? ⟨ga, oa + j * 3 + 2, none⟩ = some (.slice xa yl ka) := (hB.cell (p := ⟨ga, _, none⟩) hga).trans p2
        have hga' : ga < wr.heap.size := by omega
        have hj0 : (0 : Int) ≤ (j : Int) := by omega
        have hj1 : (j : Int) < (len : Int) := by omega
        have hcl : Calls Try.prog 10 #[.agg #[.int .i64 yk, .int .i64 ys, .slice xa yl ka], .int .i64 ((m : Int) - (k : Int)), .int .i64 ((d : Int) - 1)] wr fun e w'' => ∃ r : Nat, e = .returned (.int .i64 (r : Int)) ∧ 1 ≤ r ∧ k + r ≤ m ∧ (k + r < m → DpS (d - 1) n.kids[j] r) ∧ Below wr.heap.size wr w'' := by
          have := hcall hd0 (m - k) wr (by omega) (by omega) hB
          rw [show (((m - k : Nat)) : Int) = (m : Int) - (k : Int) by omega] at this
          refine this.mono ?_
          rintro e w'' ⟨r, h1, h2, h3, h4, h5⟩
          exact ⟨r, h1, h2, by omega, fun h => h4 (by omega), h5⟩
        have hca2 : len ≤ ca := by rw [HLEN.out]; exact hca
        clear p0 p1 p2 hcall hfull hca
        go_wp2_with fail
        refine hcl.mono ?_
        rintro e w1 ⟨r, rfl, hr1, hr2, hr3, hB1⟩
        have HD2 : Hid (k + r < m → (0 < j + 1 → 0 < d) ∧ ∀ i, (h : i < n.kids.length) → i < j + 1 → Dp (d - 1) n.kids[i].kids) := fun hlt => ⟨fun _ => hd0, fun i h hi => by
          by_cases q : i < j
          · exact (HD.out (by omega)).2 i h q
          · obtain rfl : i = j := by omega
            exact (hr3 hlt).1⟩
        have HZ2 : Hid (k + r < m → k + r = 1 + ((n.kids.take (j + 1)).map (Sz (d - 1))).sum) := fun hlt => by
          have h1 := HZ.out (by omega)
          have h2 := (hr3 hlt).2
          rw [List.take_add_one, List.getElem?_eq_getElem hjn]
          simp only [Option.toList_some, List.map_append, List.sum_append, List.map_cons, List.map_nil, List.sum_cons, List.sum_nil]
          omega
        clear hcl hr3
        go_wp2
        go_roundw
        case rel => exact ⟨j + 1, k + r, by omega, by go_num, by go_num, by omega, hr2, HD2, HZ2, (hB1.block _ hlt).trans HEA'.out, below_after hB hB1⟩
        case measure => simp [intOf]; omega
    · have hjl' : decide ((j : Int) < (len : Int)) = false := by simp; omega
      have hmn : (if (k : Int) < (m : Int) then (k : Int) else (m : Int)) = (k : Int) := by split <;> omega
      have HJL : Hid (j = len) := by show _ = _; omega
      go_wp2
      go_ret
      refine ⟨k, by first | rfl | rw [hmn] | (simp; omega), by omega, hkm, fun h => ?_, hB⟩
      have hd := HD.out h
      have hz := HZ.out h
      cases d with
      | zero =>
        have hk0 : n.kids = [] := by
          have : ¬ 0 < j := fun h => by have := hd.1 h; omega
          apply List.length_eq_zero_iff.1
          rw [← HLEN.out]; have := HJL.out; omega
        refine ⟨hk0, ?_⟩
        rw [hk0] at hz
        simp at hz
        show 1 = k
        omega
      | succ d =>
        refine ⟨⟨by rw [← HLEN.out]; have := HJL.out; omega, fun x hx => ?_⟩, ?_⟩
        · obtain ⟨i, hi, rfl⟩ := List.getElem_of_mem hx
          exact hd.2 i hi (by rw [← HLEN.out] at hi; have := HJL.out; omega)
        · show 1 + (n.kids.map (Sz d)).sum = k
          have e : n.kids.take j = n.kids := List.take_of_length_le (by rw [← HLEN.out]; have := HJL.out; omega)
          rw [e] at hz
          exact hz.symm

theorem nodes_any : ∀ (d : Nat) (n : Nd) (z : Value) (m : Nat) (w : World), d ≤ 60 → 1 ≤ m → m ≤ 150 → KdX (fun k => k < w.heap.size) w z n.kids →
    Calls Try.prog 10 #[ndV n z, .int .i64 (m : Int), .int .i64 (d : Int)] w fun e w' => ∃ r : Nat, e = .returned (.int .i64 (r : Int)) ∧ 1 ≤ r ∧ r ≤ m ∧ (r < m → DpS d n r) ∧ Below w.heap.size w w'
  | 0, n, z, m, w, hd, hm1, hm, hz => by
    obtain ⟨a, ca, rfl, _⟩ := hz.slice
    refine nodes_body n a ca 0 m hd hm1 hm w (fun i hi => ?_)
    obtain ⟨g, off, cap, z', e1, e2, e3, e4, e5, e6, e7⟩ := hz.at i hi
    obtain ⟨rfl, _, rfl⟩ : a = some ⟨g, off, none⟩ ∧ n.kids.length = n.kids.length ∧ ca = cap := by simpa using e1
    obtain ⟨xa, xc, rfl, _⟩ := e7.slice
    exact ⟨e2, g, off, xa, xc, rfl, e3, e4, e5, e6, fun h => absurd h (Nat.lt_irrefl _)⟩
  | d + 1, n, z, m, w, hd, hm1, hm, hz => by
    obtain ⟨a, ca, rfl, _⟩ := hz.slice
    refine nodes_body n a ca (d + 1) m hd hm1 hm w (fun i hi => ?_)
    obtain ⟨g, off, cap, z', e1, e2, e3, e4, e5, e6, e7⟩ := hz.at i hi
    obtain ⟨rfl, _, rfl⟩ : a = some ⟨g, off, none⟩ ∧ n.kids.length = n.kids.length ∧ ca = cap := by simpa using e1
    obtain ⟨xa, xc, rfl, _⟩ := e7.slice
    refine ⟨e2, g, off, xa, xc, rfl, e3, e4, e5, e6, fun _ m' W h1 h2 hB => ?_⟩
    have hq : ∀ k, k < w.heap.size → W.heap[k]? = w.heap[k]? ∧ k < W.heap.size := fun k hk => ⟨hB.block k hk, Nat.lt_of_lt_of_le hk hB.size⟩
    have := nodes_any d n.kids[i] _ m' W (by omega) h1 h2 (e7.to hq)
    rw [show (((d + 1 : Nat)) : Int) - 1 = (d : Int) by omega]
    exact this


set_option maxRecDepth 100000 in
set_option maxHeartbeats 4000000 in
theorem few_any (n : Nd) (z : Value) (wa : Option Addr) (wl wc : Nat) (w : World) (hz : KdX (fun k => k < w.heap.size) w z n.kids) :
    Calls Try.prog 5 #[ndV n z, .slice wa wl wc] w fun e w' => ∃ b, e = .returned (.bool b) ∧ (b = true → Dp 12 n.kids ∧ wl ≤ 30) ∧ Below w.heap.size w w' := by
  obtain ⟨a, ca, rfl, _⟩ := hz.slice
  have hB : Below w.heap.size w (w.alloc (.cells #[.int .i64 n.k, .int .i64 n.s, .slice a n.kids.length ca] 24)) := below_alloc _ _
  have hc := nodes_any 12 n (.slice a n.kids.length ca) 40 (w.alloc (.cells #[.int .i64 n.k, .int .i64 n.s, .slice a n.kids.length ca] 24)) (by omega) (by omega) (by omega) (hz.to (fun k hk => ⟨hB.block k hk, by simp; omega⟩))
  unfold ndV at hc ⊢
  obtain ⟨nk, hnk⟩ : ∃ x, x = n.k := ⟨_, rfl⟩
  obtain ⟨ns, hns⟩ : ∃ x, x = n.s := ⟨_, rfl⟩
  obtain ⟨len, hlen⟩ : ∃ x, x = n.kids.length := ⟨_, rfl⟩
  rw [← hnk, ← hns, ← hlen] at hc hB ⊢
  have HB : Hid (Below w.heap.size w (w.alloc (.cells #[.int .i64 nk, .int .i64 ns, .slice a len ca] 24))) := hB
  clear hnk hns hlen hB hz
  go_enter Try.func5, Try.ntmps5
  go_wp2_with fail
  refine hc.mono ?_
  rintro e w1 ⟨r, rfl, h1, h2, h3, hB1⟩
  have HD : Hid (r < 40 → DpS 12 n r) := h3
  have HB1 : Hid (Below w.heap.size w w1) := below_after HB.out hB1
  clear hc hB1 h3
  by_cases hr : r < 40
  · have hr' : decide ((r : Int) < 40) = true := by simp; omega
    by_cases hl : wl ≤ 30
    · have hl' : decide ((wl : Int) ≤ 30) = true := by simp; omega
      go_wp2
      go_ret
      exact ⟨true, rfl, fun _ => ⟨(HD.out hr).1, hl⟩, HB1.out⟩
    · have hl' : decide ((wl : Int) ≤ 30) = false := by simp; omega
      go_wp2
      go_ret
      exact ⟨false, rfl, fun h => (by cases h), HB1.out⟩
  · have hr' : decide ((r : Int) < 40) = false := by simp; omega
    go_wp2
    go_ret
    exact ⟨false, rfl, fun h => (by cases h), HB1.out⟩

/-- A row of expressions that was just built. -/
theorem kids_of_block {w : World} {Q : Nat → Prop} {g : Nat} {t : TypeId} {l : List (Nd × Value)} {n c : Nat} (h : w.heap[g]? = some (.cells (cellsNs l).toArray t (0, 0))) (hn : n = l.length) (hc : n ≤ c) (hq : Q g) (hk : KidsX Q w l) : KdX Q w (.slice (some ⟨g, 0, none⟩) n c) (l.map Prod.fst) := by
  obtain ⟨f, hf⟩ := kids_fuel hk
  subst hn
  refine ⟨f + 1, some ⟨g, 0, none⟩, c, by simp, by simpa using hc, fun i hi => ?_⟩
  have hi' : i < l.length := by simpa using hi
  have el : (l.map Prod.fst)[i] = l[i].1 := by simp
  have key : ∀ j, j < 3 → w.cell? ⟨g, 0 + i * 3 + j, none⟩ = (cellsN l[i])[j]? := fun j hj => by
    rw [cell_in h, Nat.zero_add, List.getElem?_toArray, cellsNs_at l i j hi' hj]
  rw [el]
  exact ⟨g, 0, l[i].2, rfl, hq, (key 0 (by omega)), (key 1 (by omega)), (key 2 (by omega)), hf _ (List.getElem_mem hi')⟩
/-- A word that was just built. -/
theorem word_of_block {w : World} {B g : Nat} {t : TypeId} {ws : List Nat} {n c : Nat} (h : w.heap[g]? = some (.cells (ws.map fun (x : Nat) => Value.int .u64 (x : Int)).toArray t (0, 0))) (hn : n = ws.length) (hc : n ≤ c) (hg : g < B) (h64 : ∀ x ∈ ws, x < 18446744073709551616) : WrdAt B w (.slice (some ⟨g, 0, none⟩) n c) ws := by
  subst hn
  refine ⟨_, c, rfl, hc, fun i hi => ⟨h64 _ (List.getElem_mem hi), g, 0, rfl, hg, ?_⟩⟩
  rw [cell_in h, Nat.zero_add, List.getElem?_toArray, List.getElem?_map, List.getElem?_eq_getElem hi]
  rfl
def starN : Nd := ⟨3, 0, [⟨1, 0, []⟩]⟩
theorem star_right : rightN starN = true := by simp [starN, rightN_mk, rightL, mayK]
theorem star_one : wholeB [1, 1] starN = true := by
  rw [wholeB_iff]
  refine ⟨star_right, (rel_star _ _ _ _ _).2 (.inr (.more (m := 1) (.one ((rel_set _ _ _ _ _).2 ⟨rfl, by decide⟩)) ((rel_set _ _ _ _ _).2 ⟨rfl, by decide⟩)))⟩
theorem star_two : wholeB [1, 2] starN = false := by
  cases h : wholeB [1, 2] starN with
  | false => rfl
  | true =>
    rw [wholeB_iff] at h
    rcases (rel_star _ _ _ _ _).1 h.2 with e | k
    · cases e
    · exfalso
      have key : ∀ q p, Pl (relN [1, 2] ⟨1, 0, []⟩) q p → p = 2 → False := fun q p k => by
        induction k using Pl.ind with
        | one a =>
          obtain ⟨e, hb⟩ := (rel_set _ _ _ _ _).1 a
          intro e2
          obtain rfl : q = 1 := by omega
          revert hb; decide
        | @more m p _ a _ =>
          obtain ⟨e, hb⟩ := (rel_set _ _ _ _ _).1 a
          intro e2
          obtain rfl : m = 1 := by omega
          revert hb; decide
      exact key _ _ k rfl
theorem set_suffix : suffB [2, 1] ⟨1, 0, []⟩ = true := by
  rw [suffB_iff]
  exact ⟨by simp [rightN_mk, rightL, mayK], 1, by decide, (rel_set _ _ _ _ _).2 ⟨rfl, by decide⟩⟩
theorem star_dp : Dp 1 starN.kids := ⟨by decide, fun x hx => by
  obtain rfl : x = ⟨1, 0, []⟩ := by simpa [starN] using hx
  rfl⟩

set_option maxRecDepth 100000 in
set_option maxHeartbeats 4000000 in
theorem awake_any (w : World) : Calls Try.prog 4 #[] w fun e w' => e = .returned (.bool true) ∧ Below w.heap.size w w' := by
  obtain ⟨W0, hW0⟩ : ∃ W, W = (w.alloc (.cells #[.int .i64 1, .int .i64 0, .slice none 0 0] 24)).alloc (.cells #[.int .i64 3, .int .i64 0, .slice (some ⟨w.heap.size, 0, none⟩) 1 1] 24) := ⟨_, rfl⟩
  have hB0 : Below w.heap.size w W0 := by rw [hW0]; exact ((Below.refl _ _).alloc (Nat.le_refl _) _).alloc (by simp) _
  have hsz : W0.heap.size = w.heap.size + 2 := by rw [hW0]; simp
  have hE0 : W0.heap[w.heap.size]? = some (.cells #[.int .i64 1, .int .i64 0, .slice none 0 0] 24 (0, 0)) := by
    rw [hW0, Below.heap_alloc _ _ _ (by simp)]
    exact heap_new' _ _
  have hE1 : W0.heap[w.heap.size + 1]? = some (.cells #[.int .i64 3, .int .i64 0, .slice (some ⟨w.heap.size, 0, none⟩) 1 1] 24 (0, 0)) := by
    have := heap_new' (w.alloc (.cells #[.int .i64 1, .int .i64 0, .slice none 0 0] 24)) (.cells #[.int .i64 3, .int .i64 0, .slice (some ⟨w.heap.size, 0, none⟩) 1 1] 24)
    rw [World.size_alloc] at this
    rw [hW0]; exact this
  have HK : Hid (∀ W, Below W0.heap.size W0 W → KdX (fun k => k < W.heap.size) W (.slice (some ⟨w.heap.size, 0, none⟩) 1 1) starN.kids) := fun W hb =>
    kids_of_block (l := [(⟨1, 0, []⟩, .slice none 0 0)]) (t := 24) ((hb.block _ (by omega)).trans hE0) rfl (Nat.le_refl _) (by have := hb.size; omega) (fun x hx => by
      obtain rfl : x = (⟨1, 0, []⟩, .slice none 0 0) := by simpa using hx
      exact KdX.nil _ _)
  have HC : Hid (∀ W, Below W0.heap.size W0 W → (W.cell? ⟨w.heap.size + 1, 0, none⟩ = some (.int .i64 3) ∧ W.cell? ⟨w.heap.size + 1, 1, none⟩ = some (.int .i64 0) ∧ W.cell? ⟨w.heap.size + 1, 2, none⟩ = some (.slice (some ⟨w.heap.size, 0, none⟩) 1 1)) ∧ W.cell? ⟨w.heap.size, 0, none⟩ = some (.int .i64 1) ∧ W.cell? ⟨w.heap.size, 1, none⟩ = some (.int .i64 0) ∧ W.cell? ⟨w.heap.size, 2, none⟩ = some (.slice none 0 0)) := fun W hb => by
    have h0 := (hb.block w.heap.size (by omega)).trans hE0
    have h1 := (hb.block (w.heap.size + 1) (by omega)).trans hE1
    exact ⟨⟨cell_in h1 0, cell_in h1 1, cell_in h1 2⟩, cell_in h0 0, cell_in h0 1, cell_in h0 2⟩
  have HB0 : Hid (Below w.heap.size w W0) := hB0
  have hr := right_any 1 (by omega) starN (.slice (some ⟨w.heap.size, 0, none⟩) 1 1) W0 star_dp (HK.out W0 (Below.refl _ _))
  rw [star_right] at hr
  have HW1 : Hid (∀ W, Below W0.heap.size W0 W → Calls Try.prog 9 #[.agg #[.int .i64 3, .int .i64 0, .slice (some ⟨w.heap.size, 0, none⟩) 1 1], .slice (some ⟨W.heap.size, 0, none⟩) 2 2] (W.alloc (.cells #[.int .u64 1, .int .u64 1] 30)) fun e w' => e = .returned (.bool true) ∧ Below (W.heap.size + 1) (W.alloc (.cells #[.int .u64 1, .int .u64 1] 30)) w') := fun W hb => by
    have := whole_any 1 (by omega) [1, 1] (by decide) starN (.slice (some ⟨w.heap.size, 0, none⟩) 1 1) (some ⟨W.heap.size, 0, none⟩) 2 (W.alloc (.cells #[.int .u64 1, .int .u64 1] 30)) star_dp (HK.out _ (hb.alloc hb.size _)) (word_of_block (t := 30) (heap_new' _ _) rfl (Nat.le_refl _) (by simp) (by decide))
    rw [star_one, World.size_alloc] at this
    exact this
  have HW2 : Hid (∀ W, Below W0.heap.size W0 W → Calls Try.prog 9 #[.agg #[.int .i64 3, .int .i64 0, .slice (some ⟨w.heap.size, 0, none⟩) 1 1], .slice (some ⟨W.heap.size, 0, none⟩) 2 2] (W.alloc (.cells #[.int .u64 1, .int .u64 2] 30)) fun e w' => e = .returned (.bool false) ∧ Below (W.heap.size + 1) (W.alloc (.cells #[.int .u64 1, .int .u64 2] 30)) w') := fun W hb => by
    have := whole_any 1 (by omega) [1, 2] (by decide) starN (.slice (some ⟨w.heap.size, 0, none⟩) 1 1) (some ⟨W.heap.size, 0, none⟩) 2 (W.alloc (.cells #[.int .u64 1, .int .u64 2] 30)) star_dp (HK.out _ (hb.alloc hb.size _)) (word_of_block (t := 30) (heap_new' _ _) rfl (Nat.le_refl _) (by simp) (by decide))
    rw [star_two, World.size_alloc] at this
    exact this
  have HW3 : Hid (∀ W, Below W0.heap.size W0 W → Calls Try.prog 6 #[.agg #[.int .i64 1, .int .i64 0, .slice none 0 0], .slice (some ⟨W.heap.size, 0, none⟩) 2 2] (W.alloc (.cells #[.int .u64 2, .int .u64 1] 30)) fun e w' => e = .returned (.bool true) ∧ Below (W.heap.size + 1) (W.alloc (.cells #[.int .u64 2, .int .u64 1] 30)) w') := fun W hb => by
    have := suffix_any 0 (by omega) [2, 1] (by decide) ⟨1, 0, []⟩ (.slice none 0 0) (some ⟨W.heap.size, 0, none⟩) 2 (W.alloc (.cells #[.int .u64 2, .int .u64 1] 30)) rfl (KdX.nil _ _) (word_of_block (t := 30) (heap_new' _ _) rfl (Nat.le_refl _) (by simp) (by decide))
    rw [set_suffix, World.size_alloc] at this
    exact this
  have HNX : Hid (∀ W o W', Below W0.heap.size W0 W → Below (W.heap.size + 1) (W.alloc o) W' → Below W0.heap.size W0 W') := fun W o W' h1 h2 => (h1.alloc h1.size o).trans (h2.mono (by have := h1.size; omega))
  rw [hW0] at hr
  clear hE0 hE1 hB0
  go_enter Try.func4, Try.ntmps4
  go_wp2_with fail
  refine Calls.mono hr ?_
  rintro e w1 ⟨rfl, hB1⟩
  rw [← hW0] at hB1
  obtain ⟨⟨c0, c1, c2⟩, d0, d1, d2⟩ := HC.out w1 hB1
  have hl1 : w.heap.size + 2 ≤ w1.heap.size := by have := hB1.size; omega
  have h1 := HW1.out w1 hB1
  clear hr
  go_wp2_with fail
  refine h1.mono ?_
  rintro e w2 ⟨rfl, hB2'⟩
  have hB2 := HNX.out w1 _ w2 hB1 hB2'
  clear h1 hB2' c0 c1 c2 d0 d1 d2 hl1
  obtain ⟨⟨c0, c1, c2⟩, d0, d1, d2⟩ := HC.out w2 hB2
  have hl1 : w.heap.size + 2 ≤ w2.heap.size := by have := hB2.size; omega
  have h1 := HW2.out w2 hB2
  go_wp2_with fail
  refine h1.mono ?_
  rintro e w3 ⟨rfl, hB3'⟩
  have hB3 := HNX.out w2 _ w3 hB2 hB3'
  clear h1 hB3' c0 c1 c2 d0 d1 d2 hl1
  obtain ⟨⟨c0, c1, c2⟩, d0, d1, d2⟩ := HC.out w3 hB3
  have hl1 : w.heap.size + 2 ≤ w3.heap.size := by have := hB3.size; omega
  have h1 := HW3.out w3 hB3
  go_wp2_with fail
  refine h1.mono ?_
  rintro e w4 ⟨rfl, hB4'⟩
  have HB4 : Hid (Below w.heap.size w w4) := HB0.out.trans ((HNX.out w3 _ w4 hB3 hB4').mono (by omega))
  clear h1 hB4' c0 c1 c2 d0 d1 d2 hl1
  go_wp2
  go_ret
  exact ⟨rfl, HB4.out⟩
end Go.Proofs.Ytlllmoelhholfab
