/-
  The sets of an expression's places.
-/
import Derived.Test.YtehkaiohmcenbaaDoorFlFew
import Derived.Test.YtehkaiohmcenbaaDoorFlMath
namespace Go.Proofs.YtehkaiohmcenbaaDoor
open Go.RowKit Go.Shelf
set_option linter.unusedVariables false

def cellI (l : List Int) : List Value := l.map fun n => Value.int .i64 n
theorem cellI_snoc (l : List Int) (x : Int) : cellI (l ++ [x]) = cellI l ++ [.int .i64 x] := by simp [cellI]
theorem setsL_snoc : ∀ (l : List Nd) (x : Nd), setsL (l ++ [x]) = setsL l ++ setsN x
  | [], x => by rw [List.nil_append, setsL, setsL, setsL, List.append_nil, List.nil_append]
  | y :: l, x => by rw [List.cons_append, setsL, setsL, setsL_snoc l x, List.append_assoc]
theorem setsL_take_le (l : List Nd) (j : Nat) : (setsL (l.take j)).length ≤ (setsL l).length := by
  have key : ∀ a b : List Nd, setsL (a ++ b) = setsL a ++ setsL b := fun a b => by
    induction a with
    | nil => rfl
    | cons x a ih => rw [List.cons_append, setsL, setsL, ih, List.append_assoc]
  have : setsL l = setsL (l.take j) ++ setsL (l.drop j) := by rw [← key, List.take_append_drop]
  rw [this, List.length_append]; omega
theorem own_any {w : World} {base e size n : Nat} {v : Value} {xs : List Value} (h : w.ownsRow base e size v n xs) : ∃ a m c, v = .slice a m c := by
  rcases h.2 with ⟨rfl, _⟩ | ⟨g, cap, cur, rfl, _⟩
  · exact ⟨_, _, _, rfl⟩
  · exact ⟨_, _, _, rfl⟩

/-- What setsOf answers. -/
def StA (base : Nat) (n : Nd) (S : List Int) (w : World) (e : Ending) (w' : World) : Prop := ∃ v', e = .returned v' ∧ w'.ownsRow base 3 1 v' (S ++ setsN n).length (cellI (S ++ setsN n)) ∧ Below base w w'

set_option maxRecDepth 100000 in
set_option maxHeartbeats 8000000 in
theorem setsOf_body (n : Nd) (za : Option Addr) (ca base : Nat) (S : List Int) (v : Value) (w : World) (hb : base ≤ w.heap.size) (hown : w.ownsRow base 3 1 v S.length (cellI S)) (hbig : S.length + (setsN n).length ≤ 100000) (hkl : n.kids.length ≤ 1000) (hz : KdX (fun k => k < base) w (.slice za n.kids.length ca) n.kids)
    (HR : ∀ i, (h : i < n.kids.length) → ∀ xa ka S' v' W, base ≤ W.heap.size → W.ownsRow base 3 1 v' S'.length (cellI S') → S'.length + (setsN n.kids[i]).length ≤ 100000 → KdX (fun k => k < base) W (.slice xa n.kids[i].kids.length ka) n.kids[i].kids → Calls Tryd.prog 36 #[.agg #[.int .i64 n.kids[i].k, .int .i64 n.kids[i].s, .slice xa n.kids[i].kids.length ka], v'] W (StA base n.kids[i] S' W)) :
    Calls Tryd.prog 36 #[.agg #[.int .i64 n.k, .int .i64 n.s, .slice za n.kids.length ca], v] w (StA base n S w) := by
  obtain ⟨i0, hi0, hz0, hz1, hz2⟩ := info_parts Tryd.infoInt
  obtain ⟨len, hlen⟩ : ∃ len, len = n.kids.length := ⟨_, rfl⟩
  have HK : Hid (KdX (fun k => k < base) w (.slice za len ca) n.kids) := by rw [hlen]; exact hz
  have HE : Hid (setsN n = if n.k = 1 then [n.s] else setsL n.kids) := setsN_eq n
  obtain ⟨nk, hnk⟩ : ∃ x, x = n.k := ⟨_, rfl⟩
  obtain ⟨ns, hns⟩ : ∃ x, x = n.s := ⟨_, rfl⟩
  rw [← hnk, ← hns] at HE
  rw [← hlen] at hkl ⊢
  rw [← hnk, ← hns]
  have HLEN : Hid (len = n.kids.length) := hlen
  have HBIG : Hid (S.length + (setsN n).length ≤ 100000) := hbig
  have HOWN : Hid (w.ownsRow base 3 1 v S.length (cellI S)) := hown
  have HRR := HR
  have HHR : Hid _ := HRR
  obtain ⟨va, vn, vc, rfl⟩ := own_any hown
  have HB0 : Hid (Below base w (w.alloc (.cells #[.int .i64 nk, .int .i64 ns, .slice za len ca] 24))) := (Below.refl _ _).alloc hb _
  have hlt0 : w.heap.size ≤ (w.alloc (.cells #[.int .i64 nk, .int .i64 ns, .slice za len ca] 24)).heap.size := by simp
  clear hbig hown hz HR HRR hlen hnk hns
  by_cases h1 : nk = 1
  · subst h1
    have HS : Hid (setsN n = [ns]) := by rw [HE.out]; rfl
    have HL : Hid (S.length ≤ 100000) := by have := HBIG.out; show _ ≤ _; omega
    have HO1 : Hid (∀ o o', ((w.alloc o).alloc o').ownsRow base 3 1 (.slice va vn vc) S.length (cellI S)) := fun o o' => (HOWN.out.alloc _).alloc _
    go_enter Tryd.func36, Tryd.ntmps36
    go_wp2_with (at_builtin; go_must (refine wpList_append_own _ rfl _ _ 27 rfl base 3 i0 (.int .i64 0) 1 8 Tryd.underlying27 hi0 hz0 hz1 hz2 rfl (by decide) _ _ _ rfl (HO1.out _ _) ⟨w.heap.size + 1, 0, none⟩ 1 1 [.int .i64 ns] rfl rfl (World.news_of_block (by have := heap_new' (w.alloc (.cells #[.int .i64 1, .int .i64 ns, .slice za len ca] 24)) (.cells #[.int .i64 ns] 3); rw [World.size_alloc] at this; exact this)) (by simp [Value.oneCell']) (by unfold maxLen; have := HL.out; omega) (by have := HL.out; omega) (by simp; omega) ?_); intro v2 w2 ho2 hg2 _)
    have HO2 : Hid (w2.ownsRow base 3 1 v2 (S ++ setsN n).length (cellI (S ++ setsN n))) := by
      show w2.ownsRow _ _ _ _ _ _
      rw [HS.out, cellI_snoc, List.length_append]
      exact ho2
    have HB2 : Hid (Below base w w2) := (HB0.out.alloc (by simp; omega) _).grown hg2 (by simp; omega) (fun q e => (HOWN.out.lt q e).1)
    clear ho2 hg2
    go_wp2
    go_ret
    exact ⟨_, rfl, HO2.out, HB2.out⟩
  · have h1' : (nk == 1) = false := by simpa using h1
    have HS : Hid (setsN n = setsL n.kids) := by show _ = _; rw [HE.out, if_neg h1]
    have HO0 : Hid ((w.alloc (.cells #[.int .i64 nk, .int .i64 ns, .slice za len ca] 24)).ownsRow base 3 1 (.slice va vn vc) (S ++ setsL (n.kids.take 0)).length (cellI (S ++ setsL (n.kids.take 0)))) := by
      have e : S ++ setsL (n.kids.take 0) = S := by rw [List.take_zero, setsL, List.append_nil]
      rw [e]; exact HOWN.out.alloc _
    have HUP : Hid (∀ j, (S ++ setsL (n.kids.take j)).length ≤ 100000) := fun j => by
      have h1 := HBIG.out
      rw [HS.out] at h1
      have := setsL_take_le n.kids j
      rw [List.length_append]; omega
    clear h1
    go_enter Tryd.func36, Tryd.ntmps36
    go_wp2
    go_loopw [1, 18] (fun x1 x18 wr => ∃ (j : Nat), j ≤ len ∧ x18 = .int .i64 (j : Int) ∧ Hid (wr.ownsRow base 3 1 x1 (S ++ setsL (n.kids.take j)).length (cellI (S ++ setsL (n.kids.take j)))) ∧ Hid (Below base w wr)) (fun _ x18 _ => len - (intOf x18).toNat)
    case atStart => exact ⟨0, Nat.zero_le _, rfl, HO0, HB0⟩
    case round =>
      obtain ⟨j, hj, rfl, HO, HB⟩ := hrel
      have hws : w.heap.size ≤ wr.heap.size := HB.out.size
      by_cases hjl : j < len
      · have hjn : j < n.kids.length := by rw [← HLEN.out]; exact hjl
        obtain ⟨ga, oa, cc, z', hza, hcc, hga, p0, p1, p2, hkd⟩ := HK.out.at j hjn
        obtain ⟨rfl, hqq, rfl⟩ : za = some ⟨ga, oa, none⟩ ∧ len = n.kids.length ∧ ca = cc := by simpa using hza
        clear hqq
        obtain ⟨xa, ka, rfl, _⟩ := hkd.slice
        have HTK : Hid (setsL (n.kids.take (j + 1)) = setsL (n.kids.take j) ++ setsN n.kids[j]) := by
          show _ = _
          rw [List.take_add_one, List.getElem?_eq_getElem hjn]
          exact setsL_snoc _ _
        obtain ⟨WA, hWA⟩ : ∃ W, W = wr.alloc (.cells #[.int .i64 n.kids[j].k, .int .i64 n.kids[j].s, .slice xa n.kids[j].kids.length ka] 24) := ⟨_, rfl⟩
        have hBA : Below base w WA := by rw [hWA]; exact HB.out.alloc (by omega) _
        have hcl := HHR.out j hjn xa ka (S ++ setsL (n.kids.take j)) u1 WA (by rw [hWA]; simp; omega) (by rw [hWA]; exact HO.out.alloc _) (by
          have := HUP.out (j + 1)
          rw [HTK.out, ← List.append_assoc, List.length_append] at this
          exact this) (hkd.to (fun k hk => ⟨hBA.block k hk, hk⟩))
        obtain ⟨ua, un, uc, rfl⟩ := own_any HO.out
        have HBA : Hid (Below base w WA) := hBA
        obtain ⟨yk, hyk⟩ : ∃ y, y = n.kids[j].k := ⟨_, rfl⟩
        obtain ⟨ys, hys⟩ : ∃ y, y = n.kids[j].s := ⟨_, rfl⟩
        obtain ⟨yl, hyl⟩ : ∃ y, y = n.kids[j].kids.length := ⟨_, rfl⟩
        rw [← hyk, ← hys, ← hyl] at hcl hWA
        rw [← hyk] at p0
        rw [← hys] at p1
        rw [← hyl] at p2
        have r0 : wr.cell? ⟨ga, oa + j * 3, none⟩ = some (.int .i64 yk) := (HB.out.cell (p := ⟨ga, _, none⟩) hga).trans p0
        have r1 : wr.cell? ⟨ga, oa + j * 3 + 1, none⟩ = some (.int .i64 ys) := (HB.out.cell (p := ⟨ga, _, none⟩) hga).trans p1
        have r2 : wr.cell? ⟨ga, oa + j * 3 + 2, none⟩ = some (.slice xa yl ka) := (HB.out.cell (p := ⟨ga, _, none⟩) hga).trans p2
        have hga2 : ga < wr.heap.size := by omega
        have hj0 : (0 : Int) ≤ (j : Int) := by omega
        have hj1 : (j : Int) < (len : Int) := by omega
        have HTJ : Hid (S ++ setsL (n.kids.take (j + 1)) = S ++ setsL (n.kids.take j) ++ setsN n.kids[j]) := by show _ = _; rw [HTK.out, List.append_assoc]
        have HWA : Hid (WA = _) := hWA
        rw [hWA] at hcl
        clear hza hcc p0 p1 p2 hkd hyk hys hyl hBA hWA
        go_wp2_with fail
        refine hcl.mono ?_
        rintro e w1 ⟨v1, rfl, ho1, hB1⟩
        rw [← HWA.out] at hB1
        have HO1 : Hid (w1.ownsRow base 3 1 v1 (S ++ setsL (n.kids.take (j + 1))).length (cellI (S ++ setsL (n.kids.take (j + 1))))) := by
          show w1.ownsRow _ _ _ _ _ _
          rw [HTJ.out]; exact ho1
        have HB1 : Hid (Below base w w1) := HBA.out.trans hB1
        clear hcl ho1 hB1
        go_wp2
        go_roundw
        case rel => exact ⟨j + 1, by omega, by go_num, HO1, HB1⟩
        case measure => simp [intOf]; omega
      · obtain rfl : j = len := by omega
        have HEQ : Hid (n.kids.take j = n.kids) := List.take_of_length_le (by rw [← HLEN.out]; exact Nat.le_refl _)
        have HO1 : Hid (wr.ownsRow base 3 1 u1 (S ++ setsN n).length (cellI (S ++ setsN n))) := by
          have := HO.out
          rw [HEQ.out, ← HS.out] at this
          exact this
        go_wp2
        go_ret
        exact ⟨_, rfl, HO1.out, HB.out⟩

theorem setsOf_any : ∀ (d : Nat) (n : Nd) (za : Option Addr) (ca base : Nat) (S : List Int) (v : Value) (w : World), Dp d n.kids → base ≤ w.heap.size → w.ownsRow base 3 1 v S.length (cellI S) → S.length + (setsN n).length ≤ 100000 → KdX (fun k => k < base) w (.slice za n.kids.length ca) n.kids → Calls Tryd.prog 36 #[.agg #[.int .i64 n.k, .int .i64 n.s, .slice za n.kids.length ca], v] w (StA base n S w)
  | d, n, za, ca, base, S, v, w, hd, hb, ho, hs, hz => by
    refine setsOf_body n za ca base S v w hb ho hs hd.len hz (fun i h xa ka S' v' W hb' ho' hs' hz' => ?_)
    match d, hd with
    | 0, hd => rw [show n.kids = [] from hd] at h; cases h
    | d + 1, hd => exact setsOf_any d n.kids[i] xa ka base S' v' W (hd.2 _ (List.getElem_mem h)) hb' ho' hs' hz'
end Go.Proofs.YtehkaiohmcenbaaDoor
