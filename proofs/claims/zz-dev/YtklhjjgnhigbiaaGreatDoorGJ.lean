/-
  The sets of an expression's places. An expression read part by part: read and inTurn.
-/
import Derived.Test.YtklhjjgnhigbiaaGreatDoorGB
import Derived.Test.YtklhjjgnhigbiaaGreatDoorGC
namespace Go.Proofs.YtklhjjgnhigbiaaGreatDoor
open Go.RowKit Go.Shelf
set_option linter.unusedVariables false

def cellI (l : List Int) : List Value := l.map fun n => Value.int .i64 n
theorem cellI_snoc (l : List Int) (x : Int) : cellI (l ++ [x]) = cellI l ++ [.int .i64 x] := by simp [cellI]
theorem setsL_snoc : ∀ (l : List Nd) (x : Nd), setsL (l ++ [x]) = setsL l ++ setsN x
  | [], x => by rw [List.nil_append, setsL, setsL, setsL, List.append_nil, List.nil_append]
  | y :: l, x => by rw [List.cons_append, setsL, setsL, setsL_snoc l x, List.append_assoc]
theorem setsL_take_le (l : List Nd) (j : Nat) : (setsL (l.take j)).length ≤ (setsL l).length := by
  have key : ∀ a b : List Nd, setsL (a ++ b) = setsL a ++ setsL b := fun a b => by
    induction a with
    | nil => rfl
    | cons x a ih => rw [List.cons_append, setsL, setsL, ih, List.append_assoc]
  have : setsL l = setsL (l.take j) ++ setsL (l.drop j) := by rw [← key, List.take_append_drop]
  rw [this, List.length_append]; omega
theorem own_any {w : World} {base e size n : Nat} {v : Value} {xs : List Value} (h : w.ownsRow base e size v n xs) : ∃ a m c, v = .slice a m c := by
  rcases h.2 with ⟨rfl, _⟩ | ⟨g, cap, cur, rfl, _⟩
  · exact ⟨_, _, _, rfl⟩
  · exact ⟨_, _, _, rfl⟩

/-- What setsOf answers. -/
def StA (base : Nat) (n : Nd) (S : List Int) (w : World) (e : Ending) (w' : World) : Prop := ∃ v', e = .returned v' ∧ w'.ownsRow base 3 1 v' (S ++ setsN n).length (cellI (S ++ setsN n)) ∧ Below base w w'

set_option maxRecDepth 100000 in
set_option maxHeartbeats 8000000 in
theorem setsOf_body (n : Nd) (za : Option Addr) (ca base : Nat) (S : List Int) (v : Value) (w : World) (hb : base ≤ w.heap.size) (hown : w.ownsRow base 3 1 v S.length (cellI S)) (hbig : S.length + (setsN n).length ≤ 100000) (hkl : n.kids.length ≤ 1000) (hz : KdX (fun k => k < base) w (.slice za n.kids.length ca) n.kids)
    (HR : ∀ i, (h : i < n.kids.length) → ∀ xa ka S' v' W, base ≤ W.heap.size → W.ownsRow base 3 1 v' S'.length (cellI S') → S'.length + (setsN n.kids[i]).length ≤ 100000 → KdX (fun k => k < base) W (.slice xa n.kids[i].kids.length ka) n.kids[i].kids → Calls Tryz.prog 13 #[.agg #[.int .i64 n.kids[i].k, .int .i64 n.kids[i].s, .slice xa n.kids[i].kids.length ka], v'] W (StA base n.kids[i] S' W)) :
    Calls Tryz.prog 13 #[.agg #[.int .i64 n.k, .int .i64 n.s, .slice za n.kids.length ca], v] w (StA base n S w) := by
  obtain ⟨i0, hi0, hz0, hz1, hz2⟩ := info_parts Tryz.infoInt
  obtain ⟨len, hlen⟩ : ∃ len, len = n.kids.length := ⟨_, rfl⟩
  have HK : Hid (KdX (fun k => k < base) w (.slice za len ca) n.kids) := by rw [hlen]; exact hz
  have HE : Hid (setsN n = if n.k = 1 then [n.s] else setsL n.kids) := setsN_eq n
  obtain ⟨nk, hnk⟩ : ∃ x, x = n.k := ⟨_, rfl⟩
  obtain ⟨ns, hns⟩ : ∃ x, x = n.s := ⟨_, rfl⟩
  rw [← hnk, ← hns] at HE
  rw [← hlen] at hkl ⊢
  rw [← hnk, ← hns]
  have HLEN : Hid (len = n.kids.length) := hlen
  have HBIG : Hid (S.length + (setsN n).length ≤ 100000) := hbig
  have HOWN : Hid (w.ownsRow base 3 1 v S.length (cellI S)) := hown
  have HRR := HR
  have HHR : Hid _ := HRR
  obtain ⟨va, vn, vc, rfl⟩ := own_any hown
  have HB0 : Hid (Below base w (w.alloc (.cells #[.int .i64 nk, .int .i64 ns, .slice za len ca] 24))) := (Below.refl _ _).alloc hb _
  have hlt0 : w.heap.size ≤ (w.alloc (.cells #[.int .i64 nk, .int .i64 ns, .slice za len ca] 24)).heap.size := by simp
  clear hbig hown hz HR HRR hlen hnk hns
  by_cases h1 : nk = 1
  · subst h1
    have HS : Hid (setsN n = [ns]) := by rw [HE.out]; rfl
    have HL : Hid (S.length ≤ 100000) := by have := HBIG.out; show _ ≤ _; omega
    have HO1 : Hid (∀ o o', ((w.alloc o).alloc o').ownsRow base 3 1 (.slice va vn vc) S.length (cellI S)) := fun o o' => (HOWN.out.alloc _).alloc _
    go_enter Tryz.func13, Tryz.ntmps13
    go_wp2_with (at_builtin; go_must (refine wpList_append_own _ rfl _ _ 26 rfl base 3 i0 (.int .i64 0) 1 8 Tryz.underlying26 hi0 hz0 hz1 hz2 rfl (by decide) _ _ _ rfl (HO1.out _ _) ⟨w.heap.size + 1, 0, none⟩ 1 1 [.int .i64 ns] rfl rfl (World.news_of_block (by have := heap_new' (w.alloc (.cells #[.int .i64 1, .int .i64 ns, .slice za len ca] 24)) (.cells #[.int .i64 ns] 3); rw [World.size_alloc] at this; exact this)) (by simp [Value.oneCell']) (by unfold maxLen; have := HL.out; omega) (by have := HL.out; omega) (by simp; omega) ?_); intro v2 w2 ho2 hg2 _)
    have HO2 : Hid (w2.ownsRow base 3 1 v2 (S ++ setsN n).length (cellI (S ++ setsN n))) := by
      show w2.ownsRow _ _ _ _ _ _
      rw [HS.out, cellI_snoc, List.length_append]
      exact ho2
    have HB2 : Hid (Below base w w2) := (HB0.out.alloc (by simp; omega) _).grown hg2 (by simp; omega) (fun q e => (HOWN.out.lt q e).1)
    clear ho2 hg2
    go_wp2
    go_ret
    exact ⟨_, rfl, HO2.out, HB2.out⟩
  · have h1' : (nk == 1) = false := by simpa using h1
    have HS : Hid (setsN n = setsL n.kids) := by show _ = _; rw [HE.out, if_neg h1]
    have HO0 : Hid ((w.alloc (.cells #[.int .i64 nk, .int .i64 ns, .slice za len ca] 24)).ownsRow base 3 1 (.slice va vn vc) (S ++ setsL (n.kids.take 0)).length (cellI (S ++ setsL (n.kids.take 0)))) := by
      have e : S ++ setsL (n.kids.take 0) = S := by rw [List.take_zero, setsL, List.append_nil]
      rw [e]; exact HOWN.out.alloc _
    have HUP : Hid (∀ j, (S ++ setsL (n.kids.take j)).length ≤ 100000) := fun j => by
      have h1 := HBIG.out
      rw [HS.out] at h1
      have := setsL_take_le n.kids j
      rw [List.length_append]; omega
    clear h1
    go_enter Tryz.func13, Tryz.ntmps13
    go_wp2
    go_loopw [1, 18] (fun x1 x18 wr => ∃ (j : Nat), j ≤ len ∧ x18 = .int .i64 (j : Int) ∧ Hid (wr.ownsRow base 3 1 x1 (S ++ setsL (n.kids.take j)).length (cellI (S ++ setsL (n.kids.take j)))) ∧ Hid (Below base w wr)) (fun _ x18 _ => len - (intOf x18).toNat)
    case atStart => exact ⟨0, Nat.zero_le _, rfl, HO0, HB0⟩
    case round =>
      obtain ⟨j, hj, rfl, HO, HB⟩ := hrel
      have hws : w.heap.size ≤ wr.heap.size := HB.out.size
      by_cases hjl : j < len
      · have hjn : j < n.kids.length := by rw [← HLEN.out]; exact hjl
        obtain ⟨ga, oa, cc, z', hza, hcc, hga, p0, p1, p2, hkd⟩ := HK.out.at j hjn
        obtain ⟨rfl, hqq, rfl⟩ : za = some ⟨ga, oa, none⟩ ∧ len = n.kids.length ∧ ca = cc := by simpa using hza
        clear hqq
        obtain ⟨xa, ka, rfl, _⟩ := hkd.slice
        have HTK : Hid (setsL (n.kids.take (j + 1)) = setsL (n.kids.take j) ++ setsN n.kids[j]) := by
          show _ = _
          rw [List.take_add_one, List.getElem?_eq_getElem hjn]
          exact setsL_snoc _ _
        obtain ⟨WA, hWA⟩ : ∃ W, W = wr.alloc (.cells #[.int .i64 n.kids[j].k, .int .i64 n.kids[j].s, .slice xa n.kids[j].kids.length ka] 24) := ⟨_, rfl⟩
        have hBA : Below base w WA := by rw [hWA]; exact HB.out.alloc (by omega) _
        have hcl := HHR.out j hjn xa ka (S ++ setsL (n.kids.take j)) u1 WA (by rw [hWA]; simp; omega) (by rw [hWA]; exact HO.out.alloc _) (by
          have := HUP.out (j + 1)
          rw [HTK.out, ← List.append_assoc, List.length_append] at this
          exact this) (hkd.to (fun k hk => ⟨hBA.block k hk, hk⟩))
        obtain ⟨ua, un, uc, rfl⟩ := own_any HO.out
        have HBA : Hid (Below base w WA) := hBA
        obtain ⟨yk, hyk⟩ : ∃ y, y = n.kids[j].k := ⟨_, rfl⟩
        obtain ⟨ys, hys⟩ : ∃ y, y = n.kids[j].s := ⟨_, rfl⟩
        obtain ⟨yl, hyl⟩ : ∃ y, y = n.kids[j].kids.length := ⟨_, rfl⟩
        rw [← hyk, ← hys, ← hyl] at hcl hWA
        rw [← hyk] at p0
        rw [← hys] at p1
        rw [← hyl] at p2
        have r0 : wr.cell? ⟨ga, oa + j * 3, none⟩ = some (.int .i64 yk) := (HB.out.cell (p := ⟨ga, _, none⟩) hga).trans p0
        have r1 : wr.cell? ⟨ga, oa + j * 3 + 1, none⟩ = some (.int .i64 ys) := (HB.out.cell (p := ⟨ga, _, none⟩) hga).trans p1
        have r2 : wr.cell? ⟨ga, oa + j * 3 + 2, none⟩ = some (.slice xa yl ka) := (HB.out.cell (p := ⟨ga, _, none⟩) hga).trans p2
        have hga2 : ga < wr.heap.size := by omega
        have hj0 : (0 : Int) ≤ (j : Int) := by omega
        have hj1 : (j : Int) < (len : Int) := by omega
        have HTJ : Hid (S ++ setsL (n.kids.take (j + 1)) = S ++ setsL (n.kids.take j) ++ setsN n.kids[j]) := by show _ = _; rw [HTK.out, List.append_assoc]
        have HWA : Hid (WA = _) := hWA
        rw [hWA] at hcl
        clear hza hcc p0 p1 p2 hkd hyk hys hyl hBA hWA
        go_wp2_with fail
        refine hcl.mono ?_
        rintro e w1 ⟨v1, rfl, ho1, hB1⟩
        rw [← HWA.out] at hB1
        have HO1 : Hid (w1.ownsRow base 3 1 v1 (S ++ setsL (n.kids.take (j + 1))).length (cellI (S ++ setsL (n.kids.take (j + 1))))) := by
          show w1.ownsRow _ _ _ _ _ _
          rw [HTJ.out]; exact ho1
        have HB1 : Hid (Below base w w1) := HBA.out.trans hB1
        clear hcl ho1 hB1
        go_wp2
        go_roundw
        case rel => exact ⟨j + 1, by omega, by go_num, HO1, HB1⟩
        case measure => simp [intOf]; omega
      · obtain rfl : j = len := by omega
        have HEQ : Hid (n.kids.take j = n.kids) := List.take_of_length_le (by rw [← HLEN.out]; exact Nat.le_refl _)
        have HO1 : Hid (wr.ownsRow base 3 1 u1 (S ++ setsN n).length (cellI (S ++ setsN n))) := by
          have := HO.out
          rw [HEQ.out, ← HS.out] at this
          exact this
        go_wp2
        go_ret
        exact ⟨_, rfl, HO1.out, HB.out⟩

theorem setsOf_any : ∀ (d : Nat) (n : Nd) (za : Option Addr) (ca base : Nat) (S : List Int) (v : Value) (w : World), Dp d n.kids → base ≤ w.heap.size → w.ownsRow base 3 1 v S.length (cellI S) → S.length + (setsN n).length ≤ 100000 → KdX (fun k => k < base) w (.slice za n.kids.length ca) n.kids → Calls Tryz.prog 13 #[.agg #[.int .i64 n.k, .int .i64 n.s, .slice za n.kids.length ca], v] w (StA base n S w)
  | d, n, za, ca, base, S, v, w, hd, hb, ho, hs, hz => by
    refine setsOf_body n za ca base S v w hb ho hs hd.len hz (fun i h xa ka S' v' W hb' ho' hs' hz' => ?_)
    match d, hd with
    | 0, hd => rw [show n.kids = [] from hd] at h; cases h
    | d + 1, hd => exact setsOf_any d n.kids[i] xa ka base S' v' W (hd.2 _ (List.getElem_mem h)) hb' ho' hs' hz'
end Go.Proofs.YtklhjjgnhigbiaaGreatDoor

namespace Go.Proofs.YtklhjjgnhigbiaaGreatDoor
open Go.RowKit Go.Shelf
set_option linter.unusedVariables false

/-- The function fn with caps notes what follows; I tells what has been noted; its memory is lo .. hi. -/
structure NoteT (fn : Nat) (caps : Array Value) (lo hi m : Nat) (I : World → List (List Nat × List Nat) → Prop) : Prop where
  ent : ∀ args w, (callFunc fn args).run Tryz.prog w = .ok (.enter fn args) w
  le : lo ≤ hi
  size : ∀ w L, I w L → hi ≤ w.heap.size
  keep : ∀ w w' L, I w L → (∀ k, lo ≤ k → k < hi → w'.heap[k]? = w.heap[k]?) → w.heap.size ≤ w'.heap.size → I w' L
  call : ∀ w L v1 a v2 b, I w L → LstAt hi w v1 a → LstAt hi w v2 b → InR 0 m a → InR 0 m b → Calls Tryz.prog fn (#[v1, v2] ++ caps) w fun e w' => e = .returned (.tuple #[]) ∧ I w' (L ++ [(a, b)]) ∧ FrI lo hi w w'
theorem NoteT.below {fn : Nat} {caps : Array Value} {lo hi m : Nat} {I : World → List (List Nat × List Nat) → Prop} (N : NoteT fn caps lo hi m I) {w w' : World} {L : List (List Nat × List Nat)} (h : I w L) (hb : Below w.heap.size w w') : I w' L :=
  N.keep w w' L h (fun k _ hk => hb.block k (Nat.lt_of_lt_of_le hk (N.size w L h))) hb.size
/-- Only the block b was written. -/
structure OnlyB (b : Nat) (w w' : World) : Prop where
  os : w'.os = w.os
  tape : w'.tape = w.tape
  output : w'.output = w.output
  size : w'.heap.size = w.heap.size
  block : ∀ k, k ≠ b → w'.heap[k]? = w.heap[k]?
theorem OnlyB.refl (b : Nat) (w : World) : OnlyB b w w := ⟨rfl, rfl, rfl, rfl, fun _ _ => rfl⟩
theorem OnlyB.set {b : Nat} {w w' : World} (h : OnlyB b w w') (i : Nat) (v : Value) : OnlyB b w (w'.setCell ⟨b, i, none⟩ v) := by
  have e : (w'.setCell ⟨b, i, none⟩ v).heap.size = w'.heap.size := by simp [World.setCell]
  exact ⟨h.os, h.tape, h.output, e.trans h.size, fun k hk => (Below.heap_setCell _ _ _ _ hk).trans (h.block k hk)⟩
theorem OnlyB.drew {b : Nat} {w w' : World} (h : OnlyB b w w') : OnlyB b w w'.drew := ⟨h.os, h.tape, h.output, h.size, h.block⟩
theorem FrI.only {lo hi b : Nat} {w w1 w2 : World} (h : FrI lo hi w w1) (k : OnlyB b w1 w2) (h1 : w.heap.size ≤ b) (h2 : lo ≤ b) : FrI lo hi w w2 :=
  ⟨⟨k.os.trans h.1.os, k.tape.trans h.1.tape, k.output.trans h.1.output, by rw [k.size]; exact h.1.size, fun i hi => (k.block i (by omega)).trans (h.1.block i hi)⟩, fun i h3 h4 => (k.block i (by omega)).trans (h.2 i h3 h4)⟩
theorem NoteT.only {fn : Nat} {caps : Array Value} {lo hi m : Nat} {I : World → List (List Nat × List Nat) → Prop} (N : NoteT fn caps lo hi m I) {w w' : World} {L : List (List Nat × List Nat)} {b : Nat} (h : I w L) (hb : OnlyB b w w') (h2 : hi ≤ b) : I w' L :=
  N.keep w w' L h (fun k _ hk => hb.block k (by omega)) (by rw [hb.size]; exact Nat.le_refl _)
theorem LstAt.only {hi b : Nat} {w w' : World} {v : Value} {l : List Nat} {cs : Array Value} {t : TypeId} {fr : Nat × Nat} (h : LstAt hi w v l) (hb : OnlyB b w w') (hbb : w.heap[b]? = some (.cells cs t fr)) (ht : t ≠ 3) : LstAt hi w' v l :=
  h.to (fun g cs' fr' _ hw => hb.block g (fun e => by
    subst e
    rw [hbb] at hw
    injection hw with hw
    injection hw with _ hw _
    exact ht hw))
/-- A part in a variable of its own. -/
def PBox (w : World) (b : Nat) (n : Bool) (fv lv : Value) (u : Nat) : Prop := w.heap[b]? = some (.cells #[.bool n, fv, lv, .int .i64 (u : Int)] 57 (0, 0))
theorem PBox.c0 {w : World} {b u : Nat} {n : Bool} {fv lv : Value} (h : PBox w b n fv lv u) : w.cell? ⟨b, 0, none⟩ = some (.bool n) := cell_in h 0
theorem PBox.c1 {w : World} {b u : Nat} {n : Bool} {fv lv : Value} (h : PBox w b n fv lv u) : w.cell? ⟨b, 1, none⟩ = some fv := cell_in h 1
theorem PBox.c2 {w : World} {b u : Nat} {n : Bool} {fv lv : Value} (h : PBox w b n fv lv u) : w.cell? ⟨b, 2, none⟩ = some lv := cell_in h 2
theorem PBox.c3 {w : World} {b u : Nat} {n : Bool} {fv lv : Value} (h : PBox w b n fv lv u) : w.cell? ⟨b, 3, none⟩ = some (.int .i64 (u : Int)) := cell_in h 3
theorem PBox.nf {w : World} {b u : Nat} {n : Bool} {fv lv : Value} (h : PBox w b n fv lv u) (i : Nat) : w.frozen? ⟨b, i, none⟩ = false := by
  unfold PBox at h
  simp [World.frozen?, h]
theorem PBox.lt {w : World} {b u : Nat} {n : Bool} {fv lv : Value} (h : PBox w b n fv lv u) : b < w.heap.size := lt_of_heap h
theorem PBox.s0 {w : World} {b u : Nat} {n : Bool} {fv lv : Value} (h : PBox w b n fv lv u) (n' : Bool) : PBox (w.setCell ⟨b, 0, none⟩ (.bool n')) b n' fv lv u := by
  have := heap_setN (i := 0) h (.bool n'); simpa [PBox] using this
theorem PBox.s1 {w : World} {b u : Nat} {n : Bool} {fv lv : Value} (h : PBox w b n fv lv u) (v : Value) : PBox (w.setCell ⟨b, 1, none⟩ v) b n v lv u := by
  have := heap_setN (i := 1) h v; simpa [PBox] using this
theorem PBox.s2 {w : World} {b u : Nat} {n : Bool} {fv lv : Value} (h : PBox w b n fv lv u) (v : Value) : PBox (w.setCell ⟨b, 2, none⟩ v) b n fv v u := by
  have := heap_setN (i := 2) h v; simpa [PBox] using this
theorem PBox.s3 {w : World} {b u : Nat} {n : Bool} {fv lv : Value} (h : PBox w b n fv lv u) (x : Nat) : PBox (w.setCell ⟨b, 3, none⟩ (.int .i64 (x : Int))) b n fv lv x := by
  have := heap_setN (i := 3) h (.int .i64 (x : Int)); simpa [PBox] using this
theorem PBox.dr {w : World} {b u : Nat} {n : Bool} {fv lv : Value} (h : PBox w b n fv lv u) : PBox w.drew b n fv lv u := h
theorem PBox.fr {lo hi : Nat} {w w' : World} {b u : Nat} {n : Bool} {fv lv : Value} (h : PBox w b n fv lv u) (hf : FrI lo hi w w') (hb : hi ≤ b) : PBox w' b n fv lv u := (hf.block (.inr ⟨hb, h.lt⟩)).trans h
theorem PBox.below {w w' : World} {b u : Nat} {n : Bool} {fv lv : Value} (h : PBox w b n fv lv u) (hf : Below w.heap.size w w') : PBox w' b n fv lv u := (hf.block _ h.lt).trans h
theorem PBox.only {w w' : World} {b b' u : Nat} {n : Bool} {fv lv : Value} (h : PBox w b n fv lv u) (hf : OnlyB b' w w') (hb : b ≠ b') : PBox w' b n fv lv u := (hf.block _ hb).trans h
theorem pbox_new (w : World) (n : Bool) (fv lv : Value) (u : Nat) : PBox (w.alloc (.cells #[.bool n, fv, lv, .int .i64 (u : Int)] 57)) w.heap.size n fv lv u := heap_new' _ _
theorem LstAt.any {hi : Nat} {w : World} {v : Value} {l : List Nat} (h : LstAt hi w v l) : ∃ a n c, v = .slice a n c := by
  obtain ⟨a, cap, e, _⟩ := h; exact ⟨a, _, cap, e⟩
/-- A part as it is told. -/
def prtV (n : Bool) (fv lv : Value) (u : Nat) : Value := .agg #[.bool n, fv, lv, .int .i64 (u : Int)]
def RdA (lo hi : Nat) (I : World → List (List Nat × List Nat) → Prop) (p : Prt) (L : List (List Nat × List Nat)) (w : World) (e : Ending) (w' : World) : Prop :=
  ∃ fv lv, e = .returned (prtV p.null fv lv p.upTo) ∧ LstAt hi w' fv p.first ∧ LstAt hi w' lv p.last ∧ I w' (L ++ p.notes) ∧ FrI lo hi w w'
theorem catL_snoc : ∀ (l : List Nd) (x : Nd) (W : Prt), catL (l ++ [x]) W = catS (catL l W) (prtN x (catL l W).upTo)
  | [], x, W => rfl
  | y :: l, x, W => by rw [List.cons_append, catL_cons, catL_cons, catL_snoc l x]
theorem altL_snoc : ∀ (l : List Nd) (x : Nd) (W : Prt), altL (l ++ [x]) W = altS (altL l W) (prtN x (altL l W).upTo)
  | [], x, W => rfl
  | y :: l, x, W => by rw [List.cons_append, altL_cons, altL_cons, altL_snoc l x]
theorem take_snoc {l : List Nd} {j : Nat} (h : j < l.length) : l.take (j + 1) = l.take j ++ [l[j]] := by
  rw [List.take_add_one, List.getElem?_eq_getElem h]; rfl
theorem InR.len {c u : Nat} {l : List Nat} (h : InR c u l) (hc : c ≤ u) : l.length + c ≤ u := by
  have := ris_len l (c + 1) u h.1 (fun x hx => by have := h.2 x hx; omega) (by omega)
  omega
/-- What a caller of a kid knows. -/
def KidC (fn : Nat) (caps : Array Value) (lo hi : Nat) (I : World → List (List Nat × List Nat) → Prop) (m : Nat) (x : Nd) (xa : Option Addr) (ka : Nat) : Prop :=
  ∀ W L c, I W L → Below lo W W → (c + (setsN x).length ≤ m) → KdX (fun k => k < lo) W (.slice xa x.kids.length ka) x.kids → Calls Tryz.prog 15 #[.agg #[.int .i64 x.k, .int .i64 x.s, .slice xa x.kids.length ka], .int .i64 (c : Int), .func (.func fn) #[] caps] W (RdA lo hi I (prtN x c) L W)

set_option maxRecDepth 100000 in
set_option maxHeartbeats 16000000 in
theorem inTurn_any {fn : Nat} {caps : Array Value} {lo hi m : Nat} {I : World → List (List Nat × List Nat) → Prop} (N : NoteT fn caps lo hi m I) (l : List Nd) (za : Option Addr) (ca c : Nat) (L : List (List Nat × List Nat)) (w : World) (hm : m ≤ 700) (hI : I w L) (hg : ∀ x ∈ l, rightN x = true) (hcm : c + (setsL l).length ≤ m) (hl : l.length ≤ 1000) (hz : KdX (fun k => k < lo) w (.slice za l.length ca) l)
    (HR : ∀ i, (h : i < l.length) → ∀ xa ka, KidC fn caps lo hi I m l[i] xa ka) :
    Calls Tryz.prog 39 #[.slice za l.length ca, .int .i64 (c : Int), .func (.func fn) #[] caps] w (RdA lo hi I (catL l (cat0 c)) L w) := by
  have hsz := N.size w L hI
  have hlh := N.le
  obtain ⟨W0, hW0⟩ : ∃ W, W = (w.alloc (.cells #[.bool false, .slice none 0 0, .slice none 0 0, .int .i64 0] 57)).alloc (.cells #[.bool true, .slice none 0 0, .slice none 0 0, .int .i64 (c : Int)] 57) := ⟨_, rfl⟩
  obtain ⟨hE0, hE1, hB0, hs0⟩ := alloc2 hW0
  obtain ⟨len, hlen⟩ : ∃ len, len = l.length := ⟨_, rfl⟩
  have HLEN : Hid (len = l.length) := hlen
  have HK : Hid (KdX (fun k => k < lo) w (.slice za len ca) l) := by rw [hlen]; exact hz
  rw [← hlen] at hl ⊢
  have HN : Hid (NoteT fn caps lo hi m I) := N
  have HRR : Hid (∀ i, (h : i < l.length) → ∀ xa ka, KidC fn caps lo hi I m l[i] xa ka) := HR
  have HG : Hid (∀ x ∈ l, rightN x = true) := hg
  have HCM : Hid (c + (setsL l).length ≤ m) := hcm
  have HR0 : Hid (PBox W0 w.heap.size false (.slice none 0 0) (.slice none 0 0) 0) := hE0
  have HP0 : Hid (PBox W0 (w.heap.size + 1) true (.slice none 0 0) (.slice none 0 0) c) := hE1
  have HI0 : Hid (I W0 (L ++ [])) := by rw [List.append_nil]; exact N.below hI hB0
  have HF0 : Hid (FrI lo hi w W0) := FrI.of hB0 (by omega)
  have HW0 : Hid (W0 = (w.alloc (.cells #[.bool false, .slice none 0 0, .slice none 0 0, .int .i64 0] 57)).alloc (.cells #[.bool true, .slice none 0 0, .slice none 0 0, .int .i64 (c : Int)] 57)) := hW0
  have eg := N.ent
  -- what is known of the first parts
  have HGD : Hid (∀ j, j ≤ l.length → Okp c (catL (l.take j) (cat0 c)) ∧ (catL (l.take j) (cat0 c)).upTo ≤ m ∧ c ≤ m) := fun j hj => by
    have := gd_cat (l.take j) (fun x hx => gd_all x (hg x (List.mem_of_mem_take hx))) c (cat0 c) (okp_cat0 c)
    have h2 : (setsL (l.take j)).length ≤ (setsL l).length := by
      have : setsL l = setsL (l.take j) ++ setsL (l.drop j) := by
        have key : ∀ a b : List Nd, setsL (a ++ b) = setsL a ++ setsL b := fun a b => by
          induction a with
          | nil => rfl
          | cons x a ih => rw [List.cons_append, setsL, setsL, ih, List.append_assoc]
        rw [← key, List.take_append_drop]
      rw [this, List.length_append]; omega
    refine ⟨this.1, ?_, by omega⟩
    rw [this.2]
    show c + _ ≤ m
    omega
  have HGK : Hid (∀ j, (h : j < l.length) → (catL (l.take j) (cat0 c)).upTo + (setsN l[j]).length ≤ m) := fun j hj => by
    have h1 := (HGD.out (j + 1) hj).2.1
    rw [take_snoc hj, catL_snoc] at h1
    have h2 := (gd_all l[j] (hg _ (List.getElem_mem hj)) (catL (l.take j) (cat0 c)).upTo).2
    have h3 : (catS (catL (l.take j) (cat0 c)) (prtN l[j] (catL (l.take j) (cat0 c)).upTo)).upTo = (prtN l[j] (catL (l.take j) (cat0 c)).upTo).upTo := rfl
    rw [h3] at h1
    omega
  clear hE0 hE1 hB0 hs0 hW0 hlen hz N HR hg hcm hI
  go_enter Tryz.func39, Tryz.ntmps39
  go_wp2
  rw [← HW0.out]
  go_loopw [15] (fun x15 wr => ∃ (j : Nat) (fv lv : Value), j ≤ len ∧ x15 = .int .i64 (j : Int) ∧ Hid (PBox wr (w.heap.size + 1) (catL (l.take j) (cat0 c)).null fv lv (catL (l.take j) (cat0 c)).upTo) ∧ Hid (LstAt hi wr fv (catL (l.take j) (cat0 c)).first) ∧ Hid (LstAt hi wr lv (catL (l.take j) (cat0 c)).last) ∧ Hid (I wr (L ++ (catL (l.take j) (cat0 c)).notes)) ∧ Hid (FrI lo hi w wr) ∧ Hid (PBox wr w.heap.size false (.slice none 0 0) (.slice none 0 0) 0)) (fun x15 _ => len - (intOf x15).toNat)
  case atStart => exact ⟨0, _, _, Nat.zero_le _, rfl, HP0, LstAt.nil _ _, LstAt.nil _ _, HI0, HF0, HR0⟩
  case round =>
    obtain ⟨j, fv, lv, hj, rfl, HP, HFV, HLV, HI, HFR, HRB⟩ := hrel
    have hws : w.heap.size + 1 < wr.heap.size := HP.out.lt
    obtain ⟨fa, fn', fc, rfl⟩ := HFV.out.any
    obtain ⟨la, ln, lc, rfl⟩ := HLV.out.any
    by_cases hjl : j < len
    · have hjn : j < l.length := by rw [← HLEN.out]; exact hjl
      obtain ⟨P, hP⟩ : ∃ P, P = catL (l.take j) (cat0 c) := ⟨_, rfl⟩
      have HNX : Hid (catL (l.take (j + 1)) (cat0 c) = catS P (prtN l[j] P.upTo)) := by show _ = _; rw [take_snoc hjn, catL_snoc, ← hP]
      have HOK : Hid (Okp c P ∧ P.upTo ≤ m ∧ c ≤ m) := by rw [hP]; exact HGD.out j (Nat.le_of_lt hjn)
      have HGK2 : Hid (P.upTo + (setsN l[j]).length ≤ m) := by rw [hP]; exact HGK.out j hjn
      rw [← hP] at HP HFV HLV HI
      obtain ⟨ga, oa, cc, z', hza, hcc, hga, p0, p1, p2, hkd⟩ := HK.out.at j hjn
      obtain ⟨rfl, hqq, rfl⟩ : za = some ⟨ga, oa, none⟩ ∧ len = l.length ∧ ca = cc := by simpa using hza
      clear hqq
      obtain ⟨xa, ka, rfl, _⟩ := hkd.slice
      have HKC := HRR.out j hjn xa ka
      have HOKK : Hid (Okp P.upTo (prtN l[j] P.upTo) ∧ (prtN l[j] P.upTo).upTo ≤ m) := by
        have := gd_all l[j] (HG.out _ (List.getElem_mem hjn)) P.upTo
        exact ⟨this.1, by rw [this.2]; exact HGK2.out⟩
      obtain ⟨yk, hyk⟩ : ∃ y, y = l[j].k := ⟨_, rfl⟩
      obtain ⟨ys, hys⟩ : ∃ y, y = l[j].s := ⟨_, rfl⟩
      obtain ⟨yl, hyl⟩ : ∃ y, y = l[j].kids.length := ⟨_, rfl⟩
      unfold KidC at HKC
      rw [← hyk, ← hys, ← hyl] at HKC
      rw [← hyk] at p0
      rw [← hys] at p1
      rw [← hyl] at p2 hkd
      obtain ⟨WA, hWA⟩ : ∃ W, W = wr.alloc (.cells #[.int .i64 yk, .int .i64 ys, .slice xa yl ka] 24) := ⟨_, rfl⟩
      have hBA : Below wr.heap.size wr WA := by rw [hWA]; exact below_alloc _ _
      have hFA : FrI lo hi w WA := HFR.out.below hBA (by omega)
      have hrd := HKC WA (L ++ P.notes) P.upTo (HN.out.below HI.out hBA) (Below.refl _ _) HGK2.out (hkd.to (fun k hk => ⟨(hFA.1.block k hk), hk⟩))
      obtain ⟨p, hp⟩ : ∃ p, p = prtN l[j] P.upTo := ⟨_, rfl⟩
      rw [← hp] at hrd HNX HOKK
      have r0 : wr.cell? ⟨ga, oa + j * 3, none⟩ = some (.int .i64 yk) := (HFR.out.1.cell (p := ⟨ga, _, none⟩) hga).trans p0
      have r1 : wr.cell? ⟨ga, oa + j * 3 + 1, none⟩ = some (.int .i64 ys) := (HFR.out.1.cell (p := ⟨ga, _, none⟩) hga).trans p1
      have r2 : wr.cell? ⟨ga, oa + j * 3 + 2, none⟩ = some (.slice xa yl ka) := (HFR.out.1.cell (p := ⟨ga, _, none⟩) hga).trans p2
      obtain ⟨up, hup⟩ : ∃ x, x = P.upTo := ⟨_, rfl⟩
      obtain ⟨nl, hnl⟩ : ∃ x, x = P.null := ⟨_, rfl⟩
      rw [← hup] at HP hrd
      rw [← hnl] at HP
      have HUN : Hid (up = P.upTo ∧ nl = P.null) := ⟨hup, hnl⟩
      have q3 : wr.cell? ⟨w.heap.size + 1, 3, none⟩ = some (.int .i64 (up : Int)) := HP.out.c3
      have hga2 : ga < wr.heap.size := by have := hlh; omega
      have hj0 : (0 : Int) ≤ (j : Int) := by omega
      have hj1 : (j : Int) < (len : Int) := by omega
      have HPA : Hid (PBox WA (w.heap.size + 1) nl (.slice fa fn' fc) (.slice la ln lc) up) := HP.out.below hBA
      have HRA : Hid (PBox WA w.heap.size false (.slice none 0 0) (.slice none 0 0) 0) := HRB.out.below hBA
      have HFVA : Hid (LstAt hi WA (.slice fa fn' fc) P.first) := HFV.out.below hBA
      have HLVA : Hid (LstAt hi WA (.slice la ln lc) P.last) := HLV.out.below hBA
      have HFA : Hid (FrI lo hi w WA) := hFA
      have HSA : Hid (w.heap.size + 1 < WA.heap.size) := HPA.out.lt
      rw [hWA] at hrd
      clear hP hp hup hnl hza hcc p0 p1 p2 hkd HKC hyk hys hyl hBA hFA
      go_wp2_with fail
      refine hrd.mono ?_
      rintro e w1 ⟨pf, pl, rfl, hpf, hpl, hI1, hF1⟩
      rw [← hWA] at hF1
      obtain ⟨pa, pna, pc, rfl⟩ := hpf.any
      obtain ⟨qa, qn, qc, rfl⟩ := hpl.any
      obtain ⟨pu, hpu⟩ : ∃ x, x = p.upTo := ⟨_, rfl⟩
      obtain ⟨pn, hpn⟩ : ∃ x, x = p.null := ⟨_, rfl⟩
      have HPU : Hid (pu = p.upTo ∧ pn = p.null) := ⟨hpu, hpn⟩
      unfold prtV
      rw [← hpu, ← hpn]
      have hs1 : w.heap.size + 1 < w1.heap.size := Nat.lt_of_lt_of_le HSA.out hF1.size
      obtain ⟨W1, hW1⟩ : ∃ W, W = w1.alloc (.cells #[.bool pn, (.slice pa pna pc), (.slice qa qn qc), .int .i64 (pu : Int)] 57) := ⟨_, rfl⟩
      have hB1 : Below w1.heap.size w1 W1 := by rw [hW1]; exact below_alloc _ _
      have HQ1 : Hid (PBox W1 w1.heap.size pn (.slice pa pna pc) (.slice qa qn qc) pu) := by rw [hW1]; exact pbox_new _ _ _ _ _
      have HP1 : Hid (PBox W1 (w.heap.size + 1) nl (.slice fa fn' fc) (.slice la ln lc) up) := (HPA.out.fr hF1 (by omega)).below hB1
      have HR1 : Hid (PBox W1 w.heap.size false (.slice none 0 0) (.slice none 0 0) 0) := (HRA.out.fr hF1 (by omega)).below hB1
      have HFV1 : Hid (LstAt hi W1 (.slice fa fn' fc) P.first) := (HFVA.out.fr hF1).below hB1
      have HLV1 : Hid (LstAt hi W1 (.slice la ln lc) P.last) := (HLVA.out.fr hF1).below hB1
      have HPF1 : Hid (LstAt hi W1 (.slice pa pna pc) p.first) := hpf.below hB1
      have HPL1 : Hid (LstAt hi W1 (.slice qa qn qc) p.last) := hpl.below hB1
      have HF1 : Hid (FrI lo hi w W1) := (HFA.out.trans hF1).below hB1 (by omega)
      have HI1 : Hid (I W1 (L ++ P.notes ++ p.notes)) := HN.out.below hI1 hB1
      have hsW : W1.heap.size = w1.heap.size + 1 := by rw [hW1]; simp
      have HSW : Hid (W1.heap.size = w1.heap.size + 1) := hsW
      have hnt := HN.out.call W1 _ (.slice la ln lc) P.last (.slice pa pna pc) p.first HI1.out HLV1.out HPF1.out (HOK.out.1.last.wide (Nat.zero_le _) HOK.out.2.1) (HOKK.out.1.first.wide (Nat.zero_le _) HOKK.out.2)
      have t2 : W1.cell? ⟨w.heap.size + 1, 2, none⟩ = some (.slice la ln lc) := HP1.out.c2
      have t1 : W1.cell? ⟨w1.heap.size, 1, none⟩ = some (.slice pa pna pc) := HQ1.out.c1
      rw [hW1] at t1 t2 hnt
      clear hrd hpf hpl hI1 hF1 hB1 hWA hpu hpn hsW r0 r1 r2 q3
      go_wp2_with fail
      refine hnt.mono ?_
      rintro e w2 ⟨rfl, hI2, hF2⟩
      rw [← hW1] at hF2
      have HP2 : Hid (PBox w2 (w.heap.size + 1) nl (.slice fa fn' fc) (.slice la ln lc) up) := HP1.out.fr hF2 (by omega)
      have HQ2 : Hid (PBox w2 w1.heap.size pn (.slice pa pna pc) (.slice qa qn qc) pu) := HQ1.out.fr hF2 (by omega)
      have HR2 : Hid (PBox w2 w.heap.size false (.slice none 0 0) (.slice none 0 0) 0) := HR1.out.fr hF2 (by omega)
      have HFV2 : Hid (LstAt hi w2 (.slice fa fn' fc) P.first) := HFV1.out.fr hF2
      have HLV2 : Hid (LstAt hi w2 (.slice la ln lc) P.last) := HLV1.out.fr hF2
      have HPF2 : Hid (LstAt hi w2 (.slice pa pna pc) p.first) := HPF1.out.fr hF2
      have HPL2 : Hid (LstAt hi w2 (.slice qa qn qc) p.last) := HPL1.out.fr hF2
      have HF2 : Hid (FrI lo hi w w2) := HF1.out.trans hF2
      have HI2 : Hid (I w2 (L ++ (catS P p).notes)) := by
        have := hI2
        rw [List.append_assoc, List.append_assoc] at this
        rw [show (catS P p).notes = P.notes ++ (p.notes ++ [(P.last, p.first)]) from rfl]
        rw [← List.append_assoc, List.append_assoc, List.append_assoc] at *
        exact this
      have hs2 : w1.heap.size < w2.heap.size := HQ2.out.lt
      have HLE : Hid (P.first.length + p.first.length ≤ 100000 ∧ P.last.length + p.last.length ≤ 100000) := by
        have a1 := HOK.out.1.first.len HOK.out.1.up
        have a2 := HOKK.out.1.first.len HOKK.out.1.up
        have a3 := HOK.out.1.last.len HOK.out.1.up
        have a4 := HOKK.out.1.last.len HOKK.out.1.up
        have a5 := HOK.out.2.1
        have a6 := HOKK.out.2
        constructor <;> omega
      have HNN : Hid ((catS P p).null = (nl && pn) ∧ (catS P p).upTo = pu) := by
        constructor
        · rw [HUN.out.2, HPU.out.2]; rfl
        · rw [HPU.out.1]; rfl
      have b0 : w2.cell? ⟨w.heap.size + 1, 0, none⟩ = some (.bool nl) := HP2.out.c0
      clear hnt hI2 hF2 t1 t2 hW1
      cases nl with
      | true =>
        have b1 : w2.cell? ⟨w.heap.size + 1, 1, none⟩ = some (.slice fa fn' fc) := HP2.out.c1
        have b2 : w2.cell? ⟨w1.heap.size, 1, none⟩ = some (.slice pa pna pc) := HQ2.out.c1
        have hjn1 := pjoin_any (.slice fa fn' fc) (.slice pa pna pc) P.first p.first hi w2 HFV2.out HPF2.out (by have := HN.out.size _ _ HI2.out; omega) HLE.out.1
        go_wp2_with fail
        refine hjn1.mono ?_
        rintro e w3 ⟨v3, rfl, hv3, hB3⟩
        obtain ⟨ta, tn, tc, rfl⟩ := hv3.any
        have hP3 : PBox w3 (w.heap.size + 1) true (.slice fa fn' fc) (.slice la ln lc) up := HP2.out.below hB3
        have f1 : w3.frozen? ⟨w.heap.size + 1, 1, none⟩ = false := hP3.nf 1
        have f2 : w3.cell? ⟨w.heap.size + 1, 1, none⟩ = some (.slice fa fn' fc) := hP3.c1
        obtain ⟨w4, hw4⟩ : ∃ W, W = w3.setCell ⟨w.heap.size + 1, 1, none⟩ (.slice ta tn tc) := ⟨_, rfl⟩
        have hO4 : OnlyB (w.heap.size + 1) w3 w4 := by rw [hw4]; exact (OnlyB.refl _ _).set _ _
        have HP4 : Hid (PBox w4 (w.heap.size + 1) true (.slice ta tn tc) (.slice la ln lc) up) := by rw [hw4]; exact hP3.s1 _
        have HQ4 : Hid (PBox w4 w1.heap.size pn (.slice pa pna pc) (.slice qa qn qc) pu) := (HQ2.out.below hB3).only hO4 (by omega)
        have HR4 : Hid (PBox w4 w.heap.size false (.slice none 0 0) (.slice none 0 0) 0) := (HR2.out.below hB3).only hO4 (by omega)
        have HFS : Hid (LstAt hi w4 (.slice ta tn tc) (catS P p).first) := by
          have e : (catS P p).first = P.first ++ p.first := by show (if P.null then _ else _) = _; rw [← HUN.out.2]; rfl
          rw [e]; exact hv3.only hO4 hP3 (by decide)
        have HLV4 : Hid (LstAt hi w4 (.slice la ln lc) P.last) := (HLV2.out.below hB3).only hO4 hP3 (by decide)
        have HPL4 : Hid (LstAt hi w4 (.slice qa qn qc) p.last) := (HPL2.out.below hB3).only hO4 hP3 (by decide)
        have HF4 : Hid (FrI lo hi w w4) := (HF2.out.below hB3 (by have := HN.out.size _ _ HI2.out; omega)).only hO4 (by omega) (by omega)
        have HI4 : Hid (I w4 (L ++ (catS P p).notes)) := HN.out.only (HN.out.below HI2.out hB3) hO4 (by omega)
        have g0 : w4.cell? ⟨w1.heap.size, 0, none⟩ = some (.bool pn) := HQ4.out.c0
        rw [hw4] at g0
        clear hjn1 hv3 hB3 hP3 hO4 b0 b1 b2
        have HW4 : Hid (w4 = w3.setCell ⟨w.heap.size + 1, 1, none⟩ (.slice ta tn tc)) := hw4
        cases pn with
        | true =>
          have b2 : w4.cell? ⟨w.heap.size + 1, 2, none⟩ = some (.slice la ln lc) := HP4.out.c2
          have b3 : w4.cell? ⟨w1.heap.size, 2, none⟩ = some (.slice qa qn qc) := HQ4.out.c2
          have hjn2 := pjoin_any (.slice la ln lc) (.slice qa qn qc) P.last p.last hi w4 HLV4.out HPL4.out (by have := HN.out.size _ _ HI4.out; omega) HLE.out.2
          rw [hw4] at b2 b3 hjn2
          clear hw4
          go_wp2_with fail
          refine hjn2.mono ?_
          rintro e w5 ⟨v5, rfl, hv5, hB5⟩
          obtain ⟨sa, sn, sc, rfl⟩ := hv5.any
          rw [← HW4.out] at hB5
          have hQ5 : PBox w5 w1.heap.size true (.slice pa pna pc) (.slice qa qn qc) pu := HQ4.out.below hB5
          have f3 : w5.frozen? ⟨w1.heap.size, 2, none⟩ = false := hQ5.nf 2
          have f4 : w5.cell? ⟨w1.heap.size, 2, none⟩ = some (.slice qa qn qc) := hQ5.c2
          obtain ⟨w6, hw6⟩ : ∃ W, W = w5.setCell ⟨w1.heap.size, 2, none⟩ (.slice sa sn sc) := ⟨_, rfl⟩
          have hO6 : OnlyB w1.heap.size w5 w6 := by rw [hw6]; exact (OnlyB.refl _ _).set _ _
          have HQ6 : Hid (PBox w6 w1.heap.size true (.slice pa pna pc) (.slice sa sn sc) pu) := by rw [hw6]; exact hQ5.s2 _
          have HP6 : Hid (PBox w6 (w.heap.size + 1) true (.slice ta tn tc) (.slice la ln lc) up) := (HP4.out.below hB5).only hO6 (by omega)
          have HR6 : Hid (PBox w6 w.heap.size false (.slice none 0 0) (.slice none 0 0) 0) := (HR4.out.below hB5).only hO6 (by omega)
          have HFS6 : Hid (LstAt hi w6 (.slice ta tn tc) (catS P p).first) := (HFS.out.below hB5).only hO6 hQ5 (by decide)
          have HLS6 : Hid (LstAt hi w6 (.slice sa sn sc) (catS P p).last) := by
            have e : (catS P p).last = P.last ++ p.last := by show (if p.null then _ else _) = _; rw [← HPU.out.2]; rfl
            rw [e]; exact hv5.only hO6 hQ5 (by decide)
          have HF6 : Hid (FrI lo hi w w6) := (HF4.out.below hB5 (by have := HN.out.size _ _ HI4.out; omega)).only hO6 (by omega) (by omega)
          have HI6 : Hid (I w6 (L ++ (catS P p).notes)) := HN.out.only (HN.out.below HI4.out hB5) hO6 (by omega)
          have HW6 : Hid (w6 = w5.setCell ⟨w1.heap.size, 2, none⟩ (.slice sa sn sc)) := hw6
          clear hjn2 hv5 hB5 hQ5 hO6 b2 b3 g0 hw6
          have c1 : w6.cell? ⟨w1.heap.size, 2, none⟩ = some (.slice sa sn sc) := HQ6.out.c2
          have c2 : w6.cell? ⟨w1.heap.size, 3, none⟩ = some (.int .i64 (pu : Int)) := HQ6.out.c3
          have c3 : w6.cell? ⟨w.heap.size + 1, 2, none⟩ = some (.slice la ln lc) := HP6.out.c2
          have c4 : w6.cell? ⟨w.heap.size + 1, 3, none⟩ = some (.int .i64 (up : Int)) := HP6.out.c3
          have c5 : w6.frozen? ⟨w.heap.size + 1, 2, none⟩ = false := HP6.out.nf 2
          have c6 : w6.frozen? ⟨w.heap.size + 1, 3, none⟩ = false := HP6.out.nf 3
          have c7 : w6.cell? ⟨w.heap.size + 1, 0, none⟩ = some (.bool true) := HP6.out.c0
          have c8 : w6.frozen? ⟨w.heap.size + 1, 0, none⟩ = false := HP6.out.nf 0
          have c9 : w6.cell? ⟨w1.heap.size, 0, none⟩ = some (.bool true) := HQ6.out.c0
          have hs6 : w1.heap.size < w6.heap.size := HQ6.out.lt
          have hne : ¬ w1.heap.size = w.heap.size + 1 := by omega
          have HFIN : Hid (∀ wF, OnlyB (w.heap.size + 1) w6 wF → PBox wF (w.heap.size + 1) true (.slice ta tn tc) (.slice sa sn sc) pu → Hid (PBox wF (w.heap.size + 1) (catL (l.take (j + 1)) (cat0 c)).null (.slice ta tn tc) (.slice sa sn sc) (catL (l.take (j + 1)) (cat0 c)).upTo) ∧ Hid (LstAt hi wF (.slice ta tn tc) (catL (l.take (j + 1)) (cat0 c)).first) ∧ Hid (LstAt hi wF (.slice sa sn sc) (catL (l.take (j + 1)) (cat0 c)).last) ∧ Hid (I wF (L ++ (catL (l.take (j + 1)) (cat0 c)).notes)) ∧ Hid (FrI lo hi w wF) ∧ Hid (PBox wF w.heap.size false (.slice none 0 0) (.slice none 0 0) 0)) := fun wF hO hPB => by
            rw [HNX.out]
            refine ⟨?_, HFS6.out.only hO HP6.out (by decide), HLS6.out.only hO HP6.out (by decide), HN.out.only HI6.out hO (by omega), HF6.out.only hO (by omega) (by omega), HR6.out.only hO (by omega)⟩
            rw [HNN.out.1, HNN.out.2]
            exact hPB
          have HO6 : Hid (OnlyB (w.heap.size + 1) w6 w6) := OnlyB.refl _ _
          go_wp2_with fail
          rw [← HW6.out]
          clear HW6 HW4
          go_region
          all_goals (
            go_wp2
            go_roundw
            case rel => exact ⟨j + 1, (.slice ta tn tc), (.slice sa sn sc), by omega, by go_num, HFIN.out _ (by first | exact ((((OnlyB.refl _ _).set _ _).set _ _).drew.set _ _) | exact (((((OnlyB.refl _ _).set _ _).set _ _).set _ _).drew)) (by first | exact ((((HP6.out.s2 _).s3 _).dr).s0 _) | exact ((((HP6.out.s3 _).s2 _).dr).s0 _) | exact ((((HP6.out.s2 _).s3 _).s0 _).dr) | exact ((((HP6.out.s3 _).s2 _).s0 _).dr))⟩
            case measure => simp [intOf]; omega)
        | false =>
          obtain ⟨w6, hw6⟩ : ∃ W, W = w4 := ⟨_, rfl⟩
          have HQ6 : Hid (PBox w6 w1.heap.size false (.slice pa pna pc) (.slice qa qn qc) pu) := by rw [hw6]; exact HQ4.out
          have HP6 : Hid (PBox w6 (w.heap.size + 1) true (.slice ta tn tc) (.slice la ln lc) up) := by rw [hw6]; exact HP4.out
          have HR6 : Hid (PBox w6 w.heap.size false (.slice none 0 0) (.slice none 0 0) 0) := by rw [hw6]; exact HR4.out
          have HFS6 : Hid (LstAt hi w6 (.slice ta tn tc) (catS P p).first) := by rw [hw6]; exact HFS.out
          have HLS6 : Hid (LstAt hi w6 (.slice qa qn qc) (catS P p).last) := by
            have e : (catS P p).last = p.last := by show (if p.null then _ else _) = _; rw [← HPU.out.2]; rfl
            rw [e, hw6]; exact HPL4.out
          have HF6 : Hid (FrI lo hi w w6) := by rw [hw6]; exact HF4.out
          have HI6 : Hid (I w6 (L ++ (catS P p).notes)) := by rw [hw6]; exact HI4.out
          have HW6 : Hid (w6 = w3.setCell ⟨w.heap.size + 1, 1, none⟩ (.slice ta tn tc)) := by rw [hw6]; exact HW4
          have hs5 : w1.heap.size < w4.heap.size := HQ4.out.lt
          clear hw6
          rw [HW4.out] at hs5
          clear hw4
          have c1 : w6.cell? ⟨w1.heap.size, 2, none⟩ = some (.slice qa qn qc) := HQ6.out.c2
          have c2 : w6.cell? ⟨w1.heap.size, 3, none⟩ = some (.int .i64 (pu : Int)) := HQ6.out.c3
          have c3 : w6.cell? ⟨w.heap.size + 1, 2, none⟩ = some (.slice la ln lc) := HP6.out.c2
          have c4 : w6.cell? ⟨w.heap.size + 1, 3, none⟩ = some (.int .i64 (up : Int)) := HP6.out.c3
          have c5 : w6.frozen? ⟨w.heap.size + 1, 2, none⟩ = false := HP6.out.nf 2
          have c6 : w6.frozen? ⟨w.heap.size + 1, 3, none⟩ = false := HP6.out.nf 3
          have c7 : w6.cell? ⟨w.heap.size + 1, 0, none⟩ = some (.bool true) := HP6.out.c0
          have c8 : w6.frozen? ⟨w.heap.size + 1, 0, none⟩ = false := HP6.out.nf 0
          have c9 : w6.cell? ⟨w1.heap.size, 0, none⟩ = some (.bool false) := HQ6.out.c0
          have hs6 : w1.heap.size < w6.heap.size := HQ6.out.lt
          have hne : ¬ w1.heap.size = w.heap.size + 1 := by omega
          have HFIN : Hid (∀ wF, OnlyB (w.heap.size + 1) w6 wF → PBox wF (w.heap.size + 1) false (.slice ta tn tc) (.slice qa qn qc) pu → Hid (PBox wF (w.heap.size + 1) (catL (l.take (j + 1)) (cat0 c)).null (.slice ta tn tc) (.slice qa qn qc) (catL (l.take (j + 1)) (cat0 c)).upTo) ∧ Hid (LstAt hi wF (.slice ta tn tc) (catL (l.take (j + 1)) (cat0 c)).first) ∧ Hid (LstAt hi wF (.slice qa qn qc) (catL (l.take (j + 1)) (cat0 c)).last) ∧ Hid (I wF (L ++ (catL (l.take (j + 1)) (cat0 c)).notes)) ∧ Hid (FrI lo hi w wF) ∧ Hid (PBox wF w.heap.size false (.slice none 0 0) (.slice none 0 0) 0)) := fun wF hO hPB => by
            rw [HNX.out]
            refine ⟨?_, HFS6.out.only hO HP6.out (by decide), HLS6.out.only hO HP6.out (by decide), HN.out.only HI6.out hO (by omega), HF6.out.only hO (by omega) (by omega), HR6.out.only hO (by omega)⟩
            rw [HNN.out.1, HNN.out.2]
            exact hPB
          have HO6 : Hid (OnlyB (w.heap.size + 1) w6 w6) := OnlyB.refl _ _
          go_wp2_with fail
          rw [← HW6.out]
          clear HW6 HW4
          go_region
          all_goals (
            go_wp2
            go_roundw
            case rel => exact ⟨j + 1, (.slice ta tn tc), (.slice qa qn qc), by omega, by go_num, HFIN.out _ (by first | exact ((((OnlyB.refl _ _).set _ _).set _ _).drew.set _ _) | exact (((((OnlyB.refl _ _).set _ _).set _ _).set _ _).drew)) (by first | exact ((((HP6.out.s2 _).s3 _).dr).s0 _) | exact ((((HP6.out.s3 _).s2 _).dr).s0 _) | exact ((((HP6.out.s2 _).s3 _).s0 _).dr) | exact ((((HP6.out.s3 _).s2 _).s0 _).dr))⟩
            case measure => simp [intOf]; omega)
      | false =>
        obtain ⟨w4, hw4⟩ : ∃ W, W = w2 := ⟨_, rfl⟩
        have HP4 : Hid (PBox w4 (w.heap.size + 1) false (.slice fa fn' fc) (.slice la ln lc) up) := by rw [hw4]; exact HP2.out
        have HQ4 : Hid (PBox w4 w1.heap.size pn (.slice pa pna pc) (.slice qa qn qc) pu) := by rw [hw4]; exact HQ2.out
        have HR4 : Hid (PBox w4 w.heap.size false (.slice none 0 0) (.slice none 0 0) 0) := by rw [hw4]; exact HR2.out
        have HFS : Hid (LstAt hi w4 (.slice fa fn' fc) (catS P p).first) := by
          have e : (catS P p).first = P.first := by show (if P.null then _ else _) = _; rw [← HUN.out.2]; rfl
          rw [e, hw4]; exact HFV2.out
        have HLV4 : Hid (LstAt hi w4 (.slice la ln lc) P.last) := by rw [hw4]; exact HLV2.out
        have HPL4 : Hid (LstAt hi w4 (.slice qa qn qc) p.last) := by rw [hw4]; exact HPL2.out
        have HF4 : Hid (FrI lo hi w w4) := by rw [hw4]; exact HF2.out
        have HI4 : Hid (I w4 (L ++ (catS P p).notes)) := by rw [hw4]; exact HI2.out
        have g0 : w2.cell? ⟨w1.heap.size, 0, none⟩ = some (.bool pn) := HQ2.out.c0
        have HW4 : Hid (w4 = w2) := hw4
        cases pn with
        | true =>
          have b2 : w4.cell? ⟨w.heap.size + 1, 2, none⟩ = some (.slice la ln lc) := HP4.out.c2
          have b3 : w4.cell? ⟨w1.heap.size, 2, none⟩ = some (.slice qa qn qc) := HQ4.out.c2
          have hjn2 := pjoin_any (.slice la ln lc) (.slice qa qn qc) P.last p.last hi w4 HLV4.out HPL4.out (by have := HN.out.size _ _ HI4.out; omega) HLE.out.2
          rw [hw4] at b2 b3 hjn2
          clear hw4
          go_wp2_with fail
          refine hjn2.mono ?_
          rintro e w5 ⟨v5, rfl, hv5, hB5⟩
          obtain ⟨sa, sn, sc, rfl⟩ := hv5.any
          rw [← HW4.out] at hB5
          have hQ5 : PBox w5 w1.heap.size true (.slice pa pna pc) (.slice qa qn qc) pu := HQ4.out.below hB5
          have f3 : w5.frozen? ⟨w1.heap.size, 2, none⟩ = false := hQ5.nf 2
          have f4 : w5.cell? ⟨w1.heap.size, 2, none⟩ = some (.slice qa qn qc) := hQ5.c2
          obtain ⟨w6, hw6⟩ : ∃ W, W = w5.setCell ⟨w1.heap.size, 2, none⟩ (.slice sa sn sc) := ⟨_, rfl⟩
          have hO6 : OnlyB w1.heap.size w5 w6 := by rw [hw6]; exact (OnlyB.refl _ _).set _ _
          have HQ6 : Hid (PBox w6 w1.heap.size true (.slice pa pna pc) (.slice sa sn sc) pu) := by rw [hw6]; exact hQ5.s2 _
          have HP6 : Hid (PBox w6 (w.heap.size + 1) false (.slice fa fn' fc) (.slice la ln lc) up) := (HP4.out.below hB5).only hO6 (by omega)
          have HR6 : Hid (PBox w6 w.heap.size false (.slice none 0 0) (.slice none 0 0) 0) := (HR4.out.below hB5).only hO6 (by omega)
          have HFS6 : Hid (LstAt hi w6 (.slice fa fn' fc) (catS P p).first) := (HFS.out.below hB5).only hO6 hQ5 (by decide)
          have HLS6 : Hid (LstAt hi w6 (.slice sa sn sc) (catS P p).last) := by
            have e : (catS P p).last = P.last ++ p.last := by show (if p.null then _ else _) = _; rw [← HPU.out.2]; rfl
            rw [e]; exact hv5.only hO6 hQ5 (by decide)
          have HF6 : Hid (FrI lo hi w w6) := (HF4.out.below hB5 (by have := HN.out.size _ _ HI4.out; omega)).only hO6 (by omega) (by omega)
          have HI6 : Hid (I w6 (L ++ (catS P p).notes)) := HN.out.only (HN.out.below HI4.out hB5) hO6 (by omega)
          have HW6 : Hid (w6 = w5.setCell ⟨w1.heap.size, 2, none⟩ (.slice sa sn sc)) := hw6
          clear hjn2 hv5 hB5 hQ5 hO6 b2 b3 g0 hw6
          have c1 : w6.cell? ⟨w1.heap.size, 2, none⟩ = some (.slice sa sn sc) := HQ6.out.c2
          have c2 : w6.cell? ⟨w1.heap.size, 3, none⟩ = some (.int .i64 (pu : Int)) := HQ6.out.c3
          have c3 : w6.cell? ⟨w.heap.size + 1, 2, none⟩ = some (.slice la ln lc) := HP6.out.c2
          have c4 : w6.cell? ⟨w.heap.size + 1, 3, none⟩ = some (.int .i64 (up : Int)) := HP6.out.c3
          have c5 : w6.frozen? ⟨w.heap.size + 1, 2, none⟩ = false := HP6.out.nf 2
          have c6 : w6.frozen? ⟨w.heap.size + 1, 3, none⟩ = false := HP6.out.nf 3
          have c7 : w6.cell? ⟨w.heap.size + 1, 0, none⟩ = some (.bool false) := HP6.out.c0
          have c8 : w6.frozen? ⟨w.heap.size + 1, 0, none⟩ = false := HP6.out.nf 0
          have c9 : w6.cell? ⟨w1.heap.size, 0, none⟩ = some (.bool true) := HQ6.out.c0
          have hs6 : w1.heap.size < w6.heap.size := HQ6.out.lt
          have hne : ¬ w1.heap.size = w.heap.size + 1 := by omega
          have HFIN : Hid (∀ wF, OnlyB (w.heap.size + 1) w6 wF → PBox wF (w.heap.size + 1) false (.slice fa fn' fc) (.slice sa sn sc) pu → Hid (PBox wF (w.heap.size + 1) (catL (l.take (j + 1)) (cat0 c)).null (.slice fa fn' fc) (.slice sa sn sc) (catL (l.take (j + 1)) (cat0 c)).upTo) ∧ Hid (LstAt hi wF (.slice fa fn' fc) (catL (l.take (j + 1)) (cat0 c)).first) ∧ Hid (LstAt hi wF (.slice sa sn sc) (catL (l.take (j + 1)) (cat0 c)).last) ∧ Hid (I wF (L ++ (catL (l.take (j + 1)) (cat0 c)).notes)) ∧ Hid (FrI lo hi w wF) ∧ Hid (PBox wF w.heap.size false (.slice none 0 0) (.slice none 0 0) 0)) := fun wF hO hPB => by
            rw [HNX.out]
            refine ⟨?_, HFS6.out.only hO HP6.out (by decide), HLS6.out.only hO HP6.out (by decide), HN.out.only HI6.out hO (by omega), HF6.out.only hO (by omega) (by omega), HR6.out.only hO (by omega)⟩
            rw [HNN.out.1, HNN.out.2]
            exact hPB
          have HO6 : Hid (OnlyB (w.heap.size + 1) w6 w6) := OnlyB.refl _ _
          go_wp2_with fail
          rw [← HW6.out]
          clear HW6 HW4
          go_region
          all_goals (
            go_wp2
            go_roundw
            case rel => exact ⟨j + 1, (.slice fa fn' fc), (.slice sa sn sc), by omega, by go_num, HFIN.out _ (by first | exact ((((OnlyB.refl _ _).set _ _).set _ _).drew.set _ _) | exact (((((OnlyB.refl _ _).set _ _).set _ _).set _ _).drew)) (by first | exact ((((HP6.out.s2 _).s3 _).dr).s0 _) | exact ((((HP6.out.s3 _).s2 _).dr).s0 _) | exact ((((HP6.out.s2 _).s3 _).s0 _).dr) | exact ((((HP6.out.s3 _).s2 _).s0 _).dr))⟩
            case measure => simp [intOf]; omega)
        | false =>
          obtain ⟨w6, hw6⟩ : ∃ W, W = w4 := ⟨_, rfl⟩
          have HQ6 : Hid (PBox w6 w1.heap.size false (.slice pa pna pc) (.slice qa qn qc) pu) := by rw [hw6]; exact HQ4.out
          have HP6 : Hid (PBox w6 (w.heap.size + 1) false (.slice fa fn' fc) (.slice la ln lc) up) := by rw [hw6]; exact HP4.out
          have HR6 : Hid (PBox w6 w.heap.size false (.slice none 0 0) (.slice none 0 0) 0) := by rw [hw6]; exact HR4.out
          have HFS6 : Hid (LstAt hi w6 (.slice fa fn' fc) (catS P p).first) := by rw [hw6]; exact HFS.out
          have HLS6 : Hid (LstAt hi w6 (.slice qa qn qc) (catS P p).last) := by
            have e : (catS P p).last = p.last := by show (if p.null then _ else _) = _; rw [← HPU.out.2]; rfl
            rw [e, hw6]; exact HPL4.out
          have HF6 : Hid (FrI lo hi w w6) := by rw [hw6]; exact HF4.out
          have HI6 : Hid (I w6 (L ++ (catS P p).notes)) := by rw [hw6]; exact HI4.out
          have HW6 : Hid (w6 = w2) := by rw [hw6]; exact HW4
          have hs5 : w1.heap.size < w4.heap.size := HQ4.out.lt
          clear hw6
          rw [HW4.out] at hs5
          clear hw4
          have c1 : w6.cell? ⟨w1.heap.size, 2, none⟩ = some (.slice qa qn qc) := HQ6.out.c2
          have c2 : w6.cell? ⟨w1.heap.size, 3, none⟩ = some (.int .i64 (pu : Int)) := HQ6.out.c3
          have c3 : w6.cell? ⟨w.heap.size + 1, 2, none⟩ = some (.slice la ln lc) := HP6.out.c2
          have c4 : w6.cell? ⟨w.heap.size + 1, 3, none⟩ = some (.int .i64 (up : Int)) := HP6.out.c3
          have c5 : w6.frozen? ⟨w.heap.size + 1, 2, none⟩ = false := HP6.out.nf 2
          have c6 : w6.frozen? ⟨w.heap.size + 1, 3, none⟩ = false := HP6.out.nf 3
          have c7 : w6.cell? ⟨w.heap.size + 1, 0, none⟩ = some (.bool false) := HP6.out.c0
          have c8 : w6.frozen? ⟨w.heap.size + 1, 0, none⟩ = false := HP6.out.nf 0
          have c9 : w6.cell? ⟨w1.heap.size, 0, none⟩ = some (.bool false) := HQ6.out.c0
          have hs6 : w1.heap.size < w6.heap.size := HQ6.out.lt
          have hne : ¬ w1.heap.size = w.heap.size + 1 := by omega
          have HFIN : Hid (∀ wF, OnlyB (w.heap.size + 1) w6 wF → PBox wF (w.heap.size + 1) false (.slice fa fn' fc) (.slice qa qn qc) pu → Hid (PBox wF (w.heap.size + 1) (catL (l.take (j + 1)) (cat0 c)).null (.slice fa fn' fc) (.slice qa qn qc) (catL (l.take (j + 1)) (cat0 c)).upTo) ∧ Hid (LstAt hi wF (.slice fa fn' fc) (catL (l.take (j + 1)) (cat0 c)).first) ∧ Hid (LstAt hi wF (.slice qa qn qc) (catL (l.take (j + 1)) (cat0 c)).last) ∧ Hid (I wF (L ++ (catL (l.take (j + 1)) (cat0 c)).notes)) ∧ Hid (FrI lo hi w wF) ∧ Hid (PBox wF w.heap.size false (.slice none 0 0) (.slice none 0 0) 0)) := fun wF hO hPB => by
            rw [HNX.out]
            refine ⟨?_, HFS6.out.only hO HP6.out (by decide), HLS6.out.only hO HP6.out (by decide), HN.out.only HI6.out hO (by omega), HF6.out.only hO (by omega) (by omega), HR6.out.only hO (by omega)⟩
            rw [HNN.out.1, HNN.out.2]
            exact hPB
          have HO6 : Hid (OnlyB (w.heap.size + 1) w6 w6) := OnlyB.refl _ _
          go_wp2_with fail
          rw [← HW6.out]
          clear HW6 HW4
          go_region
          all_goals (
            go_wp2
            go_roundw
            case rel => exact ⟨j + 1, (.slice fa fn' fc), (.slice qa qn qc), by omega, by go_num, HFIN.out _ (by first | exact ((((OnlyB.refl _ _).set _ _).set _ _).drew.set _ _) | exact (((((OnlyB.refl _ _).set _ _).set _ _).set _ _).drew)) (by first | exact ((((HP6.out.s2 _).s3 _).dr).s0 _) | exact ((((HP6.out.s3 _).s2 _).dr).s0 _) | exact ((((HP6.out.s2 _).s3 _).s0 _).dr) | exact ((((HP6.out.s3 _).s2 _).s0 _).dr))⟩
            case measure => simp [intOf]; omega)
    · obtain rfl : j = len := by omega
      have HEQ : Hid (l.take j = l) := List.take_of_length_le (by rw [← HLEN.out]; exact Nat.le_refl _)
      obtain ⟨P, hP⟩ : ∃ P, P = catL l (cat0 c) := ⟨_, rfl⟩
      rw [HEQ.out, ← hP] at HP HFV HLV HI
      have HPP : Hid (P = catL l (cat0 c)) := hP
      have d0 : wr.cell? ⟨w.heap.size + 1, 0, none⟩ = some (.bool P.null) := HP.out.c0
      have d1 : wr.cell? ⟨w.heap.size + 1, 1, none⟩ = some (.slice fa fn' fc) := HP.out.c1
      have d2 : wr.cell? ⟨w.heap.size + 1, 2, none⟩ = some (.slice la ln lc) := HP.out.c2
      have d3 : wr.cell? ⟨w.heap.size + 1, 3, none⟩ = some (.int .i64 (P.upTo : Int)) := HP.out.c3
      have e0 : wr.cell? ⟨w.heap.size, 0, none⟩ = some (.bool false) := HRB.out.c0
      have e1 : wr.cell? ⟨w.heap.size, 1, none⟩ = some (.slice none 0 0) := HRB.out.c1
      have e2 : wr.cell? ⟨w.heap.size, 2, none⟩ = some (.slice none 0 0) := HRB.out.c2
      have e3 : wr.cell? ⟨w.heap.size, 3, none⟩ = some (.int .i64 0) := HRB.out.c3
      have f0 : wr.frozen? ⟨w.heap.size, 0, none⟩ = false := HRB.out.nf 0
      have f1 : wr.frozen? ⟨w.heap.size, 1, none⟩ = false := HRB.out.nf 1
      have f2 : wr.frozen? ⟨w.heap.size, 2, none⟩ = false := HRB.out.nf 2
      have f3 : wr.frozen? ⟨w.heap.size, 3, none⟩ = false := HRB.out.nf 3
      have HQ : Hid (OnlyB w.heap.size wr ((((wr.setCell ⟨w.heap.size, 0, none⟩ (.bool P.null)).setCell ⟨w.heap.size, 1, none⟩ (.slice fa fn' fc)).setCell ⟨w.heap.size, 2, none⟩ (.slice la ln lc)).setCell ⟨w.heap.size, 3, none⟩ (.int .i64 (P.upTo : Int)))) := ((((OnlyB.refl _ _).set _ _).set _ _).set _ _).set _ _
      have HX : Hid (PBox ((((wr.setCell ⟨w.heap.size, 0, none⟩ (.bool P.null)).setCell ⟨w.heap.size, 1, none⟩ (.slice fa fn' fc)).setCell ⟨w.heap.size, 2, none⟩ (.slice la ln lc)).setCell ⟨w.heap.size, 3, none⟩ (.int .i64 (P.upTo : Int))) w.heap.size P.null (.slice fa fn' fc) (.slice la ln lc) P.upTo) := (((HRB.out.s0 _).s1 _).s2 _).s3 _
      clear hP
      go_wp2
      refine bodyPost_ret (results_cell_row rfl _ _ w.heap.size 57 #[.bool P.null, (.slice fa fn' fc), (.slice la ln lc), .int .i64 (P.upTo : Int)] (0, 0) _ rfl ?_ Tryz.underlying57 rfl (by kernel_rfl)) rfl ?_
      · exact HX.out
      · rw [← HPP.out]
        exact ⟨(.slice fa fn' fc), (.slice la ln lc), rfl, HFV.out.only HQ.out HRB.out (by decide), HLV.out.only HQ.out HRB.out (by decide), HN.out.only HI.out HQ.out (by omega), HFR.out.only HQ.out (Nat.le_refl _) (by omega)⟩
end Go.Proofs.YtklhjjgnhigbiaaGreatDoor
