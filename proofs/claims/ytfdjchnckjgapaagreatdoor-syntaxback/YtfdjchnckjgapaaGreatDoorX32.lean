/-
  What place, signed, ends and begins of the document's reader answer. What the document's Make answers. Expressions that were parsed have few parts; texts have few tokens. Plain mathematics.
-/
import Derived.Test.YtfdjchnckjgapaaGreatDoorX31
import Derived.Test.YtfdjchnckjgapaaGreatDoorX24
import Derived.Test.YtfdjchnckjgapaaGreatDoorX29
import Derived.Test.YtfdjchnckjgapaaGreatDoorX30
namespace Go.Proofs.YtfdjchnckjgapaaGreatDoor
open Go.RowKit Go.Shelf S1
set_option linter.unusedVariables false

/-- What the document's place tells. -/
def RPlA (c : Pc) (X : Nat → Prop) (P : Nat) (ts : List Tok) (st : Sts) (o : Option (Nat × Sts)) (w : World) (e : Ending) (w' : World) : Prop :=
  Fr w.heap.size P w w' ∧ ((o = none ∧ e = .returned (.int .i64 0) ∧ Pa c X P w' ts st 3) ∨ ∃ i st', o = some (i, st') ∧ e = .returned (.int .i64 ((i : Nat) : Int)) ∧ Pa c X P w' ts st' 0)

set_option maxRecDepth 100000 in
set_option maxHeartbeats 8000000 in
theorem rplace_any (c : Pc) (X : Nat → Prop) (P : Nat) (w : World) (ts : List Tok) (st : Sts) (hpa : Pa c X P w ts st 0) (v : Value) (s : List Rg) (hv : RngS (Im X w P) w v s) (hs : IsSet s) :
    Calls Tryz.prog 151 #[.pointer (some ⟨P, 0, none⟩), v] w fun e w' => RPlA c X P ts st (placeM st s) w e w' := by
  obtain ⟨i0, hi0, hz0, hz1, hz2⟩ := info_parts Tryz.infoSet8
  obtain ⟨va, vc, rfl⟩ := hv.slice
  obtain ⟨o, ho⟩ : ∃ o, o = placeM st s := ⟨_, rfl⟩
  rw [← ho]
  have HO : Hid (o = placeM st s) := ho
  have HPA : Hid (Pa c X P w ts st 0) := hpa
  have HV : Hid (RngS (Im X w P) w (.slice va s.length vc) s) := hv
  have HS : Hid (IsSet s) := hs
  have HI0 : Hid (idxS s st = (idxS s (st.drop 0)).map (· + 0)) := by show _ = _; simp
  clear ho hpa hv hs
  go_enter Tryz.func151, Tryz.ntmps151
  go_wp2
  go_loopw [5] (fun i wr => ∃ k : Nat, k ≤ st.length ∧ i = .int .i64 k ∧ Hid (idxS s st = (idxS s (st.drop k)).map (· + k)) ∧ Below w.heap.size w wr) (fun i _ => st.length - (intOf i).toNat)
  case atStart => exact ⟨0, Nat.zero_le _, rfl, HI0, Below.refl _ _⟩
  case round =>
    obtain ⟨k, hk, rfl, HD, hB⟩ := hrel
    have HP1 : Hid (Pa c X P wr ts st 0) := HPA.out.below hB
    have HB : Hid (Below w.heap.size w wr) := hB
    have HV1 : Hid (RngS (Im X wr P) wr (.slice va s.length vc) s) := HV.out.fr (HPA.out.fr hB)
    obtain ⟨ad, cap, vs, c3, f3, hcp, hl60, hown, hss, hbP, hnP, hix⟩ := HP1.out.sets
    have hPl := HP1.out.lt
    by_cases hlt : k < st.length
    · obtain ⟨g, off, x, rfl, hg, hc, hx, hi⟩ := hix k hlt
      have h1 := sameG_any st[k] s (by have := hi.len; omega) x (.slice va s.length vc) wr hx (HV1.out.rng (fun k hk => hk.1))
      obtain ⟨xa, xc, rfl, _⟩ := hx
      have hk0 : (0 : Int) ≤ (k : Int) := by omega
      have hk1 : (k : Int) < (st.length : Int) := by omega
      have HD2 := idxS_drop (s := s) hlt
      have HD3 : Hid (idxS s (st.drop k) = if sameS st[k] s = true then some 0 else (idxS s (st.drop (k + 1))).map (· + 1)) := HD2
      clear HD2 hown hss hix hnP hbP hB
      cases hq : sameS st[k] s with
      | true =>
        rw [hq] at h1
        have HE : Hid (o = some (k, st)) := by
          show _ = _
          rw [HO.out]; unfold placeM; rw [HD.out, HD3.out, hq]; simp
        clear HD HD3
        go_wp2_with fail
        refine h1.mono ?_
        rintro e w1 ⟨rfl, hB1⟩
        clear h1
        go_wp2
        go_ret
        have hB2 := below_after HB.out hB1
        exact ⟨HPA.out.fr hB2, .inr ⟨k, st, HE.out, rfl, HPA.out.below hB2⟩⟩
      | false =>
        rw [hq] at h1
        have HE : Hid (idxS s st = (idxS s (st.drop (k + 1))).map (· + (k + 1))) := by
          show _ = _
          rw [HD.out, HD3.out, hq]
          simp only [Bool.false_eq_true, if_false, Option.map_map]
          congr 1
          funext j
          simp; omega
        clear HD HD3
        go_wp2_with fail
        refine h1.mono ?_
        rintro e w1 ⟨rfl, hB1⟩
        clear h1
        go_wp2
        go_roundw
        case rel => exact ⟨k + 1, by omega, by go_num, HE, below_after HB.out hB1⟩
        case measure => simp [intOf]; omega
    · obtain rfl : k = st.length := by omega
      have HIX : Hid (idxS s st = none) := by
        show _ = _
        rw [HD.out, List.drop_length]; rfl
      by_cases h60 : st.length = 60
      · have h60' : decide ((st.length : Int) ≥ 60) = true := by simp; omega
        have HE : Hid (o = none) := by
          show _ = _
          rw [HO.out]; unfold placeM; rw [HIX.out]; simp [h60]
        have h2 := fail_any c X P wr st 0 HP1.out 3 (by decide)
        clear hown hss hix h60 HD hB
        go_wp2_with fail
        refine h2.mono ?_
        rintro e w2 ⟨rfl, hp2, hf2⟩
        clear h2
        go_wp2
        go_ret
        have hfr := HPA.out.fr HB.out
        exact ⟨hfr.then hf2 hfr.size, .inl ⟨HE.out, rfl, hp2⟩⟩
      · have h60' : decide ((st.length : Int) ≥ 60) = false := by simp; omega
        have HE : Hid (o = some (st.length, st ++ [s])) := by
          show _ = _
          rw [HO.out]; unfold placeM; rw [HIX.out]; simp [h60]
        have HOW : Hid (wr.ownsRow c.base 43 1 (.slice ad st.length cap) st.length vs) := hown
        have HSS : Hid (SetsS (Im X wr P) wr vs st) := hss
        have HNP : Hid ((Value.slice ad st.length cap).ownBlock ≠ some P) := hnP
        have HLT : Hid (st.length < 60) := by show _ < _; omega
        clear hown hss hix h60 hnP HD hB
        have HC3 : Hid ((wr.alloc (.cells #[.slice va s.length vc] 43)).cell? ⟨P, 3, none⟩ = some (.slice ad st.length cap)) := ((below_alloc wr (.cells #[.slice va s.length vc] 43)).cell (p := ⟨P, 3, none⟩) hPl).trans c3
        have HF3 : Hid ((wr.alloc (.cells #[.slice va s.length vc] 43)).frozen? ⟨P, 3, none⟩ = false) := (World.frozen?_of_block (a := ⟨P, 3, none⟩) ((below_alloc wr (.cells #[.slice va s.length vc] 43)).block P hPl)).trans f3
        have HOW4 : Hid ((wr.alloc (.cells #[.slice va s.length vc] 43)).ownsRow c.base 43 1 (.slice ad st.length cap) st.length vs) := HOW.out.alloc _
        have HN4 : Hid ((wr.alloc (.cells #[.slice va s.length vc] 43)).heap[wr.heap.size]? = some (.cells #[.slice va s.length vc] 43 (0, 0))) := heap_new' _ _
        have hbs : c.base ≤ wr.heap.size := by omega
        go_wp2_with (at_builtin; go_must (refine wpList_append_lies _ rfl (.tmp 43) (.tmp 45) 24 rfl c.base 43 i0 (.slice none 0 0) 1 24 Tryz.underlying24 hi0 hz0 hz1 hz2 rfl (by decide) _ _ _ rfl HOW4.out ⟨wr.heap.size, 0, none⟩ 1 1 [.slice va s.length vc] rfl rfl (World.news_of_block HN4.out) (by simp [Value.oneCell']) (by omega) (by unfold maxLen; omega) (by omega) (by simp; omega) _ rfl ?_); intro g cap2 w2 hown2 hgrow2 hat2 hlt2; refine Hid.out ?_)
        refine Lib.hid ?_
        have c32 : w2.cell? ⟨P, 3, none⟩ = some (.slice ad st.length cap) := hgrow2.cell HC3.out (Ne.symm HNP.out)
        have f32 : w2.frozen? ⟨P, 3, none⟩ = false := (World.frozen?_of_block (a := ⟨P, 3, none⟩) (hgrow2.block P (by simp; omega) (Ne.symm HNP.out))).trans HF3.out
        have hsz2 := hgrow2.size
        rw [show (wr.alloc (.cells #[.slice va s.length vc] 43)).heap.size = wr.heap.size + 1 by simp] at hat2 hsz2
        have HFIN : Hid (Pa c X P (w2.setCell ⟨P, 3, none⟩ (.slice (some ⟨g, 0, none⟩) (st.length + 1) cap2)) ts (st ++ [s]) 0 ∧ Fr wr.heap.size P wr (w2.setCell ⟨P, 3, none⟩ (.slice (some ⟨g, 0, none⟩) (st.length + 1) cap2))) :=
          HP1.out.placed c3 HSS.out HLT.out HV1.out HS.out (by omega) hown2 (fun k hk hne => (hgrow2.block k (by simp; omega) (Ne.symm hne)).trans ((below_alloc wr _).block k hk)) (fun j hj => by
            obtain rfl : g = j := by simpa [Value.ownBlock] using hj
            rcases hat2 with q | q
            · exact .inl q
            · exact .inr (by omega)) hgrow2.os hgrow2.tape hgrow2.output
        have hPl2 : P < w2.heap.size := by omega
        clear hown2 hgrow2 hat2 HC3 HF3 HOW HOW4 HN4 c3 f3
        go_wp2
        go_ret
        have hfr := HPA.out.fr HB.out
        exact ⟨hfr.then HFIN.out.2 hfr.size, .inr ⟨st.length, st ++ [s], HE.out, by go_num, HFIN.out.1⟩⟩

theorem rsigned_any (n : Nd) (z : Value) (hz : ∃ a l c, z = .slice a l c) (w : World) : Calls Tryz.prog 68 #[ndV n z] w fun e w' => e = .returned (.bool (signK n.k)) ∧ Below w.heap.size w w' := by
  obtain ⟨za, zl, zc, rfl⟩ := hz
  unfold ndV
  have HB : Hid (Below w.heap.size w (w.alloc (.cells #[.int .i64 n.k, .int .i64 n.s, .slice za zl zc] 39))) := below_alloc _ _
  cases h3 : (n.k == 3) with
  | true =>
    have HE : Hid (signK n.k = true) := by show _ = _; simp [signK, h3]
    obtain ⟨b, hb⟩ : ∃ b, b = signK n.k := ⟨_, rfl⟩
    rw [← hb] at HE ⊢
    clear hb
    go_enter Tryz.func68, Tryz.ntmps68
    go_wp2
    go_ret
    exact ⟨by rw [HE.out]; rfl, HB.out⟩
  | false =>
    cases h4 : (n.k == 4) with
    | true =>
      have HE : Hid (signK n.k = true) := by show _ = _; simp [signK, h4]
      obtain ⟨b, hb⟩ : ∃ b, b = signK n.k := ⟨_, rfl⟩
      rw [← hb] at HE ⊢
      clear hb
      go_enter Tryz.func68, Tryz.ntmps68
      go_wp2
      go_ret
      exact ⟨by rw [HE.out]; rfl, HB.out⟩
    | false =>
      have HE : Hid (signK n.k = (n.k == 5)) := by show _ = _; simp [signK, h3, h4]
      obtain ⟨b, hb⟩ : ∃ b, b = signK n.k := ⟨_, rfl⟩
      rw [← hb] at HE ⊢
      clear hb
      go_enter Tryz.func68, Tryz.ntmps68
      go_wp2
      go_ret
      exact ⟨by rw [HE.out]; rfl, HB.out⟩

set_option maxRecDepth 100000 in
set_option maxHeartbeats 4000000 in
theorem rends_any (Q : Nat → Prop) (c : Nat) (hc3 : c ≤ 3) (n : Nd) (z : Value) (w : World) (hq : ∀ k, Q k → k < w.heap.size) (hz : KdX Q w z n.kids) (hc : Chain c n) :
    Calls Tryz.prog 152 #[ndV n z] w fun e w' => e = .returned (.int .i64 (c : Int)) ∧ Below w.heap.size w w' := by
  obtain ⟨za, zc, rfl, _⟩ := hz.slice
  unfold ndV
  have HB0 : Hid (Below w.heap.size w (w.alloc (.cells #[.int .i64 n.k, .int .i64 n.s, .slice za n.kids.length zc] 39))) := below_alloc _ _
  have HE0 : Hid ((w.alloc (.cells #[.int .i64 n.k, .int .i64 n.s, .slice za n.kids.length zc] 39)).heap[w.heap.size]? = some (.cells #[.int .i64 n.k, .int .i64 n.s, .slice za n.kids.length zc] 39 (0, 0))) := heap_new' _ _
  have HZ : Hid (KdX Q w (.slice za n.kids.length zc) n.kids) := hz
  have HQ : Hid (∀ k, Q k → k < w.heap.size) := hq
  have HC : Hid (Chain c n) := hc
  clear hz hq hc
  go_enter Tryz.func152, Tryz.ntmps152
  go_wp2
  go_loopw [3] (fun x wr => ∃ (j : Nat) (m : Nd) (a : Option Addr) (cp : Nat), j ≤ c ∧ x = .int .i64 (j : Int) ∧ Hid (Chain (c - j) m) ∧ wr.heap[w.heap.size]? = some (.cells #[.int .i64 m.k, .int .i64 m.s, .slice a m.kids.length cp] 39 (0, 0)) ∧ Hid (KdX Q w (.slice a m.kids.length cp) m.kids) ∧ Below w.heap.size w wr) (fun x _ => 4 - (intOf x).toNat)
  case atStart => exact ⟨0, n, za, zc, Nat.zero_le _, rfl, HC, HE0.out, HZ, HB0.out⟩
  case round =>
    obtain ⟨j, m, a, cp, hj, rfl, HCm, hE, HZm, hB⟩ := hrel
    have hlt : w.heap.size < wr.heap.size := (Array.getElem?_eq_some_iff.1 hE).1
    have d0 : wr.cell? ⟨w.heap.size, 0, none⟩ = some (.int .i64 m.k) := cell_of_row _ _ 0 _ _ _ hE
    have d1 : wr.cell? ⟨w.heap.size, 1, none⟩ = some (.int .i64 m.s) := cell_of_row _ _ 1 _ _ _ hE
    have d2 : wr.cell? ⟨w.heap.size, 2, none⟩ = some (.slice a m.kids.length cp) := cell_of_row _ _ 2 _ _ _ hE
    have h1 := rsigned_any m (.slice a m.kids.length cp) ⟨_, _, _, rfl⟩ wr
    unfold ndV at h1
    have HE : Hid (wr.heap[w.heap.size]? = some (.cells #[.int .i64 m.k, .int .i64 m.s, .slice a m.kids.length cp] 39 (0, 0))) := hE
    clear hE
    by_cases hjc : j = c
    · have hsk : signK m.k = false := by have := HCm.out; rw [hjc, Nat.sub_self] at this; exact this
      rw [hsk] at h1
      have HJ : Hid (j = c) := hjc
      clear hjc hsk
      go_wp2_with fail
      refine h1.mono ?_
      rintro e w1 ⟨rfl, hB1⟩
      clear h1
      go_wp2
      go_ret
      exact ⟨by rw [HJ.out]; rfl, below_after hB hB1⟩
    · obtain ⟨e, he⟩ : ∃ e, c - j = e + 1 := ⟨c - j - 1, by omega⟩
      have hch := HCm.out
      rw [he] at hch
      obtain ⟨hsk, x, hx, hcx⟩ := hch
      have HCX : Hid (Chain (c - (j + 1)) x) := by rw [show c - (j + 1) = e by omega]; exact hcx
      rw [hsk] at h1
      have hzz := HZm.out
      rw [hx] at hzz d2 h1
      obtain ⟨g, off, cap, z', e1, e2, e3, e4, e5, e6, e7⟩ := hzz.at 0 (by simp)
      simp only [List.getElem_cons_zero, Nat.zero_mul, Nat.add_zero] at e4 e5 e6 e7
      obtain ⟨rfl, _, rfl⟩ : a = some ⟨g, off, none⟩ ∧ [x].length = [x].length ∧ cp = cap := by simpa using e1
      obtain ⟨xa, xc, rfl, _⟩ := e7.slice
      have hgl := HQ.out g e3
      have hgne : g ≠ w.heap.size := by omega
      have HE7 : Hid (KdX Q w (.slice xa x.kids.length xc) x.kids) := e7
      have hHE := HE.out
      rw [hx] at hHE
      simp only [List.length_cons, List.length_nil, Nat.zero_add] at d2 h1 hHE
      have HE2 : Hid (wr.heap[w.heap.size]? = some (.cells #[.int .i64 m.k, .int .i64 m.s, .slice (some ⟨g, off, none⟩) 1 cp] 39 (0, 0))) := hHE
      have hcp : 1 ≤ cp := by simpa using e2
      clear hzz e1 e7 hcx hsk he hx HCm HZm HE hHE
      go_wp2_with fail
      refine h1.mono ?_
      rintro e w1 ⟨rfl, hB1⟩
      have hB01 := below_after hB hB1
      have hE1 := (hB1.block w.heap.size hlt).trans HE2.out
      have hlt1 : w.heap.size < w1.heap.size := Nat.lt_of_lt_of_le hlt hB1.size
      have e4' : w1.cell? ⟨g, off, none⟩ = some (.int .i64 x.k) := (hB01.cell (p := ⟨g, _, none⟩) hgl).trans e4
      have e5' : w1.cell? ⟨g, off + 1, none⟩ = some (.int .i64 x.s) := (hB01.cell (p := ⟨g, _, none⟩) hgl).trans e5
      have e6' : w1.cell? ⟨g, off + 2, none⟩ = some (.slice xa x.kids.length xc) := (hB01.cell (p := ⟨g, _, none⟩) hgl).trans e6
      clear d0 d1 d2
      have d0 : w1.cell? ⟨w.heap.size, 0, none⟩ = some (.int .i64 m.k) := cell_of_row _ _ 0 _ _ _ hE1
      have f0 : w1.frozen? ⟨w.heap.size, 0, none⟩ = false := frozen_of_row _ _ 0 _ _ hE1
      have d1 : w1.cell? ⟨w.heap.size, 1, none⟩ = some (.int .i64 m.s) := cell_of_row _ _ 1 _ _ _ hE1
      have f1 : w1.frozen? ⟨w.heap.size, 1, none⟩ = false := frozen_of_row _ _ 1 _ _ hE1
      have d2 : w1.cell? ⟨w.heap.size, 2, none⟩ = some (.slice (some ⟨g, off, none⟩) 1 cp) := cell_of_row _ _ 2 _ _ _ hE1
      have f2 : w1.frozen? ⟨w.heap.size, 2, none⟩ = false := frozen_of_row _ _ 2 _ _ hE1
      have HE1 : Hid (w1.heap[w.heap.size]? = some (.cells #[.int .i64 m.k, .int .i64 m.s, .slice (some ⟨g, off, none⟩) 1 cp] 39 (0, 0))) := hE1
      have HB01 : Hid (Below w.heap.size w w1) := hB01
      clear h1 hE1 hB1 hB01 e4 e5 e6
      go_wp2
      go_roundw
      case rel =>
        refine ⟨j + 1, x, xa, xc, by omega, by go_num, HCX, ?_, HE7, ?_⟩
        · exact heap_set (heap_set (heap_set HE1.out _) _) _
        · exact ((HB01.out.setCell (by simp) _).setCell (by simp) _).setCell (by simp) _
      case measure => simp [intOf]; omega
end Go.Proofs.YtfdjchnckjgapaaGreatDoor

namespace Go.Proofs.YtfdjchnckjgapaaGreatDoor
open Go.RowKit
set_option linter.unusedVariables false

/-- What the document's Make tells. -/
def RefMakeTells (l : List Rg) (w : World) (e : Ending) (w' : World) : Prop :=
  ((¬ Fits l ∧ e = .returned (.tuple #[.slice none 0 0, .int .i64 1])) ∨ (Fits l ∧ ∃ s v', Upto (hasR l) s 1114112 ∧ e = .returned (.tuple #[v', .int .i64 0]) ∧ w'.ownsRow w.heap.size 94 2 v' s.length (cellsRs s))) ∧ Below w.heap.size w w'

set_option maxRecDepth 100000 in
set_option maxHeartbeats 4000000 in
theorem refMake_any (l : List Rg) (v : Value) (w : World) (hlen : l.length ≤ 20000) (hv : RngSrc w v l) :
    Calls Tryz.prog 67 #[v] w fun e w' => RefMakeTells l w e w' := by
  have HV : Hid (RngSrc w v l) := hv
  obtain ⟨a, cap, rfl, hc, hcell⟩ := hv.1
  have HA : Hid (∀ i, (h : i < l.length) → ∃ g off, a = some ⟨g, off, none⟩ ∧ g < w.heap.size ∧ w.cell? ⟨g, off + i * 2, none⟩ = some (.int .i64 l[i].lo) ∧ w.cell? ⟨g, off + i * 2 + 1, none⟩ = some (.int .i64 l[i].hi)) := hcell
  clear hcell hv
  go_enter Tryz.func67, Tryz.ntmps67
  go_wp2
  go_loopw [4] (fun x wr => ∃ k : Nat, k ≤ l.length ∧ x = .int .i64 k ∧ (∀ i, (h : i < l.length) → i < k → 0 ≤ l[i].lo ∧ l[i].lo ≤ l[i].hi ∧ l[i].hi ≤ 1114111) ∧ ∃ nd, wr = w.drewN nd) (fun x _ => l.length - (intOf x).toNat)
  case atStart => exact ⟨0, Nat.zero_le _, rfl, fun i h q => by omega, 0, rfl⟩
  case round =>
    obtain ⟨k, hk, rfl, hok, nd, rfl⟩ := hrel
    have HOK : Hid (∀ i, (h : i < l.length) → i < k → 0 ≤ l[i].lo ∧ l[i].lo ≤ l[i].hi ∧ l[i].hi ≤ 1114111) := hok
    clear hok
    by_cases hlt : k < l.length
    · obtain ⟨g, off, rfl, hg, c0, c1⟩ := HA.out k hlt
      obtain ⟨r, hr⟩ : ∃ r, r = l[k] := ⟨_, rfl⟩
      rw [← hr] at c0 c1
      have HR : Hid (r = l[k]) := hr
      clear hr
      have HNF : Hid (¬ (0 ≤ r.lo ∧ r.lo ≤ r.hi ∧ r.hi ≤ 1114111) → ¬ Fits l) := fun q f => q (f r (by rw [HR.out]; exact List.getElem_mem hlt) |> fun z => ⟨z.1, z.2.1, z.2.2⟩)
      have hk1 : (k : Int) < (l.length : Int) := by omega
      by_cases q0 : r.lo < 0
      · have HN : Hid (¬ Fits l) := HNF.out (by omega)
        go_wp2
        go_quiet (fail)
        go_wp2
        go_ret2
        exact ⟨.inl ⟨HN.out, rfl⟩, below_drewN' (below_drewN' (Below.refl _ _) nd) nq⟩
      · have q0' : decide (r.lo < 0) = false := by simpa using q0
        by_cases q1 : 1114111 < r.hi
        · have HN : Hid (¬ Fits l) := HNF.out (by omega)
          go_wp2
          go_quiet (fail)
          go_wp2
          go_ret2
          exact ⟨.inl ⟨HN.out, rfl⟩, below_drewN' (below_drewN' (Below.refl _ _) nd) nq⟩
        · have q1' : decide (1114111 < r.hi) = false := by simpa using q1
          by_cases q2 : r.hi < r.lo
          · have HN : Hid (¬ Fits l) := HNF.out (by omega)
            go_wp2
            go_quiet (fail)
            go_wp2
            go_ret2
            exact ⟨.inl ⟨HN.out, rfl⟩, below_drewN' (below_drewN' (Below.refl _ _) nd) nq⟩
          · have q2' : decide (r.hi < r.lo) = false := by simpa using q2
            have HO2 : Hid (∀ i, (h : i < l.length) → i < k + 1 → 0 ≤ l[i].lo ∧ l[i].lo ≤ l[i].hi ∧ l[i].hi ≤ 1114111) := fun i h q => by
              by_cases e : i = k
              · subst e; rw [← HR.out]; omega
              · exact HOK.out i h (by omega)
            go_wp2
            go_quiet (fail)
            go_wp2
            go_roundw
            case rel => exact ⟨k + 1, by omega, by go_num, HO2.out, _, rfl⟩
            case measure => simp [intOf]; omega
    · obtain rfl : k = l.length := by omega
      have HF : Hid (Fits l) := fun r hr => by
        obtain ⟨i, hi, rfl⟩ := List.getElem_of_mem hr
        exact HOK.out i hi hi
      have hB : Below w.heap.size w (w.drewN nd) := below_drewN' (Below.refl _ _) _
      have HP := pick_any 0 (fun x y => x || y) (.inl ⟨rfl, rfl⟩) l [] (by omega) (by simp) HF.out (fun r hr => by cases hr) _ _ (w.drewN nd) (HV.out.below hB) (RngSrc.nil _)
      clear HOK HV HA
      go_wp2_with fail
      refine HP.mono ?_
      rintro e w1 ⟨s, v1, rfl, hu, ho, hB1⟩
      have HO : Hid (w1.ownsRow w.heap.size 94 2 v1 s.length (cellsRs s)) := ho
      have HU : Hid (Upto (hasR l) s 1114112) := hu.congr (fun x _ _ => by simp [show hasR [] x = false from rfl])
      have hB2 : Below w.heap.size w w1 := hB.trans hB1
      clear HP hu ho
      go_wp2
      go_ret2
      exact ⟨.inr ⟨HF.out, s, v1, HU.out, rfl, HO.out⟩, hB2⟩
end Go.Proofs.YtfdjchnckjgapaaGreatDoor

namespace Go.Proofs.YtfdjchnckjgapaaGreatDoor
open Go.RowKit Go.Shelf S1
set_option linter.unusedVariables false

/-- So deep, no expression has many parts. -/
def Wid : Nat → List Nd → Prop
  | 0, _ => True
  | f + 1, l => l.length ≤ 70000 ∧ ∀ x ∈ l, Wid f x.kids
def WdN (n : Nd) : Prop := ∀ f, Wid f n.kids
theorem wdN_of {k s : Int} {l : List Nd} (h : l.length ≤ 70000) (hl : ∀ x ∈ l, WdN x) : WdN ⟨k, s, l⟩ := fun f => by
  cases f with
  | zero => trivial
  | succ f => exact ⟨h, fun x hx => hl x hx f⟩
theorem joinN_wd {k : Int} : ∀ {l : List Nd}, l.length ≤ 70000 → (∀ x ∈ l, WdN x) → WdN (joinN k l)
  | [], h, hl => wdN_of h hl
  | [x], h, hl => hl x (by simp)
  | x :: y :: l, h, hl => wdN_of h hl
theorem signF_wd : ∀ (f c : Nat) (n : Nd) (ts : List Tok) (st : Sts) {m : Nd} {r : List Tok} {st' : Sts}, WdN n → signF f c n ts st = .inr (m, r, st') → WdN m
  | 0, c, n, ts, st, m, r, st', hn, h => by cases h; exact hn
  | f + 1, c, n, ts, st, m, r, st', hn, h => by
    unfold signF at h
    split at h
    · cases h; exact hn
    · split at h
      · cases h
      · exact signF_wd f (c + 1) _ _ _ (wdN_of (by simp) (fun x hx => by
          obtain rfl : x = n := by simpa using hx
          exact hn)) h
/-- p tells expressions of few parts. -/
def PWd (p : List Tok → Sts → NR Nd) : Prop := ∀ ts st n r st', ts.length ≤ 69990 → p ts st = .inr (n, r, st') → WdN n ∧ r.length ≤ ts.length
theorem nleft_len {α : Type} {ts : List Tok} {q : NR α} {n : α} {r : List Tok} {st' : Sts} (h : NLeft ts q) (e : q = .inr (n, r, st')) : r.length ≤ ts.length := by
  subst e; exact h.1
theorem signedM_wd {p : List Tok → Sts → NR Nd} (hp : PWd p) : PWd (signedM p) := fun ts st n r st' hl h => by
  unfold signedM at h
  split at h
  · cases h
  · rename_i m r1 st1 he
    obtain ⟨h1, h2⟩ := hp _ _ _ _ _ hl he
    exact ⟨signF_wd 4 _ m r1 st1 h1 h, Nat.le_trans (nleft_len (signF_left 4 (cntN 4 m) m r1 st1) h) h2⟩
theorem catF_wd {p : List Tok → Sts → NR Nd} (hp : PWd p) : ∀ (f : Nat) (acc : List Nd) (ts : List Tok) (st : Sts) {l : List Nd} {r : List Tok} {st' : Sts}, ts.length ≤ 69990 → (∀ x ∈ acc, WdN x) → catF p f acc ts st = .inr (l, r, st') → (∀ x ∈ l, WdN x) ∧ l.length ≤ acc.length + f ∧ r.length ≤ ts.length
  | 0, acc, ts, st, l, r, st', hl, ha, h => by cases h; exact ⟨ha, Nat.le_refl _, Nat.le_refl _⟩
  | f + 1, acc, ts, st, l, r, st', hl, ha, h => by
    unfold catF at h
    split at h
    · split at h
      · cases h
      · rename_i n r1 st1 he
        obtain ⟨h1, h2⟩ := hp _ _ _ _ _ hl he
        obtain ⟨i1, i2, i3⟩ := catF_wd hp f _ _ _ (Nat.le_trans h2 hl) (fun x hx => by
          rcases List.mem_append.1 hx with q | q
          · exact ha x q
          · obtain rfl : x = n := by simpa using q
            exact h1) h
        refine ⟨i1, ?_, Nat.le_trans i3 h2⟩
        simp at i2; omega
    · cases h; exact ⟨ha, by omega, Nat.le_refl _⟩
theorem altF_wd {p : List Tok → Sts → NR Nd} (hp : PWd p) : ∀ (f : Nat) (acc : List Nd) (ts : List Tok) (st : Sts) {l : List Nd} {r : List Tok} {st' : Sts}, ts.length ≤ 69990 → (∀ x ∈ acc, WdN x) → altF p f acc ts st = .inr (l, r, st') → (∀ x ∈ l, WdN x) ∧ l.length ≤ acc.length + f ∧ r.length ≤ ts.length
  | 0, acc, ts, st, l, r, st', hl, ha, h => by cases h; exact ⟨ha, Nat.le_refl _, Nat.le_refl _⟩
  | f + 1, acc, ts, st, l, r, st', hl, ha, h => by
    unfold altF at h
    split at h
    · split at h
      · cases h
      · rename_i n r1 st1 he
        have ht : ts.tail.length ≤ ts.length := by simp
        obtain ⟨h1, h2⟩ := hp _ _ _ _ _ (Nat.le_trans ht hl) he
        obtain ⟨i1, i2, i3⟩ := altF_wd hp f _ _ _ (Nat.le_trans h2 (Nat.le_trans ht hl)) (fun x hx => by
          rcases List.mem_append.1 hx with q | q
          · exact ha x q
          · obtain rfl : x = n := by simpa using q
            exact h1) h
        refine ⟨i1, ?_, Nat.le_trans i3 (Nat.le_trans h2 ht)⟩
        simp at i2; omega
    · cases h; exact ⟨ha, by omega, Nat.le_refl _⟩
theorem catM_wd {p : List Tok → Sts → NR Nd} (hp : PWd p) : PWd (catM p) := fun ts st n r st' hl h => by
  unfold catM at h
  split at h
  · cases h
  · rename_i l r1 st1 he
    cases h
    obtain ⟨i1, i2, i3⟩ := catF_wd hp _ _ _ _ hl (fun x hx => (by cases hx)) he
    exact ⟨joinN_wd (by simp at i2; omega) i1, i3⟩
theorem regexG_wd {p : List Tok → Sts → NR Nd} (hp : PWd p) : PWd (regexG p) := fun ts st n r st' hl h => by
  unfold regexG at h
  split at h
  · cases h
  · rename_i m r1 st1 he
    obtain ⟨h1, h2⟩ := hp _ _ _ _ _ hl he
    split at h
    · cases h
    · rename_i l r2 st2 he2
      cases h
      obtain ⟨i1, i2, i3⟩ := altF_wd hp _ _ _ _ (Nat.le_trans h2 hl) (fun x hx => by
        obtain rfl : x = m := by simpa using hx
        exact h1) he2
      exact ⟨joinN_wd (by simp at i2; omega) i1, Nat.le_trans i3 h2⟩
theorem partM_wd {N : Nms} {f : Option (List Tok → Sts → NR Nd)} (hf : ∀ g, f = some g → PWd g) : PWd (partM N f) := fun ts st n r st' hl h => by
  have ht : ts.tail.length ≤ ts.length := by simp
  unfold partM at h
  split at h
  · split at h
    · cases h
    · rename_i g
      cases hq : g ts.tail st with
      | inl x => rw [hq] at h; cases h
      | inr x =>
        obtain ⟨m, r1, st1⟩ := x
        rw [hq] at h
        simp only [endN] at h
        split at h
        · cases h
          obtain ⟨h1, h2⟩ := hf g rfl _ _ _ _ _ (Nat.le_trans ht hl) hq
          refine ⟨h1, ?_⟩
          have : r1.tail.length ≤ r1.length := by simp
          omega
        · cases h
  · split at h
    · cases h
    · split at h
      · cases h
      · cases h
        exact ⟨wdN_of (by simp) (fun x hx => (by cases hx)), ht⟩
theorem regexM_wd (N : Nms) : ∀ (b : Nat), PWd (regexM N b)
  | 0 => regexG_wd (catM_wd (signedM_wd (partM_wd (fun g h => by cases h))))
  | b + 1 => regexG_wd (catM_wd (signedM_wd (partM_wd (fun g h => by cases h; exact regexM_wd N b))))
/-- A rule's expressions have few parts. -/
def WdR (x : Rl) : Prop := WdN x.l ∧ WdN x.r
theorem ruleM_wd {N : Nms} {ts : List Tok} {st : Sts} {x : Rl} {r : List Tok} {st' : Sts} (hl : ts.length ≤ 69990) (h : ruleM N ts st = .inr (x, r, st')) : WdR x := by
  have ht : ts.tail.length ≤ ts.length := by simp
  have key : ∀ {c : Int} {q : NR Nd} {n : Nd} {r : List Tok} {st' : Sts}, endN c q = .inr (n, r, st') → ∃ r0, q = .inr (n, r0, st') ∧ r.length ≤ r0.length := fun {c q n r st'} h => by
    match q, h with
    | .inr (n0, r0, st0), h =>
      simp only [endN] at h
      split at h
      · cases h; exact ⟨r0, rfl, by simp⟩
      · cases h
  unfold ruleM at h
  split at h
  · cases h
  · rename_i l r1 st1 he
    obtain ⟨r0, e0, hr0⟩ := key he
    obtain ⟨h1, h2⟩ := regexM_wd N 20 _ _ _ _ _ (Nat.le_trans ht hl) e0
    split at h
    · cases h
    · rename_i n r2 st2 he2
      obtain ⟨r3, e3, hr3⟩ := key he2
      obtain ⟨h3, h4⟩ := regexM_wd N 20 _ _ _ _ _ (by omega) e3
      cases h
      exact ⟨h1, h3⟩
theorem textF_wd : ∀ (f : Nat) (N : Nms) (rs : List Rl) (ts : List Tok) (st : Sts) {rs' : List Rl} {st' : Sts}, ts.length ≤ 69990 → (∀ x ∈ rs, WdR x) → textF f N rs ts st = .inr (rs', st') → ∀ x ∈ rs', WdR x
  | 0, N, rs, ts, st, rs', st', hl, ha, h => by cases h; exact ha
  | f + 1, N, rs, ts, st, rs', st', hl, ha, h => by
    have ht : ts.tail.length ≤ ts.length := by simp
    unfold textF at h
    split at h
    · cases h; exact ha
    · rename_i hk
      split at h
      · split at h
        · cases h
        · rename_i N' r hn
          exact textF_wd f N' rs r st (Nat.le_trans (nameM_left hn) (Nat.le_trans ht hl)) ha h
      · split at h
        · cases h
        · split at h
          · cases h
          · split at h
            · cases h
            · rename_i x r st1 hn
              refine textF_wd f N (rs ++ [x]) r st1 (Nat.le_trans (Nat.le_of_lt (ruleM_left hk hn)) hl) (fun y hy => ?_) h
              rcases List.mem_append.1 hy with q | q
              · exact ha y q
              · obtain rfl : y = x := by simpa using q
                exact ruleM_wd hl hn
theorem toksF_few {n : Nat} : ∀ {k : Nat} {us : List U} {acc l : List Tok}, toksF n k us acc = TR.good l → l.length ≤ acc.length + us.length + 1
  | 0, us, acc, l, h => by cases h
  | k + 1, us, acc, l, h => by
    have hbl := blankL_le false us
    cases h1 : tokO n (blankL false us) with
    | inl x => obtain ⟨a, e⟩ := x; rw [toksF_bad h1] at h; cases h
    | inr x =>
      obtain ⟨t, r⟩ := x
      have hlen := tokO_len h1
      by_cases h4 : t.k = 4
      · rw [toksF_end h1 h4] at h
        obtain rfl := Sum.inr.inj h
        simp
      · rw [toksF_on h1 h4] at h
        have h5 := toksF_few h
        have h6 : r.length < (blankL false us).length := by
          rcases hlen with ⟨q, _⟩ | ⟨_, q⟩
          · exact absurd q h4
          · exact q
        simp at h5; omega
theorem toks_few {zs : List Int} {us : List U} (hr : Run zs 0 us zs.length) {l : List Tok} (h : toksL zs.length us = TR.good l) : l.length ≤ zs.length + 1 := by
  have hlen := Run.le hr (Nat.zero_le _)
  have := toksF_few (show toksF zs.length (us.length + 1) us [] = TR.good l from h)
  simp at this
  omega
theorem parseL_wd {zs : List Int} {us : List U} (hr : Run zs 0 us zs.length) (hz : zs.length ≤ 65536) {rs : List Rl} {st : Sts} (h : parseL (toksL zs.length us) = .inr (rs, st)) : ∀ x ∈ rs, WdR x := by
  cases ht : toksL zs.length us with
  | inl e => rw [ht] at h; cases h
  | inr l =>
    have hc := toks_few hr ht
    rw [ht] at h
    unfold parseL at h
    simp only at h
    split at h
    · cases h
    · rename_i x hx
      obtain ⟨rs', st'⟩ := x
      cases h
      exact textF_wd _ _ _ _ _ (by simp; omega) (fun x hx => (by cases hx)) hx
end Go.Proofs.YtfdjchnckjgapaaGreatDoor
