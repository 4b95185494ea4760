/-
  ParP With Ref Pick Ref2 RTkn EdgM RSetP RSumP RTermP RPlaP RMake
-/
import Derived.Test.YtfdjchnckjgapaaGreatDoorX31
import Derived.Test.YtfdjchnckjgapaaGreatDoorX15
import Derived.Test.YtfdjchnckjgapaaGreatDoorX05
import Derived.Test.YtfdjchnckjgapaaGreatDoorX21
import Derived.BigQuiet
import Derived.Test.YtfdjchnckjgapaaGreatDoorX20
import Derived.Test.YtfdjchnckjgapaaGreatDoorX27
namespace Go.Proofs.YtfdjchnckjgapaaGreatDoor
open Go.RowKit Go.Shelf S1
set_option linter.unusedVariables false
def PrgAt (base : Nat) (w : World) (sv rv : Value) (rs : List RlV) (st : Sts) : Prop :=
  (∃ vs, w.ownsRow base 43 1 sv st.length vs ∧ SetsS (fun k => k < w.heap.size) w vs st) ∧ w.ownsRow base 41 7 rv rs.length (cellsRls rs) ∧ RlX (fun k => k < w.heap.size) w rs ∧ st.length ≤ 60 ∧ rs.length ≤ 64
def NoInt (w : World) (R : Nat) : Prop := ∀ off k x, w.cell? ⟨R, off, none⟩ ≠ some (.int k x)
theorem RngS.offN {Q : Nat → Prop} {w : World} {v : Value} {l : List Rg} {R : Nat} (hm : NoInt w R) (h : RngS Q w v l) : RngS (fun k => Q k ∧ k ≠ R) w v l := by
  obtain ⟨a, cap, e, hc, hn, hi⟩ := h
  refine ⟨a, cap, e, hc, hn, fun i hlt => ?_⟩
  obtain ⟨g, off, rfl, hg, h0, h1⟩ := hi i hlt
  exact ⟨g, off, rfl, ⟨hg, fun q => hm _ _ _ (q ▸ h0)⟩, h0, h1⟩
theorem SetsS.offN {Q : Nat → Prop} {w : World} {vs : List Value} {st : Sts} {R : Nat} (hm : NoInt w R) (h : SetsS Q w vs st) : SetsS (fun k => Q k ∧ k ≠ R) w vs st := ⟨h.1, fun i hi => by
  obtain ⟨v, h1, h2, h3⟩ := h.2 i hi
  exact ⟨v, h1, h2.offN hm, h3⟩⟩
theorem KidS.offN {Q : Nat → Prop} {w : World} {R : Nat} (hm : NoInt w R) : ∀ {f : Nat} {z : Value} {l : List Nd}, KidS Q w f z l → KidS (fun k => Q k ∧ k ≠ R) w f z l
  | 0, z, l, h => h
  | f + 1, z, l, ⟨a, cap, e, hc, hi⟩ => ⟨a, cap, e, hc, fun i h => by
    obtain ⟨g, off, z', h1, h2, h3, h4, h5, h6⟩ := hi i h
    exact ⟨g, off, z', h1, ⟨h2, fun q => hm _ _ _ (q ▸ h3)⟩, h3, h4, h5, h6.offN hm⟩⟩
theorem RlX.offN {Q : Nat → Prop} {w : World} {R : Nat} (hm : NoInt w R) {l : List RlV} (h : RlX Q w l) : RlX (fun k => Q k ∧ k ≠ R) w l := fun x hx => by
  obtain ⟨⟨f, h1⟩, ⟨g, h2⟩⟩ := h x hx
  exact ⟨⟨f, h1.offN hm⟩, ⟨g, h2.offN hm⟩⟩
def PaA (w : World) (q : (Nat × Int) ⊕ (List Rl × Sts)) (e : Ending) (w' : World) : Prop := Below w.heap.size w w' ∧
  ((∃ a x, q = .inl (a, x) ∧ x ≠ 0 ∧ e = .returned (.tuple #[.agg #[.slice none 0 0, .slice none 0 0], .int .i64 ((a : Nat) : Int), .int .i64 x])) ∨
   (∃ rs st sv rv, q = .inr (rs.map Prod.fst, st) ∧ e = .returned (.tuple #[.agg #[sv, rv], .int .i64 0, .int .i64 0]) ∧ PrgAt w.heap.size w' sv rv rs st))
theorem mkS_eq {l s : List Rg} (hf : Fits l) (h : Upto (hasR l) s 1114112) : mkS l = s := by
  have h2 : Upto (fun x => hasR l x) (mkS l) 1114112 := pick_spec l [] hf (fun x hx => (by cases hx)) (fun x _ => x)
  exact h2.unique h
theorem toks_ready {w : World} {base : Nat} {l : List (Tok × Value)} {g cp : Nat} {m : Nat} (hm : m ≤ 70000) (hown : w.ownsRow base 54 4 (.slice (some ⟨g, 0, none⟩) l.length cp) l.length (cellsTs l)) (hso : SetsOwn w base l) (hok : ∀ t ∈ l.map Prod.fst, TkOk m t) : TokS (fun k => k < w.heap.size) w g 0 0 ((l.map Prod.fst).map canT) := fun i hi => by
  have hi' : i < l.length := by simpa using hi
  obtain ⟨a, cap, e, _, hx⟩ := toks_of_row hown
  obtain ⟨rfl, _, rfl⟩ : some ⟨g, 0, none⟩ = a ∧ l.length = l.length ∧ cp = cap := by simpa using e
  obtain ⟨g', off', e2, h0, h1, h2, h3, h4⟩ := hx i hi'
  obtain ⟨rfl, rfl⟩ : g = g' ∧ 0 = off' := by simpa using e2
  obtain ⟨s, s1, s2, s3⟩ := hso l[i] (List.getElem_mem hi')
  obtain ⟨o1, o2, o3⟩ := hok l[i].1 (List.mem_map_of_mem (List.getElem_mem hi'))
  have el : ((l.map Prod.fst).map canT)[i] = canT l[i].1 := by simp
  rw [el]
  have es : (canT l[i].1).s = s := mkS_eq o1 s1
  rw [es]
  rw [show 0 + (0 + i) * 4 = 0 + i * 4 by omega]
  exact ⟨h0, h1, h2, h3, ⟨l[i].2, h4, rngS_of_row s3 (fun k _ hk => hk)⟩, s1.isSet, o2, by have := o3; show l[i].1.t.length ≤ _; omega⟩
set_option maxRecDepth 100000 in
set_option maxHeartbeats 16000000 in
theorem parse_any8 (zs : List Int) (hby : Byt zs) (hz : zs.length ≤ 65536) (us : List U) (hus : Run zs 0 us zs.length) (ta : Option Addr) (cap : Nat) (w : World) (hsv : SynV w) (hI : BytesAt w.heap.size w (.slice ta zs.length cap) zs) :
    Calls Tryz.prog 9 #[.slice ta zs.length cap] w fun e w' => PaA w (parseL (toksL zs.length us)) e w' := by
  have hB0 := below_alloc w (.cells #[.slice none 0 0, .slice none 0 0] 27)
  have h1 := tokens_any zs hby hz us hus ta cap (w.alloc (.cells #[.slice none 0 0, .slice none 0 0] 27)) (hsv.grown (World.grownBy_alloc w _ none) (by simp)) ((hI.below hB0).mono hB0.size)
  have HTOK : Hid (∀ l, toksL zs.length us = TR.good l → EndsT l ∧ ∀ t ∈ l, TkOk zs.length t) := fun l h => toks_ok hus h
  have HB0 : Hid (Below w.heap.size w (w.alloc (.cells #[.slice none 0 0, .slice none 0 0] 27))) := hB0
  have HE0 : Hid ((w.alloc (.cells #[.slice none 0 0, .slice none 0 0] 27)).heap[w.heap.size]? = some (.cells #[.slice none 0 0, .slice none 0 0] 27 (0, 0))) := heap_new' _ _
  have HSZ0 : Hid ((w.alloc (.cells #[.slice none 0 0, .slice none 0 0] 27)).heap.size = w.heap.size + 1) := by show _ = _; simp
  obtain ⟨tr, htr⟩ : ∃ tr, tr = toksL zs.length us := ⟨_, rfl⟩
  rw [← htr] at h1 HTOK
  rw [← htr]
  obtain ⟨q, hq⟩ : ∃ q, q = parseL tr := ⟨_, rfl⟩
  rw [← hq]
  have HQ : Hid (q = parseL tr) := hq
  have hmm := @run_makeMap Tryz.prog
  clear htr hq hI hsv hus hby hB0
  go_enter Tryz.func9, Tryz.ntmps9
  go_wp2_with fail
  refine h1.mono ?_
  rintro e w1 (⟨a, x, rfl, rfl, hx, hB1⟩ | ⟨l, v, rfl, hll, rfl, hown, hso, hB1⟩)
  · have hx' : (x != 0) = true := by simpa using hx
    have HX : Hid (x ≠ 0) := hx
    have hR := (hB1.block w.heap.size (by rw [HSZ0.out]; omega)).trans HE0.out
    have HR : Hid (w1.heap[w.heap.size]? = some (.cells #[.slice none 0 0, .slice none 0 0] 27 (0, 0))) := hR
    have hlw : w.heap.size < w1.heap.size := by have := hB1.size; rw [HSZ0.out] at this; omega
    have HB1 : Hid (Below w.heap.size w w1) := below_after HB0.out hB1
    have d0 : w1.cell? ⟨w.heap.size, 0, none⟩ = some (.slice none 0 0) := cell_of_row _ _ 0 _ _ _ hR
    have df0 : w1.frozen? ⟨w.heap.size, 0, none⟩ = false := frozen_of_row _ _ 0 _ _ hR
    have d1 : w1.cell? ⟨w.heap.size, 1, none⟩ = some (.slice none 0 0) := cell_of_row _ _ 1 _ _ _ hR
    have df1 : w1.frozen? ⟨w.heap.size, 1, none⟩ = false := frozen_of_row _ _ 1 _ _ hR
    clear h1 hx hB1 hR
    go_wp2
    refine bodyPost_ret (results_row_tmp2 rfl _ _ w.heap.size 27 #[.slice none 0 0, .slice none 0 0] (0, 0) _ rfl ?_ Tryz.underlying27 rfl (by kernel_rfl)) rfl ?_
    · exact heap_set (heap_set HR.out _) _
    exact ⟨(HB1.out.setCell (by simp) _).setCell (by simp) _, .inl ⟨a, x, HQ.out, HX.out, rfl⟩⟩
  · obtain ⟨hends, hok⟩ := HTOK.out _ rfl
    have hlpos : 0 < l.length := by have := hends.pos; simpa using this
    have hown' := hown
    rcases hown.2 with ⟨rfl, h0⟩ | ⟨g, cp, cur, rfl, hb, hg, hc, hm, hs, ht⟩
    · omega
    
    have hsz1 : w.heap.size + 1 ≤ w1.heap.size := by have := hB1.size; rw [HSZ0.out] at this; exact this
    have hBm := below_alloc w1 (.map #[] 0)
    have hB2 : Below w1.heap.size w1 ((w1.alloc (.map #[] 0)).alloc (.cells #[.slice (some ⟨g, 0, none⟩) l.length cp, .int .i64 0, .map (some w1.heap.size), .slice none 0 0, .slice none 0 0, .int .i64 0] 51)) := below_after hBm (below_alloc _ _)
    have hsz2 : ((w1.alloc (.map #[] 0)).alloc (.cells #[.slice (some ⟨g, 0, none⟩) l.length cp, .int .i64 0, .map (some w1.heap.size), .slice none 0 0, .slice none 0 0, .int .i64 0] 51)).heap.size = w1.heap.size + 2 := by simp
    have hP := heap_new' (w1.alloc (.map #[] 0)) (.cells #[.slice (some ⟨g, 0, none⟩) l.length cp, .int .i64 0, .map (some w1.heap.size), .slice none 0 0, .slice none 0 0, .int .i64 0] 51)
    rw [World.size_alloc] at hP
    have hmap : ((w1.alloc (.map #[] 0)).alloc (.cells #[.slice (some ⟨g, 0, none⟩) l.length cp, .int .i64 0, .map (some w1.heap.size), .slice none 0 0, .slice none 0 0, .int .i64 0] 51)).heap[w1.heap.size]? = some (.map #[] 0) := ((below_alloc _ _).block _ (by simp)).trans (heap_new' w1 _)
    have hom : ((w1.alloc (.map #[] 0)).alloc (.cells #[.slice (some ⟨g, 0, none⟩) l.length cp, .int .i64 0, .map (some w1.heap.size), .slice none 0 0, .slice none 0 0, .int .i64 0] 51)).ownsMap Tryz.prog 9 heldR w1.heap.size 0 (.map []) := ownsMap_block (World.ownsMap_made w1 Tryz.prog 9 heldR) (((below_alloc (w1.alloc (.map #[] 0)) (.cells #[.slice (some ⟨g, 0, none⟩) l.length cp, .int .i64 0, .map (some w1.heap.size), .slice none 0 0, .slice none 0 0, .int .i64 0] 51)).block _ (by simp)))
    have him : ∀ k, k < w1.heap.size + 1 → Im (XV NoX (.slice none 0 0)) ((w1.alloc (.map #[] 0)).alloc (.cells #[.slice (some ⟨g, 0, none⟩) l.length cp, .int .i64 0, .map (some w1.heap.size), .slice none 0 0, .slice none 0 0, .int .i64 0] 51)) (w1.heap.size + 1) k := fun k hk => ⟨by omega, by omega, fun x hx => by
      have : ((w1.alloc (.map #[] 0)).alloc (.cells #[.slice (some ⟨g, 0, none⟩) l.length cp, .int .i64 0, .map (some w1.heap.size), .slice none 0 0, .slice none 0 0, .int .i64 0] 51)).cell? ⟨w1.heap.size + 1, 3, none⟩ = some (.slice none 0 0) := cell_of_row _ _ 3 _ _ _ hP
      rw [this] at hx
      obtain rfl : Value.slice none 0 0 = x := by simpa using hx
      simp [Value.ownBlock], fun q => q.elim id (fun q => by simp [Value.ownBlock] at q)⟩
    have hPT : PT ⟨g, 0, l.length, cp, w1.heap.size, w1.heap.size, .slice none 0 0, fun _ => none, 51⟩ (w1.heap.size + 1) ((w1.alloc (.map #[] 0)).alloc (.cells #[.slice (some ⟨g, 0, none⟩) l.length cp, .int .i64 0, .map (some w1.heap.size), .slice none 0 0, .slice none 0 0, .int .i64 0] 51)) [] ((l.map Prod.fst).map canT) [] := by
      refine ⟨⟨0, .slice none 0 0, hP, ⟨by simp, by show l.length ≤ _; omega, hc, endsT_map hends, ((toks_ready (m := zs.length) (by omega) hown hso hok).to (fun k hk => ⟨hB2.block k hk, him k (Nat.lt_succ_of_lt hk)⟩)), ⟨[], World.ownsRow_nil _ _ _ _, ⟨rfl, fun i hi => (by cases hi)⟩⟩, by simp [Value.ownBlock], by simp, ⟨him w1.heap.size (by omega), 0, .map [], by omega, hom, fun x hx hl => ⟨fun _ => rfl, fun s hs => (by cases hs)⟩⟩, by show w1.heap.size ≤ _; omega, fun j hj => hj.elim (fun q => q.elim) (fun q => by simp [Value.ownBlock] at q)⟩, by omega⟩, World.ownsRow_nil _ _ _ _, fun k hk => by simp [Value.ownBlock] at hk, fun x hx => (by cases hx), by simp⟩
    have h2 := text_any _ (w1.heap.size + 1) ((w1.alloc (.map #[] 0)).alloc (.cells #[.slice (some ⟨g, 0, none⟩) l.length cp, .int .i64 0, .map (some w1.heap.size), .slice none 0 0, .slice none 0 0, .int .i64 0] 51)) [] _ [] hPT (Nat.le_refl _) (l.length + 1) (by simp)
    have HEQ : Hid (q = match textF (l.length + 1) (fun _ => none) [] ((l.map Prod.fst).map canT) [] with
      | .inl (r, e) => .inl ((hdT r).p, e)
      | .inr x => .inr x) := by
      show _ = _
      rw [HQ.out]
      show parseL (.inr (l.map Prod.fst)) = _
      unfold parseL
      simp only [List.length_map]
      rfl
    obtain ⟨qt, hqt⟩ : ∃ qt, qt = textF (l.length + 1) (fun _ => none) [] ((l.map Prod.fst).map canT) [] := ⟨_, rfl⟩
    have HE2 : Hid ((∀ r e, qt = .inl (r, e) → q = .inl ((hdT r).p, e)) ∧ ∀ x, qt = .inr x → q = .inr x) := by
      have h5 := HEQ.out
      rw [← hqt] at h5
      exact ⟨fun r e he => by rw [h5, he], fun x he => by rw [h5, he]⟩
    have h2' : Calls Tryz.prog 19 #[.pointer (some ⟨w1.heap.size + 1, 0, none⟩)] ((w1.alloc (.map #[] 0)).alloc (.cells #[.slice (some ⟨g, 0, none⟩) l.length cp, .int .i64 0, .map (some w1.heap.size), .slice none 0 0, .slice none 0 0, .int .i64 0] 51)) fun e w' => TxA ⟨g, 0, l.length, cp, w1.heap.size, w1.heap.size, .slice none 0 0, fun _ => none, 51⟩ (w1.heap.size + 1) qt ((w1.alloc (.map #[] 0)).alloc (.cells #[.slice (some ⟨g, 0, none⟩) l.length cp, .int .i64 0, .map (some w1.heap.size), .slice none 0 0, .slice none 0 0, .int .i64 0] 51)) e w' := by rw [hqt]; exact h2
    have HB2 : Hid (Below w.heap.size w ((w1.alloc (.map #[] 0)).alloc (.cells #[.slice (some ⟨g, 0, none⟩) l.length cp, .int .i64 0, .map (some w1.heap.size), .slice none 0 0, .slice none 0 0, .int .i64 0] 51))) := below_after (below_after HB0.out hB1) hB2
    have HR2 : Hid (((w1.alloc (.map #[] 0)).alloc (.cells #[.slice (some ⟨g, 0, none⟩) l.length cp, .int .i64 0, .map (some w1.heap.size), .slice none 0 0, .slice none 0 0, .int .i64 0] 51)).heap[w.heap.size]? = some (.cells #[.slice none 0 0, .slice none 0 0] 27 (0, 0))) := (hB2.block _ (by omega)).trans ((hB1.block w.heap.size (by rw [HSZ0.out]; omega)).trans HE0.out)
    clear h1 h2 hown hown' hso hb hg hc hm hs ht hends hok hBm hB2 hP hmap hom him hPT HEQ HQ hqt HTOK hB1
    go_wp2_with fail
    refine h2'.mono ?_
    rintro e w3 ⟨x, rfl, hB3, hx⟩
    have hB3' : Below w.heap.size w w3 := HB2.out.trans (hB3.mono (by show w.heap.size ≤ w1.heap.size; omega))
    have hR3 := (hB3.block w.heap.size (show w.heap.size < w1.heap.size by omega)).trans HR2.out
    have HR3 : Hid (w3.heap[w.heap.size]? = some (.cells #[.slice none 0 0, .slice none 0 0] 27 (0, 0))) := hR3
    have hlw : w.heap.size < w3.heap.size := (Array.getElem?_eq_some_iff.1 hR3).1
    have HB3 : Hid (Below w.heap.size w w3) := hB3'
    clear h2' HB2
    rcases hx with ⟨hx, c', X, r, st, he, hp⟩ | ⟨rfl, rv, N, rs, r, st, he, hpt⟩
    · have hx' : (x != 0) = true := by simpa using hx
      have HX : Hid (x ≠ 0) := hx
      obtain ⟨t, r', rfl⟩ := hp.ends.cons
      have HE : Hid (q = .inl (t.p, x)) := HE2.out.1 _ _ he
      have h3 := next_any c' X (w1.heap.size + 1) w3 t r' st 0 hp
      have hPl := hp.lt
      clear hx he hp hB3 hB3'
      go_wp2_with fail
      refine h3.mono ?_
      rintro e w4 ⟨v4, rfl, hr4, hB4⟩
      obtain ⟨va, vc, rfl⟩ := hr4.slice
      unfold tokV
      have hff := field_tok1 (.int .i64 t.k) (.int .i64 (t.p : Int)) (.string (strOfNums t.t)) (.slice va t.s.length vc) w4
      have hR4 := (hB4.block w.heap.size hlw).trans HR3.out
      have HR4 : Hid (w4.heap[w.heap.size]? = some (.cells #[.slice none 0 0, .slice none 0 0] 27 (0, 0))) := hR4
      have HB4 : Hid (Below w.heap.size w w4) := below_after HB3.out hB4
      have hlw4 : w.heap.size < w4.heap.size := (Array.getElem?_eq_some_iff.1 hR4).1
      have d0 : w4.cell? ⟨w.heap.size, 0, none⟩ = some (.slice none 0 0) := cell_of_row _ _ 0 _ _ _ hR4
      have df0 : w4.frozen? ⟨w.heap.size, 0, none⟩ = false := frozen_of_row _ _ 0 _ _ hR4
      have d1 : w4.cell? ⟨w.heap.size, 1, none⟩ = some (.slice none 0 0) := cell_of_row _ _ 1 _ _ _ hR4
      have df1 : w4.frozen? ⟨w.heap.size, 1, none⟩ = false := frozen_of_row _ _ 1 _ _ hR4
      clear h3 hr4 hB4 hR4 hR3 HR3
      go_wp2
      refine bodyPost_ret (results_row_tmp2 rfl _ _ w.heap.size 27 #[.slice none 0 0, .slice none 0 0] (0, 0) _ rfl ?_ Tryz.underlying27 rfl (by kernel_rfl)) rfl ?_
      · exact heap_set (heap_set HR4.out _) _
      exact ⟨(HB4.out.setCell (by simp) _).setCell (by simp) _, .inl ⟨t.p, x, HE.out, HX.out, rfl⟩⟩
    · have HE : Hid (q = .inr (rs.map Prod.fst, st)) := HE2.out.2 _ he
      obtain ⟨p1, p2, p3, p4, p5⟩ := hpt
      have hPl := p1.lt
      obtain ⟨cr, _, _⟩ := p1.rv
      have cr' : w3.cell? ⟨w1.heap.size + 1, 4, none⟩ = some rv := cr
      obtain ⟨ad, capS, vs, cs, _, _, hl60, hownS, hss, _, _, _⟩ := p1.sets
      obtain ⟨ra, rc, rfl⟩ : ∃ a cp, rv = .slice a rs.length cp := by
        rcases p2.2 with ⟨e1, e2⟩ | ⟨g, cap, cur, e1, _⟩
        · exact ⟨none, 0, by rw [show rv = .slice none 0 0 from e1, e2]⟩
        · exact ⟨_, _, e1⟩
      have hni : NoInt w3 w.heap.size := fun off k x hx => by
        simp only [World.cell?, hR3] at hx
        match off, hx with
        | 0, hx => simp at hx
        | 1, hx => simp at hx
        | n + 2, hx => simp at hx
      have hWr : Wr w.heap.size w3 ((w3.setCell ⟨w.heap.size, 0, none⟩ (.slice ad st.length capS)).setCell ⟨w.heap.size, 1, none⟩ (.slice ra rs.length rc)) := ((Wr.refl _ w3).set 0 _).set 1 _
      have hto : ∀ (Y : Nat → Prop), (∀ k, Y k → k < w3.heap.size) → ∀ k, (Y k ∧ k ≠ w.heap.size) → ((w3.setCell ⟨w.heap.size, 0, none⟩ (.slice ad st.length capS)).setCell ⟨w.heap.size, 1, none⟩ (.slice ra rs.length rc)).heap[k]? = w3.heap[k]? ∧ k < ((w3.setCell ⟨w.heap.size, 0, none⟩ (.slice ad st.length capS)).setCell ⟨w.heap.size, 1, none⟩ (.slice ra rs.length rc)).heap.size := fun Y hY k hk => ⟨hWr.block k hk.2, by rw [hWr.size]; exact hY k hk.1⟩
      have hbw : w.heap.size < w1.heap.size := by omega
      have HPG : Hid (PrgAt w.heap.size ((w3.setCell ⟨w.heap.size, 0, none⟩ (.slice ad st.length capS)).setCell ⟨w.heap.size, 1, none⟩ (.slice ra rs.length rc)) (.slice ad st.length capS) (.slice ra rs.length rc) rs st) := by
        refine ⟨⟨vs, own_block (own_mono hownS (by show w.heap.size ≤ w1.heap.size; omega)) (fun k hk => hWr.block k (fun q => ?_)), (hss.offN hni).to (hto _ (fun k hk => hk.1))⟩, own_block (own_mono p2 (by show w.heap.size ≤ w1.heap.size; omega)) (fun k hk => hWr.block k (fun q => ?_)), (p4.offN hni).to (hto _ (fun k hk => hk.1.1)), hl60, p5⟩
        · have h5 : w1.heap.size ≤ k := (hownS.lt k hk).1
          omega
        · have h5 : w1.heap.size ≤ k := (p2.lt k hk).1
          omega
      have d0 : w3.cell? ⟨w.heap.size, 0, none⟩ = some (.slice none 0 0) := cell_of_row _ _ 0 _ _ _ hR3
      have df0 : w3.frozen? ⟨w.heap.size, 0, none⟩ = false := frozen_of_row _ _ 0 _ _ hR3
      have d1 : w3.cell? ⟨w.heap.size, 1, none⟩ = some (.slice none 0 0) := cell_of_row _ _ 1 _ _ _ hR3
      have df1 : w3.frozen? ⟨w.heap.size, 1, none⟩ = false := frozen_of_row _ _ 1 _ _ hR3
      clear he p1 p2 p3 p4 p5 cr hownS hss hni hWr hto hR3 hB3 hB3'
      go_wp2
      refine bodyPost_ret (results_row_tmp2 rfl _ _ w.heap.size 27 #[.slice ad st.length capS, .slice ra rs.length rc] (0, 0) _ rfl ?_ Tryz.underlying27 rfl (by kernel_rfl)) rfl ?_
      · exact heap_set (heap_set HR3.out _) _
      exact ⟨(HB3.out.setCell (by simp) _).setCell (by simp) _, .inr ⟨rs, st, _, _, HE.out, rfl, HPG.out⟩⟩
end Go.Proofs.YtfdjchnckjgapaaGreatDoor

namespace Go.Proofs.YtfdjchnckjgapaaGreatDoor
open Go.RowKit
set_option linter.unusedVariables false
end Go.Proofs.YtfdjchnckjgapaaGreatDoor

namespace Go.Proofs.YtfdjchnckjgapaaGreatDoor
open Go.RowKit
set_option linter.unusedVariables false
def RngSrc (w : World) (v : Value) (l : List Rg) : Prop := RngIn w v l ∧ SrcIs w v l.length 2 (cellsRs l)
theorem RngSrc.nil (w : World) : RngSrc w (.slice none 0 0) [] := ⟨RngAt.nil _ _, .inl ⟨rfl, rfl, rfl⟩⟩
end Go.Proofs.YtfdjchnckjgapaaGreatDoor

namespace Go.Proofs.YtfdjchnckjgapaaGreatDoor
open Go.RowKit
set_option linter.unusedVariables false
end Go.Proofs.YtfdjchnckjgapaaGreatDoor

namespace Go.Proofs.YtfdjchnckjgapaaGreatDoor
open Go.RowKit Go.Shelf S1
set_option linter.unusedVariables false
set_option maxRecDepth 100000 in
set_option maxHeartbeats 4000000 in
theorem sameG_any (us vs : List Rg) (hlen : us.length ≤ 600000) (va vb : Value) (w : World) (ha : RngIn w va us) (hb : RngIn w vb vs) :
    Calls Tryz.prog 24 #[va, vb] w fun e w' => e = .returned (.bool (sameS us vs)) ∧ Below w.heap.size w w' := by
  obtain ⟨a, ca, rfl, hca, hia⟩ := ha
  obtain ⟨b, cb, rfl, hcb, hib⟩ := hb
  obtain ⟨q, hq⟩ : ∃ q, q = sameS us vs := ⟨_, rfl⟩
  rw [← hq]
  have HQ : Hid (q = sameS us vs) := hq
  clear hq
  by_cases hl : us.length = vs.length
  · have HA : Hid (∀ i, (h : i < us.length) → ∃ g off, a = some ⟨g, off, none⟩ ∧ g < w.heap.size ∧ w.cell? ⟨g, off + i * 2, none⟩ = some (.int .i64 us[i].lo) ∧ w.cell? ⟨g, off + i * 2 + 1, none⟩ = some (.int .i64 us[i].hi)) := hia
    have HB : Hid (∀ i, (h : i < vs.length) → ∃ g off, b = some ⟨g, off, none⟩ ∧ g < w.heap.size ∧ w.cell? ⟨g, off + i * 2, none⟩ = some (.int .i64 vs[i].lo) ∧ w.cell? ⟨g, off + i * 2 + 1, none⟩ = some (.int .i64 vs[i].hi)) := hib
    have HL : Hid (us.length = vs.length) := hl
    rw [← hl] at hcb ⊢
    clear hia hib hl
    have hneq : ((us.length : Int) != (us.length : Int)) = false := by simp
    go_enter Tryz.func24, Tryz.ntmps24
    go_wp2
    go_loopw [5] (fun i wr => ∃ k : Nat, k ≤ us.length ∧ i = .int .i64 k ∧ Hid (q = sameS (us.drop k) (vs.drop k)) ∧ ∃ nd, wr = w.drewN nd) (fun i _ => us.length - (intOf i).toNat)
    case atStart => exact ⟨0, Nat.zero_le _, rfl, HQ.out, 0, rfl⟩
    case round =>
      obtain ⟨k, hk, rfl, HD, nd, rfl⟩ := hrel
      by_cases hlt : k < us.length
      · have hlt2 : k < vs.length := by have := HL.out; omega
        obtain ⟨ga, oa, rfl, hga, a0, a1⟩ := HA.out k hlt
        obtain ⟨gb, ob, rfl, hgb, b0, b1⟩ := HB.out k hlt2
        obtain ⟨xl, hxl⟩ : ∃ x, x = us[k].lo := ⟨_, rfl⟩
        obtain ⟨xh, hxh⟩ : ∃ x, x = us[k].hi := ⟨_, rfl⟩
        obtain ⟨yl, hyl⟩ : ∃ x, x = vs[k].lo := ⟨_, rfl⟩
        obtain ⟨yh, hyh⟩ : ∃ x, x = vs[k].hi := ⟨_, rfl⟩
        have HD2 : Hid (q = ((xl == yl && xh == yh) && sameS (us.drop (k + 1)) (vs.drop (k + 1)))) := by
          show _ = _
          rw [hxl, hxh, hyl, hyh, ← sameS_drop hlt hlt2]; exact HD.out
        rw [← hxl] at a0
        rw [← hxh] at a1
        rw [← hyl] at b0
        rw [← hyh] at b1
        clear hxl hxh hyl hyh hlt2
        have hk0 : (0 : Int) ≤ (k : Int) := by omega
        have hk1 : (k : Int) < (us.length : Int) := by omega
        cases h1 : (xl == yl) with
        | false =>
          have h1' : (xl != yl) = true := by simp only [bne, h1]; rfl
          have HD3 : Hid (q = false) := by
            show _ = _
            rw [HD2.out, h1]; rfl
          clear HD HD2
          go_wp2
          go_quiet (fail)
          go_wp2
          go_ret
          refine ⟨by rw [HD3.out]; rfl, ?_⟩
          first | exact below_drewN' (below_drewN' (Below.refl _ _) _) _ | exact below_drewN' (Below.refl _ _) _
        | true =>
          have h1' : (xl != yl) = false := by simp only [bne, h1]; rfl
          cases h2 : (xh == yh) with
          | false =>
            have h2' : (xh != yh) = true := by simp only [bne, h2]; rfl
            have HD3 : Hid (q = false) := by
              show _ = _
              rw [HD2.out, h1, h2]; rfl
            clear HD HD2
            go_wp2
            go_quiet (fail)
            go_wp2
            go_ret
            refine ⟨by rw [HD3.out]; rfl, ?_⟩
            first | exact below_drewN' (below_drewN' (Below.refl _ _) _) _ | exact below_drewN' (Below.refl _ _) _
          | true =>
            have h2' : (xh != yh) = false := by simp only [bne, h2]; rfl
            have HD3 : Hid (q = sameS (us.drop (k + 1)) (vs.drop (k + 1))) := by
              show _ = _
              rw [HD2.out, h1, h2]; rfl
            clear HD HD2
            go_wp2
            go_quiet (fail)
            go_wp2
            go_roundw
            case rel => exact ⟨k + 1, by omega, by go_num, HD3, _, rfl⟩
            case measure => simp [intOf]; omega
      · obtain rfl : k = us.length := by omega
        have HD3 : Hid (q = true) := by
          show _ = _
          rw [HD.out, List.drop_length, HL.out, List.drop_length]; rfl
        go_wp2
        go_ret
        exact ⟨by rw [HD3.out]; rfl, below_drewN' (Below.refl _ _) _⟩
  · have hneq : ((us.length : Int) != (vs.length : Int)) = true := by simp; omega
    have HE : Hid (q = false) := HQ.out.trans (sameS_len hl)
    clear hia hib hl
    go_enter Tryz.func24, Tryz.ntmps24
    go_wp2
    go_ret
    exact ⟨by rw [HE.out]; rfl, Below.refl _ _⟩
end Go.Proofs.YtfdjchnckjgapaaGreatDoor

namespace Go.Proofs.YtfdjchnckjgapaaGreatDoor
open Go.RowKit Go.Shelf S1
set_option linter.unusedVariables false
section
variable (c : Pc) (X : Nat → Prop) (P : Nat) (w : World) (t : Tok) (r : List Tok) (st : Sts) (d : Nat)
end
end Go.Proofs.YtfdjchnckjgapaaGreatDoor

namespace Go.Proofs.YtfdjchnckjgapaaGreatDoor
open Go.RowKit Go.Shelf S1
set_option linter.unusedVariables false
end Go.Proofs.YtfdjchnckjgapaaGreatDoor

namespace Go.Proofs.YtfdjchnckjgapaaGreatDoor
open Go.RowKit Go.Shelf S1
set_option linter.unusedVariables false
end Go.Proofs.YtfdjchnckjgapaaGreatDoor

namespace Go.Proofs.YtfdjchnckjgapaaGreatDoor
open Go.RowKit Go.Shelf S1
set_option linter.unusedVariables false
end Go.Proofs.YtfdjchnckjgapaaGreatDoor

namespace Go.Proofs.YtfdjchnckjgapaaGreatDoor
open Go.RowKit Go.Shelf S1
set_option linter.unusedVariables false
end Go.Proofs.YtfdjchnckjgapaaGreatDoor

namespace Go.Proofs.YtfdjchnckjgapaaGreatDoor
open Go.RowKit Go.Shelf S1
set_option linter.unusedVariables false
end Go.Proofs.YtfdjchnckjgapaaGreatDoor

namespace Go.Proofs.YtfdjchnckjgapaaGreatDoor
open Go.RowKit
set_option linter.unusedVariables false
end Go.Proofs.YtfdjchnckjgapaaGreatDoor
