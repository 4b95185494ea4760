/-
  What syntax.Parse answers. A string appended to bytes that are owned: where the bytes then lie. The printer in memory, and what write answers.
-/
import Derived.Test.YtohaegaocklnkaaGreatDoorX27
import Derived.Test.YtohaegaocklnkaaGreatDoorX13
import Derived.Lib.AppendStr
namespace Go.Proofs.YtohaegaocklnkaaGreatDoor
open Go.RowKit Go.Shelf S1
set_option linter.unusedVariables false

/-- A program in memory, in rows from base on. -/
def PrgAt (base : Nat) (w : World) (sv rv : Value) (rs : List RlV) (st : Sts) : Prop :=
  (∃ vs, w.ownsRow base 44 1 sv st.length vs ∧ SetsS (fun k => k < w.heap.size) w vs st) ∧ w.ownsRow base 41 7 rv rs.length (cellsRls rs) ∧ RlX (fun k => k < w.heap.size) w rs ∧ st.length ≤ 60 ∧ rs.length ≤ 64
theorem PrgAt.below {base : Nat} {w w' : World} {sv rv : Value} {rs : List RlV} {st : Sts} (h : PrgAt base w sv rv rs st) (hB : Below w.heap.size w w') : PrgAt base w' sv rv rs st := by
  obtain ⟨⟨vs, h1, h2⟩, h3, h4, h5⟩ := h
  have hq : ∀ k, k < w.heap.size → w'.heap[k]? = w.heap[k]? ∧ k < w'.heap.size := fun k hk => ⟨hB.block k hk, Nat.lt_of_lt_of_le hk hB.size⟩
  exact ⟨⟨vs, own_block h1 (fun k hk => hB.block k (h1.lt k hk).2), h2.to hq⟩, own_block h3 (fun k hk => hB.block k (h3.lt k hk).2), h4.to hq, h5⟩
/-- A block that holds no number is none of a set's, nor an expression's. -/
def NoInt (w : World) (R : Nat) : Prop := ∀ off k x, w.cell? ⟨R, off, none⟩ ≠ some (.int k x)
theorem RngS.offN {Q : Nat → Prop} {w : World} {v : Value} {l : List Rg} {R : Nat} (hm : NoInt w R) (h : RngS Q w v l) : RngS (fun k => Q k ∧ k ≠ R) w v l := by
  obtain ⟨a, cap, e, hc, hn, hi⟩ := h
  refine ⟨a, cap, e, hc, hn, fun i hlt => ?_⟩
  obtain ⟨g, off, rfl, hg, h0, h1⟩ := hi i hlt
  exact ⟨g, off, rfl, ⟨hg, fun q => hm _ _ _ (q ▸ h0)⟩, h0, h1⟩
theorem SetsS.offN {Q : Nat → Prop} {w : World} {vs : List Value} {st : Sts} {R : Nat} (hm : NoInt w R) (h : SetsS Q w vs st) : SetsS (fun k => Q k ∧ k ≠ R) w vs st := ⟨h.1, fun i hi => by
  obtain ⟨v, h1, h2, h3⟩ := h.2 i hi
  exact ⟨v, h1, h2.offN hm, h3⟩⟩
theorem KidS.offN {Q : Nat → Prop} {w : World} {R : Nat} (hm : NoInt w R) : ∀ {f : Nat} {z : Value} {l : List Nd}, KidS Q w f z l → KidS (fun k => Q k ∧ k ≠ R) w f z l
  | 0, z, l, h => h
  | f + 1, z, l, ⟨a, cap, e, hc, hi⟩ => ⟨a, cap, e, hc, fun i h => by
    obtain ⟨g, off, z', h1, h2, h3, h4, h5, h6⟩ := hi i h
    exact ⟨g, off, z', h1, ⟨h2, fun q => hm _ _ _ (q ▸ h3)⟩, h3, h4, h5, h6.offN hm⟩⟩
theorem RlX.offN {Q : Nat → Prop} {w : World} {R : Nat} (hm : NoInt w R) {l : List RlV} (h : RlX Q w l) : RlX (fun k => Q k ∧ k ≠ R) w l := fun x hx => by
  obtain ⟨⟨f, h1⟩, ⟨g, h2⟩⟩ := h x hx
  exact ⟨⟨f, h1.offN hm⟩, ⟨g, h2.offN hm⟩⟩
/-- What Parse tells. -/
def PaA (w : World) (q : (Nat × Int) ⊕ (List Rl × Sts)) (e : Ending) (w' : World) : Prop := Below w.heap.size w w' ∧
  ((∃ a x, q = .inl (a, x) ∧ x ≠ 0 ∧ e = .returned (.tuple #[.agg #[.slice none 0 0, .slice none 0 0], .int .i64 ((a : Nat) : Int), .int .i64 x])) ∨
   (∃ rs st sv rv, q = .inr (rs.map Prod.fst, st) ∧ e = .returned (.tuple #[.agg #[sv, rv], .int .i64 0, .int .i64 0]) ∧ PrgAt w.heap.size w' sv rv rs st))
theorem mkS_eq {l s : List Rg} (hf : Fits l) (h : Upto (hasR l) s 1114112) : mkS l = s := by
  have h2 : Upto (fun x => hasR l x) (mkS l) 1114112 := pick_spec l [] hf (fun x hx => (by cases hx)) (fun x _ => x)
  exact h2.unique h

/-- The tokens of a text, as the parser takes them. -/
theorem toks_ready {w : World} {base : Nat} {l : List (Tok × Value)} {g cp : Nat} {m : Nat} (hm : m ≤ 70000) (hown : w.ownsRow base 55 4 (.slice (some ⟨g, 0, none⟩) l.length cp) l.length (cellsTs l)) (hso : SetsOwn w base l) (hok : ∀ t ∈ l.map Prod.fst, TkOk m t) : TokS (fun k => k < w.heap.size) w g 0 0 ((l.map Prod.fst).map canT) := fun i hi => by
  have hi' : i < l.length := by simpa using hi
  obtain ⟨a, cap, e, _, hx⟩ := toks_of_row hown
  obtain ⟨rfl, _, rfl⟩ : some ⟨g, 0, none⟩ = a ∧ l.length = l.length ∧ cp = cap := by simpa using e
  obtain ⟨g', off', e2, h0, h1, h2, h3, h4⟩ := hx i hi'
  obtain ⟨rfl, rfl⟩ : g = g' ∧ 0 = off' := by simpa using e2
  obtain ⟨s, s1, s2, s3⟩ := hso l[i] (List.getElem_mem hi')
  obtain ⟨o1, o2, o3⟩ := hok l[i].1 (List.mem_map_of_mem (List.getElem_mem hi'))
  have el : ((l.map Prod.fst).map canT)[i] = canT l[i].1 := by simp
  rw [el]
  have es : (canT l[i].1).s = s := mkS_eq o1 s1
  rw [es]
  rw [show 0 + (0 + i) * 4 = 0 + i * 4 by omega]
  exact ⟨h0, h1, h2, h3, ⟨l[i].2, h4, rngS_of_row s3 (fun k _ hk => hk)⟩, s1.isSet, o2, by have := o3; show l[i].1.t.length ≤ _; omega⟩

set_option maxRecDepth 100000 in
set_option maxHeartbeats 16000000 in
theorem parse_any8 (zs : List Int) (hby : Byt zs) (hz : zs.length ≤ 65536) (us : List U) (hus : Run zs 0 us zs.length) (ta : Option Addr) (cap : Nat) (w : World) (hsv : SynV w) (hI : BytesAt w.heap.size w (.slice ta zs.length cap) zs) :
    Calls Tryz.prog 10 #[.slice ta zs.length cap] w fun e w' => PaA w (parseL (toksL zs.length us)) e w' := by
  have hB0 := below_alloc w (.cells #[.slice none 0 0, .slice none 0 0] 27)
  have h1 := tokens_any zs hby hz us hus ta cap (w.alloc (.cells #[.slice none 0 0, .slice none 0 0] 27)) (hsv.grown (World.grownBy_alloc w _ none) (by simp)) ((hI.below hB0).mono hB0.size)
  have HTOK : Hid (∀ l, toksL zs.length us = TR.good l → EndsT l ∧ ∀ t ∈ l, TkOk zs.length t) := fun l h => toks_ok hus h
  have HB0 : Hid (Below w.heap.size w (w.alloc (.cells #[.slice none 0 0, .slice none 0 0] 27))) := hB0
  have HE0 : Hid ((w.alloc (.cells #[.slice none 0 0, .slice none 0 0] 27)).heap[w.heap.size]? = some (.cells #[.slice none 0 0, .slice none 0 0] 27 (0, 0))) := heap_new' _ _
  have HSZ0 : Hid ((w.alloc (.cells #[.slice none 0 0, .slice none 0 0] 27)).heap.size = w.heap.size + 1) := by show _ = _; simp
  obtain ⟨tr, htr⟩ : ∃ tr, tr = toksL zs.length us := ⟨_, rfl⟩
  rw [← htr] at h1 HTOK
  rw [← htr]
  obtain ⟨q, hq⟩ : ∃ q, q = parseL tr := ⟨_, rfl⟩
  rw [← hq]
  have HQ : Hid (q = parseL tr) := hq
  have hmm := @run_makeMap Tryz.prog
  clear htr hq hI hsv hus hby hB0
  go_enter Tryz.func10, Tryz.ntmps10
  go_wp2_with fail
  refine h1.mono ?_
  rintro e w1 (⟨a, x, rfl, rfl, hx, hB1⟩ | ⟨l, v, rfl, hll, rfl, hown, hso, hB1⟩)
  · have hx' : (x != 0) = true := by simpa using hx
    have HX : Hid (x ≠ 0) := hx
    have hR := (hB1.block w.heap.size (by rw [HSZ0.out]; omega)).trans HE0.out
    have HR : Hid (w1.heap[w.heap.size]? = some (.cells #[.slice none 0 0, .slice none 0 0] 27 (0, 0))) := hR
    have hlw : w.heap.size < w1.heap.size := by have := hB1.size; rw [HSZ0.out] at this; omega
    have HB1 : Hid (Below w.heap.size w w1) := below_after HB0.out hB1
    have d0 : w1.cell? ⟨w.heap.size, 0, none⟩ = some (.slice none 0 0) := cell_of_row _ _ 0 _ _ _ hR
    have df0 : w1.frozen? ⟨w.heap.size, 0, none⟩ = false := frozen_of_row _ _ 0 _ _ hR
    have d1 : w1.cell? ⟨w.heap.size, 1, none⟩ = some (.slice none 0 0) := cell_of_row _ _ 1 _ _ _ hR
    have df1 : w1.frozen? ⟨w.heap.size, 1, none⟩ = false := frozen_of_row _ _ 1 _ _ hR
    clear h1 hx hB1 hR
    go_wp2
    refine bodyPost_ret (results_row_tmp2 rfl _ _ w.heap.size 27 #[.slice none 0 0, .slice none 0 0] (0, 0) _ rfl ?_ Tryz.underlying27 rfl (by kernel_rfl)) rfl ?_
    · exact heap_set (heap_set HR.out _) _
    exact ⟨(HB1.out.setCell (by simp) _).setCell (by simp) _, .inl ⟨a, x, HQ.out, HX.out, rfl⟩⟩
  · obtain ⟨hends, hok⟩ := HTOK.out _ rfl
    have hlpos : 0 < l.length := by have := hends.pos; simpa using this
    have hown' := hown
    rcases hown.2 with ⟨rfl, h0⟩ | ⟨g, cp, cur, rfl, hb, hg, hc, hm, hs, ht⟩
    · omega
    -- the parser, as it begins
    have hsz1 : w.heap.size + 1 ≤ w1.heap.size := by have := hB1.size; rw [HSZ0.out] at this; exact this
    have hBm := below_alloc w1 (.map #[] 0)
    have hB2 : Below w1.heap.size w1 ((w1.alloc (.map #[] 0)).alloc (.cells #[.slice (some ⟨g, 0, none⟩) l.length cp, .int .i64 0, .map (some w1.heap.size), .slice none 0 0, .slice none 0 0, .int .i64 0] 52)) := below_after hBm (below_alloc _ _)
    have hsz2 : ((w1.alloc (.map #[] 0)).alloc (.cells #[.slice (some ⟨g, 0, none⟩) l.length cp, .int .i64 0, .map (some w1.heap.size), .slice none 0 0, .slice none 0 0, .int .i64 0] 52)).heap.size = w1.heap.size + 2 := by simp
    have hP := heap_new' (w1.alloc (.map #[] 0)) (.cells #[.slice (some ⟨g, 0, none⟩) l.length cp, .int .i64 0, .map (some w1.heap.size), .slice none 0 0, .slice none 0 0, .int .i64 0] 52)
    rw [World.size_alloc] at hP
    have hmap : ((w1.alloc (.map #[] 0)).alloc (.cells #[.slice (some ⟨g, 0, none⟩) l.length cp, .int .i64 0, .map (some w1.heap.size), .slice none 0 0, .slice none 0 0, .int .i64 0] 52)).heap[w1.heap.size]? = some (.map #[] 0) := ((below_alloc _ _).block _ (by simp)).trans (heap_new' w1 _)
    have hom : ((w1.alloc (.map #[] 0)).alloc (.cells #[.slice (some ⟨g, 0, none⟩) l.length cp, .int .i64 0, .map (some w1.heap.size), .slice none 0 0, .slice none 0 0, .int .i64 0] 52)).ownsMap Tryz.prog 9 heldR w1.heap.size 0 (.map []) := ownsMap_block (World.ownsMap_made w1 Tryz.prog 9 heldR) (((below_alloc (w1.alloc (.map #[] 0)) (.cells #[.slice (some ⟨g, 0, none⟩) l.length cp, .int .i64 0, .map (some w1.heap.size), .slice none 0 0, .slice none 0 0, .int .i64 0] 52)).block _ (by simp)))
    have him : ∀ k, k < w1.heap.size + 1 → Im (XV NoX (.slice none 0 0)) ((w1.alloc (.map #[] 0)).alloc (.cells #[.slice (some ⟨g, 0, none⟩) l.length cp, .int .i64 0, .map (some w1.heap.size), .slice none 0 0, .slice none 0 0, .int .i64 0] 52)) (w1.heap.size + 1) k := fun k hk => ⟨by omega, by omega, fun x hx => by
      have : ((w1.alloc (.map #[] 0)).alloc (.cells #[.slice (some ⟨g, 0, none⟩) l.length cp, .int .i64 0, .map (some w1.heap.size), .slice none 0 0, .slice none 0 0, .int .i64 0] 52)).cell? ⟨w1.heap.size + 1, 3, none⟩ = some (.slice none 0 0) := cell_of_row _ _ 3 _ _ _ hP
      rw [this] at hx
      obtain rfl : Value.slice none 0 0 = x := by simpa using hx
      simp [Value.ownBlock], fun q => q.elim id (fun q => by simp [Value.ownBlock] at q)⟩
    have hPT : PT ⟨g, 0, l.length, cp, w1.heap.size, w1.heap.size, .slice none 0 0, fun _ => none, 52⟩ (w1.heap.size + 1) ((w1.alloc (.map #[] 0)).alloc (.cells #[.slice (some ⟨g, 0, none⟩) l.length cp, .int .i64 0, .map (some w1.heap.size), .slice none 0 0, .slice none 0 0, .int .i64 0] 52)) [] ((l.map Prod.fst).map canT) [] := by
      refine ⟨⟨0, .slice none 0 0, hP, ⟨by simp, by show l.length ≤ _; omega, hc, endsT_map hends, ((toks_ready (m := zs.length) (by omega) hown hso hok).to (fun k hk => ⟨hB2.block k hk, him k (Nat.lt_succ_of_lt hk)⟩)), ⟨[], World.ownsRow_nil _ _ _ _, ⟨rfl, fun i hi => (by cases hi)⟩⟩, by simp [Value.ownBlock], by simp, ⟨him w1.heap.size (by omega), 0, .map [], by omega, hom, fun x hx hl => ⟨fun _ => rfl, fun s hs => (by cases hs)⟩⟩, by show w1.heap.size ≤ _; omega, fun j hj => hj.elim (fun q => q.elim) (fun q => by simp [Value.ownBlock] at q)⟩, by omega⟩, World.ownsRow_nil _ _ _ _, fun k hk => by simp [Value.ownBlock] at hk, fun x hx => (by cases hx), by simp⟩
    have h2 := text_any _ (w1.heap.size + 1) ((w1.alloc (.map #[] 0)).alloc (.cells #[.slice (some ⟨g, 0, none⟩) l.length cp, .int .i64 0, .map (some w1.heap.size), .slice none 0 0, .slice none 0 0, .int .i64 0] 52)) [] _ [] hPT (Nat.le_refl _) (l.length + 1) (by simp)
    have HEQ : Hid (q = match textF (l.length + 1) (fun _ => none) [] ((l.map Prod.fst).map canT) [] with
      | .inl (r, e) => .inl ((hdT r).p, e)
      | .inr x => .inr x) := by
      show _ = _
      rw [HQ.out]
      show parseL (.inr (l.map Prod.fst)) = _
      unfold parseL
      simp only [List.length_map]
      rfl
    obtain ⟨qt, hqt⟩ : ∃ qt, qt = textF (l.length + 1) (fun _ => none) [] ((l.map Prod.fst).map canT) [] := ⟨_, rfl⟩
    have HE2 : Hid ((∀ r e, qt = .inl (r, e) → q = .inl ((hdT r).p, e)) ∧ ∀ x, qt = .inr x → q = .inr x) := by
      have h5 := HEQ.out
      rw [← hqt] at h5
      exact ⟨fun r e he => by rw [h5, he], fun x he => by rw [h5, he]⟩
    have h2' : Calls Tryz.prog 21 #[.pointer (some ⟨w1.heap.size + 1, 0, none⟩)] ((w1.alloc (.map #[] 0)).alloc (.cells #[.slice (some ⟨g, 0, none⟩) l.length cp, .int .i64 0, .map (some w1.heap.size), .slice none 0 0, .slice none 0 0, .int .i64 0] 52)) fun e w' => TxA ⟨g, 0, l.length, cp, w1.heap.size, w1.heap.size, .slice none 0 0, fun _ => none, 52⟩ (w1.heap.size + 1) qt ((w1.alloc (.map #[] 0)).alloc (.cells #[.slice (some ⟨g, 0, none⟩) l.length cp, .int .i64 0, .map (some w1.heap.size), .slice none 0 0, .slice none 0 0, .int .i64 0] 52)) e w' := by rw [hqt]; exact h2
    have HB2 : Hid (Below w.heap.size w ((w1.alloc (.map #[] 0)).alloc (.cells #[.slice (some ⟨g, 0, none⟩) l.length cp, .int .i64 0, .map (some w1.heap.size), .slice none 0 0, .slice none 0 0, .int .i64 0] 52))) := below_after (below_after HB0.out hB1) hB2
    have HR2 : Hid (((w1.alloc (.map #[] 0)).alloc (.cells #[.slice (some ⟨g, 0, none⟩) l.length cp, .int .i64 0, .map (some w1.heap.size), .slice none 0 0, .slice none 0 0, .int .i64 0] 52)).heap[w.heap.size]? = some (.cells #[.slice none 0 0, .slice none 0 0] 27 (0, 0))) := (hB2.block _ (by omega)).trans ((hB1.block w.heap.size (by rw [HSZ0.out]; omega)).trans HE0.out)
    clear h1 h2 hown hown' hso hb hg hc hm hs ht hends hok hBm hB2 hP hmap hom him hPT HEQ HQ hqt HTOK hB1
    go_wp2_with fail
    refine h2'.mono ?_
    rintro e w3 ⟨x, rfl, hB3, hx⟩
    have hB3' : Below w.heap.size w w3 := HB2.out.trans (hB3.mono (by show w.heap.size ≤ w1.heap.size; omega))
    have hR3 := (hB3.block w.heap.size (show w.heap.size < w1.heap.size by omega)).trans HR2.out
    have HR3 : Hid (w3.heap[w.heap.size]? = some (.cells #[.slice none 0 0, .slice none 0 0] 27 (0, 0))) := hR3
    have hlw : w.heap.size < w3.heap.size := (Array.getElem?_eq_some_iff.1 hR3).1
    have HB3 : Hid (Below w.heap.size w w3) := hB3'
    clear h2' HB2
    rcases hx with ⟨hx, c', X, r, st, he, hp⟩ | ⟨rfl, rv, N, rs, r, st, he, hpt⟩
    · have hx' : (x != 0) = true := by simpa using hx
      have HX : Hid (x ≠ 0) := hx
      obtain ⟨t, r', rfl⟩ := hp.ends.cons
      have HE : Hid (q = .inl (t.p, x)) := HE2.out.1 _ _ he
      have h3 := next_any c' X (w1.heap.size + 1) w3 t r' st 0 hp
      have hPl := hp.lt
      clear hx he hp hB3 hB3'
      go_wp2_with fail
      refine h3.mono ?_
      rintro e w4 ⟨v4, rfl, hr4, hB4⟩
      obtain ⟨va, vc, rfl⟩ := hr4.slice
      unfold tokV
      have hff := field_tok1 (.int .i64 t.k) (.int .i64 (t.p : Int)) (.string (strOfNums t.t)) (.slice va t.s.length vc) w4
      have hR4 := (hB4.block w.heap.size hlw).trans HR3.out
      have HR4 : Hid (w4.heap[w.heap.size]? = some (.cells #[.slice none 0 0, .slice none 0 0] 27 (0, 0))) := hR4
      have HB4 : Hid (Below w.heap.size w w4) := below_after HB3.out hB4
      have hlw4 : w.heap.size < w4.heap.size := (Array.getElem?_eq_some_iff.1 hR4).1
      have d0 : w4.cell? ⟨w.heap.size, 0, none⟩ = some (.slice none 0 0) := cell_of_row _ _ 0 _ _ _ hR4
      have df0 : w4.frozen? ⟨w.heap.size, 0, none⟩ = false := frozen_of_row _ _ 0 _ _ hR4
      have d1 : w4.cell? ⟨w.heap.size, 1, none⟩ = some (.slice none 0 0) := cell_of_row _ _ 1 _ _ _ hR4
      have df1 : w4.frozen? ⟨w.heap.size, 1, none⟩ = false := frozen_of_row _ _ 1 _ _ hR4
      clear h3 hr4 hB4 hR4 hR3 HR3
      go_wp2
      refine bodyPost_ret (results_row_tmp2 rfl _ _ w.heap.size 27 #[.slice none 0 0, .slice none 0 0] (0, 0) _ rfl ?_ Tryz.underlying27 rfl (by kernel_rfl)) rfl ?_
      · exact heap_set (heap_set HR4.out _) _
      exact ⟨(HB4.out.setCell (by simp) _).setCell (by simp) _, .inl ⟨t.p, x, HE.out, HX.out, rfl⟩⟩
    · have HE : Hid (q = .inr (rs.map Prod.fst, st)) := HE2.out.2 _ he
      obtain ⟨p1, p2, p3, p4, p5⟩ := hpt
      have hPl := p1.lt
      obtain ⟨cr, _, _⟩ := p1.rv
      have cr' : w3.cell? ⟨w1.heap.size + 1, 4, none⟩ = some rv := cr
      obtain ⟨ad, capS, vs, cs, _, _, hl60, hownS, hss, _, _, _⟩ := p1.sets
      obtain ⟨ra, rc, rfl⟩ : ∃ a cp, rv = .slice a rs.length cp := by
        rcases p2.2 with ⟨e1, e2⟩ | ⟨g, cap, cur, e1, _⟩
        · exact ⟨none, 0, by rw [show rv = .slice none 0 0 from e1, e2]⟩
        · exact ⟨_, _, e1⟩
      have hni : NoInt w3 w.heap.size := fun off k x hx => by
        simp only [World.cell?, hR3] at hx
        match off, hx with
        | 0, hx => simp at hx
        | 1, hx => simp at hx
        | n + 2, hx => simp at hx
      have hWr : Wr w.heap.size w3 ((w3.setCell ⟨w.heap.size, 0, none⟩ (.slice ad st.length capS)).setCell ⟨w.heap.size, 1, none⟩ (.slice ra rs.length rc)) := ((Wr.refl _ w3).set 0 _).set 1 _
      have hto : ∀ (Y : Nat → Prop), (∀ k, Y k → k < w3.heap.size) → ∀ k, (Y k ∧ k ≠ w.heap.size) → ((w3.setCell ⟨w.heap.size, 0, none⟩ (.slice ad st.length capS)).setCell ⟨w.heap.size, 1, none⟩ (.slice ra rs.length rc)).heap[k]? = w3.heap[k]? ∧ k < ((w3.setCell ⟨w.heap.size, 0, none⟩ (.slice ad st.length capS)).setCell ⟨w.heap.size, 1, none⟩ (.slice ra rs.length rc)).heap.size := fun Y hY k hk => ⟨hWr.block k hk.2, by rw [hWr.size]; exact hY k hk.1⟩
      have hbw : w.heap.size < w1.heap.size := by omega
      have HPG : Hid (PrgAt w.heap.size ((w3.setCell ⟨w.heap.size, 0, none⟩ (.slice ad st.length capS)).setCell ⟨w.heap.size, 1, none⟩ (.slice ra rs.length rc)) (.slice ad st.length capS) (.slice ra rs.length rc) rs st) := by
        refine ⟨⟨vs, own_block (own_mono hownS (by show w.heap.size ≤ w1.heap.size; omega)) (fun k hk => hWr.block k (fun q => ?_)), (hss.offN hni).to (hto _ (fun k hk => hk.1))⟩, own_block (own_mono p2 (by show w.heap.size ≤ w1.heap.size; omega)) (fun k hk => hWr.block k (fun q => ?_)), (p4.offN hni).to (hto _ (fun k hk => hk.1.1)), hl60, p5⟩
        · have h5 : w1.heap.size ≤ k := (hownS.lt k hk).1
          omega
        · have h5 : w1.heap.size ≤ k := (p2.lt k hk).1
          omega
      have d0 : w3.cell? ⟨w.heap.size, 0, none⟩ = some (.slice none 0 0) := cell_of_row _ _ 0 _ _ _ hR3
      have df0 : w3.frozen? ⟨w.heap.size, 0, none⟩ = false := frozen_of_row _ _ 0 _ _ hR3
      have d1 : w3.cell? ⟨w.heap.size, 1, none⟩ = some (.slice none 0 0) := cell_of_row _ _ 1 _ _ _ hR3
      have df1 : w3.frozen? ⟨w.heap.size, 1, none⟩ = false := frozen_of_row _ _ 1 _ _ hR3
      clear he p1 p2 p3 p4 p5 cr hownS hss hni hWr hto hR3 hB3 hB3'
      go_wp2
      refine bodyPost_ret (results_row_tmp2 rfl _ _ w.heap.size 27 #[.slice ad st.length capS, .slice ra rs.length rc] (0, 0) _ rfl ?_ Tryz.underlying27 rfl (by kernel_rfl)) rfl ?_
      · exact heap_set (heap_set HR3.out _) _
      exact ⟨(HB3.out.setCell (by simp) _).setCell (by simp) _, .inr ⟨rs, st, _, _, HE.out, rfl, HPG.out⟩⟩
end Go.Proofs.YtohaegaocklnkaaGreatDoor

namespace Go.Proofs.YtohaegaocklnkaaGreatDoor
open Go.RowKit Go.Shelf Go.Lib S1
set_option linter.unusedVariables false

section
variable {P : Program} (w : World)
theorem append_str_lies (base : Nat) (t u ty e : TypeId) (i : TypeInfo) (ht : P.underlying t = some (.slice e)) (hu : P.underlying u = some .string) (hi : P.info? e = some i) (hz : i.zero = some (.int .u8 0))
    (hsize : i.size = 1) (hby : i.bytes = 1)
    (v : Value) (n : Nat) (xs : List Value) (hown : w.ownsRow base e 1 v n xs) (s : ByteArray)
    (h63 : n + s.size ≤ maxLen) (hbytes : n + s.size ≤ 140737488355328) (hbase : base ≤ w.heap.size) :
    ∃ v' w', (Builtin.append_ #[t, u] ty #[v, .string s]).run P w = .ok v' w' ∧ w'.ownsRow base e 1 v' (n + s.size) (xs ++ strCells s) ∧ w.grownBy w' v.ownBlock ∧
      (v'.ownBlock = v.ownBlock ∨ ∀ k, v'.ownBlock = some k → w.heap.size ≤ k) := by
  obtain ⟨v', w', hr, h2, h3, h4⟩ := run_append_own_string (P := P) w base t u ty e i ht hu hi hz hsize hby v n xs hown s h63 hbytes hbase
  refine ⟨v', w', hr, h2, h3, ?_⟩
  have hsmall : n + s.size ≤ 9223372036854775807 := by simp only [maxLen] at h63; omega
  have hxl : xs.length = n := by simpa using hown.1
  rcases hown.2 with ⟨rfl, rfl⟩ | ⟨g, cap, cur, rfl, hbg, hg, hnc, hcm, hcs, htake⟩
  · right
    have hx : xs = [] := List.eq_nil_of_length_eq_zero hxl
    subst hx
    obtain ⟨v2, w2, hr2, h5, _, _⟩ := run_append_own_string (P := P) w w.heap.size t u ty e i ht hu hi hz hsize hby (.slice none 0 0) 0 [] (World.ownsRow_nil w _ e 1) s h63 hbytes (Nat.le_refl _)
    have e2 := hr.symm.trans hr2
    simp only [Result.ok.injEq] at e2
    intro k hk
    rw [e2.1] at hk
    exact (h5.lt k hk).1
  · by_cases hroom : n + s.size ≤ cap
    · left
      have hcs' : cur.size = cap := by simpa using hcs
      have hr2 := run_append_room_string (P := P) w t u ty e i ht hu hi hsize g n cap cur hg s hroom (by omega)
      have e2 := hr.symm.trans hr2
      simp only [Result.ok.injEq] at e2
      rw [e2.1]; rfl
    · right
      have holds : ∀ j u, xs[j]? = some u → w.cell? ((⟨g, 0, none⟩ : Addr).add j) = some u := World.ownsRow.cells (e := e) (size := 1) hown (g := g) rfl
      have hr2 := run_append_grow_string (P := P) w t u ty e i (.int .u8 0) ht hu hi hz ⟨g, 0, none⟩ n cap xs (by rw [hsize]; simpa using hxl) holds s (by omega) (by omega) (by rw [hby]; exact growslice_fits (by omega) (by omega))
      have e2 := hr.symm.trans hr2
      simp only [Result.ok.injEq] at e2
      intro k hk
      rw [e2.1] at hk
      have : w.heap.size = k := by simpa [Value.ownBlock] using hk
      omega
theorem wpList_append_lies_string {ops : Array Oper} {rest : List Oper} {o : Oper} {a : Act} {Q : Exit → Act → World → Prop} (hgd : o.guard = none) (sl x : Operand) (t u : TypeId)
    (ho : o.op = .call { callee := .builtin .append, args := #[sl, x], argTypes := #[t, u] })
    (base : Nat) (e : TypeId) (i : TypeInfo) (ht : P.underlying t = some (.slice e)) (hu : P.underlying u = some .string) (hi : P.info? e = some i) (hz : i.zero = some (.int .u8 0))
    (hsize : i.size = 1) (hby : i.bytes = 1)
    (v : Value) (n : Nat) (xs : List Value) (hs : a.eval sl = v) (hown : w.ownsRow base e 1 v n xs) (s : ByteArray) (hx : a.eval x = .string s)
    (h63 : n + s.size ≤ maxLen) (hbytes : n + s.size ≤ 140737488355328) (hbase : base ≤ w.heap.size)
    (h : ∀ v' w', w'.ownsRow base e 1 v' (n + s.size) (xs ++ strCells s) → w.grownBy w' v.ownBlock → (v'.ownBlock = v.ownBlock ∨ ∀ k, v'.ownBlock = some k → w.heap.size ≤ k) → wpList P ops Q rest (a.put o.dst v') w') : wpList P ops Q (o :: rest) a w := by
  refine wpList_plain hgd fun K hK => ?_
  obtain ⟨v', w', hr, h2, h3, h4⟩ := append_str_lies (P := P) w base t u o.type e i ht hu hi hz hsize hby v n xs hown s h63 hbytes hbase
  unfold Oper.wp execOp
  simp only [ho, resolve, invoke, builtin, Sem.run_bind, Sem.run_pure, Result.andThen_ok, List.map_toArray, List.map_cons, List.map_nil, hs, hx, hr]
  exact hK _ _ (h v' w' h2 h3 h4)
end

theorem strCells_nums {s : List Int} (h : Byt s) : strCells (strOfNums s) = s.map (Value.int .u8) := by
  unfold strCells strOfNums
  simp only [List.map_map]
  apply List.map_congr_left
  intro x hx
  have := h x hx
  simp only [Function.comp]
  congr 1
  simp only [UInt8.toNat_ofNat']
  omega
theorem strNums_size (s : List Int) : (strOfNums s).size = s.length := by
  have : (strOfNums s).size = (strOfNums s).data.size := rfl
  rw [this]
  simp [strOfNums]

/-- Block k is none that the printer at P writes. -/
def Wk (w : World) (P k : Nat) : Prop := k < w.heap.size ∧ k ≠ P ∧ ∀ v, w.cell? ⟨P, 1, none⟩ = some v → v.ownBlock ≠ some k
/-- What the printer leaves as it was. -/
structure FrW (P : Nat) (w w' : World) : Prop where
  os : w'.os = w.os
  tape : w'.tape = w.tape
  output : w'.output = w.output
  size : w.heap.size ≤ w'.heap.size
  keep : ∀ k, Wk w P k → w'.heap[k]? = w.heap[k]? ∧ Wk w' P k
theorem FrW.refl (P : Nat) (w : World) : FrW P w w := ⟨rfl, rfl, rfl, Nat.le_refl _, fun k h => ⟨rfl, h⟩⟩
theorem FrW.trans {P : Nat} {a b c : World} (h : FrW P a b) (k : FrW P b c) : FrW P a c :=
  ⟨k.os.trans h.os, k.tape.trans h.tape, k.output.trans h.output, Nat.le_trans h.size k.size, fun i hi => by
    obtain ⟨e1, m1⟩ := h.keep i hi
    obtain ⟨e2, m2⟩ := k.keep i m1
    exact ⟨e2.trans e1, m2⟩⟩
/-- The printer: the texts of sets, the text so far. -/
def PrAt (base P : Nat) (w : World) (svv : Value) (zs : List Int) : Prop := ∃ tv, w.heap[P]? = some (.cells #[svv, tv] 64 (0, 0)) ∧ w.ownsRow base 5 1 tv zs.length (zs.map (Value.int .u8)) ∧ tv.ownBlock ≠ some P ∧ base ≤ P
theorem PrAt.lt {base P : Nat} {w : World} {svv : Value} {zs : List Int} (h : PrAt base P w svv zs) : P < w.heap.size := by
  obtain ⟨tv, h1, _⟩ := h
  exact (Array.getElem?_eq_some_iff.1 h1).1
theorem frw_below {P : Nat} {w w' : World} (h : Below w.heap.size w w') (hP : P < w.heap.size) : FrW P w w' :=
  ⟨h.os, h.tape, h.output, h.size, fun k hk => ⟨h.block k hk.1, Nat.lt_of_lt_of_le hk.1 h.size, hk.2.1, fun v hv => hk.2.2 v ((World.cell?_of_block (a := ⟨P, 1, none⟩) (h.block P hP)).symm.trans hv)⟩⟩
theorem PrAt.below {base P : Nat} {w w' : World} {svv : Value} {zs : List Int} (h : PrAt base P w svv zs) (hB : Below w.heap.size w w') : PrAt base P w' svv zs := by
  have hl := h.lt
  obtain ⟨tv, h1, h2, h3, h4⟩ := h
  exact ⟨tv, (hB.block P hl).trans h1, own_block h2 (fun k hk => hB.block k (h2.lt k hk).2), h3, h4⟩
/-- What is made anew is none of the printer's. -/
theorem PrAt.fresh {base P : Nat} {w w' : World} {svv : Value} {zs : List Int} (h : PrAt base P w svv zs) (hB : Below w.heap.size w w') {k : Nat} (h1 : w.heap.size ≤ k) (h2 : k < w'.heap.size) : Wk w' P k := by
  have hl := h.lt
  obtain ⟨tv, g1, g2, g3, g4⟩ := h
  refine ⟨h2, by omega, fun v hv q => ?_⟩
  rw [World.cell?_of_block (a := ⟨P, 1, none⟩) (hB.block P hl)] at hv
  have : w.cell? ⟨P, 1, none⟩ = some tv := cell_of_row _ _ 1 _ _ _ g1
  rw [this] at hv
  obtain rfl : tv = v := by simpa using hv
  have := (g2.lt k q).2
  omega
theorem own_slice {w : World} {base e size n : Nat} {v : Value} {xs : List Value} (h : w.ownsRow base e size v n xs) : ∃ a m c, v = .slice a m c := by
  rcases h.2 with ⟨e, _⟩ | ⟨g, cap, cur, e, _⟩
  · exact ⟨_, _, _, e⟩
  · exact ⟨_, _, _, e⟩
theorem Tryz.infoByte8 : (Tryz.prog.info? 5).map (fun i => (i.zero, i.size, i.bytes)) = some (some (.int .u8 0), 1, 1) := by kernel_rfl

set_option maxRecDepth 100000 in
set_option maxHeartbeats 4000000 in
theorem write_any (base P : Nat) (w : World) (svv : Value) (zs s : List Int) (hs : Byt s) (hl : zs.length + s.length ≤ 1000000000000) (h : PrAt base P w svv zs) :
    Calls Tryz.prog 56 #[.pointer (some ⟨P, 0, none⟩), .string (strOfNums s)] w fun e w' => e = .returned (.tuple #[]) ∧ PrAt base P w' svv (zs ++ s) ∧ FrW P w w' := by
  obtain ⟨i0, hi0, hz0, hz1, hz2⟩ := info_parts Tryz.infoByte8
  have hPl := h.lt
  obtain ⟨tv, g1, g2, g3, g4⟩ := h
  have c1 : w.cell? ⟨P, 1, none⟩ = some tv := cell_of_row _ _ 1 _ _ _ g1
  have f1 : w.frozen? ⟨P, 1, none⟩ = false := frozen_of_row _ _ 1 _ _ g1
  have HG1 : Hid (w.heap[P]? = some (.cells #[svv, tv] 64 (0, 0))) := g1
  have HOW : Hid (w.ownsRow base 5 1 tv zs.length (zs.map (Value.int .u8))) := g2
  have HNP : Hid (tv.ownBlock ≠ some P) := g3
  have HBP : Hid (base ≤ P) := g4
  have HC1 : Hid (w.cell? ⟨P, 1, none⟩ = some tv) := c1
  have hsz := strNums_size s
  have HSC : Hid (strCells (strOfNums s) = s.map (Value.int .u8)) := strCells_nums hs
  obtain ⟨str, hstr⟩ : ∃ x, x = strOfNums s := ⟨_, rfl⟩
  rw [← hstr] at hsz HSC ⊢
  have HSZ : Hid (str.size = s.length) := hsz
  clear g1 g2 g3 g4 hstr hsz hs
  obtain ⟨ta, tn, tc, rfl⟩ : ∃ a n c, tv = .slice a n c := by
    rcases HOW.out.2 with ⟨e, _⟩ | ⟨g, cap, cur, e, _⟩
    · exact ⟨_, _, _, e⟩
    · exact ⟨_, _, _, e⟩
  go_enter Tryz.func56, Tryz.ntmps56
  go_wp2_with (at_builtin; refine wpList_append_lies_string _ rfl (.tmp 8) (.tmp 9) 22 9 rfl base 5 i0 Tryz.underlying22 Tryz.underlying9 hi0 hz0 hz1 hz2 _ _ _ rfl HOW.out str rfl (by unfold maxLen; have := HSZ.out; omega) (by have := HSZ.out; omega) (by have := HBP.out; omega) ?_; intro v2 w2 ho2 hg2 hat2; obtain ⟨va, vn, vc, rfl⟩ := own_slice ho2; have c12 : w2.cell? ⟨P, 1, none⟩ = some (.slice ta tn tc) := hg2.cell HC1.out (Ne.symm HNP.out); have f12 : w2.frozen? ⟨P, 1, none⟩ = false := (World.frozen?_of_block (a := ⟨P, 1, none⟩) (hg2.block P hPl (Ne.symm HNP.out))).trans f1; have hPl2 : P < w2.heap.size := Nat.lt_of_lt_of_le hPl hg2.size)
  have HO2 : Hid (w2.ownsRow base 5 1 (.slice va vn vc) (zs ++ s).length ((zs ++ s).map (Value.int .u8))) := by
    have := ho2
    rw [HSC.out, HSZ.out, ← List.map_append, ← List.length_append] at this
    exact this
  have HG2 : Hid (w.grownBy w2 (Value.slice ta tn tc).ownBlock) := hg2
  have HAT : Hid ((Value.slice va vn vc).ownBlock = (Value.slice ta tn tc).ownBlock ∨ ∀ k, (Value.slice va vn vc).ownBlock = some k → w.heap.size ≤ k) := hat2
  clear ho2 hg2 hat2
  go_end0
  have hPb : w2.heap[P]? = some (.cells #[svv, .slice ta tn tc] 64 (0, 0)) := (HG2.out.block P hPl (Ne.symm HNP.out)).trans HG1.out
  have hnP : (Value.slice va vn vc).ownBlock ≠ some P := fun q => by
    rcases HAT.out with h | h
    · exact HNP.out (h.symm.trans q)
    · have := h P q; omega
  have hset : ∀ k, k ≠ P → (w2.setCell ⟨P, 1, none⟩ (.slice va vn vc)).heap[k]? = w2.heap[k]? := fun k hk => Below.heap_setCell w2 ⟨P, 1, none⟩ _ k (by simpa using hk)
  have hPb2 : (w2.setCell ⟨P, 1, none⟩ (.slice va vn vc)).heap[P]? = some (.cells #[svv, .slice va vn vc] 64 (0, 0)) := heap_set hPb _
  refine ⟨rfl, ⟨.slice va vn vc, hPb2, own_block HO2.out (fun k hk => hset k (fun q => hnP (by rw [← q]; exact hk))), hnP, HBP.out⟩, ?_⟩
  refine ⟨HG2.out.os, HG2.out.tape, HG2.out.output, by simpa [World.setCell] using HG2.out.size, fun k hk => ?_⟩
  have hkr := hk.2.2 _ HC1.out
  refine ⟨(hset k hk.2.1).trans (HG2.out.block k hk.1 (fun q => hkr q.symm)), by have := HG2.out.size; have := hk.1; simp [World.setCell]; omega, hk.2.1, fun v hv q => ?_⟩
  have : (w2.setCell ⟨P, 1, none⟩ (.slice va vn vc)).cell? ⟨P, 1, none⟩ = some (.slice va vn vc) := cell_of_row _ _ 1 _ _ _ hPb2
  rw [this] at hv
  obtain rfl : Value.slice va vn vc = v := by simpa using hv
  rcases HAT.out with h | h
  · exact hkr (h.symm.trans q)
  · have := h k q; have := hk.1; omega
end Go.Proofs.YtohaegaocklnkaaGreatDoor
