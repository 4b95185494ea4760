/-
  What lex.Tokens answers: the tokens of the text, or the error and its place. What the parser's text answers; what is known of the tokens of a text.
-/
import Derived.Test.YtghogepkmdilaaaGreatDoorX26
import Derived.Lib.Hide
import Derived.Test.YtghogepkmdilaaaGreatDoorX23
namespace Go.Proofs.YtghogepkmdilaaaGreatDoor
open Go.RowKit Go.Shelf S1
set_option linter.unusedVariables false

theorem setF_suffix {n : Nat} : ∀ {k : Nat} {us r : List U} {acc l : List Rg}, setF n k us acc = SR.good l r → r <:+ us
  | 0, us, r, acc, l, h => by cases h
  | k + 1, us, r, acc, l, h => by
    cases h1 : sgn (isC 93) us with
    | mk o s => cases o with
      | some x =>
        rw [setF_end h1] at h
        obtain ⟨e1, e2⟩ := Prod.mk.inj (Sum.inr.inj h)
        have := sgn_suffix (isC 93) us
        rw [h1] at this
        rw [← e2]; exact this
      | none => cases h2 : entL us with
        | mk o2 r2 => cases o2 with
          | none => rw [setF_stuck h1 h2] at h; cases h
          | some e =>
            cases h3 : (decide (e.hi < e.lo) || decide (1114111 < e.hi)) with
            | true => rw [setF_arg h1 h2 h3] at h; cases h
            | false =>
              rw [setF_on h1 h2 h3] at h
              have h4 := entL_suffix us
              rw [h2] at h4
              exact (setF_suffix h).trans h4
theorem blankL_suffix : ∀ (b : Bool) (us : List U), blankL b us <:+ us
  | _, [] => by simp [blankL]
  | true, u :: t => by
    unfold blankL
    have h1 := (blankL_suffix true t).trans (List.suffix_cons u t)
    have h2 := (blankL_suffix false t).trans (List.suffix_cons u t)
    repeat' split
    all_goals first | exact List.suffix_refl _ | exact h1 | exact h2
  | false, u :: t => by
    unfold blankL
    have h1 := (blankL_suffix true t).trans (List.suffix_cons u t)
    have h2 := (blankL_suffix false t).trans (List.suffix_cons u t)
    repeat' split
    all_goals first | exact List.suffix_refl _ | exact h1 | exact h2
theorem tokO_suffix {n : Nat} {us r : List U} {t : Tok} (h : tokO n us = OR.good t r) : r <:+ us := by
  match us with
  | [] =>
    have h' : OR.good ⟨4, n, [], []⟩ [] = OR.good t r := h
    obtain ⟨e1, e2⟩ := Prod.mk.inj (Sum.inr.inj h')
    rw [← e2]; exact List.suffix_refl _
  | u :: t' =>
    rw [tokO_cons] at h
    split at h
    · obtain ⟨e1, e2⟩ := Prod.mk.inj (Sum.inr.inj h)
      rw [← e2]
      exact (List.dropWhile_suffix _).trans (List.suffix_cons _ _)
    · split at h
      · obtain ⟨e1, e2⟩ := Prod.mk.inj (Sum.inr.inj h)
        rw [← e2]; exact List.suffix_cons _ _
      · split at h
        · cases h1 : setF n (t'.length + 1) t' [] with
          | inl x => rw [h1] at h; cases h
          | inr x =>
            obtain ⟨l, s⟩ := x
            rw [h1] at h
            have h := Prod.mk.inj (Sum.inr.inj h)
            rw [← h.2]
            exact (setF_suffix h1).trans (List.suffix_cons _ _)
        · cases h

/-- The cells of a token whose set is the slice v. -/
def cellsT (x : Tok × Value) : List Value := [.int .i64 x.1.k, .int .i64 (x.1.p : Int), .string (strOfNums x.1.t), x.2]
def cellsTs (l : List (Tok × Value)) : List Value := l.flatMap cellsT
theorem cellsTs_snoc (l : List (Tok × Value)) (x : Tok × Value) : cellsTs (l ++ [x]) = cellsTs l ++ cellsT x := by simp [cellsTs]
/-- The sets of the tokens lie in rows of their own. -/
def SetsOwn (w : World) (base : Nat) (l : List (Tok × Value)) : Prop := ∀ x ∈ l, ∃ s, Upto (hasR x.1.s) s 1114112 ∧ s.length ≤ 65536 ∧ w.ownsRow base 80 2 x.2 s.length (cellsRs s)
theorem SetsOwn.kept {w w' : World} {base R : Nat} {l : List (Tok × Value)} (h : SetsOwn w base l) (hb : R < base) (hg : w.grownBy w' (some R)) : SetsOwn w' base l := fun x hx => by
  obtain ⟨s, h1, h2, h3⟩ := h x hx
  exact ⟨s, h1, h2, own_kept h3 hb hg⟩
theorem own_apart {w : World} {b1 b2 e1 e2 s1 s2 n1 n2 : Nat} {v1 v2 : Value} {x1 x2 : List Value} (h : w.ownsRow b1 e1 s1 v1 n1 x1) (k : w.ownsRow b2 e2 s2 v2 n2 x2) (hne : e1 ≠ e2) : v1.ownBlock = none ∨ v1.ownBlock ≠ v2.ownBlock := by
  rcases h.2 with ⟨rfl, _⟩ | ⟨g, cap, cur, rfl, hb, hg, _⟩
  · exact .inl rfl
  · right
    rcases k.2 with ⟨rfl, _⟩ | ⟨g', cap', cur', rfl, hb', hg', _⟩
    · simp [Value.ownBlock]
    · intro e
      have e' : g = g' := by simpa [Value.ownBlock] using e
      rw [e', hg'] at hg
      injection hg with hg
      injection hg with _ ht _
      exact hne ht.symm
theorem SetsOwn.apart {w w' : World} {base b2 n2 : Nat} {v2 : Value} {x2 : List Value} {l : List (Tok × Value)} (h : SetsOwn w base l) (k : w.ownsRow b2 55 4 v2 n2 x2) (hg : w.grownBy w' v2.ownBlock) : SetsOwn w' base l := fun x hx => by
  obtain ⟨s, h1, h2, h3⟩ := h x hx
  exact ⟨s, h1, h2, World.ownsRow.kept h3 hg (own_apart h3 k (by decide))⟩

theorem Tryz.infoToken : (Tryz.prog.info? 55).map (fun i => (i.zero, i.size, i.bytes)) = some (some (.agg #[.int .i64 0, .int .i64 0, .string ⟨#[]⟩, .slice none 0 0]), 4, 56) := by kernel_rfl

theorem cellsU_at : ∀ (us : List U) (i j : Nat) (h : i < us.length), j < 4 → (cellsUs us)[i * 4 + j]? = (cellsU us[i])[j]?
  | u :: us, 0, j, h, hj => by
    have e : cellsUs (u :: us) = cellsU u ++ cellsUs us := rfl
    rw [e, Nat.zero_mul, Nat.zero_add, List.getElem?_append_left (by simpa [cellsU] using hj)]
    rfl
  | u :: us, i + 1, j, h, hj => by
    have e : cellsUs (u :: us) = cellsU u ++ cellsUs us := rfl
    rw [e, List.getElem?_append_right (by simp [cellsU]; omega)]
    have e2 : (i + 1) * 4 + j - (cellsU u).length = i * 4 + j := by simp [cellsU]; omega
    rw [e2, cellsU_at us i j (by simpa using h) hj]
    rfl
theorem uni_of_row {w : World} {base R : Nat} {v : Value} {us : List U} (h : w.ownsRow base 95 4 v us.length (cellsUs us)) (hR : w.heap.size ≤ R) : UniAt R w v us := by
  rcases h.2 with ⟨rfl, h0⟩ | ⟨g, cap, cur, rfl, hb, hg, hc, hm, hs, ht⟩
  · exact ⟨none, 0, by rw [h0], by omega, fun i hi => by omega⟩
  · refine ⟨_, cap, rfl, hc, fun i hi => ⟨g, 0, rfl, by have := (Array.getElem?_eq_some_iff.1 hg).1; omega, ?_, ?_, ?_⟩⟩
    · have := h.cells (g := g) rfl (i * 4 + 0) (.int .i64 us[i].r) (by rw [cellsU_at us i 0 hi (by omega)]; rfl)
      rw [add_lit'] at this; simpa using this
    · have := h.cells (g := g) rfl (i * 4 + 1) (.int .i64 (us[i].p : Int)) (by rw [cellsU_at us i 1 hi (by omega)]; rfl)
      rw [add_lit'] at this; simpa [Nat.add_assoc] using this
    · have := h.cells (g := g) rfl (i * 4 + 3) (.bool us[i].bad) (by rw [cellsU_at us i 3 hi (by omega)]; rfl)
      rw [add_lit'] at this; simpa [Nat.add_assoc] using this
theorem txt_of_bytes {w : World} {n R : Nat} {v : Value} {zs : List Int} (h : BytesAt n w v zs) (hR : n ≤ R) : TxtAt R w v zs := by
  rcases h with ⟨a, cap, rfl, rfl⟩ | ⟨b, off, cap, rfl, hc, hb, hcell⟩
  · exact ⟨a, cap, rfl, Nat.zero_le _, fun i hi => by cases hi⟩
  · refine ⟨_, cap, rfl, hc, fun i hi => ⟨b, off, rfl, by omega, ?_⟩⟩
    rw [hcell i hi, List.getElem?_eq_getElem hi]
    rfl

/-- What Tokens tells. -/
def TksT (w : World) (tr : TR) (e : Ending) (w' : World) : Prop :=
  (∃ a x, tr = TR.bad a x ∧ e = .returned (.tuple #[.slice none 0 0, .int .i64 (a : Int), .int .i64 x]) ∧ x ≠ 0 ∧ Below w.heap.size w w') ∨
  (∃ l v, tr = TR.good (l.map Prod.fst) ∧ l.length ≤ 65537 ∧ e = .returned (.tuple #[v, .int .i64 0, .int .i64 0]) ∧ w'.ownsRow w.heap.size 55 4 v l.length (cellsTs l) ∧ SetsOwn w' w.heap.size l ∧ Below w.heap.size w w')

set_option maxRecDepth 100000 in
set_option maxHeartbeats 8000000 in
theorem tokens_any (zs : List Int) (hby : Byt zs) (hz : zs.length ≤ 65536) (us : List U) (hus : Run zs 0 us zs.length) (ta : Option Addr) (cap : Nat) (w : World) (hsv : SynV w) (hI : BytesAt w.heap.size w (.slice ta zs.length cap) zs) :
    Calls Tryz.prog 20 #[.slice ta zs.length cap] w fun e w' => TksT w (toksL zs.length us) e w' := by
  obtain ⟨i0, hi0, hz0, hz1, hz2⟩ := info_parts Tryz.infoToken
  have hd := callsIn_wide.1 (decode_in 3 (Nat.le_refl _) _ ta zs.length cap rfl zs hby hz w hI)
  have hul : us.length ≤ 65536 := by have := Run.le hus (Nat.zero_le _); omega
  obtain ⟨tr, htr⟩ : ∃ tr, tr = toksL zs.length us := ⟨_, rfl⟩
  rw [← htr]
  have HTR : Hid (tr = toksF zs.length (us.length + 1) us []) := htr
  have HUS : Hid (Run zs 0 us zs.length) := hus
  have HI : Hid (BytesAt w.heap.size w (.slice ta zs.length cap) zs) := hI
  have hbig : decide (65536 < (zs.length : Int)) = false := by simp; omega
  clear htr hus hI
  go_enter Tryz.func20, Tryz.ntmps20
  go_wp2_with fail
  refine hd.mono ?_
  rintro e w1 ⟨uv, us', rfl, hrun', hown, hB1⟩
  obtain rfl : us' = us := Run.unique hrun' HUS.out
  have hs1 := hB1.size
  obtain ⟨ua, uc, rfl, _, _⟩ := uni_of_row hown (Nat.le_refl _)
  have hui : UniAt w1.heap.size w1 (.slice ua us'.length uc) us' := uni_of_row hown (Nat.le_refl _)
  have hti : TxtAt w1.heap.size w1 (.slice ta zs.length cap) zs := txt_of_bytes (HI.out.below hB1) hs1
  have hsl := hsv.lt
  -- the reader's block
  have hR := heap_new' w1 (.cells #[.slice ta zs.length cap, .slice ua us'.length uc] 88)
  have hg1 : w1.grownBy (w1.alloc (.cells #[.slice ta zs.length cap, .slice ua us'.length uc] 88)) (some w1.heap.size) := World.grownBy_alloc _ _ _
  have hrd : Rd (w1.alloc (.cells #[.slice ta zs.length cap, .slice ua us'.length uc] 88)) w1.heap.size (.slice ta zs.length cap) us' :=
    ⟨_, cell_of_row _ _ 0 _ _ _ hR, cell_of_row _ _ 1 _ _ _ hR, frozen_of_row _ _ 1 _ _ hR, by simp, ⟨(hsv.grown (grownR_below hB1 none) (by simp)).grown hg1 (by simp; omega), by omega⟩, hui.grown hg1⟩
  have htx := hti.grown hg1
  have hB2 : Below w.heap.size w (w1.alloc (.cells #[.slice ta zs.length cap, .slice ua us'.length uc] 88)) := hB1.alloc hs1 _
  have hsz : (w1.alloc (.cells #[.slice ta zs.length cap, .slice ua us'.length uc] 88)).heap.size = w1.heap.size + 1 := by simp
  obtain ⟨R, hRe⟩ : ∃ R, R = w1.heap.size := ⟨_, rfl⟩
  rw [← hRe] at hrd htx hsz hs1
  have HB2 : Hid (Below w.heap.size w (w1.alloc (.cells #[.slice ta zs.length cap, .slice ua us'.length uc] 88))) := hB2
  have HTX : Hid (TxtAt R (w1.alloc (.cells #[.slice ta zs.length cap, .slice ua us'.length uc] 88)) (.slice ta zs.length cap) zs) := htx
  have HRD : Hid (Rd (w1.alloc (.cells #[.slice ta zs.length cap, .slice ua us'.length uc] 88)) R (.slice ta zs.length cap) us') := hrd
  clear hB2 htx hrd hti hui hg1 hR hown hrun' hd hsv HI hB1
  go_wp2
  obtain ⟨W0, hW0⟩ : ∃ W0, W0 = w1.alloc (.cells #[.slice ta zs.length cap, .slice ua us'.length uc] 88) := ⟨_, rfl⟩
  rw [← hW0] at HB2 HTX HRD hsz ⊢
  rw [← hRe]
  clear hW0 hRe
  go_loopw [6] (fun v wr => ∃ (k : Nat) (vs : List U) (l : List (Tok × Value)), vs.length < k ∧ l.length + vs.length ≤ us'.length ∧ Hid (toksF zs.length k vs (l.map Prod.fst) = tr) ∧ Rd wr R (.slice ta zs.length cap) vs ∧ Runs zs vs ∧ wr.ownsRow W0.heap.size 55 4 v l.length (cellsTs l) ∧ SetsOwn wr W0.heap.size l ∧ W0.grownBy wr (some R)) (fun _ wr => leftN wr R)
  case atStart => exact ⟨us'.length + 1, us', [], by omega, by simp, HTR.out.symm, HRD.out, ⟨0, HUS.out⟩, World.ownsRow_nil _ _ _ _, (fun x h => (by cases h)), World.grownBy.refl _ _⟩
  case round =>
    obtain ⟨k, vs, l, hk, hlen, HEQ, hr, hrn, ho, hso, hw⟩ := hrel
    have hl0 := hr.left
    have hws := hw.size
    have HO : Hid (wr.ownsRow W0.heap.size 55 4 _ l.length (cellsTs l)) := ho
    have HSO : Hid (SetsOwn wr W0.heap.size l) := hso
    clear ho hso
    obtain ⟨k, rfl⟩ : ∃ m, k = m + 1 := ⟨k - 1, by omega⟩
    have htb := takeBlanks_any wr R _ vs hr
    have hbl := blankL_le false vs
    have hrn1 : Runs zs (blankL false vs) := hrn.of_suffix (blankL_suffix false vs)
    obtain ⟨vb, hvb⟩ : ∃ vb, vb = blankL false vs := ⟨_, rfl⟩
    rw [← hvb] at htb hbl hrn1
    have HVB : Hid (vb = blankL false vs) := hvb
    clear hvb
    go_wp2_with fail
    refine htb.mono ?_
    rintro e w2 ⟨rfl, hr2, hgb2⟩
    have hg2 : W0.grownBy w2 (some R) := hw.trans hgb2
    have htk := token_any zs vb R ta cap w2 hr2 (HTX.out.grown hg2) hz (by omega) hrn1
    obtain ⟨od, hod⟩ : ∃ od, od = tokO zs.length vb := ⟨_, rfl⟩
    rw [← hod] at htk
    have HOD : Hid (tokO zs.length (blankL false vs) = od) := by show _ = _; rw [← HVB.out]; exact hod.symm
    have HOD2 : Hid (tokO zs.length vb = od) := hod.symm
    clear hod htb hr2
    go_wp2_with fail
    refine htk.mono ?_
    rintro e w3 (⟨a, x, kk, pp, rfl, rfl, hx, hgb3⟩ | ⟨t, r, s, v, rfl, rfl, hup, hsl, hown, hr3, hgb3⟩)
    · have hg3 : W0.grownBy w3 (some R) := hg2.trans hgb3
      have HE : Hid (tr = TR.bad a x) := HEQ.out.symm.trans (toksF_bad HOD.out)
      have hx' : (x != 0) = true := by simpa using hx
      have HX : Hid (x ≠ 0) := hx
      clear htk hx
      go_wp2
      go_ret3
      refine .inl ⟨a, x, HE.out, rfl, HX.out, ?_⟩
      exact (HB2.out.grown hg3 (by omega) (fun j e => by injection e with e; omega)).alloc (by have := hg3.size; omega) _
    · have hg3 : W0.grownBy w3 (some R) := hg2.trans hgb3
      have hg23 : wr.grownBy w3 (some R) := hgb2.trans hgb3
      obtain ⟨va, vc, rfl, _, _⟩ := rng_of_row hown
      have hown3 : w3.ownsRow W0.heap.size 80 2 (.slice va s.length vc) s.length (cellsRs s) := own_mono hown hg2.size
      have HUP : Hid (Upto (hasR t.s) s 1114112) := hup
      have hlt := tokO_len HOD2.out
      have hsuf := tokO_suffix HOD2.out
      have hrn3 := hrn1.of_suffix hsuf
      have hs3 := hg3.size
      -- the worlds: the token's variable, and the literal's row
      obtain ⟨cs, hcs⟩ : ∃ cs, cs = (#[.int .i64 t.k, .int .i64 (t.p : Int), .string (strOfNums t.t), .slice va s.length vc] : Array Value) := ⟨_, rfl⟩
      have hbR : R < W0.heap.size := by omega
      have HO3 : Hid (((w3.alloc (.cells #[.int .i64 t.k, .int .i64 (t.p : Int), .string (strOfNums t.t), .slice va s.length vc] 55)).alloc (.cells #[.int .i64 t.k, .int .i64 (t.p : Int), .string (strOfNums t.t), .slice va s.length vc] 55)).ownsRow W0.heap.size 55 4 _ l.length (cellsTs l)) := World.ownsRow.alloc (World.ownsRow.alloc (own_kept HO.out hbR hg23) _) _
      have hso3 : SetsOwn w3 W0.heap.size (l ++ [(t, .slice va s.length vc)]) := fun y hy => by
        rcases List.mem_append.1 hy with hy | hy
        · exact (HSO.out.kept hbR hg23) y hy
        · obtain rfl : y = (t, .slice va s.length vc) := by simpa using hy
          exact ⟨s, hup, hsl, hown3⟩
      have HSO3 : Hid (SetsOwn ((w3.alloc (.cells #[.int .i64 t.k, .int .i64 (t.p : Int), .string (strOfNums t.t), .slice va s.length vc] 55)).alloc (.cells #[.int .i64 t.k, .int .i64 (t.p : Int), .string (strOfNums t.t), .slice va s.length vc] 55)) W0.heap.size (l ++ [(t, .slice va s.length vc)])) :=
        (hso3.kept hbR (World.grownBy_alloc _ _ _)).kept hbR (World.grownBy_alloc _ _ _)
      have HN3 : Hid _ := heap_new' (w3.alloc (.cells #[.int .i64 t.k, .int .i64 (t.p : Int), .string (strOfNums t.t), .slice va s.length vc] 55)) (.cells #[.int .i64 t.k, .int .i64 (t.p : Int), .string (strOfNums t.t), .slice va s.length vc] 55)
      rw [World.size_alloc] at HN3
      have hE3 := heap_new' w3 (.cells #[.int .i64 t.k, .int .i64 (t.p : Int), .string (strOfNums t.t), .slice va s.length vc] 55)
      have hE4 := (Below.heap_alloc (w3.alloc (.cells #[.int .i64 t.k, .int .i64 (t.p : Int), .string (strOfNums t.t), .slice va s.length vc] 55)) (.cells #[.int .i64 t.k, .int .i64 (t.p : Int), .string (strOfNums t.t), .slice va s.length vc] 55) w3.heap.size (by simp)).trans hE3
      have HE4 : Hid _ := hE4
      have hg5 : W0.grownBy ((w3.alloc (.cells #[.int .i64 t.k, .int .i64 (t.p : Int), .string (strOfNums t.t), .slice va s.length vc] 55)).alloc (.cells #[.int .i64 t.k, .int .i64 (t.p : Int), .string (strOfNums t.t), .slice va s.length vc] 55)) (some R) := (hg3.trans (World.grownBy_alloc _ _ _)).trans (World.grownBy_alloc _ _ _)
      have HR5 : Hid (Rd ((w3.alloc (.cells #[.int .i64 t.k, .int .i64 (t.p : Int), .string (strOfNums t.t), .slice va s.length vc] 55)).alloc (.cells #[.int .i64 t.k, .int .i64 (t.p : Int), .string (strOfNums t.t), .slice va s.length vc] 55)) R (.slice ta zs.length cap) r) := (hr3.alloc _).alloc _
      have hrow : ∀ j, Value.ownBlock u6 = some j → W0.heap.size ≤ j ∧ j < w3.heap.size := fun j e => ⟨(World.ownsRow.lt (own_kept HO.out hbR hg23) j e).1, (World.ownsRow.lt (own_kept HO.out hbR hg23) j e).2⟩
      have HROW : Hid (∀ j, Value.ownBlock u6 = some j → W0.heap.size ≤ j ∧ j < w3.heap.size) := hrow
      have HLT : Hid ((t.k = 4 ∧ vb = [] ∧ t = ⟨4, zs.length, [], []⟩) ∨ (t.k ≠ 4 ∧ r.length < vb.length)) := hlt
      clear htk hup hown hown3 hso3 hE3 hE4 hr3 hrow hlt hsuf HO hcs
      go_wp2_with (at_builtin; go_must (refine wpList_append_own _ rfl (.tmp 27) (.tmp 29) 45 rfl W0.heap.size 55 i0 (.agg #[.int .i64 0, .int .i64 0, .string ⟨#[]⟩, .slice none 0 0]) 4 56 Tryz.underlying45 hi0 hz0 hz1 hz2 rfl (by decide) _ _ _ rfl HO3.out ⟨w3.heap.size + 1, 0, none⟩ 1 1 (cellsT (t, .slice va s.length vc)) rfl rfl (World.news_of_block HN3.out) (by simp [cellsT, Value.oneCell']) (by unfold maxLen; omega) (by omega) (by simp; omega) ?_); intro v' w6 hown' hgrow hnil; refine Hid.out ?_)
      refine Lib.hid ?_
      have hc6 : w6.cell? ⟨w3.heap.size, 0, none⟩ = some (.int .i64 t.k) := hgrow.cell (cell_of_row _ _ 0 _ _ _ HE4.out) (fun e => by have := HROW.out _ e.symm; simp at this)
      have hown6 : w6.ownsRow W0.heap.size 55 4 v' (l ++ [(t, Value.slice va s.length vc)]).length (cellsTs (l ++ [(t, .slice va s.length vc)])) := by rw [cellsTs_snoc]; simpa using hown'
      have hso6 := HSO3.out.apart HO3.out hgrow
      have hr6 := HR5.out.far hgrow (fun j e => by have := HROW.out j e; omega)
      have hg6 : W0.grownBy w6 (some R) := hg5.andThen hgrow (fun j e => .inl (HROW.out j e).1)
      have HOW6 : Hid (w6.ownsRow W0.heap.size 55 4 v' (l ++ [(t, Value.slice va s.length vc)]).length (cellsTs (l ++ [(t, .slice va s.length vc)]))) := hown6
      have HSO6 : Hid (SetsOwn w6 W0.heap.size (l ++ [(t, .slice va s.length vc)])) := hso6
      have HMP : Hid ((l ++ [(t, Value.slice va s.length vc)]).map Prod.fst = l.map Prod.fst ++ [t]) := by show _ = _; simp
      clear hown6 hso6 hown' hgrow hnil HSO3 HN3 HE4 HR5 HO3 hg5 hg23
      rcases HLT.out with ⟨hk4, _, _⟩ | ⟨hk4, hlt2⟩
      · have HE : Hid (tr = TR.good (l.map Prod.fst ++ [t])) := HEQ.out.symm.trans (toksF_end HOD.out hk4)
        have hk4' : (t.k == 4) = true := by simpa using hk4
        clear hk4
        go_wp2
        go_ret3
        refine .inr ⟨l ++ [(t, .slice va s.length vc)], v', by rw [HMP.out]; exact HE.out, by simp; omega, rfl, own_mono HOW6.out (by omega), ?_, HB2.out.grown hg6 (by omega) (fun j e => by injection e with e; omega)⟩
        intro y hy
        obtain ⟨s', h1, h2, h3⟩ := HSO6.out y hy
        exact ⟨s', h1, h2, own_mono h3 (by omega)⟩
      · have HE : Hid (toksF zs.length k r ((l ++ [(t, Value.slice va s.length vc)]).map Prod.fst) = tr) := by show _ = _; rw [HMP.out]; exact (toksF_on HOD.out hk4).symm.trans HEQ.out
        have hk4' : (t.k == 4) = false := by simpa using hk4
        clear hk4
        go_wp2
        go_roundw
        case rel => exact ⟨k, r, l ++ [(t, .slice va s.length vc)], by omega, by simp; omega, HE, hr6, hrn3, HOW6.out, HSO6.out, hg6⟩
        case measure => rw [hr6.left, hl0]; omega
end Go.Proofs.YtghogepkmdilaaaGreatDoor

namespace Go.Proofs.YtghogepkmdilaaaGreatDoor
open Go.RowKit Go.Shelf S1
set_option linter.unusedVariables false

/-- What a text tells. -/
def TxA (c : Pc) (P : Nat) (q : (List Tok × Int) ⊕ (List Rl × Sts)) (w : World) (e : Ending) (w' : World) : Prop :=
  ∃ x, e = .returned (.int .i64 x) ∧ Below c.base w w' ∧ ((x ≠ 0 ∧ ∃ c' X r st, q = .inl (r, x) ∧ Pa c' X P w' r st 0) ∨ (x = 0 ∧ ∃ rv N rs r st, q = .inr (rs.map Prod.fst, st) ∧ PT (c.up rv N) P w' rs r st))

set_option maxRecDepth 100000 in
set_option maxHeartbeats 8000000 in
theorem text_any (c : Pc) (P : Nat) (w : World) (rs : List RlV) (ts : List Tok) (st : Sts) (hpt : PT c P w rs ts st) (hbm : c.base ≤ c.mb) (f : Nat) (hf0 : ts.length < f) :
    Calls Tryz.prog 21 #[.pointer (some ⟨P, 0, none⟩)] w fun e w' => TxA c P (textF f c.N (rs.map Prod.fst) ts st) w e w' := by
  obtain ⟨q, hq⟩ : ∃ q, q = textF f c.N (rs.map Prod.fst) ts st := ⟨_, rfl⟩
  rw [← hq]
  have HQ : Hid (textF f c.N (rs.map Prod.fst) ts st = q) := hq.symm
  have HBM : Hid (c.base ≤ c.mb) := hbm
  have HPT : Hid (PT c P w rs ts st) := hpt
  clear hq hpt hbm
  go_enter Tryz.func21, Tryz.ntmps21
  go_wp2
  go_loopw [] (fun wr => ∃ (f : Nat) (rv : Value) (N : Nms) (rs : List RlV) (r : List Tok) (st : Sts), r.length < f ∧ Hid (textF f N (rs.map Prod.fst) r st = q) ∧ PT (c.up rv N) P wr rs r st ∧ Below c.base w wr) (fun wr => leftP c.n wr P)
  case atStart => exact ⟨f, c.rv, c.N, rs, ts, st, hf0, HQ, HPT.out, Below.refl _ _⟩
  case round =>
    obtain ⟨f, rv, N, rs, r, st, hrf, HEQ, hpt, hB⟩ := hrel
    obtain ⟨f, rfl⟩ : ∃ k, f = k + 1 := ⟨f - 1, by omega⟩
    obtain ⟨t, r', rfl⟩ := hpt.1.ends.cons
    have hl0 : leftP c.n wr P = (t :: r').length := hpt.1.left
    have h1 := more_any (c.up rv N) _ P wr t r' st 0 hpt.1
    have HPR : Hid (PT (c.up rv N) P wr rs (t :: r') st) := hpt
    clear hpt
    by_cases hk : t.k = 4
    · have hk' : (t.k != 4) = false := by simpa using hk
      have HE : Hid (q = .inr (rs.map Prod.fst, st)) := by
        show _ = _
        rw [← HEQ.out]; exact textF_end hk
      rw [hk'] at h1
      clear hk
      go_wp2_with fail
      refine h1.mono ?_
      rintro e w1 ⟨rfl, hB1⟩
      clear h1
      go_wp2
      go_ret
      refine ⟨0, rfl, hB.trans (hB1.mono ?_), .inr ⟨rfl, rv, N, rs, t :: r', st, HE.out, HPR.out.below hB1⟩⟩
      have h2 : c.base ≤ P := HPR.out.1.rv.2.2
      have := HPR.out.1.lt
      omega
    · have hk' : (t.k != 4) = true := by simpa using hk
      rw [hk'] at h1
      have HK : Hid (t.k ≠ 4) := hk
      clear hk
      go_wp2_with fail
      refine h1.mono ?_
      rintro e w1 ⟨rfl, hB1⟩
      clear h1
      have HP1 : Hid (PT (c.up rv N) P w1 rs (t :: r') st) := HPR.out.below hB1
      have hB01 : Below c.base w w1 := hB.trans (hB1.mono (by
        have h2 : c.base ≤ P := HPR.out.1.rv.2.2
        have := HPR.out.1.lt
        omega))
      have h2 := sentence_any (c.up rv N) P w1 rs t r' st HP1.out HBM.out
      obtain ⟨qs, hqs⟩ : ∃ qs, qs = senM (c.up rv N).N (rs.map Prod.fst) (t :: r') st := ⟨_, rfl⟩
      rw [← hqs] at h2
      have HQS : Hid (senM N (rs.map Prod.fst) (t :: r') st = qs) := hqs.symm
      clear hqs hB hB1
      go_wp2_with fail
      refine h2.mono ?_
      rintro e w2 ⟨x, rfl, hB2, hx⟩
      have hB02 : Below c.base w w2 := hB01.trans hB2
      clear h2 hB2 hB01
      rcases hx with ⟨hx, c', X, r2, st2, he, hp⟩ | ⟨rfl, rv2, N2, rs2, r2, st2, he, hpt2⟩
      · have hx' : (x != 0) = true := by simpa using hx
        have HX : Hid (x ≠ 0) := hx
        have HE : Hid (q = .inl (r2, x)) := by
          show _ = _
          rw [← HEQ.out]; exact textF_bad (ts := t :: r') HK.out (HQS.out.trans he)
        clear hx he
        go_wp2
        go_ret
        exact ⟨x, rfl, hB02, .inl ⟨HX.out, c', X, r2, st2, HE.out, hp⟩⟩
      · have hle := senM_left (ts := t :: r') HK.out (HQS.out.trans he)
        have HE : Hid (textF f N2 (rs2.map Prod.fst) r2 st2 = q) := by
          show _ = _
          rw [← HEQ.out]; exact (textF_on (ts := t :: r') HK.out (HQS.out.trans he)).symm
        have HLE : Hid (r2.length < (t :: r').length) := hle
        have HLF : Hid (r2.length < f) := by
          have h5 : (t :: r').length < f + 1 := hrf
          show _ < _
          omega
        clear he hle hrf
        go_wp2
        go_roundw
        case rel => exact ⟨f, rv2, N2, rs2, r2, st2, HLF.out, HE, hpt2, hB02⟩
        case measure =>
          have h5 : leftP c.n w2 P = r2.length := hpt2.1.left
          rw [h5, hl0]; exact HLE.out

/-! What is known of tokens. -/
theorem letL_nonneg {us r : List U} {x : Int} (hus : ∀ u ∈ us, 0 ≤ u.r) (h : letL us = (some x, r)) : 0 ≤ x ∧ ∀ u ∈ r, 0 ≤ u.r := by
  have hs : ∀ {p : Int → Bool} {a b : List U} {y : Int}, (∀ u ∈ a, 0 ≤ u.r) → sgn p a = (some y, b) → 0 ≤ y ∧ ∀ u ∈ b, 0 ≤ u.r := fun ha h => by
    obtain ⟨u, rfl, _, rfl⟩ := sgn_some h
    exact ⟨ha u (by simp), fun v hv => ha v (by simp [hv])⟩
  unfold letL at h
  split at h
  · exact hs hus h
  · rename_i a c
    have h1 := (hs hus c).2
    split at h
    · exact hs h1 h
    · rename_i a2 c2
      have h2 := (hs h1 c2).2
      split at h
      · simp at h
      · rename_i a3 c3
        have h3 := (hs h2 c3).2
        have hfl : ∀ (n : Nat) (us : List U), (∀ u ∈ us, 0 ≤ u.r) → (∀ c ∈ figsL n us, figR c = true) ∧ ∀ u ∈ figsD n us, 0 ≤ u.r := by
          intro n
          induction n with
          | zero => intro us hu; exact ⟨fun c hc => by simp [figsL] at hc, by simpa [figsD] using hu⟩
          | succ n ih =>
            intro us hu
            match us with
            | [] => exact ⟨fun c hc => by simp [figsL] at hc, fun u hu => by simp [figsD] at hu⟩
            | u :: t =>
              unfold figsL figsD
              split
              · rename_i hf
                obtain ⟨i1, i2⟩ := ih t (fun v hv => hu v (by simp [hv]))
                refine ⟨fun c hc => ?_, i2⟩
                rcases List.mem_cons.1 hc with rfl | hc
                · simp [fitU] at hf; exact hf.2
                · exact i1 c hc
              · exact ⟨fun c hc => by simp at hc, hu⟩
        unfold numL at h
        split at h
        · simp at h
        · split at h
          · rename_i x4 r4 c4
            simp only [Prod.mk.injEq, Option.some.injEq] at h
            obtain ⟨rfl, rfl⟩ := h
            obtain ⟨f1, f2⟩ := hfl 6 _ h3
            refine ⟨?_, (hs f2 c4).2⟩
            have key : ∀ (l : List Int) (acc : Int), (∀ c ∈ l, figR c = true) → 0 ≤ acc → 0 ≤ l.foldl (fun n c => n * 16 + figV c) acc := by
              intro l
              induction l with
              | nil => intro acc _ h; exact h
              | cons c l ih =>
                intro acc hl ha
                have hc := hl c (by simp)
                have hv : 0 ≤ figV c := by
                  simp [figR, decB] at hc
                  unfold figV
                  split <;> omega
                exact ih _ (fun d hd => hl d (by simp [hd])) (by show 0 ≤ acc * 16 + figV c; omega)
            exact key _ 0 f1 (by omega)
          · simp at h
theorem entL_nonneg {us r : List U} {e : Rg} (hus : ∀ u ∈ us, 0 ≤ u.r) (h : entL us = (some e, r)) : 0 ≤ e.lo ∧ ∀ u ∈ r, 0 ≤ u.r := by
  unfold entL at h
  split at h
  · simp at h
  · rename_i lo a c
    obtain ⟨h1, h2⟩ := letL_nonneg hus c
    split at h
    · simp only [Prod.mk.injEq, Option.some.injEq] at h
      obtain ⟨rfl, rfl⟩ := h
      exact ⟨h1, h2⟩
    · rename_i a2 c2
      obtain ⟨u, hu, _, _⟩ := sgn_some c2
      split at h
      · simp at h
      · rename_i hi b c3
        have h3 := (letL_nonneg (fun v hv => h2 v (by rw [hu]; simp [hv])) c3).2
        simp only [Prod.mk.injEq, Option.some.injEq] at h
        obtain ⟨rfl, rfl⟩ := h
        exact ⟨h1, h3⟩
theorem setF_fits {n : Nat} : ∀ {k : Nat} {us r : List U} {acc l : List Rg}, (∀ u ∈ us, 0 ≤ u.r) → Fits acc → setF n k us acc = SR.good l r → Fits l ∧ ∀ u ∈ r, 0 ≤ u.r
  | 0, us, r, acc, l, hu, ha, h => by cases h
  | k + 1, us, r, acc, l, hu, ha, h => by
    cases h1 : sgn (isC 93) us with
    | mk o s => cases o with
      | some x =>
        rw [setF_end h1] at h
        obtain ⟨e1, e2⟩ := Prod.mk.inj (Sum.inr.inj h)
        obtain ⟨u, rfl, _, _⟩ := sgn_some h1
        rw [← e1, ← e2]
        exact ⟨ha, fun v hv => hu v (by simp [hv])⟩
      | none => cases h2 : entL us with
        | mk o2 r2 => cases o2 with
          | none => rw [setF_stuck h1 h2] at h; cases h
          | some e =>
            cases h3 : (decide (e.hi < e.lo) || decide (1114111 < e.hi)) with
            | true => rw [setF_arg h1 h2 h3] at h; cases h
            | false =>
              rw [setF_on h1 h2 h3] at h
              obtain ⟨n1, n2⟩ := entL_nonneg hu h2
              refine setF_fits n2 (fun x hx => ?_) h
              rcases List.mem_append.1 hx with q | q
              · exact ha x q
              · obtain rfl : x = e := by simpa using q
                simp at h3
                exact ⟨n1, by omega, by omega⟩
/-- A token as the parser takes it. -/
def TkOk (m : Nat) (t : Tok) : Prop := Fits t.s ∧ Byt t.t ∧ t.t.length ≤ m
theorem tokO_ok {n m : Nat} {us r : List U} {t : Tok} (hu : ∀ u ∈ us, 0 ≤ u.r) (hm : us.length ≤ m) (h : tokO n us = OR.good t r) : TkOk m t ∧ ∀ u ∈ r, 0 ≤ u.r := by
  have hf0 : Fits [] := fun x hx => (by cases hx)
  match us, hu, hm, h with
  | [], hu, hm, h =>
    obtain ⟨e1, e2⟩ := Prod.mk.inj (Sum.inr.inj (show OR.good ⟨4, n, [], []⟩ [] = OR.good t r from h))
    rw [← e1, ← e2]
    exact ⟨⟨hf0, fun c hc => (by cases hc), Nat.zero_le _⟩, fun u hu => (by cases hu)⟩
  | u :: us, hu, hm, h =>
    rw [tokO_cons] at h
    split at h
    · rename_i hn
      obtain ⟨e1, e2⟩ := Prod.mk.inj (Sum.inr.inj h)
      rw [← e1, ← e2]
      refine ⟨⟨hf0, fun c hc => ?_, ?_⟩, fun v hv => hu v (List.mem_cons_of_mem _ (by
        rw [take_drop_while (fitU nameR) us]
        exact List.mem_append_right _ hv))⟩
      · rcases List.mem_cons.1 hc with rfl | hc
        · have h5 := (fit_name hn).2; have h6 := hu u (by simp); omega
        · obtain ⟨v, hv, rfl⟩ := List.mem_map.1 hc
          have h5 := (fit_inName (takeWhile_all _ _ v hv)).2
          have h6 := hu v (List.mem_cons_of_mem _ (by
            rw [take_drop_while (fitU nameR) us]
            exact List.mem_append_left _ hv))
          omega
      · have h5 := congrArg List.length (take_drop_while (fitU nameR) us)
        rw [List.length_append] at h5
        simp at hm ⊢
        omega
    · split at h
      · rename_i hn
        obtain ⟨e1, e2⟩ := Prod.mk.inj (Sum.inr.inj h)
        rw [← e1, ← e2]
        refine ⟨⟨hf0, fun c hc => ?_, by simp at hm ⊢; omega⟩, fun v hv => hu v (by simp [hv])⟩
        obtain rfl : c = u.r := by simpa using hc
        have h5 := (fit_tok hn).2; have h6 := hu u (by simp); omega
      · split at h
        · cases h1 : setF n (us.length + 1) us [] with
          | inl x => rw [h1] at h; cases h
          | inr x =>
            obtain ⟨l, s⟩ := x
            rw [h1] at h
            obtain ⟨e1, e2⟩ := Prod.mk.inj (Sum.inr.inj h)
            obtain ⟨f1, f2⟩ := setF_fits (fun v hv => hu v (by simp [hv])) hf0 h1
            rw [← e1, ← e2]
            exact ⟨⟨f1, fun c hc => (by cases hc), Nat.zero_le _⟩, f2⟩
        · cases h
theorem blankL_suf : ∀ (b : Bool) (us : List U), ∀ u ∈ blankL b us, u ∈ us
  | _, [], u, h => by simp [blankL] at h
  | true, v :: t, u, h => by
    unfold blankL at h
    split at h
    · exact h
    · split at h
      · exact List.mem_cons_of_mem _ (blankL_suf false t u h)
      · exact List.mem_cons_of_mem _ (blankL_suf true t u h)
  | false, v :: t, u, h => by
    unfold blankL at h
    split at h
    · exact h
    · split at h
      · exact List.mem_cons_of_mem _ (blankL_suf true t u h)
      · split at h
        · exact List.mem_cons_of_mem _ (blankL_suf false t u h)
        · exact h
theorem endsT_snoc : ∀ {l : List Tok} {t : Tok}, (∀ x ∈ l, x.k ≠ 4) → t.k = 4 → EndsT (l ++ [t])
  | [], t, _, h => h
  | [x], t, hl, h => ⟨hl x (by simp), h⟩
  | x :: y :: l, t, hl, h => ⟨hl x (by simp), endsT_snoc (l := y :: l) (fun z hz => hl z (by simp [hz])) h⟩
theorem toksF_ok {n m : Nat} : ∀ {k : Nat} {us : List U} {acc l : List Tok}, (∀ u ∈ us, 0 ≤ u.r) → us.length ≤ m → (∀ t ∈ acc, TkOk m t ∧ t.k ≠ 4) → toksF n k us acc = TR.good l → EndsT l ∧ ∀ t ∈ l, TkOk m t
  | 0, us, acc, l, hu, hm, ha, h => by cases h
  | k + 1, us, acc, l, hu, hm, ha, h => by
    have hb : ∀ u ∈ blankL false us, 0 ≤ u.r := fun u h => hu u (blankL_suf _ _ u h)
    have hbl := blankL_le false us
    cases h1 : tokO n (blankL false us) with
    | inl x => obtain ⟨a, e⟩ := x; rw [toksF_bad h1] at h; cases h
    | inr x =>
      obtain ⟨t, r⟩ := x
      obtain ⟨o1, o2⟩ := tokO_ok hb (show (blankL false us).length ≤ m by omega) h1
      by_cases h4 : t.k = 4
      · rw [toksF_end h1 h4] at h
        obtain rfl := Sum.inr.inj h
        refine ⟨endsT_snoc (fun x hx => (ha x hx).2) h4, fun x hx => ?_⟩
        rcases List.mem_append.1 hx with q | q
        · exact (ha x q).1
        · obtain rfl : x = t := by simpa using q
          exact o1
      · rw [toksF_on h1 h4] at h
        have hlen := tokO_len h1
        refine toksF_ok o2 (by rcases hlen with ⟨q, _⟩ | ⟨_, q⟩ <;> first | exact absurd q h4 | omega) (fun x hx => ?_) h
        rcases List.mem_append.1 hx with q | q
        · exact ha x q
        · obtain rfl : x = t := by simpa using q
          exact ⟨o1, h4⟩
theorem toks_ok {zs : List Int} {us : List U} (hr : Run zs 0 us zs.length) {l : List Tok} (h : toksL zs.length us = TR.good l) : EndsT l ∧ ∀ t ∈ l, TkOk zs.length t := by
  have hlen := Run.le hr (Nat.zero_le _)
  exact toksF_ok (fun u hu => (run_range hr u hu).1) (by omega) (fun t ht => (by cases ht)) h
theorem endsT_map {l : List Tok} (h : EndsT l) : EndsT (l.map canT) := by
  match l, h with
  | [t], h => exact h
  | t :: u :: l, h => exact ⟨h.1, endsT_map h.2⟩
end Go.Proofs.YtghogepkmdilaaaGreatDoor
