/-
  The document's Or, And, Less, Not and Same, at sets. Tokens in memory, as they are read; texts of signs of one byte each; the statements' awake.
-/
import Derived.Test.YtfdjchnckjgapaaGreatDoorY32
import Derived.Test.YtfdjchnckjgapaaGreatDoorY15
import Derived.BigQuiet
import Derived.Test.YtfdjchnckjgapaaGreatDoorY29
import Derived.Lib.SlBytesConst
namespace Go.Proofs.YtfdjchnckjgapaaGreatDoor
open Go.RowKit Go.Shelf S1
set_option linter.unusedVariables false

theorem refOr_any (a b : List Rg) (ha : IsSet a) (hb : IsSet b) (la : a.length ≤ 20000) (lb : b.length ≤ 20000) (va vb : Value) (w : World) (hva : RngSrc w va a) (hvb : RngSrc w vb b) :
    Calls Tryz.prog 90 #[va, vb] w fun e w' => Makes w (fun x => hasR a x || hasR b x) e w' := by
  have HC := pick_any 0 (fun x y => x || y) (.inl ⟨rfl, rfl⟩) a b la lb ha.upto.fits hb.upto.fits va vb w hva hvb
  obtain ⟨ada, ca, rfl, _, _⟩ := hva.1
  obtain ⟨adb, cb, rfl, _, _⟩ := hvb.1
  go_enter Tryz.func90, Tryz.ntmps90
  go_wp2_with fail
  refine HC.mono ?_
  rintro e w1 ⟨l, v, rfl, hu, ho, hB⟩
  have HO : Hid _ := ho
  have HU : Hid _ := hu
  clear ho hu HC
  go_wp2
  go_ret
  exact ⟨l, v, rfl, HU.out, HO.out, hB⟩
theorem refAnd_any (a b : List Rg) (ha : IsSet a) (hb : IsSet b) (la : a.length ≤ 20000) (lb : b.length ≤ 20000) (va vb : Value) (w : World) (hva : RngSrc w va a) (hvb : RngSrc w vb b) :
    Calls Tryz.prog 92 #[va, vb] w fun e w' => Makes w (fun x => hasR a x && hasR b x) e w' := by
  have HC := pick_any 1 (fun x y => x && y) (.inr (.inl ⟨rfl, rfl⟩)) a b la lb ha.upto.fits hb.upto.fits va vb w hva hvb
  obtain ⟨ada, ca, rfl, _, _⟩ := hva.1
  obtain ⟨adb, cb, rfl, _, _⟩ := hvb.1
  go_enter Tryz.func92, Tryz.ntmps92
  go_wp2_with fail
  refine HC.mono ?_
  rintro e w1 ⟨l, v, rfl, hu, ho, hB⟩
  have HO : Hid _ := ho
  have HU : Hid _ := hu
  clear ho hu HC
  go_wp2
  go_ret
  exact ⟨l, v, rfl, HU.out, HO.out, hB⟩
theorem refLess_any (a b : List Rg) (ha : IsSet a) (hb : IsSet b) (la : a.length ≤ 20000) (lb : b.length ≤ 20000) (va vb : Value) (w : World) (hva : RngSrc w va a) (hvb : RngSrc w vb b) :
    Calls Tryz.prog 91 #[va, vb] w fun e w' => Makes w (fun x => hasR a x && !hasR b x) e w' := by
  have HC := pick_any 2 (fun x y => x && !y) (.inr (.inr (.inl ⟨rfl, rfl⟩))) a b la lb ha.upto.fits hb.upto.fits va vb w hva hvb
  obtain ⟨ada, ca, rfl, _, _⟩ := hva.1
  obtain ⟨adb, cb, rfl, _, _⟩ := hvb.1
  go_enter Tryz.func91, Tryz.ntmps91
  go_wp2_with fail
  refine HC.mono ?_
  rintro e w1 ⟨l, v, rfl, hu, ho, hB⟩
  have HO : Hid _ := ho
  have HU : Hid _ := hu
  clear ho hu HC
  go_wp2
  go_ret
  exact ⟨l, v, rfl, HU.out, HO.out, hB⟩
theorem refNot_any (a : List Rg) (ha : IsSet a) (la : a.length ≤ 20000) (va : Value) (w : World) (hva : RngSrc w va a) :
    Calls Tryz.prog 124 #[va] w fun e w' => Makes w (fun x => !hasR a x) e w' := by
  have HC := pick_any 3 (fun x y => !x && !y) (.inr (.inr (.inr ⟨rfl, rfl⟩))) a [] la (by simp) ha.upto.fits (fun r hr => by cases hr) va _ w hva (RngSrc.nil _)
  obtain ⟨ada, ca, rfl, _, _⟩ := hva.1
  go_enter Tryz.func124, Tryz.ntmps124
  go_wp2_with fail
  refine HC.mono ?_
  rintro e w1 ⟨l, v, rfl, hu, ho, hB⟩
  have HO : Hid _ := ho
  have HU : Hid (Upto (fun x => !hasR a x) l 1114112) := hu.congr (fun x _ _ => by simp [show hasR [] x = false from rfl])
  clear ho hu HC
  go_wp2
  go_ret
  exact ⟨l, v, rfl, HU.out, HO.out, hB⟩

set_option maxRecDepth 100000 in
set_option maxHeartbeats 4000000 in
theorem sameG_any (us vs : List Rg) (hlen : us.length ≤ 600000) (va vb : Value) (w : World) (ha : RngIn w va us) (hb : RngIn w vb vs) :
    Calls Tryz.prog 24 #[va, vb] w fun e w' => e = .returned (.bool (sameS us vs)) ∧ Below w.heap.size w w' := by
  obtain ⟨a, ca, rfl, hca, hia⟩ := ha
  obtain ⟨b, cb, rfl, hcb, hib⟩ := hb
  obtain ⟨q, hq⟩ : ∃ q, q = sameS us vs := ⟨_, rfl⟩
  rw [← hq]
  have HQ : Hid (q = sameS us vs) := hq
  clear hq
  by_cases hl : us.length = vs.length
  · have HA : Hid (∀ i, (h : i < us.length) → ∃ g off, a = some ⟨g, off, none⟩ ∧ g < w.heap.size ∧ w.cell? ⟨g, off + i * 2, none⟩ = some (.int .i64 us[i].lo) ∧ w.cell? ⟨g, off + i * 2 + 1, none⟩ = some (.int .i64 us[i].hi)) := hia
    have HB : Hid (∀ i, (h : i < vs.length) → ∃ g off, b = some ⟨g, off, none⟩ ∧ g < w.heap.size ∧ w.cell? ⟨g, off + i * 2, none⟩ = some (.int .i64 vs[i].lo) ∧ w.cell? ⟨g, off + i * 2 + 1, none⟩ = some (.int .i64 vs[i].hi)) := hib
    have HL : Hid (us.length = vs.length) := hl
    rw [← hl] at hcb ⊢
    clear hia hib hl
    have hneq : ((us.length : Int) != (us.length : Int)) = false := by simp
    go_enter Tryz.func24, Tryz.ntmps24
    go_wp2
    go_loopw [5] (fun i wr => ∃ k : Nat, k ≤ us.length ∧ i = .int .i64 k ∧ Hid (q = sameS (us.drop k) (vs.drop k)) ∧ ∃ nd, wr = w.drewN nd) (fun i _ => us.length - (intOf i).toNat)
    case atStart => exact ⟨0, Nat.zero_le _, rfl, HQ.out, 0, rfl⟩
    case round =>
      obtain ⟨k, hk, rfl, HD, nd, rfl⟩ := hrel
      by_cases hlt : k < us.length
      · have hlt2 : k < vs.length := by have := HL.out; omega
        obtain ⟨ga, oa, rfl, hga, a0, a1⟩ := HA.out k hlt
        obtain ⟨gb, ob, rfl, hgb, b0, b1⟩ := HB.out k hlt2
        obtain ⟨xl, hxl⟩ : ∃ x, x = us[k].lo := ⟨_, rfl⟩
        obtain ⟨xh, hxh⟩ : ∃ x, x = us[k].hi := ⟨_, rfl⟩
        obtain ⟨yl, hyl⟩ : ∃ x, x = vs[k].lo := ⟨_, rfl⟩
        obtain ⟨yh, hyh⟩ : ∃ x, x = vs[k].hi := ⟨_, rfl⟩
        have HD2 : Hid (q = ((xl == yl && xh == yh) && sameS (us.drop (k + 1)) (vs.drop (k + 1)))) := by
          show _ = _
          rw [hxl, hxh, hyl, hyh, ← sameS_drop hlt hlt2]; exact HD.out
        rw [← hxl] at a0
        rw [← hxh] at a1
        rw [← hyl] at b0
        rw [← hyh] at b1
        clear hxl hxh hyl hyh hlt2
        have hk0 : (0 : Int) ≤ (k : Int) := by omega
        have hk1 : (k : Int) < (us.length : Int) := by omega
        cases h1 : (xl == yl) with
        | false =>
          have h1' : (xl != yl) = true := by simp only [bne, h1]; rfl
          have HD3 : Hid (q = false) := by
            show _ = _
            rw [HD2.out, h1]; rfl
          clear HD HD2
          go_wp2
          go_quiet (fail)
          go_wp2
          go_ret
          refine ⟨by rw [HD3.out]; rfl, ?_⟩
          first | exact below_drewN' (below_drewN' (Below.refl _ _) _) _ | exact below_drewN' (Below.refl _ _) _
        | true =>
          have h1' : (xl != yl) = false := by simp only [bne, h1]; rfl
          cases h2 : (xh == yh) with
          | false =>
            have h2' : (xh != yh) = true := by simp only [bne, h2]; rfl
            have HD3 : Hid (q = false) := by
              show _ = _
              rw [HD2.out, h1, h2]; rfl
            clear HD HD2
            go_wp2
            go_quiet (fail)
            go_wp2
            go_ret
            refine ⟨by rw [HD3.out]; rfl, ?_⟩
            first | exact below_drewN' (below_drewN' (Below.refl _ _) _) _ | exact below_drewN' (Below.refl _ _) _
          | true =>
            have h2' : (xh != yh) = false := by simp only [bne, h2]; rfl
            have HD3 : Hid (q = sameS (us.drop (k + 1)) (vs.drop (k + 1))) := by
              show _ = _
              rw [HD2.out, h1, h2]; rfl
            clear HD HD2
            go_wp2
            go_quiet (fail)
            go_wp2
            go_roundw
            case rel => exact ⟨k + 1, by omega, by go_num, HD3, _, rfl⟩
            case measure => simp [intOf]; omega
      · obtain rfl : k = us.length := by omega
        have HD3 : Hid (q = true) := by
          show _ = _
          rw [HD.out, List.drop_length, HL.out, List.drop_length]; rfl
        go_wp2
        go_ret
        exact ⟨by rw [HD3.out]; rfl, below_drewN' (Below.refl _ _) _⟩
  · have hneq : ((us.length : Int) != (vs.length : Int)) = true := by simp; omega
    have HE : Hid (q = false) := HQ.out.trans (sameS_len hl)
    clear hia hib hl
    go_enter Tryz.func24, Tryz.ntmps24
    go_wp2
    go_ret
    exact ⟨by rw [HE.out]; rfl, Below.refl _ _⟩
end Go.Proofs.YtfdjchnckjgapaaGreatDoor

namespace Go.Proofs.YtfdjchnckjgapaaGreatDoor
open Go.RowKit Go.Shelf S1
set_option linter.unusedVariables false

theorem cellsTs_at : ∀ (l : List (Tok × Value)) (i j : Nat) (h : i < l.length), j < 4 → (cellsTs l)[i * 4 + j]? = (cellsT l[i])[j]?
  | u :: us, 0, j, h, hj => by
    have e : cellsTs (u :: us) = cellsT u ++ cellsTs us := rfl
    rw [e, Nat.zero_mul, Nat.zero_add, List.getElem?_append_left (by simpa [cellsT] using hj)]
    rfl
  | u :: us, i + 1, j, h, hj => by
    have e : cellsTs (u :: us) = cellsT u ++ cellsTs us := rfl
    rw [e, List.getElem?_append_right (by simp [cellsT]; omega)]
    have e2 : (i + 1) * 4 + j - (cellsT u).length = i * 4 + j := by simp [cellsT]; omega
    rw [e2, cellsTs_at us i j (by simpa using h) hj]
    rfl

/-- The slice value v holds the tokens l, each with its set's slice. -/
def ToksIn (w : World) (v : Value) (l : List (Tok × Value)) : Prop :=
  ∃ a cap, v = .slice a l.length cap ∧ l.length ≤ cap ∧ ∀ i, (h : i < l.length) → ∃ g off, a = some ⟨g, off, none⟩ ∧ g < w.heap.size ∧ w.cell? ⟨g, off + i * 4, none⟩ = some (.int .i64 l[i].1.k) ∧ w.cell? ⟨g, off + i * 4 + 1, none⟩ = some (.int .i64 (l[i].1.p : Int)) ∧
    w.cell? ⟨g, off + i * 4 + 2, none⟩ = some (.string (strOfNums l[i].1.t)) ∧ w.cell? ⟨g, off + i * 4 + 3, none⟩ = some l[i].2
theorem toks_of_row {w : World} {base : Nat} {v : Value} {l : List (Tok × Value)} (h : w.ownsRow base 54 4 v l.length (cellsTs l)) : ToksIn w v l := by
  rcases h.2 with ⟨rfl, h0⟩ | ⟨g, cap, cur, rfl, hb, hg, hc, hm, hs, ht⟩
  · exact ⟨none, 0, by rw [h0], by omega, fun i hi => by omega⟩
  · have key : ∀ i j x, i < l.length → (cellsTs l)[i * 4 + j]? = some x → w.cell? ⟨g, 0 + i * 4 + j, none⟩ = some x := fun i j x hi hx => by
      have := h.cells (g := g) rfl (i * 4 + j) x hx
      rw [add_lit'] at this
      rw [Nat.add_assoc]
      exact this
    refine ⟨_, cap, rfl, hc, fun i hi => ⟨g, 0, rfl, (Array.getElem?_eq_some_iff.1 hg).1, ?_, ?_, ?_, ?_⟩⟩
    · exact key i 0 _ hi (by rw [cellsTs_at l i 0 hi (by omega)]; rfl)
    · exact key i 1 _ hi (by rw [cellsTs_at l i 1 hi (by omega)]; rfl)
    · exact key i 2 _ hi (by rw [cellsTs_at l i 2 hi (by omega)]; rfl)
    · exact key i 3 _ hi (by rw [cellsTs_at l i 3 hi (by omega)]; rfl)
theorem ToksIn.below {w w' : World} {v : Value} {l : List (Tok × Value)} (h : ToksIn w v l) (hb : Below w.heap.size w w') : ToksIn w' v l := by
  obtain ⟨a, cap, rfl, hc, hi⟩ := h
  refine ⟨a, cap, rfl, hc, fun i hlt => ?_⟩
  obtain ⟨g, off, rfl, hg, h0, h1, h2, h3⟩ := hi i hlt
  exact ⟨g, off, rfl, Nat.lt_of_lt_of_le hg hb.size, (hb.cell (p := ⟨g, _, none⟩) hg).trans h0, (hb.cell (p := ⟨g, _, none⟩) hg).trans h1, (hb.cell (p := ⟨g, _, none⟩) hg).trans h2, (hb.cell (p := ⟨g, _, none⟩) hg).trans h3⟩
/-- What is known of a token's set: its slice holds the set of its entries. -/
theorem SetsOwn.at {w : World} {base : Nat} {l : List (Tok × Value)} (h : SetsOwn w base l) (i : Nat) (hi : i < l.length) : ∃ s, Upto (hasR l[i].1.s) s 1114112 ∧ s.length ≤ 65536 ∧ RngIn w l[i].2 s := by
  obtain ⟨s, h1, h2, h3⟩ := h l[i] (List.getElem_mem hi)
  exact ⟨s, h1, h2, rng_of_row h3⟩

/-- Units of one byte each. -/
def ascU : Nat → List Int → List U
  | _, [] => []
  | p, c :: t => ⟨c, p, 1, false⟩ :: ascU (p + 1) t
theorem unD_asc (c : Int) (t : List Int) (h0 : 0 ≤ c) (h1 : c < 128) : unD (c :: t) = ⟨c, 1, false⟩ := by
  have er : candR (c :: t) = c := by simp [candR, h1]
  have en : candN (c :: t) = 1 := by simp [candN, h1]
  unfold unD
  rw [er, en, if_pos ⟨(isR_iff _).2 (by omega), by simp [encR, h1]⟩]
theorem run_asc : ∀ (pre zs : List Int), (∀ c ∈ zs, 0 ≤ c ∧ c < 128) → Run (pre ++ zs) pre.length (ascU pre.length zs) (pre ++ zs).length
  | pre, [], h => by show pre.length = _; simp
  | pre, c :: t, h => by
    have hc := h c (by simp)
    have hu : unitAt (pre ++ c :: t) pre.length = ⟨c, pre.length, 1, false⟩ := by
      unfold unitAt
      rw [List.drop_left, unD_asc c t hc.1 hc.2]
    refine ⟨by simp, by rw [hu], ?_⟩
    have ih := run_asc (pre ++ [c]) t (fun d hd => h d (by simp [hd]))
    simp only [List.append_assoc, List.singleton_append, List.length_append, List.length_singleton] at ih ⊢
    simpa using ih
theorem run_ascii {zs : List Int} (h : ∀ c ∈ zs, 0 ≤ c ∧ c < 128) : Run zs 0 (ascU 0 zs) zs.length := run_asc [] zs h

theorem bytes_lit {w : World} (zs : List Int) (t : TypeId) (fr : Nat × Nat) (cap : Nat) (hc : zs.length ≤ cap) : BytesAt (w.heap.size + 1) (w.alloc (.cells (zs.map (Value.int .u8)).toArray t fr)) (.slice (some ⟨w.heap.size, 0, none⟩) zs.length cap) zs := by
  refine .inr ⟨w.heap.size, 0, cap, rfl, hc, by omega, fun j hj => ?_⟩
  rw [cell_of_row _ _ _ _ _ _ (heap_new' w _)]
  simp [hj]

def awZ : List Int := [115, 101, 116, 32, 97, 32, 61, 32, 91, 97, 45, 99, 93, 59]
theorem awZ_toks : toksL 14 (ascU 0 awZ) = TR.good [⟨1, 0, [115, 101, 116], []⟩, ⟨1, 4, [97], []⟩, ⟨2, 6, [61], []⟩, ⟨3, 8, [], [⟨97, 99⟩]⟩, ⟨2, 13, [59], []⟩, ⟨4, 14, [], []⟩] := by kernel_rfl
theorem list_map_fst {l : List (Tok × Value)} {a b c d e f : Tok} (h : l.map Prod.fst = [a, b, c, d, e, f]) : l.length = 6 ∧ (∀ hh : 3 < l.length, l[3].1 = d) ∧ (∀ hh : 5 < l.length, l[5].1 = f) := by
  match l, h with
  | [x0, x1, x2, x3, x4, x5], h =>
    simp at h
    exact ⟨rfl, fun _ => h.2.2.2.1, fun _ => h.2.2.2.2.2⟩
theorem upto_one {s : List Rg} (h : Upto (hasR [⟨97, 99⟩]) s 1114112) : s = [⟨97, 99⟩] := by
  refine Upto.unique h ⟨⟨by decide, by decide, trivial⟩, fun x => ?_⟩
  have e : hasR [⟨97, 99⟩] x = decide (97 ≤ x ∧ x ≤ 99) := by simp only [hasR, List.any_cons, List.any_nil, Bool.or_false]
  rw [e]
  apply decide_eq_decide.2
  simp only [decide_eq_true_eq]
  omega

end Go.Proofs.YtfdjchnckjgapaaGreatDoor
