/-
  alphabet.draft.stretch: the mask of a number, and the last number up to which all have it.
-/
import Derived.Test.YtmknifnhcgdkaaaX39
import Derived.Laws.Bits64b
namespace Go.Proofs.Ytmknifnhcgdkaaa
open Go.RowKit
set_option linter.unusedVariables false

theorem pow_lt63 {k : Nat} (h : k < 63) : 2 ^ k < 9223372036854775808 := by
  have : 2 ^ k < 2 ^ 63 := Nat.pow_lt_pow_right (by omega) h
  simpa using this
theorem u64_in9 (n : Nat) (h : n < 18446744073709551616) : IntKind.u64.wrap (n : Int) = (n : Int) := by
  rw [IntKind.wrap_u64]; omega
/-- The bit k is put to a mask of lower ones. -/
theorem or_bit {m k : Nat} (hm : m < 2 ^ k) (hk : k < 63) : bits .or .u64 (m : Int) (((2 ^ k : Nat) : Int)) = ((m + 2 ^ k : Nat) : Int) := by
  have := pow_lt63 hk
  rw [bits_or_u64_nat m (2 ^ k) (by omega) (by omega), or_pow hm]
theorem or_bit' {m k : Nat} (hm : m < 2 ^ k) (hk : k < 63) : bits .or .u64 (m : Int) (IntKind.u64.wrap ((2 : Int) ^ k)) = ((m + 2 ^ k : Nat) : Int) := by
  have := pow_lt63 hk
  have e : (2 : Int) ^ k = ((2 ^ k : Nat) : Int) := by simp
  rw [e, u64_in9 _ (by omega), or_bit hm hk]
/-- What the rests become, set by set. -/
def restsK (S R : List (List Rg)) (low : Int) (k : Nat) : List (List Rg) := (S.take k).map (fun s => restF s low) ++ R.drop k
theorem restsK_len {S R : List (List Rg)} {low : Int} {k : Nat} (h : R.length = S.length) (hk : k ≤ S.length) : (restsK S R low k).length = S.length := by
  unfold restsK
  simp
  omega
theorem restsK_get {S R : List (List Rg)} {low : Int} {k : Nat} (h : R.length = S.length) (hk : k < S.length) : (restsK S R low k)[k]'(by rw [restsK_len h (by omega)]; exact hk) = R[k]'(by omega) := by
  unfold restsK
  rw [List.getElem_append_right (by simp; omega)]
  simp
  congr 1
  omega
theorem restsK_set {S R : List (List Rg)} {low : Int} {k : Nat} (h : R.length = S.length) (hk : k < S.length) : (restsK S R low k).set k (restF S[k] low) = restsK S R low (k + 1) := by
  unfold restsK
  have hl : ((S.take k).map (fun s => restF s low)).length = k := by simp; omega
  rw [List.set_append_right _ _ (by omega), hl, Nat.sub_self, List.drop_eq_getElem_cons (by omega : k < R.length), List.set_cons_zero, List.take_succ_eq_append_getElem hk, List.map_append]
  simp
theorem restsK_same {S R : List (List Rg)} {low : Int} {k : Nat} (h : R.length = S.length) (hk : k < S.length) (e : R[k]'(by omega) = restF S[k] low) : restsK S R low k = restsK S R low (k + 1) := by
  rw [← restsK_set h hk, ← e, ← restsK_get (low := low) h hk]
  exact (List.set_getElem_self _).symm
theorem restsK_end {S R : List (List Rg)} {low : Int} (h : R.length = S.length) : restsK S R low S.length = S.map (fun s => restF s low) := by
  unfold restsK
  rw [List.take_length, List.drop_eq_nil_of_le (by omega), List.append_nil]

set_option maxRecDepth 100000 in
set_option maxHeartbeats 8000000 in
theorem stretch9_any (n gd : Nat) (S R : List (List Rg)) (M : List Nat) (L : List Int) (P : List S3.Pp) (low : Int) (w : World) (gm : Nat) (vr vm vl ve : Value) (nm : Nat) (D : DataW Unit) (hd : DrfV n w gd gm vr vm vl ve R M L P nm D) (hS : AllS S) (hlen : S.length ≤ 60) (hR : R.length = S.length)
    (hok : ∀ i, (h : i < S.length) → RestOk S[i] (R[i]'(by omega)) low) (h0 : 0 ≤ low) (h1 : low ≤ 1114111) :
    Calls Try.prog 42 #[.pointer (some ⟨gd, 0, none⟩), .int .i64 low] w fun e w' => e = .returned (.tuple #[.int .u64 (maskN S low : Nat), .int .i64 (highS S low)]) ∧ DrfV n w' gd gm vr vm vl ve (S.map (fun s => restF s low)) M L P nm D ∧ Below n w w' := by
  have HD : Hid (DrfV n w gd gm vr vm vl ve R M L P nm D) := hd
  have HOK : Hid (∀ i, (h : i < S.length) → RestOk S[i] (R[i]'(by omega)) low) := hok
  have HS : Hid (AllS S) := hS
  obtain ⟨xs, hrow, _⟩ := hd.rests
  obtain ⟨ar, capr, rfl⟩ := S3.slice_of_row hrow
  have hc0 : w.cell? ⟨gd, 0, none⟩ = some (.slice ar R.length capr) := S3.cell_row hd.heap rfl
  rw [hR] at hc0 HD ⊢
  clear hd hok hS hrow
  go_enter Try.func42, Try.ntmps42
  go_wp2
  go_loopw [4, 5, 13] (fun m h x wr => ∃ k : Nat, k ≤ S.length ∧ x = .int .i64 k ∧ m = .int .u64 (maskN (S.take k) low : Nat) ∧ h = .int .i64 (highS (S.take k) low) ∧ DrfV n wr gd gm (.slice ar S.length capr) vm vl ve (restsK S R low k) M L P nm D ∧ Below n w wr) (fun _ _ x _ => S.length - (intOf x).toNat)
  case atStart => exact ⟨0, Nat.zero_le _, rfl, rfl, rfl, HD.out, Below.refl _ _⟩
  case round =>
    obtain ⟨k, hk, rfl, rfl, rfl, hdr, hB⟩ := hrel
    obtain ⟨HDR, HB⟩ : Hid (DrfV n wr gd gm (.slice ar S.length capr) vm vl ve (restsK S R low k) M L P nm D) ∧ Hid (Below n w wr) := ⟨hdr, hB⟩
    have hg0 : wr.cell? ⟨gd, 0, none⟩ = some (.slice ar S.length capr) := S3.cell_row hdr.heap rfl
    clear hc0
    have hbs := hB.size
    have hnl := hdr.nlt
    by_cases hlt : k < S.length
    · obtain ⟨gr, cap, x, ev, hngr, hgr, hne, hcx, hfx, hrx⟩ := hdr.restAt (k := k) (by rw [restsK_len hR hk]; exact hlt)
      rw [restsK_get hR hlt] at hrx
      rw [restsK_len hR hk] at ev
      obtain ⟨rfl, rfl⟩ : ar = some ⟨gr, 0, none⟩ ∧ capr = cap := by simpa using ev
      have hok := HOK.out k hlt
      have hmt : maskN (S.take (k + 1)) low = maskN (S.take k) low + (if inF (restF S[k] low) low = true then 2 ^ k else 0) := by rw [mask_take hlt, rest_has low (HS.out S[k] (List.getElem_mem hlt)).1]
      have hht := high_take hlt low
      have hml := mask_take_lt S k low
      have hhl : highS (S.take k) low ≤ 1114111 := (high_facts low (S.take k) 1114111).1
      have hhg : low ≤ highS (S.take k) low := high_low h1
      have hsame : R[k]'(by omega) = restF S[k] low → restsK S R low k = restsK S R low (k + 1) := restsK_same hR hlt
      have hset := restsK_set (S := S) (R := R) (low := low) hR hlt
      obtain ⟨Rk, hRk⟩ : ∃ Rk, Rk = R[k]'(by omega) := ⟨_, rfl⟩
      obtain ⟨m, hm⟩ : ∃ m, m = maskN (S.take k) low := ⟨_, rfl⟩
      obtain ⟨h, hh⟩ : ∃ h, h = highS (S.take k) low := ⟨_, rfl⟩
      have hnorm := (HS.out S[k] (List.getElem_mem hlt)).1
      rw [← hRk] at hrx hok hsame
      rw [← hm] at hmt hml ⊢
      rw [← hh] at hht hhl hhg ⊢
      have hk1 : (k : Int) < (S.length : Int) := by omega
      obtain ⟨HMT, HHT, HSET, HSAME, HML⟩ : Hid (maskN (S.take (k + 1)) low = m + (if inF (restF S[k] low) low = true then 2 ^ k else 0)) ∧ Hid (highS (S.take (k + 1)) low = min h (nextF (restF S[k] low) low)) ∧ Hid ((restsK S R low k).set k (restF S[k] low) = restsK S R low (k + 1)) ∧ Hid (Rk = restF S[k] low → restsK S R low k = restsK S R low (k + 1)) ∧ Hid (m < 2 ^ k) := ⟨hmt, hht, hset, hsame, hml⟩
      clear hmt hht hset hsame hml hm hh hRk hdr hB ev
      cases Rk with
      | nil =>
        have HE : Hid (([] : List Rg) = restF S[k] low) := hok.stay (fun r t e => (by cases e))
        obtain ⟨ax, cx, rfl, _, _⟩ := hrx
        clear hok
        simp only [List.length_nil] at hcx
        go_wp2
        go_roundw
        case rel =>
          refine ⟨k + 1, by omega, by go_num, ?_, ?_, by rw [← HSAME.out HE.out]; exact HDR.out, HB.out⟩
          · rw [HMT.out, ← HE.out]; rfl
          · rw [HHT.out, ← HE.out]
            show Value.int .i64 h = .int .i64 (min h 1114111)
            rw [Int.min_eq_left hhl]
        case measure => simp [intOf]; omega
      | cons r t =>
        obtain ⟨g, off, cx, rfl, hcc, hgn, c0, c1⟩ := hrx.cons
        have hro : 0 ≤ r.lo ∧ r.lo ≤ r.hi ∧ r.hi ≤ 1114111 := by
          obtain ⟨i, hi⟩ := hok.2.2
          have hm : r ∈ S[k] := List.mem_of_mem_drop (i := i) (by rw [← hi]; simp)
          have := hnorm.ord r hm
          have := (HS.out S[k] (List.getElem_mem hlt)).2 r hm
          omega
        have hn0 : (0 : Int) < (t.length : Int) + 1 := by omega
        have hn1 : ((t.length : Int) + 1 == 0) = false := by simp; omega
        by_cases q : r.hi < low
        · have hp : t = restF S[k] low := hok.pass hnorm q
          have HTL : Hid (RngAt n wr (.slice (if cx = 1 then some ⟨g, off, none⟩ else some ⟨g, off + 2, none⟩) t.length (cx - 1)) t) := hrx.tail'
          have HE : Hid (t = restF S[k] low) := hp
          have HDT : Hid (DrfV n (wr.setCell ⟨gr, k, none⟩ (.slice (if cx = 1 then some ⟨g, off, none⟩ else some ⟨g, off + 2, none⟩) t.length (cx - 1))) gd gm (.slice (some ⟨gr, 0, none⟩) S.length capr) vm vl ve (restsK S R low (k + 1)) M L P nm D) := by
            have hl := restsK_len (S := S) (R := R) (low := low) hR hk
            have := HDR.out
            rw [← hl] at this
            have := this.setRest (k := k) (by rw [hl]; exact hlt) HTL.out
            rw [hp, HSET.out, hl] at this
            rw [hp]
            exact this
          have HBT : Hid (Below n w (wr.setCell ⟨gr, k, none⟩ (.slice (if cx = 1 then some ⟨g, off, none⟩ else some ⟨g, off + 2, none⟩) t.length (cx - 1)))) := HB.out.setCell (p := ⟨gr, k, none⟩) hngr _
          clear hok hp hrx
          cases t with
          | nil =>
            simp only [List.length_nil, Nat.zero_add] at hcx hcc hn0 hn1 HDT HBT
            have HN : Hid (maskN (S.take (k + 1)) low = m ∧ highS (S.take (k + 1)) low = h) := by
              refine ⟨by rw [HMT.out, ← HE.out]; rfl, ?_⟩
              rw [HHT.out, ← HE.out]
              show min h 1114111 = h
              exact Int.min_eq_left hhl
            go_wp2
            go_roundw
            case rel => exact ⟨k + 1, by omega, by go_num, by rw [HN.out.1], by rw [HN.out.2], HDT.out, HBT.out⟩
            case measure => simp [intOf]; omega
          | cons r' t' =>
            have hcx1 : ¬ cx = 1 := by simp at hcc; omega
            have hcx2 : (cx == 1) = false := by simp [hcx1]
            have htl := HTL.out
            rw [if_neg hcx1] at htl
            rw [if_neg hcx1] at HDT HBT
            obtain ⟨g', off', cx', e, hcc', hgn', d0, d1⟩ := htl.cons
            obtain ⟨⟨rfl, rfl⟩, rfl⟩ : (g = g' ∧ off + 2 = off') ∧ cx - 1 = cx' := by simpa using e
            have hro' : 0 ≤ r'.lo ∧ r'.lo ≤ r'.hi ∧ r'.hi ≤ 1114111 := by
              obtain ⟨i, hi⟩ := rest_drop S[k] low
              have hm : r' ∈ S[k] := List.mem_of_mem_drop (i := i) (by rw [← hi, ← HE.out]; simp)
              have := hnorm.ord r' hm
              have := (HS.out S[k] (List.getElem_mem hlt)).2 r' hm
              omega
            have hgg : g ≠ gr := by omega
            have f0 : (wr.setCell ⟨gr, k, none⟩ (.slice (some ⟨g, off + 2, none⟩) (t'.length + 1) (cx - 1))).cell? ⟨g, off + 2, none⟩ = some (.int .i64 r'.lo) := (World.cell?_setCell_other _ _ _ _ (by simp)).trans d0
            have f1 : (wr.setCell ⟨gr, k, none⟩ (.slice (some ⟨g, off + 2, none⟩) (t'.length + 1) (cx - 1))).cell? ⟨g, off + 2 + 1, none⟩ = some (.int .i64 r'.hi) := (World.cell?_setCell_other _ _ _ _ (by simp)).trans d1
            have hm0 : (0 : Int) < (t'.length : Int) + 1 := by omega
            have hm1 : ((t'.length : Int) + 1 == 0) = false := by simp; omega
            simp only [List.length_cons] at hcx hcc hn0 hn1 HDT HBT
            clear d0 d1 htl HTL e hcx1
            by_cases q2 : low < r'.lo
            · have q2' : inF (restF S[k] low) low = false := by rw [← HE.out]; exact decide_eq_false (by omega)
              have q3' : nextF (restF S[k] low) low = r'.lo - 1 := by rw [← HE.out]; exact if_pos q2
              have HN : Hid (maskN (S.take (k + 1)) low = m ∧ highS (S.take (k + 1)) low = min h (r'.lo - 1)) := ⟨by rw [HMT.out, q2']; rfl, by rw [HHT.out, q3']⟩
              clear q2' q3'
              go_wp2
              go_roundw
              case rel => exact ⟨k + 1, by omega, by go_num, by rw [HN.out.1], by rw [HN.out.2], HDT.out, HBT.out⟩
              case measure => simp [intOf]; omega
            · have q2' : inF (restF S[k] low) low = true := by rw [← HE.out]; exact decide_eq_true (by omega)
              have q3' : nextF (restF S[k] low) low = r'.hi := by rw [← HE.out]; exact if_neg q2
              have HN : Hid (maskN (S.take (k + 1)) low = m + 2 ^ k ∧ highS (S.take (k + 1)) low = min h r'.hi) := ⟨by rw [HMT.out, q2']; rfl, by rw [HHT.out, q3']⟩
              have HOR : Hid (bits .or .u64 (m : Int) (IntKind.u64.wrap ((2 : Int) ^ k)) = ((m + 2 ^ k : Nat) : Int)) := or_bit' HML.out (by omega)
              clear q2' q3'
              go_wp2
              go_roundw
              case rel => exact ⟨k + 1, by omega, by go_num, by rw [HN.out.1]; exact congrArg (Value.int .u64) HOR.out, by rw [HN.out.2], HDT.out, HBT.out⟩
              case measure => simp [intOf]; omega
        · have HE : Hid (r :: t = restF S[k] low) := hok.stay (fun r' t' e => by
            obtain ⟨rfl, rfl⟩ : r = r' ∧ t = t' := by simpa using e
            exact q)
          have HDT : Hid (DrfV n wr gd gm (.slice (some ⟨gr, 0, none⟩) S.length capr) vm vl ve (restsK S R low (k + 1)) M L P nm D) := by
            have := HDR.out
            rw [HSAME.out HE.out] at this
            exact this
          clear hok hrx
          by_cases q2 : low < r.lo
          · have q2' : inF (restF S[k] low) low = false := by rw [← HE.out]; exact decide_eq_false (by omega)
            have q3' : nextF (restF S[k] low) low = r.lo - 1 := by rw [← HE.out]; exact if_pos q2
            have HN : Hid (maskN (S.take (k + 1)) low = m ∧ highS (S.take (k + 1)) low = min h (r.lo - 1)) := ⟨by rw [HMT.out, q2']; rfl, by rw [HHT.out, q3']⟩
            clear q2' q3'
            go_wp2
            go_roundw
            case rel => exact ⟨k + 1, by omega, by go_num, by rw [HN.out.1], by rw [HN.out.2], HDT.out, HB.out⟩
            case measure => simp [intOf]; omega
          · have q2' : inF (restF S[k] low) low = true := by rw [← HE.out]; exact decide_eq_true (by omega)
            have q3' : nextF (restF S[k] low) low = r.hi := by rw [← HE.out]; exact if_neg q2
            have HN : Hid (maskN (S.take (k + 1)) low = m + 2 ^ k ∧ highS (S.take (k + 1)) low = min h r.hi) := ⟨by rw [HMT.out, q2']; rfl, by rw [HHT.out, q3']⟩
            have HOR : Hid (bits .or .u64 (m : Int) (IntKind.u64.wrap ((2 : Int) ^ k)) = ((m + 2 ^ k : Nat) : Int)) := or_bit' HML.out (by omega)
            clear q2' q3'
            go_wp2
            go_roundw
            case rel => exact ⟨k + 1, by omega, by go_num, by rw [HN.out.1]; exact congrArg (Value.int .u64) HOR.out, by rw [HN.out.2], HDT.out, HB.out⟩
            case measure => simp [intOf]; omega
    · obtain rfl : k = S.length := by omega
      rw [List.take_length]
      have hk1 : ¬ ((S.length : Int) < (S.length : Int)) := by omega
      go_wp2
      go_ret2
      refine ⟨rfl, ?_, HB.out⟩
      rw [← restsK_end (low := low) hR]
      exact HDR.out
end Go.Proofs.Ytmknifnhcgdkaaa
