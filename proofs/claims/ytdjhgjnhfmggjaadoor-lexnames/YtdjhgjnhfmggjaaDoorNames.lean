/-
  What lex.Name and the document's Name answer.
-/
import Derived.Test.YtdjhgjnhfmggjaaDoorAw7
import Derived.Test.YtdjhgjnhfmggjaaDoorPlMath
import Derived.Lib.OthersKept
import Derived.Laws.RangeAny
namespace Go.Proofs.YtdjhgjnhfmggjaaDoor
open Go.RowKit Go.Shelf S1
set_option linter.unusedVariables false

/-- Is a text a name? -/
def nameZ : List Int → Bool
  | [] => false
  | c :: t => nameB c && t.all nameR
/-- A string's bytes, as numbers. -/
def numsOf (s : ByteArray) : List Int := s.data.toList.map fun b => (b.toNat : Int)
theorem numsOf_length (s : ByteArray) : (numsOf s).length = s.size := by unfold numsOf; rw [List.length_map]; rfl
theorem numsOf_str (s : ByteArray) : strOfNums (numsOf s) = s := by
  unfold strOfNums numsOf
  rw [List.map_map]
  have e : ((fun n : Int => UInt8.ofNat n.toNat) ∘ fun b : UInt8 => (b.toNat : Int)) = id := by
    funext b
    simp
  rw [e, List.map_id]
theorem numsOf_get (s : ByteArray) (i : Nat) (h : i < s.size) (h2 : i < (numsOf s).length) : (numsOf s)[i] = ((s[i]'h).toNat : Int) := by
  simp [numsOf]
  rfl
theorem numsOf_byt (s : ByteArray) : Byt (numsOf s) := fun c hc => by
  obtain ⟨b, _, rfl⟩ := List.mem_map.1 hc
  have := b.toNat_lt
  omega
/-- The first k signs may begin a name. -/
def nameTo (zs : List Int) (k : Nat) : Prop := ∀ i, (h : i < zs.length) → i < k → (if i = 0 then nameB zs[i] else nameR zs[i]) = true
theorem nameZ_true {zs : List Int} (h : nameTo zs zs.length) (h0 : 0 < zs.length) : nameZ zs = true := by
  cases zs with
  | nil => simp at h0
  | cons c t =>
    have h1 := h 0 (by simp) (by simp)
    simp at h1
    simp only [nameZ, h1, Bool.true_and, List.all_eq_true]
    intro x hx
    obtain ⟨i, hi, rfl⟩ := List.getElem_of_mem hx
    have := h (i + 1) (by simp; omega) (by simp; omega)
    simpa using this
theorem nameZ_false {zs : List Int} {i : Nat} (h : i < zs.length) (hf : (if i = 0 then nameB zs[i] else nameR zs[i]) = false) : nameZ zs = false := by
  cases zs with
  | nil => simp at h
  | cons c t =>
    cases i with
    | zero => simp at hf; simp [nameZ, hf]
    | succ i =>
      simp at hf
      simp only [nameZ, Bool.and_eq_false_iff]
      right
      rw [List.all_eq_false]
      exact ⟨t[i]'(by simpa using h), List.getElem_mem _, by simp [hf]⟩
theorem rule_high {p : Int → Bool} (hp : p = nameB ∨ p = nameR) {r : Int} (h : 128 ≤ r) : p r = false := by
  rcases hp with rfl | rfl
  · simp [nameB]; omega
  · simp [nameR, nameB, decB]; omega

set_option maxRecDepth 100000 in
set_option maxHeartbeats 4000000 in
theorem lexName_any (s : ByteArray) (hs : s.size ≤ 2000) (w : World) :
    Calls Tryd.prog 9 #[.string s] w fun e w' => e = .returned (.bool (nameZ (numsOf s))) ∧ Below w.heap.size w w' := by
  obtain ⟨fin, hfin⟩ : ∃ fin, fin = nameZ (numsOf s) := ⟨_, rfl⟩
  rw [← hfin]
  have HF : Hid (fin = nameZ (numsOf s)) := hfin
  clear hfin
  go_enter Tryd.func9, Tryd.ntmps9
  go_wp2
  go_loopw [3] (fun v wr => ∃ pos : Nat, pos ≤ s.size ∧ wr.heap[w.heap.size]? = some (.stringIter s pos) ∧ Below w.heap.size w wr ∧ nameTo (numsOf s) pos ∧ v = (if pos = 0 then .func (.func 16) #[] #[] else .func (.func 17) #[] #[])) (fun _ wr => s.size - wr.iterPos w.heap.size)
  case atStart =>
    refine ⟨0, Nat.zero_le _, ?_, (Below.refl _ w).alloc (Nat.le_refl _) _, fun i h hi => by omega, rfl⟩
    exact World.iter_heap w s 0
  case round =>
    obtain ⟨pos, hpl, hit, hB, hnt, rfl⟩ := hrel
    have HNT : Hid (nameTo (numsOf s) pos) := hnt
    have hbs := hB.size
    clear hnt
    by_cases hp : pos < s.size
    · have hnx : ∀ ty, (Instr.next (.pointer (some ⟨w.heap.size, 0, none⟩)) true ty).run Tryd.prog wr = _ := fun ty => Lib.run_next_any_at wr w.heap.size s pos ty hit hp
      have hB2 := Lib.below_iterAt hB (k := w.heap.size) (Nat.le_refl _) s (pos + (Utf8.decode s pos).2)
      have hit2 := Lib.iterAt_heap wr w.heap.size s pos (pos + (Utf8.decode s pos).2) hit
      have hd1 := decode_le s pos
      obtain ⟨rr, hrr⟩ : ∃ rr, rr = Utf8.decode s pos := ⟨_, rfl⟩
      rw [← hrr] at hnx hB2 hit2 hd1
      have HRR : Hid (rr = Utf8.decode s pos) := hrr
      clear hrr
      have key : ∀ (p : Int → Bool), (p = nameB ∨ p = nameR) → (p = if pos = 0 then nameB else nameR) → (p rr.1 = true → rr.2 = 1 ∧ nameTo (numsOf s) (pos + 1)) ∧ (p rr.1 = false → nameZ (numsOf s) = false) := fun p hpp hpe => by
        have hz : pos < (numsOf s).length := by rw [numsOf_length]; exact hp
        have hg := numsOf_get s pos hp hz
        by_cases ha : (s[pos]'hp).toNat < 128
        · have ed := decode_ascii s pos hp ha
          rw [← HRR.out] at ed
          have e1 : rr.1 = (s[pos]'hp).toNat := by rw [ed]
          have e2 : rr.2 = 1 := by rw [ed]
          have e3 : (if pos = 0 then nameB (numsOf s)[pos] else nameR (numsOf s)[pos]) = p rr.1 := by rw [hg, e1, hpe]; split <;> rfl
          refine ⟨fun q => ⟨e2, fun i h hi => ?_⟩, fun q => nameZ_false hz (e3.trans q)⟩
          by_cases e : i = pos
          · subst e; exact e3.trans q
          · exact HNT.out i h (by omega)
        · have hdh := decode_high s pos hp (by omega)
          rw [← HRR.out] at hdh
          have e0 := rule_high hpp (r := (rr.1 : Int)) (by omega)
          refine ⟨fun q => (by rw [e0] at q; cases q), fun _ => nameZ_false hz ?_⟩
          rw [hg]
          have e1 := rule_high hpp (r := ((s[pos]'hp).toNat : Int)) (by omega)
          rw [hpe] at e1
          split
          · rename_i q; rw [if_pos q] at e1; exact e1
          · rename_i q; rw [if_neg q] at e1; exact e1
      have HK : Hid (∀ (p : Int → Bool), (p = nameB ∨ p = nameR) → (p = if pos = 0 then nameB else nameR) → (p rr.1 = true → rr.2 = 1 ∧ nameTo (numsOf s) (pos + 1)) ∧ (p rr.1 = false → nameZ (numsOf s) = false)) := key
      clear key
      have hconv : IntKind.i64.wrap (rr.1 : Int) = (rr.1 : Int) := by rw [IntKind.wrap_i64]; omega
      by_cases h0 : pos = 0
      · have hk := HK.out nameB (.inl rfl) (by rw [if_pos h0])
        have hc := fun W => beginsName_any (rr.1 : Int) W
        rw [if_pos h0]
        have H0 : Hid (pos = 0) := h0
        clear h0
        cases hq : nameB (rr.1 : Int) with
        | true =>
          rw [hq] at hc
          obtain ⟨e2, hnt2⟩ := hk.1 hq
          rw [e2] at hnx hB2 hit2
          have HNT2 : Hid (nameTo (numsOf s) (pos + 1)) := hnt2
          clear hk hq e2 hnt2 HK
          go_wp2_with (go_at_call 16; refine (hc _).mono ?_; rintro e w' ⟨rfl, rfl⟩)
          go_roundw
          case rel => exact ⟨pos + 1, by omega, hit2, hB2, HNT2.out, by rw [if_neg (by omega)]⟩
          case measure => simp only [World.iterPos, hit2, hit]; omega
        | false =>
          rw [hq] at hc
          have HE : Hid (fin = false) := HF.out.trans (hk.2 hq)
          clear hk hq HK
          go_wp2_with (go_at_call 16; refine (hc _).mono ?_; rintro e w' ⟨rfl, rfl⟩)
          go_ret
          exact ⟨by rw [HE.out]; rfl, hB2⟩
      · have hk := HK.out nameR (.inr rfl) (by rw [if_neg h0])
        have hc := fun W => isInName_any (rr.1 : Int) W
        rw [if_neg h0]
        have H0 : Hid (¬ pos = 0) := h0
        clear h0
        cases hq : nameR (rr.1 : Int) with
        | true =>
          rw [hq] at hc
          obtain ⟨e2, hnt2⟩ := hk.1 hq
          rw [e2] at hnx hB2 hit2
          have HNT2 : Hid (nameTo (numsOf s) (pos + 1)) := hnt2
          clear hk hq e2 hnt2 HK
          go_wp2_with (go_at_call 17; refine (hc _).mono ?_; rintro e w' ⟨rfl, rfl⟩)
          go_roundw
          case rel => exact ⟨pos + 1, by omega, hit2, hB2, HNT2.out, by rw [if_neg (by omega)]⟩
          case measure => simp only [World.iterPos, hit2, hit]; omega
        | false =>
          rw [hq] at hc
          have HE : Hid (fin = false) := HF.out.trans (hk.2 hq)
          clear hk hq HK
          go_wp2_with (go_at_call 17; refine (hc _).mono ?_; rintro e w' ⟨rfl, rfl⟩)
          go_ret
          exact ⟨by rw [HE.out]; rfl, hB2⟩
    · have hnx : ∀ ty, (Instr.next (.pointer (some ⟨w.heap.size, 0, none⟩)) true ty).run Tryd.prog wr = _ := fun ty => Lib.run_next_end_at wr w.heap.size s pos ty hit hp
      obtain rfl : pos = s.size := by omega
      by_cases h0 : s.size = 0
      · have hemp : s.toList.isEmpty = true := by
          rw [← decide_eq_emptyBytes]
          refine decide_eq_true ?_
          have : s.data = #[] := Array.eq_empty_of_size_eq_zero h0
          cases s; simp only at this; rw [this]; rfl
        have HE : Hid (fin = false) := by
          show _ = _
          rw [HF.out]
          have : (numsOf s) = [] := List.length_eq_zero_iff.1 (by rw [numsOf_length]; exact h0)
          rw [this]; rfl
        go_wp2
        go_ret
        exact ⟨by rw [HE.out]; rfl, hB⟩
      · have hemp : s.toList.isEmpty = false := by
          rw [← decide_eq_emptyBytes]
          exact decide_eq_false (fun h => h0 (by rw [h]; rfl))
        have HE : Hid (fin = true) := by
          show _ = _
          rw [HF.out]
          exact nameZ_true (by rw [numsOf_length]; exact HNT.out) (by rw [numsOf_length]; omega)
        go_wp2
        go_ret
        exact ⟨by rw [HE.out]; rfl, hB⟩

end Go.Proofs.YtdjhgjnhfmggjaaDoor
