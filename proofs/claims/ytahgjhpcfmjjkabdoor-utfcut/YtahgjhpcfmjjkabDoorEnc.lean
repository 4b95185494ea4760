/-
  What utf.Encode and scansionref01.Encode answer: the bytes of a code point, or the error; and that the statement's own test is awake.
-/
import Derived.Test.YtahgjhpcfmjjkabDoorPut
import Derived.Laws.BytesArg
namespace Go.Proofs.YtahgjhpcfmjjkabDoor
open Go.RowKit
set_option linter.unusedVariables false

/-- The bytes that are told of a number: none, if it is no code point. -/
def encL (r : Int) : List Int := if isR r = true then encR r else []
/-- The error that is told of a number. -/
def errR (r : Int) : Int := if isR r = true then 0 else 1

theorem encL_le (r : Int) : (encL r).length ≤ 4 := by
  unfold encL
  split
  · have := encR_length (by assumption); have := szR_01 r; omega
  · simp

/-- What is told of bytes: a slice of the call's own that holds them. -/
def Told (w : World) (base : Nat) (v : Value) (l : List Int) : Prop := w.ownsRow base 5 1 v l.length (l.map (Value.int .u8))

theorem Told.nil (w : World) (base : Nat) : Told w base (.slice none 0 0) [] := World.ownsRow_nil _ _ _ _
theorem Told.below {w w' : World} {base : Nat} {v : Value} {l : List Int} (h : Told w base v l) (hb : Below w.heap.size w w') : Told w' base v l :=
  World.ownsRow.kept (row := none) h ⟨hb.os, hb.tape, hb.output, hb.size, fun k hk _ => hb.block k hk⟩ (by cases v.ownBlock <;> simp)
theorem Told.alloc {w : World} {base : Nat} {v : Value} {l : List Int} (h : Told w base v l) (o : Obj) : Told (w.alloc o) base v l := World.ownsRow.alloc h o
theorem Told.drew {w : World} {base : Nat} {v : Value} {l : List Int} (h : Told w base v l) : Told w.drew base v l := World.ownsRow.drew h

/-- 'string(b)' of bytes that are told. -/
theorem Told.convert {w : World} {base : Nat} {v : Value} {l : List Int} (h : Told w base v l) : (convert 23 9 v).run Tryd.prog w = .ok (.string (strOfNums l)) w := by
  rcases h.2 with ⟨rfl, h0⟩ | ⟨g, cap, cur, rfl, hb, hg, hc, hm, hs, ht⟩
  · obtain rfl : l = [] := List.length_eq_zero_iff.1 h0
    rw [run_convert_bytes_nil w 23 5 Tryd.underlying23 Tryd.underlying5 0 0 9 Tryd.underlying9]
    rfl
  · refine run_convert_bytes_arg w 23 5 Tryd.underlying23 Tryd.underlying5 g 0 l.length cap l rfl (fun i hi => ?_) 9 Tryd.underlying9
    have := World.ownsRow.cells h (g := g) rfl i (.int .u8 (l.getD i 0)) (by simp [hi])
    have hp : (⟨g, 0, none⟩ : Addr).add i = ⟨g, 0 + i, none⟩ := by unfold Addr.add; split <;> simp_all
    rw [hp] at this
    exact this

theorem encode_any (r : Int) (base : Nat) (w : World) (hm : Marks w) (hb : base ≤ w.heap.size) (hb1 : 1 ≤ base) :
    Calls Tryd.prog 10 #[.int .i64 r] w fun e w' => ∃ v', e = .returned (.tuple #[v', .int .i64 (errR r)]) ∧ Told w' base v' (encL r) ∧ Below base w w' := by
  by_cases hr : isR r = true
  · have h2 : szR r ≠ 0 := fun e => by rw [szR_zero.1 e] at hr; cases hr
    have h3 : (szR r == 0) = false := by simp [h2]
    have hp := Hid.out (put_any r hr (.slice none 0 0) 0 [] base w hm (World.ownsRow_nil _ _ _ _) (by omega) hb hb1)
    have e1 : errR r = 0 := by simp [errR, hr]
    have e2 : encL r = encR r := by simp [encL, hr]
    rw [e1, e2]
    clear e1 e2 h2 hm
    have HR : Hid (isR r = true) := hr
    clear hr
    have HP : Hid (Calls Tryd.prog 12 #[.slice none 0 0, .int .i64 r] w fun e w' => ∃ v', e = .returned v' ∧ w'.ownsRow base 5 1 v' (0 + (encR r).length) ([] ++ encV r) ∧ Below base w w') := hp
    clear hp
    go_enter Tryd.func10, Tryd.ntmps10
    go_wp2_with (first | (go_at_call 11; refine (size_any r _).mono ?_; rintro e w' ⟨rfl, rfl⟩) | (go_at_call 12; refine HP.out.mono ?_; rintro e w' ⟨v', rfl, ho, hB⟩))
    go_ret2
    refine ⟨_, rfl, ?_, by assumption⟩
    simpa [Told, encV] using ho
  · have h2 : szR r = 0 := szR_zero.2 (by simpa using hr)
    have e1 : errR r = 1 := by simp [errR, hr]
    have e2 : encL r = [] := by simp [encL, hr]
    rw [e1, e2]
    have hs := size_any r
    rw [h2] at hs
    have HS := hs
    clear hs e1 e2 hr h2
    go_enter Tryd.func10, Tryd.ntmps10
    go_wp2_with (first | (go_at_call 11; refine (HS _).mono ?_; rintro e w' ⟨rfl, rfl⟩))
    go_ret2
    exact ⟨_, rfl, Told.nil _ _, Below.refl _ _⟩

theorem told_made (w : World) (base : Nat) (l : List Int) (hb : base ≤ w.heap.size) (hl : l.length ≤ 4) :
    Told (w.alloc (.cells (l.map (Value.int .u8)).toArray 5)) base (.slice (some ⟨w.heap.size, 0, none⟩) l.length l.length) l := by
  refine ⟨by simp, .inr ⟨w.heap.size, l.length, (l.map (Value.int .u8)).toArray, rfl, hb, ?_, Nat.le_refl _, by unfold maxLen; omega, by simp, by simp [List.take_of_length_le]⟩⟩
  show (w.heap.push _)[w.heap.size]? = _
  simp

theorem awake_any (w : World) (hm : Marks w) (h1 : 1 ≤ w.heap.size) : Calls Tryd.prog 5 #[] w fun e w' => e = .returned (.bool true) ∧ Below w.heap.size w w' := by
  have he := encode_any 233 w.heap.size w hm (Nat.le_refl _) h1
  have HE : Hid (Calls Tryd.prog 10 #[.int .i64 233] w fun e w' => ∃ v', e = .returned (.tuple #[v', .int .i64 0]) ∧ Told w' w.heap.size v' [195, 169] ∧ Below w.heap.size w w') := he
  clear he
  have hstr : ((strOfNums [195, 169]).toList == [195, 169]) = true := by decide +kernel
  go_enter Tryd.func5, Tryd.ntmps5
  go_wp2_with (first | (go_at_call 10; refine HE.out.mono ?_; rintro e w' ⟨v', rfl, ho, hB⟩; have hc := ho.convert; clear ho))
  go_ret
  exact ⟨rfl, by assumption⟩

end Go.Proofs.YtahgjhpcfmjjkabDoor
