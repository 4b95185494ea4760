/-
  PrM MayP
-/
import Derived.Test.YtfdjchnckjgapaaGreatDoorX39
import Derived.Test.YtfdjchnckjgapaaGreatDoorX22
namespace Go.Proofs.YtfdjchnckjgapaaGreatDoor
open Go.RowKit Go.Shelf S1
set_option linter.unusedVariables false
def inBr (p w : Int) : Bool := p == 2 || (p == 0 && w != 2)
def hasP (k : Int) (n : Nat) : Bool := if k = 0 then n != 1 else if k = 2 then decide (2 ≤ n) else signK k && n == 1
def sgs (sg : Nat) (k : Int) : Nat := if signK k = true then sg + 1 else 0
def brN (p w : Int) : Nat := if inBr p w = true then 1 else 0
def okH (sg : Nat) (n : Nd) : Bool := n.s == 0 && decide (sgs sg n.k ≤ 3) && hasP n.k n.kids.length
def okN : Nat → Nat → Nat → Nd → Bool
  | 0, dp, sg, n => if n.k = 1 then n.kids.isEmpty else okH sg n
  | f + 1, dp, sg, n => if n.k = 1 then n.kids.isEmpty else okH sg n && n.kids.all fun x => decide (dp + brN x.k n.k ≤ 20) && okN f (dp + brN x.k n.k) (sgs sg n.k) x
def meetS (m : Nat) (s : Int) : Option Nat := if s = (m : Int) then some (m + 1) else if 0 ≤ s ∧ s < (m : Int) then some m else none
def metL (g : Nat → Nd → Option Nat) : Nat → List Nd → Option Nat
  | m, [] => some m
  | m, x :: l => match g m x with
    | none => none
    | some m' => metL g m' l
def metN : Nat → Nat → Nd → Option Nat
  | 0, m, n => if n.k = 1 then meetS m n.s else some m
  | f + 1, m, n => if n.k = 1 then meetS m n.s else metL (metN f) m n.kids
def mayK (f : Nat) (dp sg : Nat) (w : Int) : Nat → List Nd → Option Nat
  | m, [] => some m
  | m, x :: l => if decide (dp + brN x.k w ≤ 20) && okN f (dp + brN x.k w) sg x then (match metN f m x with
    | none => none
    | some m' => mayK f dp sg w m' l) else none
def mayN (f dp sg m : Nat) (n : Nd) : Option Nat := if okN f dp sg n = true then metN f m n else none
theorem mayK_eq (f dp sg : Nat) (w : Int) (m : Nat) (l : List Nd) : mayK f dp sg w m l = if (l.all fun x => decide (dp + brN x.k w ≤ 20) && okN f (dp + brN x.k w) sg x) = true then metL (metN f) m l else none := by
  induction l generalizing m with
  | nil => rfl
  | cons x l ih =>
    unfold mayK metL
    by_cases h : (decide (dp + brN x.k w ≤ 20) && okN f (dp + brN x.k w) sg x) = true
    · simp only [List.all_cons, h, if_true, Bool.true_and]
      split
      · simp
      · rename_i m' _
        exact ih m'
    · have h' := Bool.eq_false_iff.2 h
      simp only [List.all_cons, h', Bool.false_and, Bool.false_eq_true, if_false]
theorem mayN_zero {dp sg m : Nat} {n : Nd} (h : n.kids = []) : mayN 0 dp sg m n = if n.k = 1 then meetS m n.s else if okH sg n = true then some m else none := by
  unfold mayN okN metN
  by_cases q : n.k = 1
  · simp [q, h]
  · simp [q]
theorem mayN_set {f dp sg m : Nat} {n : Nd} (h : n.k = 1) : mayN f dp sg m n = if n.kids = [] then meetS m n.s else none := by
  unfold mayN
  cases f <;> simp [okN, metN, h]
theorem mayN_bad {f dp sg m : Nat} {n : Nd} (h : n.k ≠ 1) (h2 : okH sg n = false) : mayN f dp sg m n = none := by
  unfold mayN
  cases f <;> simp [okN, h, h2]
theorem mayN_kids {f dp sg m : Nat} {n : Nd} (h : n.k ≠ 1) (h2 : okH sg n = true) : mayN (f + 1) dp sg m n = mayK f dp (sgs sg n.k) n.k m n.kids := by
  rw [mayK_eq]
  unfold mayN
  simp only [okN, metN, h, if_false, h2, Bool.true_and]
theorem mayK_cons {f dp sg : Nat} {w : Int} {m : Nat} {x : Nd} {l : List Nd} : mayK f dp sg w m (x :: l) = if 20 < dp + brN x.k w then none else (mayN f (dp + brN x.k w) sg m x).bind fun m' => mayK f dp sg w m' l := by
  rw [mayK]
  unfold mayN
  by_cases h : 20 < dp + brN x.k w
  · have h2 : decide (dp + brN x.k w ≤ 20) = false := by simp; omega
    rw [h2, if_pos h]; rfl
  · have h2 : decide (dp + brN x.k w ≤ 20) = true := by simp; omega
    rw [h2, if_neg h, Bool.true_and]
    cases okN f (dp + brN x.k w) sg x with
    | false => rfl
    | true =>
      simp only [if_true]
      cases metN f m x <;> rfl
def mayR : Nat → List Rl → Option Nat
  | m, [] => some m
  | m, x :: l => match mayN 120 0 0 m x.l with
    | none => none
    | some m1 => match mayN 120 0 0 m1 x.r with
      | none => none
      | some m2 => mayR m2 l
def isSetB (s : List Rg) : Bool := s.all (fun r => decide (0 ≤ r.lo ∧ r.lo ≤ r.hi ∧ r.hi < 1114112)) && sameS (mkS s) s
def setsF : Nat → Sts → Bool
  | 0, _ => true
  | k + 1, st => setsF k st && (match st[k]? with
    | none => true
    | some s => isSetB s && !((st.take k).any fun x => sameS x s))
def rightB (st : Sts) (rl : List Rl) : Bool := decide (st.length ≤ 60) && decide (rl.length ≤ 64) && setsF st.length st && (mayR 0 rl == some st.length)
end Go.Proofs.YtfdjchnckjgapaaGreatDoor

namespace Go.Proofs.YtfdjchnckjgapaaGreatDoor
open Go.RowKit Go.Shelf S1
set_option linter.unusedVariables false
theorem inBrackets_any (p q : Int) (w : World) : Calls Tryz.prog 66 #[.int .i64 p, .int .i64 q] w fun e w' => e = .returned (.bool (inBr p q)) ∧ w = w' := by
  by_cases h2 : p = 2
  · subst h2
    have e : inBr 2 q = true := by simp [inBr]
    rw [e]
    clear e
    go_enter Tryz.func66, Tryz.ntmps66
    go_wp2
    go_ret
    exact ⟨rfl, rfl⟩
  by_cases h0 : p = 0
  · subst h0
    have e : inBr 0 q = (q != 2) := by simp [inBr]
    rw [e]
    clear e h2
    go_enter Tryz.func66, Tryz.ntmps66
    go_wp2
    go_ret
    exact ⟨rfl, rfl⟩
  have e : inBr p q = false := by simp [inBr, h2, h0]
  rw [e]
  have k2 : (p == 2) = false := by simpa using h2
  have k0 : (p == 0) = false := by simpa using h0
  clear e h2 h0
  go_enter Tryz.func66, Tryz.ntmps66
  go_wp2
  go_ret
  exact ⟨rfl, rfl⟩
set_option maxRecDepth 100000 in
set_option maxHeartbeats 4000000 in
theorem hasParts_any (k s : Int) (a : Option Addr) (len cap : Nat) (w : World) : Calls Tryz.prog 65 #[.agg #[.int .i64 k, .int .i64 s, .slice a len cap]] w fun e w' => e = .returned (.bool (hasP k len)) ∧ Below w.heap.size w w' := by
  have HB0 : Hid (Below w.heap.size w (w.alloc (.cells #[.int .i64 k, .int .i64 s, .slice a len cap] 39))) := below_alloc _ _
  by_cases h0 : k = 0
  · subst h0
    have e : hasP 0 len = ((len : Int) != 1) := by
      simp only [hasP, if_true]
      by_cases q : len = 1
      · subst q; rfl
      · have h1 : (len != 1) = true := by simpa using q
        have h2 : ((len : Int) != 1) = true := by simp; omega
        rw [h1, h2]
    rw [e]
    clear e
    go_enter Tryz.func65, Tryz.ntmps65
    go_wp2
    go_ret
    exact ⟨rfl, HB0.out⟩
  by_cases h2 : k = 2
  · subst h2
    have e : hasP 2 len = decide ((len : Int) ≥ 2) := by
      have : hasP 2 len = decide (2 ≤ len) := by simp [hasP]
      rw [this]
      apply decide_eq_decide.2; omega
    rw [e]
    clear e h0
    go_enter Tryz.func65, Tryz.ntmps65
    go_wp2
    go_ret
    exact ⟨by first | rfl | simp, HB0.out⟩
  have e : hasP k len = (signK k && len == 1) := by simp [hasP, h0, h2]
  rw [e]
  have k2 : (k == 2) = false := by simpa using h2
  have k0 : (k == 0) = false := by simpa using h0
  have h1 := fun W => signOf_any k W
  clear e h2 h0
  cases hs : signK k with
  | false =>
    rw [signT_none hs] at h1
    have h1' : ∀ W, Calls Tryz.prog 64 #[.int .i64 k] W fun e w' => e = .returned (.string ⟨#[]⟩) ∧ W = w' := h1
    clear h1 hs
    go_enter Tryz.func65, Tryz.ntmps65
    go_wp2_with fail
    refine (h1' _).mono ?_
    rintro e w1 ⟨rfl, rfl⟩
    go_wp2
    go_ret
    exact ⟨rfl, HB0.out⟩
  | true =>
    have hne := signT_some hs
    obtain ⟨sg, hsg⟩ : ∃ sg, sg = strOfNums (signT k) := ⟨_, rfl⟩
    rw [← hsg] at hne h1
    have e1 : ((len : Int) == 1) = (len == 1) := by
      by_cases q : len = 1
      · subst q; rfl
      · have h1 : (len == 1) = false := by simpa using q
        have h2 : ((len : Int) == 1) = false := by simp; omega
        rw [h1, h2]
    rw [Bool.true_and, ← e1]
    clear hs hsg e1
    go_enter Tryz.func65, Tryz.ntmps65
    go_wp2_with fail
    refine (h1 _).mono ?_
    rintro e w1 ⟨rfl, rfl⟩
    go_wp2
    go_ret
    exact ⟨rfl, HB0.out⟩
def ChkAt (w : World) (C m : Nat) : Prop := w.heap[C]? = some (.cells #[.int .i64 (m : Int)] 69 (0, 0))
theorem meets_any (C m : Nat) (hm : m ≤ 1000000) (s : Int) (w : World) (hC : ChkAt w C m) :
    Calls Tryz.prog 63 #[.pointer (some ⟨C, 0, none⟩), .int .i64 s] w fun e w' => ∃ b m', e = .returned (.bool b) ∧ ChkAt w' C m' ∧ w.grownBy w' (some C) ∧ b = (meetS m s).isSome ∧ (b = true → meetS m s = some m') := by
  have HC : Hid (ChkAt w C m) := hC
  have hlt : C < w.heap.size := (Array.getElem?_eq_some_iff.1 hC).1
  have c0 : w.cell? ⟨C, 0, none⟩ = some (.int .i64 (m : Int)) := cell_of_row _ _ 0 _ _ _ hC
  have f0 : w.frozen? ⟨C, 0, none⟩ = false := frozen_of_row _ _ 0 _ _ hC
  clear hC
  by_cases h : s = (m : Int)
  · subst h
    have e : meetS m (m : Int) = some (m + 1) := by simp [meetS]
    rw [e]
    have h1 : decide ((0 : Int) ≤ (m : Int)) = true := by simp
    have h2 : decide ((m : Int) < (m : Int) + 1) = true := by simp; omega
    clear e
    go_enter Tryz.func63, Tryz.ntmps63
    go_wp2
    go_ret
    refine ⟨true, m + 1, by first | rfl | simp, ?_, grownR_set w C 0 _, rfl, fun _ => rfl⟩
    have := heap_set HC.out (i := 0) (.int .i64 ((m : Int) + 1))
    exact this
  · have hs : (s == (m : Int)) = false := by simpa using h
    by_cases h2 : 0 ≤ s ∧ s < (m : Int)
    · have e : meetS m s = some m := by simp [meetS, h, h2]
      rw [e]
      have h3 : decide ((0 : Int) ≤ s) = true := by simp; omega
      have h4 : decide (s < (m : Int)) = true := by simp; omega
      clear e h h2
      go_enter Tryz.func63, Tryz.ntmps63
      go_wp2
      go_ret
      exact ⟨true, m, by first | rfl | simp, HC.out, World.grownBy.refl _ _, rfl, fun _ => rfl⟩
    · have e : meetS m s = none := by unfold meetS; rw [if_neg h, if_neg h2]
      rw [e]
      by_cases h5 : 0 ≤ s
      · have h3 : decide ((0 : Int) ≤ s) = true := by simp; omega
        have h4 : decide (s < (m : Int)) = false := by simp; omega
        clear e h h2 h5
        go_enter Tryz.func63, Tryz.ntmps63
        go_wp2
        go_ret
        exact ⟨false, m, by first | rfl | simp, HC.out, World.grownBy.refl _ _, rfl, fun h => (by cases h)⟩
      · have h3 : decide ((0 : Int) ≤ s) = false := by simp; omega
        clear e h h2 h5
        go_enter Tryz.func63, Tryz.ntmps63
        go_wp2
        go_ret
        exact ⟨false, m, by first | rfl | simp, HC.out, World.grownBy.refl _ _, rfl, fun h => (by cases h)⟩
end Go.Proofs.YtfdjchnckjgapaaGreatDoor
