/-
  The text of an expression. Plain mathematics. What inBrackets, hasParts, meets and mayBe answer.
-/
import Derived.Test.YtfdjchnckjgapaaGreatDoorX35
import Derived.Test.YtfdjchnckjgapaaGreatDoorX21
namespace Go.Proofs.YtfdjchnckjgapaaGreatDoor
open Go.RowKit Go.Shelf S1
set_option linter.unusedVariables false

def brT (b : Bool) (t : List Int) : List Int := if b = true then 40 :: (t ++ [41]) else t
def barT (fst : Bool) (k : Int) : List Int := if fst = false ∧ k = 2 then [124] else []
/-- The texts of parts, one behind the other. -/
def txK (g : Nd → List Int) (k : Int) : Bool → List Nd → List Int
  | _, [] => []
  | fst, x :: l => barT fst k ++ (brT (inBr x.k k) (g x) ++ txK g k false l)
def headT (S : List (List Int)) (n : Nd) : List Int := if n.k = 1 then S.getD n.s.toNat [] else []
/-- The text of an expression, where S are the texts of sets. -/
def txN : Nat → List (List Int) → Nd → List Int
  | 0, S, n => headT S n ++ signT n.k
  | f + 1, S, n => headT S n ++ (txK (txN f S) n.k true n.kids ++ signT n.k)
/-- The sets of an expression are of the first b. -/
def SIn : Nat → Nat → Nd → Prop
  | 0, b, n => n.k = 1 → 0 ≤ n.s ∧ n.s < (b : Int)
  | f + 1, b, n => (n.k = 1 → 0 ≤ n.s ∧ n.s < (b : Int)) ∧ ∀ x ∈ n.kids, SIn f b x
theorem SIn.here {f b : Nat} {n : Nd} (h : SIn f b n) : n.k = 1 → 0 ≤ n.s ∧ n.s < (b : Int) := by
  cases f with
  | zero => exact h
  | succ f => exact h.1
theorem SIn.more : ∀ {f b c : Nat} {n : Nd}, SIn f b n → b ≤ c → SIn f c n
  | 0, b, c, n, h, hc => fun hk => by have := h hk; omega
  | f + 1, b, c, n, h, hc => ⟨fun hk => by have := h.1 hk; omega, fun x hx => (h.2 x hx).more hc⟩
theorem meetS_in {m m' : Nat} {s : Int} (h : meetS m s = some m') : (0 ≤ s ∧ s < (m' : Int)) ∧ m ≤ m' := by
  unfold meetS at h
  split at h
  · cases h; omega
  · split at h
    · cases h; omega
    · cases h
theorem mayN_in : ∀ {f dp sg m : Nat} {n : Nd} {m' : Nat}, Dp f n.kids → mayN f dp sg m n = some m' → SIn f m' n ∧ m ≤ m'
  | 0, dp, sg, m, n, m', hd, h => by
    have h0 : n.kids = [] := hd
    rw [mayN_zero h0] at h
    split at h
    · obtain ⟨h1, h2⟩ := meetS_in h
      exact ⟨fun _ => h1, h2⟩
    · rename_i hk
      split at h
      · cases h; exact ⟨fun q => absurd q hk, Nat.le_refl _⟩
      · cases h
  | f + 1, dp, sg, m, n, m', hd, h => by
    by_cases hk : n.k = 1
    · rw [mayN_set hk] at h
      split at h
      · rename_i h0
        obtain ⟨h1, h2⟩ := meetS_in h
        exact ⟨⟨fun _ => h1, fun x hx => by rw [h0] at hx; cases hx⟩, h2⟩
      · cases h
    · cases ho : okH sg n with
      | false => rw [mayN_bad hk ho] at h; cases h
      | true =>
        rw [mayN_kids hk ho] at h
        have key : ∀ {l : List Nd} {m m' : Nat}, (∀ x ∈ l, Dp f x.kids) → mayK f dp (sgs sg n.k) n.k m l = some m' → (∀ x ∈ l, SIn f m' x) ∧ m ≤ m' := by
          intro l
          induction l with
          | nil => intro m m' _ h; cases h; exact ⟨fun x hx => (by cases hx), Nat.le_refl _⟩
          | cons x l ih =>
            intro m m' hl h
            rw [mayK_cons] at h
            split at h
            · cases h
            · rw [Option.bind_eq_some_iff] at h
              obtain ⟨m1, h1, h2⟩ := h
              obtain ⟨a1, a2⟩ := mayN_in (hl x (by simp)) h1
              obtain ⟨b1, b2⟩ := ih (fun y hy => hl y (by simp [hy])) h2
              refine ⟨fun y hy => ?_, by omega⟩
              rcases List.mem_cons.1 hy with rfl | hy
              · exact a1.more b2
              · exact b1 y hy
        obtain ⟨k1, k2⟩ := key hd.2 h
        exact ⟨⟨fun q => absurd q hk, k1⟩, k2⟩
theorem mayR_in : ∀ {rl : List Rl} {m m' : Nat}, (∀ x ∈ rl, Dp 120 x.l.kids ∧ Dp 120 x.r.kids) → mayR m rl = some m' → (∀ x ∈ rl, SIn 120 m' x.l ∧ SIn 120 m' x.r) ∧ m ≤ m'
  | [], m, m', _, h => by cases h; exact ⟨fun x hx => (by cases hx), Nat.le_refl _⟩
  | x :: l, m, m', hd, h => by
    rw [mayR] at h
    split at h
    · cases h
    · rename_i m1 h1
      split at h
      · cases h
      · rename_i m2 h2
        obtain ⟨a1, a2⟩ := mayN_in (hd x (by simp)).1 h1
        obtain ⟨b1, b2⟩ := mayN_in (hd x (by simp)).2 h2
        obtain ⟨c1, c2⟩ := mayR_in (fun y hy => hd y (by simp [hy])) h
        refine ⟨fun y hy => ?_, by omega⟩
        rcases List.mem_cons.1 hy with rfl | hy
        · exact ⟨a1.more (by omega), b1.more c2⟩
        · exact c1 y hy
theorem signT_len (k : Int) : (signT k).length ≤ 1 := by
  unfold signT
  repeat' split
  all_goals simp
theorem headT_len {S : List (List Int)} (hS : ∀ s ∈ S, s.length ≤ 69900) (n : Nd) : (headT S n).length ≤ 69900 := by
  unfold headT
  split
  · rw [List.getD_eq_getElem?_getD]
    cases h : S[n.s.toNat]? with
    | none => simp
    | some s => exact hS s (List.mem_of_getElem? h)
  · simp
theorem txK_len {g : Nd → List Int} {z : Nd → Nat} {k : Int} : ∀ {l : List Nd} {fst : Bool}, (∀ x ∈ l, (g x).length + 3 ≤ z x * 70000) → (txK g k fst l).length ≤ (l.map z).sum * 70000
  | [], _, _ => by simp [txK]
  | x :: l, fst, h => by
    have h1 := h x (by simp)
    have h2 := txK_len (k := k) (l := l) (fst := false) (fun y hy => h y (by simp [hy]))
    have h3 : (barT fst k).length ≤ 1 := by unfold barT; split <;> simp
    have h4 : (brT (inBr x.k k) (g x)).length ≤ (g x).length + 2 := by unfold brT; split <;> simp
    unfold txK
    simp only [List.length_append, List.map_cons, List.sum_cons, Nat.add_mul]
    omega
theorem txN_len {S : List (List Int)} (hS : ∀ s ∈ S, s.length ≤ 69900) : ∀ (f : Nat) (n : Nd), (txN f S n).length + 3 ≤ Sz f n * 70000
  | 0, n => by
    have h1 := headT_len hS n
    have h2 := signT_len n.k
    unfold txN Sz
    simp only [List.length_append]
    omega
  | f + 1, n => by
    have h1 := headT_len hS n
    have h2 := signT_len n.k
    have h3 := txK_len (g := txN f S) (z := Sz f) (k := n.k) (l := n.kids) (fst := true) (fun x _ => txN_len hS f x)
    unfold txN Sz
    simp only [List.length_append, Nat.add_mul]
    omega
end Go.Proofs.YtfdjchnckjgapaaGreatDoor

namespace Go.Proofs.YtfdjchnckjgapaaGreatDoor
open Go.RowKit Go.Shelf S1
set_option linter.unusedVariables false

theorem inBrackets_any (p q : Int) (w : World) : Calls Tryz.prog 66 #[.int .i64 p, .int .i64 q] w fun e w' => e = .returned (.bool (inBr p q)) ∧ w = w' := by
  by_cases h2 : p = 2
  · subst h2
    have e : inBr 2 q = true := by simp [inBr]
    rw [e]
    clear e
    go_enter Tryz.func66, Tryz.ntmps66
    go_wp2
    go_ret
    exact ⟨rfl, rfl⟩
  by_cases h0 : p = 0
  · subst h0
    have e : inBr 0 q = (q != 2) := by simp [inBr]
    rw [e]
    clear e h2
    go_enter Tryz.func66, Tryz.ntmps66
    go_wp2
    go_ret
    exact ⟨rfl, rfl⟩
  have e : inBr p q = false := by simp [inBr, h2, h0]
  rw [e]
  have k2 : (p == 2) = false := by simpa using h2
  have k0 : (p == 0) = false := by simpa using h0
  clear e h2 h0
  go_enter Tryz.func66, Tryz.ntmps66
  go_wp2
  go_ret
  exact ⟨rfl, rfl⟩

set_option maxRecDepth 100000 in
set_option maxHeartbeats 4000000 in
theorem hasParts_any (k s : Int) (a : Option Addr) (len cap : Nat) (w : World) : Calls Tryz.prog 65 #[.agg #[.int .i64 k, .int .i64 s, .slice a len cap]] w fun e w' => e = .returned (.bool (hasP k len)) ∧ Below w.heap.size w w' := by
  have HB0 : Hid (Below w.heap.size w (w.alloc (.cells #[.int .i64 k, .int .i64 s, .slice a len cap] 39))) := below_alloc _ _
  by_cases h0 : k = 0
  · subst h0
    have e : hasP 0 len = ((len : Int) != 1) := by
      simp only [hasP, if_true]
      by_cases q : len = 1
      · subst q; rfl
      · have h1 : (len != 1) = true := by simpa using q
        have h2 : ((len : Int) != 1) = true := by simp; omega
        rw [h1, h2]
    rw [e]
    clear e
    go_enter Tryz.func65, Tryz.ntmps65
    go_wp2
    go_ret
    exact ⟨rfl, HB0.out⟩
  by_cases h2 : k = 2
  · subst h2
    have e : hasP 2 len = decide ((len : Int) ≥ 2) := by
      have : hasP 2 len = decide (2 ≤ len) := by simp [hasP]
      rw [this]
      apply decide_eq_decide.2; omega
    rw [e]
    clear e h0
    go_enter Tryz.func65, Tryz.ntmps65
    go_wp2
    go_ret
    exact ⟨by first | rfl | simp, HB0.out⟩
  have e : hasP k len = (signK k && len == 1) := by simp [hasP, h0, h2]
  rw [e]
  have k2 : (k == 2) = false := by simpa using h2
  have k0 : (k == 0) = false := by simpa using h0
  have h1 := fun W => signOf_any k W
  clear e h2 h0
  cases hs : signK k with
  | false =>
    rw [signT_none hs] at h1
    have h1' : ∀ W, Calls Tryz.prog 64 #[.int .i64 k] W fun e w' => e = .returned (.string ⟨#[]⟩) ∧ W = w' := h1
    clear h1 hs
    go_enter Tryz.func65, Tryz.ntmps65
    go_wp2_with fail
    refine (h1' _).mono ?_
    rintro e w1 ⟨rfl, rfl⟩
    go_wp2
    go_ret
    exact ⟨rfl, HB0.out⟩
  | true =>
    have hne := signT_some hs
    obtain ⟨sg, hsg⟩ : ∃ sg, sg = strOfNums (signT k) := ⟨_, rfl⟩
    rw [← hsg] at hne h1
    have e1 : ((len : Int) == 1) = (len == 1) := by
      by_cases q : len = 1
      · subst q; rfl
      · have h1 : (len == 1) = false := by simpa using q
        have h2 : ((len : Int) == 1) = false := by simp; omega
        rw [h1, h2]
    rw [Bool.true_and, ← e1]
    clear hs hsg e1
    go_enter Tryz.func65, Tryz.ntmps65
    go_wp2_with fail
    refine (h1 _).mono ?_
    rintro e w1 ⟨rfl, rfl⟩
    go_wp2
    go_ret
    exact ⟨rfl, HB0.out⟩

/-- The checker at C. -/
def ChkAt (w : World) (C m : Nat) : Prop := w.heap[C]? = some (.cells #[.int .i64 (m : Int)] 69 (0, 0))
theorem meets_any (C m : Nat) (hm : m ≤ 1000000) (s : Int) (w : World) (hC : ChkAt w C m) :
    Calls Tryz.prog 63 #[.pointer (some ⟨C, 0, none⟩), .int .i64 s] w fun e w' => ∃ b m', e = .returned (.bool b) ∧ ChkAt w' C m' ∧ w.grownBy w' (some C) ∧ b = (meetS m s).isSome ∧ (b = true → meetS m s = some m') := by
  have HC : Hid (ChkAt w C m) := hC
  have hlt : C < w.heap.size := (Array.getElem?_eq_some_iff.1 hC).1
  have c0 : w.cell? ⟨C, 0, none⟩ = some (.int .i64 (m : Int)) := cell_of_row _ _ 0 _ _ _ hC
  have f0 : w.frozen? ⟨C, 0, none⟩ = false := frozen_of_row _ _ 0 _ _ hC
  clear hC
  by_cases h : s = (m : Int)
  · subst h
    have e : meetS m (m : Int) = some (m + 1) := by simp [meetS]
    rw [e]
    have h1 : decide ((0 : Int) ≤ (m : Int)) = true := by simp
    have h2 : decide ((m : Int) < (m : Int) + 1) = true := by simp; omega
    clear e
    go_enter Tryz.func63, Tryz.ntmps63
    go_wp2
    go_ret
    refine ⟨true, m + 1, by first | rfl | simp, ?_, grownR_set w C 0 _, rfl, fun _ => rfl⟩
    have := heap_set HC.out (i := 0) (.int .i64 ((m : Int) + 1))
    exact this
  · have hs : (s == (m : Int)) = false := by simpa using h
    by_cases h2 : 0 ≤ s ∧ s < (m : Int)
    · have e : meetS m s = some m := by simp [meetS, h, h2]
      rw [e]
      have h3 : decide ((0 : Int) ≤ s) = true := by simp; omega
      have h4 : decide (s < (m : Int)) = true := by simp; omega
      clear e h h2
      go_enter Tryz.func63, Tryz.ntmps63
      go_wp2
      go_ret
      exact ⟨true, m, by first | rfl | simp, HC.out, World.grownBy.refl _ _, rfl, fun _ => rfl⟩
    · have e : meetS m s = none := by unfold meetS; rw [if_neg h, if_neg h2]
      rw [e]
      by_cases h5 : 0 ≤ s
      · have h3 : decide ((0 : Int) ≤ s) = true := by simp; omega
        have h4 : decide (s < (m : Int)) = false := by simp; omega
        clear e h h2 h5
        go_enter Tryz.func63, Tryz.ntmps63
        go_wp2
        go_ret
        exact ⟨false, m, by first | rfl | simp, HC.out, World.grownBy.refl _ _, rfl, fun h => (by cases h)⟩
      · have h3 : decide ((0 : Int) ≤ s) = false := by simp; omega
        clear e h h2 h5
        go_enter Tryz.func63, Tryz.ntmps63
        go_wp2
        go_ret
        exact ⟨false, m, by first | rfl | simp, HC.out, World.grownBy.refl _ _, rfl, fun h => (by cases h)⟩
end Go.Proofs.YtfdjchnckjgapaaGreatDoor
