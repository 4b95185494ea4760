/-
  Plain mathematics: the text of a set is one token, that tells the set.
-/
import Derived.Test.YtdjhgjnhfmggjabGreatDoorSetTxt
import Derived.Test.YtdjhgjnhfmggjabGreatDoorAw7
import Derived.Test.YtdjhgjnhfmggjabGreatDoorPlMath
namespace Go.Proofs.YtdjhgjnhfmggjabGreatDoor
open Go.RowKit Go.Shelf S1
set_option linter.unusedVariables false

theorem ascU_append : ∀ (p : Nat) (a b : List Int), ascU p (a ++ b) = ascU p a ++ ascU (p + a.length) b
  | p, [], b => rfl
  | p, c :: a, b => by
    show _ :: ascU (p + 1) (a ++ b) = _ :: (ascU (p + 1) a ++ _)
    rw [ascU_append (p + 1) a b]
    simp [Nat.add_assoc, Nat.add_comm 1]
theorem ascU_cons (p : Nat) (c : Int) (t : List Int) : ascU p (c :: t) = ⟨c, p, 1, false⟩ :: ascU (p + 1) t := rfl
theorem ascU_len : ∀ (p : Nat) (t : List Int), (ascU p t).length = t.length
  | _, [] => rfl
  | p, c :: t => by rw [ascU_cons, List.length_cons, List.length_cons, ascU_len (p + 1) t]
theorem sgn_asc (q : Int → Bool) (p : Nat) (c : Int) (t : List Int) : sgn q (ascU p (c :: t)) = if q c = true then (some c, ascU (p + 1) t) else (none, ascU p (c :: t)) := by
  rw [ascU_cons, sgn_cons]
  simp [fitU]
theorem upC_fig (d : Nat) (h : d < 16) : figR (upC d) = true ∧ figV (upC d) = (d : Int) := by
  have key : ∀ d : Fin 16, figR (upC d.val) = true ∧ figV (upC d.val) = (d.val : Int) := by decide
  exact key ⟨d, h⟩
theorem figs_asc (rest : List Int) : ∀ (k p : Nat) (ds : List Nat), ds.length ≤ k → (∀ d ∈ ds, d < 16) →
    figsL k (ascU p (ds.map upC ++ 125 :: rest)) = ds.map upC ∧ figsD k (ascU p (ds.map upC ++ 125 :: rest)) = ascU (p + ds.length) (125 :: rest)
  | 0, p, [], _, _ => ⟨rfl, rfl⟩
  | 0, p, d :: ds, h, _ => by simp at h
  | k + 1, p, [], _, _ => by
    have hf : fitU figR ⟨125, p, 1, false⟩ = false := rfl
    constructor
    · show (if fitU figR ⟨125, p, 1, false⟩ = true then _ else _) = _; rw [hf]; rfl
    · show (if fitU figR ⟨125, p, 1, false⟩ = true then _ else _) = _; rw [hf]; rfl
  | k + 1, p, d :: ds, h, hd => by
    have hf : fitU figR ⟨upC d, p, 1, false⟩ = true := by simp [fitU, (upC_fig d (hd d (by simp))).1]
    obtain ⟨i1, i2⟩ := figs_asc rest k (p + 1) ds (by simpa using h) (fun x hx => hd x (by simp [hx]))
    constructor
    · show (if fitU figR ⟨upC d, p, 1, false⟩ = true then _ else _) = _
      rw [if_pos hf]
      exact congrArg (upC d :: ·) i1
    · show (if fitU figR ⟨upC d, p, 1, false⟩ = true then _ else _) = _
      rw [if_pos hf, List.length_cons, show p + (ds.length + 1) = p + 1 + ds.length by omega]
      exact i2
theorem hexV_last (l : List Int) (c : Int) : hexV (l ++ [c]) = hexV l * 16 + figV c := by simp [hexV]
theorem hexV_dig : ∀ (k n : Nat), n < 16 ^ k → hexV ((digF k n).map upC) = (n : Int)
  | 0, n, h => by simp at h; subst h; rfl
  | k + 1, n, h => by
    by_cases q : n < 16
    · rw [digF_small q]
      show (0 : Int) * 16 + figV (upC n) = _
      rw [(upC_fig n q).2]; omega
    · rw [digF_great (by omega), List.map_append]
      show hexV (_ ++ [upC (n % 16)]) = _
      rw [hexV_last, hexV_dig k (n / 16) (by rw [Nat.pow_succ] at h; omega), (upC_fig (n % 16) (by omega)).2]
      omega
theorem digF_ne (k n : Nat) : digF (k + 1) n ≠ [] := by
  by_cases q : n < 16
  · rw [digF_small q]; simp
  · rw [digF_great (by omega)]; simp
theorem letL_br (p n : Nat) (hn : n < 16 ^ 6) (rest : List Int) : letL (ascU p (brL n ++ rest)) = (some (n : Int), ascU (p + (brL n).length) rest) := by
  have e : brL n ++ rest = 92 :: 120 :: 123 :: ((digL n).map upC ++ 125 :: rest) := by simp [brL]
  rw [e]
  have h1 : sgn (isC 92) (ascU p (92 :: 120 :: 123 :: ((digL n).map upC ++ 125 :: rest))) = (some 92, ascU (p + 1) (120 :: 123 :: ((digL n).map upC ++ 125 :: rest))) := by rw [sgn_asc]; rfl
  have h2 : sgn (isC 120) (ascU (p + 1) (120 :: 123 :: ((digL n).map upC ++ 125 :: rest))) = (some 120, ascU (p + 1 + 1) (123 :: ((digL n).map upC ++ 125 :: rest))) := by rw [sgn_asc]; rfl
  have h3 : sgn (isC 123) (ascU (p + 1 + 1) (123 :: ((digL n).map upC ++ 125 :: rest))) = (some 123, ascU (p + 1 + 1 + 1) ((digL n).map upC ++ 125 :: rest)) := by rw [sgn_asc]; rfl
  rw [letL_d h1 h2 h3]
  obtain ⟨f1, f2⟩ := figs_asc rest 6 (p + 1 + 1 + 1) (digL n) (digF_len 6 n) (digL_lt n)
  unfold numL
  rw [f1, f2, if_neg (by
    have := digF_ne 5 n
    cases hq : digL n with
    | nil => exact absurd hq this
    | cons a b => simp), sgn_asc, if_pos (by decide)]
  simp only
  rw [show hexV ((digL n).map upC) = (n : Int) from hexV_dig 6 n hn]
  congr 2
  simp [brL]; omega
theorem entL_rg (p : Nat) (r : Rg) (h0 : 0 ≤ r.lo) (h1 : r.lo ≤ r.hi) (h2 : r.hi ≤ 1114111) (c : Int) (hc : c ≠ 45) (rest : List Int) : entL (ascU p (rgL r ++ c :: rest)) = (some r, ascU (p + (rgL r).length) (c :: rest)) := by
  have h66 : (16 ^ 6 : Nat) = 16777216 := by decide
  have elo : ((r.lo.toNat : Nat) : Int) = r.lo := by omega
  have ehi : ((r.hi.toNat : Nat) : Int) = r.hi := by omega
  by_cases q : r.hi = r.lo
  · have e : rgL r = brL r.lo.toNat := by unfold rgL; rw [if_pos q, List.append_nil]
    rw [e]
    have hl := letL_br p r.lo.toNat (by omega) (c :: rest)
    have hs : sgn (isC 45) (ascU (p + (brL r.lo.toNat).length) (c :: rest)) = (none, ascU (p + (brL r.lo.toNat).length) (c :: rest)) := by
      rw [sgn_asc, if_neg (by simp [isC, hc])]
    rw [entL_b hl hs, elo]
    cases r; simp only at q ⊢; rw [q]
  · have e : rgL r ++ c :: rest = brL r.lo.toNat ++ (45 :: (brL r.hi.toNat ++ c :: rest)) := by unfold rgL; rw [if_neg q]; simp
    have el : (rgL r).length = (brL r.lo.toNat).length + 1 + (brL r.hi.toNat).length := by unfold rgL; rw [if_neg q]; simp; omega
    rw [e]
    have hl := letL_br p r.lo.toNat (by omega) (45 :: (brL r.hi.toNat ++ c :: rest))
    have hs : sgn (isC 45) (ascU (p + (brL r.lo.toNat).length) (45 :: (brL r.hi.toNat ++ c :: rest))) = (some 45, ascU (p + (brL r.lo.toNat).length + 1) (brL r.hi.toNat ++ c :: rest)) := by rw [sgn_asc]; rfl
    have hl2 := letL_br (p + (brL r.lo.toNat).length + 1) r.hi.toNat (by omega) (c :: rest)
    rw [entL_d hl hs hl2, elo, ehi, el]
    congr 2
    omega
theorem setF_set (n : Nat) : ∀ (l : List Rg) (k p : Nat) (acc : List Rg), Fits l → l.length < k → setF n k (ascU p (setLs l ++ [93])) acc = SR.good (acc ++ l) []
  | [], k, p, acc, _, hk => by
    obtain ⟨j, rfl⟩ : ∃ j, k = j + 1 := ⟨k - 1, by simp at hk; omega⟩
    have hs : sgn (isC 93) (ascU p (setLs [] ++ [93])) = (some 93, []) := rfl
    rw [setF_end hs, List.append_nil]
  | r :: l, k, p, acc, hf, hk => by
    obtain ⟨j, rfl⟩ : ∃ j, k = j + 1 := ⟨k - 1, by simp at hk; omega⟩
    obtain ⟨h0, h1, h2⟩ := hf r (by simp)
    have e : setLs (r :: l) ++ [93] = rgL r ++ (setLs l ++ [93]) := by simp [setLs]
    have hd : ∃ t, rgL r = 92 :: t := ⟨_, by unfold rgL brL; rfl⟩
    obtain ⟨t, ht⟩ := hd
    have hc : ∃ c rest, setLs l ++ [93] = c :: rest ∧ c ≠ 45 := by
      cases l with
      | nil => exact ⟨93, [], rfl, by decide⟩
      | cons r2 l2 =>
        refine ⟨92, _, by show (rgL r2 ++ setLs l2) ++ [93] = _; unfold rgL brL; rfl, by decide⟩
    obtain ⟨c, rest, hcr, hc45⟩ := hc
    have hs : sgn (isC 93) (ascU p (setLs (r :: l) ++ [93])) = (none, ascU p (setLs (r :: l) ++ [93])) := by
      rw [e, ht]
      show sgn (isC 93) (ascU p (92 :: (t ++ _))) = _
      rw [sgn_asc, if_neg (by decide)]
      rfl
    have hen : entL (ascU p (setLs (r :: l) ++ [93])) = (some r, ascU (p + (rgL r).length) (setLs l ++ [93])) := by
      rw [e, hcr]
      exact entL_rg p r h0 h1 h2 c hc45 rest
    rw [setF_on hs hen (by simp; omega), setF_set n l j _ (acc ++ [r]) (fun x hx => hf x (by simp [hx])) (by simpa using hk)]
    simp
theorem toks_set (l : List Rg) (hf : Fits l) : toksL (setL l).length (ascU 0 (setL l)) = TR.good [⟨3, 0, [], l⟩, ⟨4, (setL l).length, [], []⟩] := by
  have hu : ascU 0 (setL l) = ⟨91, 0, 1, false⟩ :: ascU 1 (setLs l ++ [93]) := rfl
  have hb : blankL false (ascU 0 (setL l)) = ascU 0 (setL l) := by rw [hu]; simp [blankL, blankR]
  have hlen : l.length < (ascU 1 (setLs l ++ [93])).length + 1 := by
    rw [ascU_len]
    have : ∀ l : List Rg, l.length ≤ (setLs l).length := fun l => by
      induction l with
      | nil => simp
      | cons r l ih =>
        show _ ≤ (rgL r ++ setLs l).length
        have : 1 ≤ (rgL r).length := by unfold rgL brL; simp
        simp; omega
    have := this l
    simp; omega
  have ht : tokO (setL l).length (blankL false (ascU 0 (setL l))) = OR.good ⟨3, 0, [], l⟩ [] := by
    rw [hb, hu, tokO_cons, if_neg (by decide), if_neg (by decide), if_pos (by decide), setF_set _ l _ 1 [] hf hlen]
    rfl
  unfold toksL
  rw [toksF_on ht (by exact (by decide : (3 : Int) ≠ 4)), ascU_len]
  have hsl : (setL l).length = (setLs l ++ [93]).length + 1 := by simp [setL]
  have ht2 : tokO (setL l).length (blankL false []) = OR.good ⟨4, (setL l).length, [], []⟩ [] := rfl
  obtain ⟨m, hm⟩ : ∃ m, (setL l).length = m + 1 := ⟨_, hsl⟩
  rw [hm] at ht2 ⊢
  exact toksF_end (acc := [⟨3, 0, [], l⟩]) ht2 rfl
theorem setL_run (l : List Rg) : Run (setL l) 0 (ascU 0 (setL l)) (setL l).length := run_ascii (fun c hc => by have := setL_byt l c hc; omega)
end Go.Proofs.YtdjhgjnhfmggjabGreatDoor
