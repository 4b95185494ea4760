/-
  Expressions read from behind. Plain mathematics.
-/
import Derived.Test.YtidaoamfdbkfiaaDoorFlRef
namespace Go.Proofs.YtidaoamfdbkfiaaDoor
open Go.RowKit
set_option linter.unusedVariables false

/-- The expression turned. -/
def turnN : Nd → Nd
  | ⟨k, s, l⟩ => ⟨k, s, if k = 0 then (l.map turnN).reverse else l.map turnN⟩
def turnL : List Nd → List Nd
  | [] => []
  | x :: l => turnN x :: turnL l
theorem turnL_map : ∀ l : List Nd, turnL l = l.map turnN
  | [] => by rw [turnL]; rfl
  | x :: l => by rw [turnL, turnL_map l]; rfl
theorem turnN_mk (k s : Int) (l : List Nd) : turnN ⟨k, s, l⟩ = ⟨k, s, if k = 0 then (turnL l).reverse else turnL l⟩ := by
  rw [turnN, turnL_map]
theorem turnN_eq (n : Nd) : turnN n = ⟨n.k, n.s, if n.k = 0 then (n.kids.map turnN).reverse else n.kids.map turnN⟩ := by
  cases n; rw [turnN_mk, turnL_map]
theorem turnN_k (n : Nd) : (turnN n).k = n.k := by rw [turnN_eq]
theorem turnN_s (n : Nd) : (turnN n).s = n.s := by rw [turnN_eq]
theorem turnN_len (n : Nd) : (turnN n).kids.length = n.kids.length := by
  rw [turnN_eq]; show (if _ then _ else _ : List Nd).length = _; split <;> simp
theorem turnL_turn_of : ∀ l : List Nd, (∀ x ∈ l, turnN (turnN x) = x) → turnL (turnL l) = l
  | [], _ => by rw [turnL, turnL]
  | x :: l, ih => by rw [turnL, turnL, ih x (by simp), turnL_turn_of l (fun y hy => ih y (by simp [hy]))]
theorem turn_turn : ∀ n : Nd, turnN (turnN n) = n :=
  Nd.ind fun k s l ih => by
    have h := turnL_turn_of l ih
    rw [turnL_map, turnL_map] at h
    rw [turnN_mk, turnN_mk]
    split
    · rename_i hk
      rw [turnL_map, turnL_map, List.map_reverse, List.reverse_reverse, h]
    · rw [turnL_map, turnL_map, h]
theorem rightL_rev (l : List Nd) : rightL l.reverse = rightL l := by
  rw [Bool.eq_iff_iff, rightL_iff, rightL_iff]; simp
theorem rightL_turn_of : ∀ l : List Nd, (∀ x ∈ l, rightN (turnN x) = rightN x) → rightL (turnL l) = rightL l
  | [], _ => by rw [turnL]
  | x :: l, ih => by rw [turnL, rightL, rightL, ih x (by simp), rightL_turn_of l (fun y hy => ih y (by simp [hy]))]
theorem right_turn : ∀ n : Nd, rightN (turnN n) = rightN n :=
  Nd.ind fun k s l ih => by
    have h := rightL_turn_of l ih
    rw [turnN_mk, rightN_mk, rightN_mk]
    split
    · rw [rightL_rev, h, List.length_reverse, turnL_map, List.length_map]
    · rw [h, turnL_map, List.length_map]

/-- One relation is another's, read from behind, up to L. -/
def Bk (L : Nat) (R T : Nat → Nat → Prop) : Prop := ∀ q p q' p', q + q' = L → p + p' = L → (R q p ↔ T p' q')
theorem Bk.pl {L : Nat} {R T : Nat → Nat → Prop} (h : Bk L R T) (hR : Fwd L R) (hT : Fwd L T) : Bk L (Pl R) (Pl T) := by
  have a1 : ∀ q p, Pl R q p → ∀ q' p', q + q' = L → p + p' = L → Pl T p' q' := fun q p k => by
    induction k using Pl.ind with
    | one a => exact fun q' p' h1 h2 => .one ((h _ _ _ _ h1 h2).1 a)
    | @more m p b a ih =>
      intro q' p' h1 h2
      have hm : m ≤ L := Nat.le_trans (hR _ _ a).1 (by omega)
      exact .cons ((h m p (L - m) p' (by omega) h2).1 a) (ih q' (L - m) h1 (by omega))
  have a2 : ∀ p' q', Pl T p' q' → ∀ q p, q + q' = L → p + p' = L → Pl R q p := fun p' q' k => by
    induction k using Pl.ind with
    | one a => exact fun q p h1 h2 => .one ((h _ _ _ _ h1 h2).2 a)
    | @more m q' b a ih =>
      intro q p h1 h2
      have hm : m ≤ L := Nat.le_trans (hT _ _ a).1 (by omega)
      exact .cons ((h q (L - m) q' m h1 (by omega)).2 a) (ih (L - m) p (by omega) h2)
  exact fun q p q' p' h1 h2 => ⟨fun k => a1 q p k q' p' h1 h2, fun k => a2 p' q' k q p h1 h2⟩
theorem bk_eq (L : Nat) : Bk L (fun q p => p = q) (fun q p => p = q) := fun q p q' p' h1 h2 => by constructor <;> (intro h; omega)
theorem bk_set (ws : List Nat) (s : Int) : Bk ws.length (relS ws s) (relS ws.reverse s) := fun q p q' p' h1 h2 => by
  unfold relS
  have key : ∀ q p', q + (p' + 1) = ws.length → bitW ws.reverse s p' = bitW ws s q := fun q p' h => by
    unfold bitW
    rw [List.getElem?_reverse (by omega), show ws.length - 1 - p' = q by omega]
  constructor
  · rintro ⟨e, hb⟩
    have hq := bitW_lt hb
    refine ⟨by omega, ?_⟩
    rw [key q p' (by omega)]; exact hb
  · rintro ⟨e, hb⟩
    have hq := bitW_lt hb
    rw [List.length_reverse] at hq
    refine ⟨by omega, ?_⟩
    rw [← key q p' (by omega)]; exact hb
theorem bkC (ws : List Nat) : ∀ l : List Nd, (∀ x ∈ l, Bk ws.length (relN ws (turnN x)) (relN ws.reverse x)) → Bk ws.length (relC ws (turnL l).reverse) (relC ws.reverse l)
  | [], _ => fun q p q' p' h1 h2 => by
    rw [turnL, List.reverse_nil, relC, relC]; exact bk_eq _ q p q' p' h1 h2
  | x :: l, ih => fun q p q' p' h1 h2 => by
    rw [turnL, List.reverse_cons, relC_snoc, relC]
    constructor
    · rintro ⟨m, a, b⟩
      have hm : m ≤ ws.length := Nat.le_trans (fwdN ws _ _ _ b).1 (by omega)
      exact ⟨ws.length - m, (ih x (by simp) m p (ws.length - m) p' (by omega) h2).1 b, (bkC ws l (fun y hy => ih y (by simp [hy])) q m q' (ws.length - m) h1 (by omega)).1 a⟩
    · rintro ⟨m, a, b⟩
      have hm : m ≤ ws.length := by
        have := (fwdN ws.reverse x p' m a).2 (by rw [List.length_reverse]; omega)
        rwa [List.length_reverse] at this
      exact ⟨ws.length - m, (bkC ws l (fun y hy => ih y (by simp [hy])) q (ws.length - m) q' m h1 (by omega)).2 b, (ih x (by simp) (ws.length - m) p m p' (by omega) h2).2 a⟩
theorem bkA (ws : List Nat) : ∀ l : List Nd, (∀ x ∈ l, Bk ws.length (relN ws (turnN x)) (relN ws.reverse x)) → Bk ws.length (relA ws (turnL l)) (relA ws.reverse l)
  | [], _ => fun q p q' p' h1 h2 => by rw [turnL, relA, relA]
  | x :: l, ih => fun q p q' p' h1 h2 => by
    rw [turnL, relA, relA]
    exact or_congr (ih x (by simp) q p q' p' h1 h2) (bkA ws l (fun y hy => ih y (by simp [hy])) q p q' p' h1 h2)
theorem bkH (ws : List Nat) : ∀ l : List Nd, (∀ x ∈ l, Bk ws.length (relN ws (turnN x)) (relN ws.reverse x)) → Bk ws.length (relH ws (turnL l)) (relH ws.reverse l)
  | [], _ => fun q p q' p' h1 h2 => by rw [turnL, relH, relH]
  | x :: l, ih => fun q p q' p' h1 h2 => by
    rw [turnL, relH, relH]
    exact ih x (by simp) q p q' p' h1 h2
theorem bk_turn (ws : List Nat) : ∀ n : Nd, Bk ws.length (relN ws (turnN n)) (relN ws.reverse n) :=
  Nd.ind fun k s l ih q p q' p' h1 h2 => by
    have hC := bkC ws l ih q p q' p' h1 h2
    have hA := bkA ws l ih q p q' p' h1 h2
    have hH := bkH ws l ih
    have hF1 : Fwd ws.length (relH ws (turnL l)) := by
      cases l with
      | nil => rw [turnL, relH]; exact fun q p h => h.elim
      | cons x l => rw [turnL, relH]; exact fwdN ws _
    have hF2 : Fwd ws.length (relH ws.reverse l) := by
      cases l with
      | nil => rw [relH]; exact fun q p h => h.elim
      | cons x l => rw [relH]; have := fwdN ws.reverse x; rwa [List.length_reverse] at this
    have hP := (hH.pl hF1 hF2) q p q' p' h1 h2
    have hS := bk_set ws s q p q' p' h1 h2
    have hE := bk_eq ws.length q p q' p' h1 h2
    rw [turnN_mk, relN_mk, relN_mk]
    unfold relK
    by_cases k0 : k = 0
    · rw [if_pos k0, if_pos k0, if_pos k0]; exact hC
    · rw [if_neg k0, if_neg k0, if_neg k0]
      have hH' := hH q p q' p' h1 h2
      split
      · exact hS
      split
      · exact hA
      split
      · exact or_congr hE hP
      split
      · exact hP
      split
      · exact or_congr hE hH'
      · exact Iff.rfl
theorem whole_turn (ws : List Nat) (n : Nd) : wholeB ws (turnN n) = wholeB ws.reverse n := by
  rw [Bool.eq_iff_iff, wholeB_iff, wholeB_iff]
  unfold wholeP
  rw [right_turn, bk_turn ws n 0 ws.length ws.length 0 (by omega) (by omega), List.length_reverse]
theorem suff_turn (ws : List Nat) (n : Nd) : suffB ws (turnN n) = prefB ws.reverse n := by
  rw [Bool.eq_iff_iff, suffB_iff, prefB_iff]
  unfold suffP prefP
  rw [right_turn]
  refine and_congr_right fun _ => ?_
  constructor
  · rintro ⟨i, hi, h⟩
    exact ⟨ws.length - i, (bk_turn ws n i ws.length (ws.length - i) 0 (by omega) (by omega)).1 h⟩
  · rintro ⟨i, h⟩
    have hi : i ≤ ws.length := by
      have := (fwdN ws.reverse n 0 i h).2 (Nat.zero_le _)
      rwa [List.length_reverse] at this
    exact ⟨ws.length - i, by omega, (bk_turn ws n (ws.length - i) ws.length i 0 (by omega) (by omega)).2 h⟩
end Go.Proofs.YtidaoamfdbkfiaaDoor
