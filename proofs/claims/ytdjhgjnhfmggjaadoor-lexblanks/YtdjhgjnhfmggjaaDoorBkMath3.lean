/-
  What scansionlaw07.LexBlanks makes: the text, its length, its tokens.
-/
import Derived.Test.YtdjhgjnhfmggjaaDoorSame7
import Derived.Test.YtdjhgjnhfmggjaaDoorSrc7
import Derived.Test.YtdjhgjnhfmggjaaDoorBkMath2
import Derived.Test.YtdjhgjnhfmggjaaDoorPlMath
import Derived.BigQuiet
import Derived.Lib.AppendStr
import Derived.Deep.AppendLies
namespace Go.Proofs.YtdjhgjnhfmggjaaDoor
open Go.RowKit Go.Shelf S1
set_option linter.unusedVariables false

/-- Slices of bytes in a slice. -/
def BytesIn (w : World) (v : Value) (ls : List (List Int)) : Prop :=
  ∃ a cap, v = .slice a ls.length cap ∧ ls.length ≤ cap ∧ ∀ i, (h : i < ls.length) → ∃ g off, a = some ⟨g, off, none⟩ ∧ g < w.heap.size ∧ ∃ ai ci, w.cell? ⟨g, off + i, none⟩ = some (.slice ai ls[i].length ci) ∧ BytesAt w.heap.size w (.slice ai ls[i].length ci) ls[i]

theorem and_three (x : Int) (h0 : 0 ≤ x) (h1 : x ≤ 255) : bits BinOp.and IntKind.u8 x 3 = x % 4 := by
  have h : ∀ n : Fin 256, bits BinOp.and IntKind.u8 (n.val : Int) 3 = (n.val : Int) % 4 := by decide +kernel
  have := h ⟨x.toNat, by omega⟩
  simp only at this
  rwa [show ((x.toNat : Nat) : Int) = x by omega] at this
/-- One of the four blanks. -/
def pkB (x : Int) : Int := if x % 4 = 0 then 32 else if x % 4 = 1 then 9 else if x % 4 = 2 then 10 else 13
/-- What is put ahead of the i-th token; the i-th piece of the text; the first k of them. -/
def insB (ls : List (List Int)) (i : Nat) : List Int := (if h : i < ls.length then ls[i].map pkB ++ [35, 91, 32, 97, 10] else []) ++ [32]
def pieceB (b : List Int) (ls : List (List Int)) (P : List Nat) (i : Nat) : List Int := insB ls i ++ (if h : i + 1 < P.length then (b.take P[i + 1]).drop P[i] ++ [10] else [])
def accB (b : List Int) (ls : List (List Int)) (P : List Nat) (k : Nat) : List Int := (List.range k).flatMap (pieceB b ls P)
theorem insB_ok (ls : List (List Int)) (i : Nat) : InsOK (insB ls i) := by
  refine InsOK.app ?_ (InsOK.one rfl)
  split
  · refine InsOK.app (InsOK.all fun c hc => ?_) InsOK.note
    obtain ⟨x, _, rfl⟩ := List.mem_map.1 hc
    unfold pkB
    split
    · rfl
    · split
      · rfl
      · split <;> rfl
  · exact InsOK.nil
theorem accB_succ (b : List Int) (ls : List (List Int)) (P : List Nat) (k : Nat) : accB b ls P (k + 1) = accB b ls P k ++ pieceB b ls P k := by
  unfold accB
  rw [List.range_succ, List.flatMap_append]
  simp
theorem pieceB_le (b : List Int) (ls : List (List Int)) (P : List Nat) (i : Nat) (h : ∀ (h : i < ls.length), ls[i].length ≤ 50) : (pieceB b ls P i).length ≤ 57 + b.length := by
  unfold pieceB insB
  split
  · rename_i h1
    have := h h1
    split
    · simp; omega
    · simp; omega
  · split
    · simp; omega
    · simp; omega
theorem accB_le (b : List Int) (ls : List (List Int)) (P : List Nat) : ∀ (k : Nat), (∀ j, (h : j < ls.length) → j < k → ls[j].length ≤ 50) → (accB b ls P k).length ≤ (57 + b.length) * k
  | 0, _ => by simp [accB]
  | k + 1, h => by
    have i1 := accB_le b ls P k (fun j h1 h2 => h j h1 (by omega))
    have i2 := pieceB_le b ls P k (fun h1 => h k h1 (by omega))
    rw [accB_succ, List.length_append, Nat.mul_succ]
    omega
theorem take_pk {lk : List Int} {j : Nat} (h : j < lk.length) : (lk.take (j + 1)).map pkB = (lk.take j).map pkB ++ [pkB lk[j]] := by
  rw [List.take_succ_eq_append_getElem h, List.map_append]
  rfl
theorem bkT_acc (b : List Int) (ls : List (List Int)) (P : List Nat) : ∀ (n i : Nat), n + i = P.length → 0 < n → accB b ls P P.length = accB b ls P i ++ bkT b (insB ls) i (P.drop i)
  | 0, i, h, h0 => by omega
  | 1, i, h, h0 => by
    have hi : i < P.length := by omega
    rw [show P.length = i + 1 by omega, accB_succ, List.drop_eq_getElem_cons hi, List.drop_eq_nil_of_le (by omega)]
    unfold pieceB
    rw [dif_neg (by omega)]
    simp [bkT]
  | n + 2, i, h, h0 => by
    have hi : i < P.length := by omega
    have hi1 : i + 1 < P.length := by omega
    rw [bkT_acc b ls P (n + 1) (i + 1) (by omega) (by omega), accB_succ, List.drop_eq_getElem_cons hi, List.drop_eq_getElem_cons hi1]
    unfold pieceB
    rw [dif_pos hi1]
    simp [bkT]

theorem insB_le (ls : List (List Int)) (i : Nat) (h : ∀ (h : i < ls.length), ls[i].length ≤ 50) : (insB ls i).length ≤ 56 := by
  unfold insB
  split
  · rename_i h1
    have := h h1
    simp; omega
  · simp
theorem placed_next {zs : List Int} : ∀ {L : List Tok} {a : Nat}, Placed zs a L → ∀ k, (h : k + 1 < L.length) → L[k].p < L[k + 1].p ∧ L[k + 1].p ≤ zs.length
  | [], a, h, k, hk => by cases hk
  | [x], a, h, k, hk => by simp at hk
  | x :: y :: L, a, h, 0, hk => by
    obtain ⟨_, _, _, _, h5⟩ := h
    rcases h5 with ⟨_, q, _⟩ | ⟨_, _, q⟩
    · cases q
    · obtain ⟨q1, q2, _⟩ := q
      have : 1 ≤ max x.t.length 1 := Nat.le_max_right _ _
      exact ⟨by show x.p < y.p; omega, by show y.p ≤ _; omega⟩
  | x :: y :: L, a, h, k + 1, hk => by
    obtain ⟨_, _, _, _, h5⟩ := h
    rcases h5 with ⟨_, q, _⟩ | ⟨_, _, q⟩
    · cases q
    · exact placed_next q k (by simpa using hk)
theorem tok_places {w : World} {xa : Option Addr} {xc N : Nat} {l : List (Tok × Value)} {P : List Nat} (h : ToksIn w (.slice xa N xc) l) (hP : P = l.map (fun x => x.1.p)) (hN : l.length = N) {k : Nat} (hk : k + 1 < N) (h0 : k < P.length) (h1 : k + 1 < P.length) :
    ∃ g off, xa = some ⟨g, off, none⟩ ∧ g < w.heap.size ∧ w.cell? ⟨g, off + k * 4 + 1, none⟩ = some (.int .i64 ((P[k] : Nat) : Int)) ∧ w.cell? ⟨g, off + (k + 1) * 4 + 1, none⟩ = some (.int .i64 ((P[k + 1] : Nat) : Int)) := by
  subst hP
  subst hN
  obtain ⟨a, c, e, _, hc⟩ := h
  simp at e
  obtain ⟨rfl, rfl⟩ := e
  obtain ⟨g, off, rfl, hg, _, c1, _, _⟩ := hc k (by omega)
  obtain ⟨g', off', e', _, _, d1, _, _⟩ := hc (k + 1) hk
  simp at e'
  obtain ⟨rfl, rfl⟩ := e'
  exact ⟨g, off, rfl, hg, by simpa using c1, by simpa using d1⟩
theorem news_slice {w : World} {zs : List Int} {gz oz p q : Nat} (hc : ∀ j, j < zs.length → w.cell? ⟨gz, oz + j, none⟩ = some (.int .u8 (zs[j]?.getD 0))) (hq : q ≤ zs.length) : ∀ j u, (((zs.take q).drop p).map (Value.int .u8))[j]? = some u → w.drew.cell? ((⟨gz, oz + p, none⟩ : Addr).add j) = some u := by
  intro j u hj
  have hlt : j < ((zs.take q).drop p).length := by
    rcases Nat.lt_or_ge j ((zs.take q).drop p).length with z | z
    · exact z
    · rw [List.getElem?_eq_none (by simpa using z)] at hj; cases hj
  have hlt' : p + j < zs.length := by simp at hlt; omega
  rw [addr_add, show oz + p + j = oz + (p + j) by omega]
  show w.cell? _ = _
  rw [hc (p + j) hlt']
  rw [List.getElem?_map, List.getElem?_eq_getElem hlt] at hj
  simp only [List.getElem_drop, List.getElem_take, Option.map_some, Option.some.injEq] at hj
  rw [← hj, List.getElem?_eq_getElem hlt']
  rfl

theorem placed_le' {zs : List Int} : ∀ {L : List Tok} {a : Nat}, Placed zs a L → ∀ k, (hk : k < L.length) → L[k].p ≤ zs.length
  | [], _, h, k, hk => by cases hk
  | x :: L, a, h, 0, hk => by
    obtain ⟨_, h2, _⟩ := h
    show x.p ≤ _
    omega
  | x :: L, a, h, k + 1, hk => by
    obtain ⟨_, _, _, _, h5⟩ := h
    rcases h5 with ⟨_, q, _⟩ | ⟨_, _, q⟩
    · rw [q] at hk; simp at hk
    · exact placed_le' q k (by simpa using hk)
theorem placed_far {zs : List Int} {L : List Tok} {a : Nat} (h : Placed zs a L) : ∀ k, (hk : k < L.length) → k ≤ L[k].p
  | 0, hk => Nat.zero_le _
  | k + 1, hk => by
    have i1 := placed_far h k (by omega)
    have i2 := (placed_next h k hk).1
    omega
/-- THE TEXT THAT IS MADE HAS THE SAME TOKENS, one behind the other. -/
theorem blanks_math {zs : List Int} {us : List U} (ls : List (List Int)) {L : List Tok} (hus : Run zs 0 us zs.length) (h0 : toksL zs.length us = TR.good L) :
    ∃ ws M, Run (accB zs ls (L.map Tok.p) (L.map Tok.p).length) 0 ws (accB zs ls (L.map Tok.p) (L.map Tok.p).length).length ∧ toksL (accB zs ls (L.map Tok.p) (L.map Tok.p).length).length ws = TR.good M ∧ M.map keyT = L.map keyT ∧ M.Pairwise (fun x y => x.p < y.p) := by
  obtain ⟨pre, ps, e1, h1, e2, h2⟩ := toks_parts h0
  have hg : ∀ u ∈ us, u.bad = false := toksF_good h0
  rw [e1] at hus hg
  obtain ⟨p, r1, r2⟩ := run_split hus
  have hp : p ≤ zs.length := (Run.le r1 (Nat.zero_le _)).2
  obtain ⟨_, ws, M, k1, k2, k3, k4⟩ := bk_all zs (insB ls) (insB_ok ls) ps 0 p hp r2 h2 (fun x hx u hu => hg u (List.mem_append_right _ (List.mem_flatten.2 ⟨x.2, List.mem_map.2 ⟨x, hx, rfl⟩, hu⟩)))
  have eP : L.map Tok.p = ps.map (fun x => x.1.p) ++ [zs.length] := by
    rw [e2, List.map_append, List.map_map]
    rfl
  have eA : accB zs ls (L.map Tok.p) (L.map Tok.p).length = bkT zs (insB ls) 0 (ps.map (fun x => x.1.p) ++ [zs.length]) := by
    rw [eP, bkT_acc zs ls _ _ 0 rfl (by simp)]
    simp [accB]
  rw [eA]
  refine ⟨ws, M, k1, k2, ?_, k4⟩
  rw [k3, e2, List.map_append, List.map_map]
  rfl
/-- How long the text is. -/
theorem accB_fine {zs : List Int} (ls : List (List Int)) {L : List Tok} (hpl : Placed zs 0 L) : ∀ k, k ≤ L.length → (∀ j, (h : j < ls.length) → j < k → ls[j].length ≤ 50) → (accB zs ls (L.map Tok.p) k).length ≤ 55 * min k ls.length + 2 * k + ((L.map Tok.p)[k]?).getD zs.length
  | 0, _, _ => by simp [accB]
  | k + 1, hk, h => by
    have i1 := accB_fine ls hpl k (by omega) (fun j h1 h2 => h j h1 (by omega))
    rw [accB_succ, List.length_append]
    have hkl : k < L.length := by omega
    have e0 : ((L.map Tok.p)[k]?).getD zs.length = L[k].p := by simp [hkl]
    rw [e0] at i1
    have hin : (insB ls k).length ≤ 55 * (min (k + 1) ls.length - min k ls.length) + 1 := by
      unfold insB
      split
      · rename_i q
        have := h k q (by omega)
        have e : min (k + 1) ls.length - min k ls.length = 1 := by omega
        rw [e]
        simp
        omega
      · simp
    have hm : min k ls.length ≤ min (k + 1) ls.length := by omega
    unfold pieceB
    split
    · rename_i q
      have q' : k + 1 < L.length := by simpa using q
      obtain ⟨n1, n2⟩ := placed_next hpl k q'
      have e1 : ((L.map Tok.p)[k + 1]?).getD zs.length = L[k + 1].p := by simp [q']
      rw [e1]
      simp only [List.length_append, List.length_drop, List.length_take, List.getElem_map, List.length_cons, List.length_nil]
      omega
    · rename_i q
      have q' : L.length ≤ k + 1 := by simpa using q
      have e1 : ((L.map Tok.p)[k + 1]?).getD zs.length = zs.length := by simp [q']
      have : L[k].p ≤ zs.length := placed_le' hpl k hkl
      rw [e1]
      simp only [List.append_nil]
      omega
theorem accB_byt {zs : List Int} (hby : Byt zs) (ls : List (List Int)) (P : List Nat) (k : Nat) : Byt (accB zs ls P k) := by
  intro c hc
  obtain ⟨i, _, hi⟩ := List.mem_flatMap.1 hc
  rcases List.mem_append.1 hi with h | h
  · have := (insB_ok ls i).1 c h
    omega
  · split at h
    · rcases List.mem_append.1 h with h | h
      · exact hby c (List.mem_of_mem_take (List.mem_of_mem_drop h))
      · obtain rfl : c = 10 := by simpa using h
        omega
    · cases h
theorem tok_cells {w : World} {ya : Option Addr} {yc k : Nat} {n : List (Tok × Value)} (h : ToksIn w (.slice ya k yc) n) (hn : n.length = k) {j : Nat} (hj : j < n.length) :
    ∃ g off, ya = some ⟨g, off, none⟩ ∧ g < w.heap.size ∧ w.cell? ⟨g, off + j * 4, none⟩ = some (.int .i64 n[j].1.k) ∧ w.cell? ⟨g, off + j * 4 + 1, none⟩ = some (.int .i64 (n[j].1.p : Int)) ∧ w.cell? ⟨g, off + j * 4 + 2, none⟩ = some (.string (strOfNums n[j].1.t)) ∧ w.cell? ⟨g, off + j * 4 + 3, none⟩ = some n[j].2 := by
  subst hn
  obtain ⟨a, c, e, _, hc⟩ := h
  simp at e
  obtain ⟨rfl, rfl⟩ := e
  exact hc j hj
theorem key_at {n l : List (Tok × Value)} (h : (n.map Prod.fst).map keyT = (l.map Prod.fst).map keyT) (j : Nat) (h1 : j < n.length) (h2 : j < l.length) : n[j].1.k = l[j].1.k ∧ n[j].1.t = l[j].1.t ∧ n[j].1.s = l[j].1.s := by
  have := congrArg (·[j]?) h
  simp [h1, h2, keyT] at this
  exact this
end Go.Proofs.YtdjhgjnhfmggjaaDoor
