/-
  What the states tell: to which set of places each row leads. Plain mathematics.
-/
import Derived.Test.YtklhjjgnhigbiaaGreatDoorGF
import Derived.Test.YtklhjjgnhigbiaaGreatDoorSbApp
namespace Go.Proofs.YtklhjjgnhigbiaaGreatDoor
open Go.RowKit
set_option linter.unusedVariables false

theorem meet_idx (S : List (List Nat)) (l : List Nat) : (meetS S l)[S.idxOf l]? = some l := by
  unfold meetS
  split
  · rename_i h
    exact List.getElem?_eq_some_iff.2 ⟨List.idxOf_lt_length_of_mem h, List.getElem_idxOf _⟩
  · rename_i h
    rw [List.idxOf_eq_length h, List.getElem?_append_right (Nat.le_refl _), Nat.sub_self]
    rfl
theorem pre_get {α : Type} {S T : List α} {i : Nat} {x : α} (h : S[i]? = some x) : (S ++ T)[i]? = some x := by
  have := (List.getElem?_eq_some_iff.1 h).1
  rw [List.getElem?_append_left this, h]
section
variable {d : AutD} {free : Bool} {a : List Nat}
theorem fold_pre1 : ∀ (ms : List Nat) (p : List Nat × List (List Nat)), ∃ T, (ms.foldl (stepR d free a) p).1 = p.1 ++ T
  | [], p => ⟨[], by simp⟩
  | m :: ms, p => by
    obtain ⟨T, h⟩ := fold_pre1 ms (stepR d free a p m)
    refine ⟨[p.2.idxOf (nxt d free a m)] ++ T, ?_⟩
    rw [List.foldl_cons, h]
    show (p.1 ++ [_]) ++ T = _
    rw [List.append_assoc]
theorem fold_pre2 : ∀ (ms : List Nat) (p : List Nat × List (List Nat)), ∃ T, (ms.foldl (stepR d free a) p).2 = p.2 ++ T
  | [], p => ⟨[], by simp⟩
  | m :: ms, p => by
    obtain ⟨T, h⟩ := fold_pre2 ms (stepR d free a p m)
    have h2 : ∃ T2, meetS p.2 (nxt d free a m) = p.2 ++ T2 := by
      unfold meetS
      split
      · exact ⟨[], by simp⟩
      · exact ⟨_, rfl⟩
    obtain ⟨T2, h2⟩ := h2
    refine ⟨T2 ++ T, ?_⟩
    rw [List.foldl_cons, h, ← List.append_assoc, ← h2]
    rfl
theorem fold_idx : ∀ (ms : List Nat) (p : List Nat × List (List Nat)) (i : Nat), (h : i < ms.length) → ∃ q, (ms.foldl (stepR d free a) p).1[p.1.length + i]? = some q ∧ (ms.foldl (stepR d free a) p).2[q]? = some (nxt d free a ms[i])
  | m :: ms, p, 0, _ => by
    obtain ⟨T1, h1⟩ := fold_pre1 ms (stepR d free a p m) (d := d) (free := free) (a := a)
    obtain ⟨T2, h2⟩ := fold_pre2 ms (stepR d free a p m) (d := d) (free := free) (a := a)
    refine ⟨p.2.idxOf (nxt d free a m), ?_, ?_⟩
    · rw [List.foldl_cons, h1]
      refine pre_get ?_
      show (p.1 ++ [_])[p.1.length + 0]? = _
      rw [Nat.add_zero, List.getElem?_append_right (Nat.le_refl _), Nat.sub_self]
      rfl
    · rw [List.foldl_cons, h2]
      exact pre_get (meet_idx _ _)
  | m :: ms, p, i + 1, h => by
    obtain ⟨q, h1, h2⟩ := fold_idx ms (stepR d free a p m) i (by simpa using h)
    refine ⟨q, ?_, by simpa using h2⟩
    have e : (stepR d free a p m).1.length + i = p.1.length + (i + 1) := by simp [stepR]; omega
    rw [e] at h1
    exact h1
theorem row_idx (ms : List Nat) (S : List (List Nat)) {i : Nat} (h : i < ms.length) : ∃ q, (rowF d free a ms S).1[i]? = some q ∧ (rowF d free a ms S).2[q]? = some (nxt d free a ms[i]) := by
  have := fold_idx (d := d) (free := free) (a := a) ms ([], S) i h
  simpa [rowF] using this
end
section
variable {d : AutD} {free : Bool} {ms : List Nat}
theorem bfs_pre (j : Nat) : ∀ n, ∃ T, (bfs d free ms (j + n)).S = (bfs d free ms j).S ++ T
  | 0 => ⟨[], by simp⟩
  | n + 1 => by
    obtain ⟨T, h⟩ := bfs_pre j n
    obtain ⟨T2, h2⟩ := fold_pre2 (d := d) (free := free) (a := (bfs d free ms (j + n)).S.getD (j + n) []) ms ([], (bfs d free ms (j + n)).S)
    refine ⟨T ++ T2, ?_⟩
    have h3 : (bfs d free ms (j + n + 1)).S = (rowF d free ((bfs d free ms (j + n)).S.getD (j + n) []) ms (bfs d free ms (j + n)).S).2 := rfl
    show (bfs d free ms (j + n + 1)).S = _
    rw [h3]
    unfold rowF
    rw [h2, ← List.append_assoc, ← h]
theorem bfs_preN (j : Nat) : ∀ n, ∃ T, (bfs d free ms (j + n)).N = (bfs d free ms j).N ++ T
  | 0 => ⟨[], by simp⟩
  | n + 1 => by
    obtain ⟨T, h⟩ := bfs_preN j n
    exact ⟨T ++ [_], by show (bfs d free ms (j + n)).N ++ [_] = _; rw [h, List.append_assoc]⟩
theorem bfs_preF (j : Nat) : ∀ n, ∃ T, (bfs d free ms (j + n)).F = (bfs d free ms j).F ++ T
  | 0 => ⟨[], by simp⟩
  | n + 1 => by
    obtain ⟨T, h⟩ := bfs_preF j n
    exact ⟨T ++ [_], by show (bfs d free ms (j + n)).F ++ [_] = _; rw [h, List.append_assoc]⟩
/-- States whose rows lead where a step leads. -/
structure StOk (d : AutD) (free : Bool) (ms : List Nat) (b : Bst) : Prop where
  lenN : b.N.length = b.S.length
  lenF : b.F.length = b.S.length
  first : b.S[0]? = some [0]
  rowl : ∀ j, (h : j < b.N.length) → b.N[j].length = ms.length
  row : ∀ j, (h : j < b.N.length) → ∀ i, (hi : i < ms.length) → ∃ q, b.N[j][i]? = some q ∧ b.S[q]? = some (nxt d free (b.S.getD j []) ms[i])
  fin : ∀ j, j < b.S.length → b.F[j]? = some ((b.S.getD j []).any (endP d))
theorem stOk {lim k : Nat} (hv : Vb d free ms lim k) (hk : ¬ k < (bfs d free ms k).S.length) : StOk d free ms (bfs d free ms k) := by
  have h0 : (bfs d free ms k).S[0]? = some [0] := by
    obtain ⟨T, h⟩ := bfs_pre (d := d) (free := free) (ms := ms) 0 k
    rw [Nat.zero_add] at h
    rw [h]
    exact pre_get rfl
  have hSk : (bfs d free ms k).S.length = k := by
    cases k with
    | zero =>
      have := (List.getElem?_eq_some_iff.1 h0).1
      omega
    | succ k =>
      have h1 := (hv k (by omega)).1
      obtain ⟨T, h⟩ := bfs_pre (d := d) (free := free) (ms := ms) k 1
      have : (bfs d free ms k).S.length ≤ (bfs d free ms (k + 1)).S.length := by rw [h, List.length_append]; omega
      omega
  have hNF := bfs_NF d free ms k
  have hS : ∀ j, j < k → (bfs d free ms k).S.getD j [] = (bfs d free ms j).S.getD j [] ∧ ∃ T, (bfs d free ms k).S = (bfs d free ms (j + 1)).S ++ T := fun j hj => by
    obtain ⟨n, rfl⟩ := Nat.exists_eq_add_of_le (Nat.le_of_lt hj)
    obtain ⟨T, h⟩ := bfs_pre (d := d) (free := free) (ms := ms) j n
    obtain ⟨m, e⟩ : ∃ m, j + n = (j + 1) + m := ⟨n - 1, by omega⟩
    obtain ⟨T2, h2⟩ := bfs_pre (d := d) (free := free) (ms := ms) (j + 1) m
    refine ⟨?_, T2, by rw [e]; exact h2⟩
    have := (hv j hj).1
    rw [h, List.getD_eq_getElem?_getD, List.getElem?_append_left this, List.getD_eq_getElem?_getD]
  have hN : ∀ j, j < k → (bfs d free ms k).N[j]? = some (rowF d free ((bfs d free ms j).S.getD j []) ms (bfs d free ms j).S).1 := fun j hj => by
    obtain ⟨m, e⟩ : ∃ m, k = (j + 1) + m := ⟨k - j - 1, by omega⟩
    obtain ⟨T, h⟩ := bfs_preN (d := d) (free := free) (ms := ms) (j + 1) m
    rw [e, h]
    refine pre_get ?_
    show ((bfs d free ms j).N ++ [_])[j]? = _
    have := (bfs_NF d free ms j).1
    rw [List.getElem?_append_right (by omega), this, Nat.sub_self]
    rfl
  refine ⟨by rw [hNF.1, hSk], by rw [hNF.2, hSk], h0, fun j h => ?_, fun j h i hi => ?_, fun j h => ?_⟩
  · have hj : j < k := by rw [hNF.1] at h; exact h
    have := hN j hj
    rw [List.getElem?_eq_getElem h] at this
    injection this with this
    rw [this]
    exact (rowF_len d free _ ms _).1
  · have hj : j < k := by rw [hNF.1] at h; exact h
    have h1 := hN j hj
    rw [List.getElem?_eq_getElem h] at h1
    injection h1 with h1
    obtain ⟨q, h2, h3⟩ := row_idx (d := d) (free := free) (a := (bfs d free ms j).S.getD j []) ms (bfs d free ms j).S hi
    obtain ⟨e, T, hT⟩ := hS j hj
    refine ⟨q, by rw [h1]; exact h2, ?_⟩
    rw [e, hT]
    exact pre_get h3
  · have hj : j < k := by omega
    obtain ⟨e, _⟩ := hS j hj
    obtain ⟨m, e2⟩ : ∃ m, k = (j + 1) + m := ⟨k - j - 1, by omega⟩
    obtain ⟨T, hT⟩ := bfs_preF (d := d) (free := free) (ms := ms) (j + 1) m
    rw [e]
    rw [e2, hT]
    refine pre_get ?_
    show ((bfs d free ms j).F ++ [_])[j]? = _
    have := (bfs_NF d free ms j).2
    rw [List.getElem?_append_right (by omega), this, Nat.sub_self]
    rfl
/-- The masks of classes. -/
def wordL (ms : List Nat) (cs : List Int) : List Nat := cs.map fun c => ms.getD c.toNat 0
variable {b : Bst}
theorem StOk.step (h : StOk d free ms b) {q : Nat} {L : List Nat} (hq : b.S[q]? = some L) {c : Int} (hc : inB ms.length c = true) : ∃ q' : Nat, stepD (intsL b.N) (q : Int) c = (q' : Int) ∧ b.S[q']? = some (nxt d free L (ms.getD c.toNat 0)) := by
  obtain ⟨c0, c1⟩ := inB_iff.1 hc
  have hqs := (List.getElem?_eq_some_iff.1 hq).1
  have hqN : q < b.N.length := by rw [h.lenN]; exact hqs
  have hci : c.toNat < ms.length := by omega
  obtain ⟨q', h1, h2⟩ := h.row q hqN c.toNat hci
  have e : b.S.getD q [] = L := by rw [List.getD_eq_getElem?_getD, hq]; rfl
  rw [e] at h2
  refine ⟨q', ?_, ?_⟩
  · have e2 : (intsL b.N).getD q [] = upI b.N[q] := by
      unfold intsL
      rw [List.getD_eq_getElem?_getD, List.getElem?_map, List.getElem?_eq_getElem hqN]
      rfl
    unfold stepD
    rw [Int.toNat_natCast, e2]
    unfold upI
    rw [List.getD_eq_getElem?_getD, List.getElem?_map, h1]
    rfl
  · rw [h2, List.getD_eq_getElem?_getD, List.getElem?_eq_getElem hci]
    rfl
theorem StOk.run (h : StOk d free ms b) : ∀ (cs : List Int) (q : Nat) (L : List Nat), b.S[q]? = some L → cs.all (inB ms.length) = true → ∃ q' : Nat, runD (intsL b.N) (q : Int) cs = (q' : Int) ∧ b.S[q']? = some ((wordL ms cs).foldl (nxt d free) L)
  | [], q, L, hq, _ => ⟨q, rfl, hq⟩
  | c :: cs, q, L, hq, hc => by
    rw [List.all_cons, Bool.and_eq_true] at hc
    obtain ⟨q1, h1, h2⟩ := h.step hq hc.1
    obtain ⟨q2, h3, h4⟩ := StOk.run h cs q1 _ h2 hc.2
    refine ⟨q2, ?_, h4⟩
    show runD (intsL b.N) (stepD (intsL b.N) (q : Int) c) cs = _
    rw [h1]
    exact h3
theorem StOk.ne (h : StOk d free ms b) : 0 < b.S.length := (List.getElem?_eq_some_iff.1 h.first).1
theorem StOk.cls (h : StOk d free ms b) : ((intsL b.N).getD 0 []).length = ms.length := by
  have h0 : 0 < b.N.length := by rw [h.lenN]; exact h.ne
  unfold intsL
  rw [List.getD_eq_getElem?_getD, List.getElem?_map, List.getElem?_eq_getElem h0]
  simp [upI, h.rowl 0 h0]
theorem StOk.right (h : StOk d free ms b) (h1 : 1 ≤ ms.length) (h2 : ms.length ≤ 200) (h5 : b.S.length ≤ 5000) : rightD (intsL b.N) b.F = true := by
  have hl : (intsL b.N).length = b.S.length := by simp [intsL, h.lenN]
  refine rightD_iff.2 ⟨by rw [hl]; exact h.ne, by rw [hl]; exact h5, by rw [hl, h.lenF], by rw [h.cls]; exact h1, by rw [h.cls]; exact h2, fun i hi => ?_⟩
  have hi2 : i < b.N.length := by rw [h.lenN]; omega
  rw [h.cls, hl]
  have e : (intsL b.N)[i] = upI b.N[i] := by simp [intsL]
  rw [e]
  refine ⟨by simp [upI, h.rowl i hi2], List.all_eq_true.2 (fun x hx => ?_)⟩
  obtain ⟨y, hy, rfl⟩ := List.mem_map.1 hx
  obtain ⟨k, hk, rfl⟩ := List.mem_iff_getElem.1 hy
  obtain ⟨q, h3, h4⟩ := h.row i hi2 k (by rw [← h.rowl i hi2]; exact hk)
  rw [List.getElem?_eq_getElem hk] at h3
  injection h3 with h3
  rw [h3]
  have := (List.getElem?_eq_some_iff.1 h4).1
  exact inB_iff.2 ⟨by omega, by omega⟩
end
/-- The answer of Build, where there is one. -/
theorem ans_ok12 {d : AutD} {free : Bool} {ms : List Nat} {L : Nat} {b : Bst} (h : ansB d free ms L = some b) (hL : 1 ≤ L) : StOk d free ms b ∧ b.S.length ≤ L := by
  obtain ⟨k, hv, hk, rfl⟩ := ans_some h
  exact ⟨stOk hv hk, hv.len hL⟩
/-- .. and what a run through classes tells. -/
theorem ans_run {d : AutD} {free : Bool} {ms : List Nat} {L : Nat} {b : Bst} (h : ansB d free ms L = some b) (hL : 1 ≤ L) (hL5 : L ≤ 5000) (h1 : 1 ≤ ms.length) (h2 : ms.length ≤ 200) (cs : List Int) (hc : cs.all (inB ms.length) = true) :
    ∃ q : Nat, runV (intsL b.N) b.F 0 cs = (q : Int) ∧ runE (intsL b.N) b.F 0 cs = 0 ∧ ∃ hq : q < b.F.length, b.F[q] = ((wordL ms cs).foldl (nxt d free) [0]).any (endP d) := by
  obtain ⟨ho, hl⟩ := ans_ok12 h hL
  have hr := ho.right h1 h2 (by omega)
  have hl0 : (intsL b.N).length = b.S.length := by simp [intsL, ho.lenN]
  have hok : runOk (intsL b.N) b.F 0 cs = true := by
    unfold runOk
    rw [hr, ho.cls, hc, hl0]
    have := ho.ne
    simp [inB]; omega
  obtain ⟨q, h3, h4⟩ := ho.run cs 0 [0] ho.first hc
  have hq := (List.getElem?_eq_some_iff.1 h4).1
  refine ⟨q, ?_, ?_, by rw [ho.lenF]; exact hq, ?_⟩
  · unfold runV
    rw [if_pos hok]
    exact h3
  · unfold runE
    rw [if_pos hok]
  · have := ho.fin q hq
    rw [List.getElem?_eq_getElem (by rw [ho.lenF]; exact hq)] at this
    injection this with this
    rw [this, List.getD_eq_getElem?_getD, h4]
    rfl
end Go.Proofs.YtklhjjgnhigbiaaGreatDoor
