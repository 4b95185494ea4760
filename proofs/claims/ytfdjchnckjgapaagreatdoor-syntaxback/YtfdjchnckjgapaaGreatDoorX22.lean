/-
  NodP NodW
-/
import Derived.Test.YtfdjchnckjgapaaGreatDoorX21
namespace Go.Proofs.YtfdjchnckjgapaaGreatDoor
open Go.RowKit Go.Shelf S1
set_option linter.unusedVariables false
def KidS (Q : Nat → Prop) (w : World) : Nat → Value → List Nd → Prop
  | 0, z, l => l = [] ∧ ∃ a cap, z = .slice a 0 cap
  | f + 1, z, l => ∃ a cap, z = .slice a l.length cap ∧ l.length ≤ cap ∧ ∀ i, (h : i < l.length) → ∃ g off z', a = some ⟨g, off, none⟩ ∧ Q g ∧ w.cell? ⟨g, off + i * 3, none⟩ = some (.int .i64 l[i].k) ∧ w.cell? ⟨g, off + i * 3 + 1, none⟩ = some (.int .i64 l[i].s) ∧ w.cell? ⟨g, off + i * 3 + 2, none⟩ = some z' ∧ KidS Q w f z' l[i].kids
theorem KidS.up {Q : Nat → Prop} {w : World} : ∀ {f : Nat} {z : Value} {l : List Nd}, KidS Q w f z l → KidS Q w (f + 1) z l
  | 0, z, l, ⟨h, a, cap, e⟩ => by
    subst h
    exact ⟨a, cap, e, Nat.zero_le _, fun i h => (by cases h)⟩
  | f + 1, z, l, ⟨a, cap, e, hc, hi⟩ => ⟨a, cap, e, hc, fun i h => by
    obtain ⟨g, off, z', h1, h2, h3, h4, h5, h6⟩ := hi i h
    exact ⟨g, off, z', h1, h2, h3, h4, h5, h6.up⟩⟩
theorem KidS.le {Q : Nat → Prop} {w : World} {z : Value} {l : List Nd} {f : Nat} (h : KidS Q w f z l) : ∀ k, KidS Q w (f + k) z l
  | 0 => h
  | k + 1 => (KidS.le h k).up
theorem KidS.to {Q Q' : Nat → Prop} {w w' : World} (hq : ∀ k, Q k → w'.heap[k]? = w.heap[k]? ∧ Q' k) : ∀ {f : Nat} {z : Value} {l : List Nd}, KidS Q w f z l → KidS Q' w' f z l
  | 0, z, l, h => h
  | f + 1, z, l, ⟨a, cap, e, hc, hi⟩ => ⟨a, cap, e, hc, fun i h => by
    obtain ⟨g, off, z', h1, h2, h3, h4, h5, h6⟩ := hi i h
    obtain ⟨hb, hg⟩ := hq g h2
    exact ⟨g, off, z', h1, hg, (World.cell?_of_block (a := ⟨g, _, none⟩) hb).trans h3, (World.cell?_of_block (a := ⟨g, _, none⟩) hb).trans h4, (World.cell?_of_block (a := ⟨g, _, none⟩) hb).trans h5, h6.to hq⟩⟩
def KdX (Q : Nat → Prop) (w : World) (z : Value) (l : List Nd) : Prop := ∃ f, KidS Q w f z l
theorem KdX.to {Q Q' : Nat → Prop} {w w' : World} {z : Value} {l : List Nd} (h : KdX Q w z l) (hq : ∀ k, Q k → w'.heap[k]? = w.heap[k]? ∧ Q' k) : KdX Q' w' z l := by
  obtain ⟨f, h⟩ := h; exact ⟨f, h.to hq⟩
theorem KdX.nil (Q : Nat → Prop) (w : World) : KdX Q w (.slice none 0 0) [] := ⟨0, rfl, _, _, rfl⟩
theorem KdX.slice {Q : Nat → Prop} {w : World} {z : Value} {l : List Nd} (h : KdX Q w z l) : ∃ a cap, z = .slice a l.length cap ∧ (l.length ≤ cap ∨ l = []) := by
  obtain ⟨f, h⟩ := h
  cases f with
  | zero => obtain ⟨rfl, a, cap, e⟩ := h; exact ⟨a, cap, e, .inr rfl⟩
  | succ f => obtain ⟨a, cap, e, hc, _⟩ := h; exact ⟨a, cap, e, .inl hc⟩
theorem KdX.at {Q : Nat → Prop} {w : World} {z : Value} {l : List Nd} (h : KdX Q w z l) (i : Nat) (hi : i < l.length) : ∃ g off cap z', z = .slice (some ⟨g, off, none⟩) l.length cap ∧ l.length ≤ cap ∧ Q g ∧ w.cell? ⟨g, off + i * 3, none⟩ = some (.int .i64 l[i].k) ∧ w.cell? ⟨g, off + i * 3 + 1, none⟩ = some (.int .i64 l[i].s) ∧ w.cell? ⟨g, off + i * 3 + 2, none⟩ = some z' ∧ KdX Q w z' l[i].kids := by
  obtain ⟨f, h⟩ := h
  cases f with
  | zero => obtain ⟨rfl, _⟩ := h; cases hi
  | succ f =>
    obtain ⟨a, cap, rfl, hc, hx⟩ := h
    obtain ⟨g, off, z', rfl, h2, h3, h4, h5, h6⟩ := hx i hi
    exact ⟨g, off, cap, z', rfl, hc, h2, h3, h4, h5, f, h6⟩
def ndV (n : Nd) (z : Value) : Value := .agg #[.int .i64 n.k, .int .i64 n.s, z]
def cellsN (x : Nd × Value) : List Value := [.int .i64 x.1.k, .int .i64 x.1.s, x.2]
def cellsNs (l : List (Nd × Value)) : List Value := l.flatMap cellsN
theorem cellsNs_snoc (l : List (Nd × Value)) (x : Nd × Value) : cellsNs (l ++ [x]) = cellsNs l ++ cellsN x := by simp [cellsNs]
theorem cellsNs_length : ∀ (l : List (Nd × Value)), (cellsNs l).length = l.length * 3
  | [] => rfl
  | x :: l => by
    have e : cellsNs (x :: l) = cellsN x ++ cellsNs l := rfl
    rw [e, List.length_append, cellsNs_length l]
    simp [cellsN]; omega
theorem cellsNs_at : ∀ (l : List (Nd × Value)) (i j : Nat) (h : i < l.length), j < 3 → (cellsNs l)[i * 3 + j]? = (cellsN l[i])[j]?
  | u :: us, 0, j, h, hj => by
    have e : cellsNs (u :: us) = cellsN u ++ cellsNs us := rfl
    rw [e, Nat.zero_mul, Nat.zero_add, List.getElem?_append_left (by simpa [cellsN] using hj)]
    rfl
  | u :: us, i + 1, j, h, hj => by
    have e : cellsNs (u :: us) = cellsN u ++ cellsNs us := rfl
    rw [e, List.getElem?_append_right (by simp [cellsN]; omega)]
    have e2 : (i + 1) * 3 + j - (cellsN u).length = i * 3 + j := by simp [cellsN]; omega
    rw [e2, cellsNs_at us i j (by simpa using h) hj]
    rfl
def KidsX (Q : Nat → Prop) (w : World) (l : List (Nd × Value)) : Prop := ∀ x ∈ l, KdX Q w x.2 x.1.kids
theorem KidsX.to {Q Q' : Nat → Prop} {w w' : World} {l : List (Nd × Value)} (h : KidsX Q w l) (hq : ∀ k, Q k → w'.heap[k]? = w.heap[k]? ∧ Q' k) : KidsX Q' w' l := fun x hx => (h x hx).to hq
theorem kids_fuel {Q : Nat → Prop} {w : World} : ∀ {l : List (Nd × Value)}, KidsX Q w l → ∃ f, ∀ x ∈ l, KidS Q w f x.2 x.1.kids
  | [], _ => ⟨0, fun x h => (by cases h)⟩
  | y :: l, h => by
    obtain ⟨f, hf⟩ := kids_fuel (l := l) (fun x hx => h x (by simp [hx]))
    obtain ⟨g, hg⟩ := h y (by simp)
    refine ⟨f + g, fun x hx => ?_⟩
    rcases List.mem_cons.1 hx with rfl | hx
    · rw [Nat.add_comm]; exact hg.le f
    · exact (hf x hx).le g
theorem kids_of_row {Q : Nat → Prop} {w : World} {base : Nat} {v : Value} {l : List (Nd × Value)} (h : w.ownsRow base 39 3 v l.length (cellsNs l)) (hk : KidsX Q w l) (hq : ∀ g, v.ownBlock = some g → Q g) : KdX Q w v (l.map Prod.fst) := by
  obtain ⟨f, hf⟩ := kids_fuel hk
  rcases h.2 with ⟨rfl, h0⟩ | ⟨g, cap, cur, rfl, hb, hg, hc, hm, hs, ht⟩
  · obtain rfl : l = [] := List.length_eq_zero_iff.1 h0
    exact KdX.nil _ _
  · have key : ∀ i j x, i < l.length → (cellsNs l)[i * 3 + j]? = some x → w.cell? ⟨g, 0 + i * 3 + j, none⟩ = some x := fun i j x hi hx => by
      have := h.cells (g := g) rfl (i * 3 + j) x hx
      rw [add_lit'] at this
      rw [Nat.add_assoc]
      exact this
    refine ⟨f + 1, some ⟨g, 0, none⟩, cap, by simp, by simpa using hc, fun i hi => ?_⟩
    have hi' : i < l.length := by simpa using hi
    have el : (l.map Prod.fst)[i] = l[i].1 := by simp
    rw [el]
    exact ⟨g, 0, l[i].2, rfl, hq g rfl, key i 0 _ hi' (by rw [cellsNs_at l i 0 hi' (by omega)]; rfl), key i 1 _ hi' (by rw [cellsNs_at l i 1 hi' (by omega)]; rfl), key i 2 _ hi' (by rw [cellsNs_at l i 2 hi' (by omega)]; rfl), hf _ (List.getElem_mem hi')⟩
theorem KdX.fr {P : Nat} {w w' : World} {X : Nat → Prop} {lo : Nat} {z : Value} {l : List Nd} (h : KdX (fun k => lo ≤ k ∧ Im X w P k) w z l) (hf : Fr w.heap.size P w w') : KdX (fun k => lo ≤ k ∧ Im X w' P k) w' z l := h.to (fun k hk => by
  obtain ⟨e1, e2⟩ := hf.all k hk.2
  exact ⟨e1, hk.1, e2⟩)
def Chain : Nat → Nd → Prop
  | 0, n => signK n.k = false
  | c + 1, n => signK n.k = true ∧ ∃ x, n.kids = [x] ∧ Chain c x
theorem Chain.cnt : ∀ {c : Nat} {n : Nd} (f : Nat), Chain c n → c < f → cntN f n = c
  | 0, n, 0, h, hf => by omega
  | 0, n, f + 1, h, hf => by unfold cntN; rw [if_neg (by simp [show signK n.k = false from h])]
  | c + 1, n, 0, h, hf => by omega
  | c + 1, n, f + 1, h, hf => by
    obtain ⟨h1, x, h2, h3⟩ := h
    unfold cntN
    rw [if_pos h1, h2]
    show cntN f x + 1 = c + 1
    rw [h3.cnt f (by omega)]
def SgOk (n : Nd) : Prop := ∃ c, c ≤ 3 ∧ Chain c n
theorem joinN_ok {k : Int} (hk : signK k = false) : ∀ {l : List Nd}, (∀ x ∈ l, SgOk x) → SgOk (joinN k l)
  | [], _ => ⟨0, by omega, hk⟩
  | [x], h => h x (by simp)
  | x :: y :: l, _ => ⟨0, by omega, hk⟩
theorem kindT_sign {t : Tok} (h : kindT t ≠ 0) : signK (kindT t) = true := by
  unfold kindT at h ⊢
  split
  · rfl
  · split
    · rfl
    · split
      · rfl
      · rename_i h1 h2 h3; simp [h1, h2, h3] at h
theorem signF_ok : ∀ (f c : Nat) (n : Nd) (ts : List Tok) (st : Sts) {m : Nd} {r : List Tok} {st' : Sts}, Chain c n → c ≤ 3 → signF f c n ts st = .inr (m, r, st') → SgOk m
  | 0, c, n, ts, st, m, r, st', hc, h3, h => by cases h; exact ⟨c, h3, hc⟩
  | f + 1, c, n, ts, st, m, r, st', hc, h3, h => by
    unfold signF at h
    split at h
    · cases h; exact ⟨c, h3, hc⟩
    · rename_i hk
      split at h
      · cases h
      · exact signF_ok f (c + 1) _ _ _ ⟨kindT_sign hk, n, rfl, hc⟩ (by omega) h
theorem signedM_ok {p : List Tok → Sts → NR Nd} (hp : ∀ ts st n r st', p ts st = .inr (n, r, st') → SgOk n) {ts : List Tok} {st : Sts} {n : Nd} {r : List Tok} {st' : Sts} (h : signedM p ts st = .inr (n, r, st')) : SgOk n := by
  unfold signedM at h
  split at h
  · cases h
  · rename_i m r1 st1 he
    obtain ⟨c, h3, hc⟩ := hp _ _ _ _ _ he
    rw [hc.cnt 4 (by omega)] at h
    exact signF_ok 4 c m r1 st1 hc h3 h
theorem catF_ok {p : List Tok → Sts → NR Nd} (hp : ∀ ts st n r st', p ts st = .inr (n, r, st') → SgOk n) : ∀ (f : Nat) (acc : List Nd) (ts : List Tok) (st : Sts) {l : List Nd} {r : List Tok} {st' : Sts}, (∀ x ∈ acc, SgOk x) → catF p f acc ts st = .inr (l, r, st') → ∀ x ∈ l, SgOk x
  | 0, acc, ts, st, l, r, st', ha, h => by cases h; exact ha
  | f + 1, acc, ts, st, l, r, st', ha, h => by
    unfold catF at h
    split at h
    · split at h
      · cases h
      · rename_i n r1 st1 he
        exact catF_ok hp f _ _ _ (fun x hx => by
          rcases List.mem_append.1 hx with q | q
          · exact ha x q
          · obtain rfl : x = n := by simpa using q
            exact hp _ _ _ _ _ he) h
    · cases h; exact ha
theorem altF_ok {p : List Tok → Sts → NR Nd} (hp : ∀ ts st n r st', p ts st = .inr (n, r, st') → SgOk n) : ∀ (f : Nat) (acc : List Nd) (ts : List Tok) (st : Sts) {l : List Nd} {r : List Tok} {st' : Sts}, (∀ x ∈ acc, SgOk x) → altF p f acc ts st = .inr (l, r, st') → ∀ x ∈ l, SgOk x
  | 0, acc, ts, st, l, r, st', ha, h => by cases h; exact ha
  | f + 1, acc, ts, st, l, r, st', ha, h => by
    unfold altF at h
    split at h
    · split at h
      · cases h
      · rename_i n r1 st1 he
        exact altF_ok hp f _ _ _ (fun x hx => by
          rcases List.mem_append.1 hx with q | q
          · exact ha x q
          · obtain rfl : x = n := by simpa using q
            exact hp _ _ _ _ _ he) h
    · cases h; exact ha
theorem catM_ok {p : List Tok → Sts → NR Nd} (hp : ∀ ts st n r st', p ts st = .inr (n, r, st') → SgOk n) : ∀ ts st n r st', catM p ts st = .inr (n, r, st') → SgOk n := fun ts st n r st' h => by
  unfold catM at h
  split at h
  · cases h
  · rename_i l r1 st1 he
    cases h
    exact joinN_ok rfl (catF_ok hp _ _ _ _ (fun x hx => (by cases hx)) he)
theorem regexG_ok {p : List Tok → Sts → NR Nd} (hp : ∀ ts st n r st', p ts st = .inr (n, r, st') → SgOk n) : ∀ ts st n r st', regexG p ts st = .inr (n, r, st') → SgOk n := fun ts st n r st' h => by
  unfold regexG at h
  split at h
  · cases h
  · rename_i m r1 st1 he
    split at h
    · cases h
    · rename_i l r2 st2 he2
      cases h
      exact joinN_ok rfl (altF_ok hp _ _ _ _ (fun x hx => by
        obtain rfl : x = m := by simpa using hx
        exact hp _ _ _ _ _ he) he2)
theorem partM_ok {N : Nms} {f : Option (List Tok → Sts → NR Nd)} (hf : ∀ g, f = some g → ∀ ts st n r st', g ts st = .inr (n, r, st') → SgOk n) : ∀ ts st n r st', partM N f ts st = .inr (n, r, st') → SgOk n := fun ts st n r st' h => by
  unfold partM at h
  split at h
  · split at h
    · cases h
    · rename_i g
      cases hq : g ts.tail st with
      | inl x => rw [hq] at h; cases h
      | inr x =>
        obtain ⟨m, r1, st1⟩ := x
        rw [hq] at h
        simp only [endN] at h
        split at h
        · cases h; exact hf g rfl _ _ _ _ _ hq
        · cases h
  · split at h
    · cases h
    · split at h
      · cases h
      · cases h; exact ⟨0, by omega, rfl⟩
theorem regexM_ok (N : Nms) : ∀ (b : Nat), ∀ ts st n r st', regexM N b ts st = .inr (n, r, st') → SgOk n
  | 0 => regexG_ok (catM_ok (fun _ _ _ _ _ => signedM_ok (partM_ok (fun g h => by cases h))))
  | b + 1 => regexG_ok (catM_ok (fun _ _ _ _ _ => signedM_ok (partM_ok (fun g h => by cases h; exact regexM_ok N b))))
theorem inner_ok (N : Nms) (b : Nat) : ∀ g, inner N b = some g → ∀ ts st n r st', g ts st = .inr (n, r, st') → SgOk n := fun g h => by
  cases b with
  | zero => cases h
  | succ b => cases h; exact regexM_ok N b
end Go.Proofs.YtfdjchnckjgapaaGreatDoor

namespace Go.Proofs.YtfdjchnckjgapaaGreatDoor
open Go.RowKit Go.Shelf S1
set_option linter.unusedVariables false
def signT (k : Int) : List Int := if k = 3 then [42] else if k = 4 then [43] else if k = 5 then [63] else []
theorem signOf_any (k : Int) (w : World) : Calls Tryz.prog 64 #[.int .i64 k] w fun e w' => e = .returned (.string (strOfNums (signT k))) ∧ w = w' := by
  by_cases h3 : k = 3
  · subst h3
    go_enter Tryz.func64, Tryz.ntmps64
    go_wp2
    go_ret
    exact ⟨rfl, rfl⟩
  by_cases h4 : k = 4
  · subst h4
    go_enter Tryz.func64, Tryz.ntmps64
    go_wp2
    go_ret
    exact ⟨rfl, rfl⟩
  by_cases h5 : k = 5
  · subst h5
    go_enter Tryz.func64, Tryz.ntmps64
    go_wp2
    go_ret
    exact ⟨rfl, rfl⟩
  have e : signT k = [] := by simp [signT, h3, h4, h5]
  rw [e]
  have k3 : (k == 3) = false := by simpa using h3
  have k4 : (k == 4) = false := by simpa using h4
  have k5 : (k == 5) = false := by simpa using h5
  clear e h3 h4 h5
  go_enter Tryz.func64, Tryz.ntmps64
  go_wp2
  go_ret
  exact ⟨rfl, rfl⟩
theorem signT_some {k : Int} (h : signK k = true) : (strOfNums (signT k)).toList.isEmpty = false := by
  simp only [signK, Bool.or_eq_true, beq_iff_eq] at h
  rcases h with (rfl | rfl) | rfl <;> simp [strL, signT]
theorem signT_none {k : Int} (h : signK k = false) : signT k = [] := by
  simp only [signK, Bool.or_eq_false_iff, beq_eq_false_iff_ne] at h
  simp [signT, h.1.1, h.1.2, h.2]
set_option maxRecDepth 100000 in
set_option maxHeartbeats 4000000 in
theorem signs_any (Q : Nat → Prop) (c : Nat) (hc3 : c ≤ 3) (n : Nd) (z : Value) (w : World) (hq : ∀ k, Q k → k < w.heap.size) (hz : KdX Q w z n.kids) (hc : Chain c n) :
    Calls Tryz.prog 211 #[ndV n z] w fun e w' => e = .returned (.int .i64 (c : Int)) ∧ Below w.heap.size w w' := by
  obtain ⟨za, zc, rfl, _⟩ := hz.slice
  unfold ndV
  have HB0 : Hid (Below w.heap.size w (w.alloc (.cells #[.int .i64 n.k, .int .i64 n.s, .slice za n.kids.length zc] 39))) := below_alloc _ _
  have HE0 : Hid ((w.alloc (.cells #[.int .i64 n.k, .int .i64 n.s, .slice za n.kids.length zc] 39)).heap[w.heap.size]? = some (.cells #[.int .i64 n.k, .int .i64 n.s, .slice za n.kids.length zc] 39 (0, 0))) := heap_new' _ _
  have HZ : Hid (KdX Q w (.slice za n.kids.length zc) n.kids) := hz
  have HQ : Hid (∀ k, Q k → k < w.heap.size) := hq
  have HC : Hid (Chain c n) := hc
  clear hz hq hc
  go_enter Tryz.func211, Tryz.ntmps211
  go_wp2
  go_loopw [3] (fun x wr => ∃ (j : Nat) (m : Nd) (a : Option Addr) (cp : Nat), j ≤ c ∧ x = .int .i64 (j : Int) ∧ Hid (Chain (c - j) m) ∧ wr.heap[w.heap.size]? = some (.cells #[.int .i64 m.k, .int .i64 m.s, .slice a m.kids.length cp] 39 (0, 0)) ∧ Hid (KdX Q w (.slice a m.kids.length cp) m.kids) ∧ Below w.heap.size w wr) (fun x _ => 4 - (intOf x).toNat)
  case atStart => exact ⟨0, n, za, zc, Nat.zero_le _, rfl, HC, HE0.out, HZ, HB0.out⟩
  case round =>
    obtain ⟨j, m, a, cp, hj, rfl, HCm, hE, HZm, hB⟩ := hrel
    have hlt : w.heap.size < wr.heap.size := (Array.getElem?_eq_some_iff.1 hE).1
    have d0 : wr.cell? ⟨w.heap.size, 0, none⟩ = some (.int .i64 m.k) := cell_of_row _ _ 0 _ _ _ hE
    have f0 : wr.frozen? ⟨w.heap.size, 0, none⟩ = false := frozen_of_row _ _ 0 _ _ hE
    have d1 : wr.cell? ⟨w.heap.size, 1, none⟩ = some (.int .i64 m.s) := cell_of_row _ _ 1 _ _ _ hE
    have f1 : wr.frozen? ⟨w.heap.size, 1, none⟩ = false := frozen_of_row _ _ 1 _ _ hE
    have d2 : wr.cell? ⟨w.heap.size, 2, none⟩ = some (.slice a m.kids.length cp) := cell_of_row _ _ 2 _ _ _ hE
    have f2 : wr.frozen? ⟨w.heap.size, 2, none⟩ = false := frozen_of_row _ _ 2 _ _ hE
    have h1 := signOf_any m.k wr
    have HE : Hid (wr.heap[w.heap.size]? = some (.cells #[.int .i64 m.k, .int .i64 m.s, .slice a m.kids.length cp] 39 (0, 0))) := hE
    clear hE
    by_cases hjc : j = c
    · have hsk : signK m.k = false := by have := HCm.out; rw [hjc, Nat.sub_self] at this; exact this
      rw [signT_none hsk] at h1
      have h1' : Calls Tryz.prog 64 #[.int .i64 m.k] wr fun e w' => e = .returned (.string ⟨#[]⟩) ∧ wr = w' := h1
      have HJ : Hid (j = c) := hjc
      clear h1 hjc hsk
      go_wp2_with fail
      refine h1'.mono ?_
      rintro e w1 ⟨rfl, rfl⟩
      go_wp2
      go_ret
      exact ⟨by rw [HJ.out]; rfl, hB⟩
    · obtain ⟨e, he⟩ : ∃ e, c - j = e + 1 := ⟨c - j - 1, by omega⟩
      have hch := HCm.out
      rw [he] at hch
      obtain ⟨hsk, x, hx, hcx⟩ := hch
      have HCX : Hid (Chain (c - (j + 1)) x) := by rw [show c - (j + 1) = e by omega]; exact hcx
      have hne := signT_some hsk
      obtain ⟨sg, hsg⟩ : ∃ sg, sg = strOfNums (signT m.k) := ⟨_, rfl⟩
      rw [← hsg] at hne h1
      have hzz := HZm.out
      rw [hx] at hzz d2
      obtain ⟨g, off, cap, z', e1, e2, e3, e4, e5, e6, e7⟩ := hzz.at 0 (by simp)
      simp only [List.getElem_cons_zero, Nat.zero_mul, Nat.add_zero] at e4 e5 e6 e7
      obtain ⟨rfl, _, rfl⟩ : a = some ⟨g, off, none⟩ ∧ [x].length = [x].length ∧ cp = cap := by simpa using e1
      obtain ⟨xa, xc, rfl, _⟩ := e7.slice
      have hgl := HQ.out g e3
      have e4' : wr.cell? ⟨g, off, none⟩ = some (.int .i64 x.k) := (hB.cell (p := ⟨g, _, none⟩) hgl).trans e4
      have e5' : wr.cell? ⟨g, off + 1, none⟩ = some (.int .i64 x.s) := (hB.cell (p := ⟨g, _, none⟩) hgl).trans e5
      have e6' : wr.cell? ⟨g, off + 2, none⟩ = some (.slice xa x.kids.length xc) := (hB.cell (p := ⟨g, _, none⟩) hgl).trans e6
      have hgne : g ≠ w.heap.size := by omega
      have HE7 : Hid (KdX Q w (.slice xa x.kids.length xc) x.kids) := e7
      simp only [List.length_cons, List.length_nil, Nat.zero_add] at d2
      have hcp : 1 ≤ cp := by simpa using e2
      clear hzz e1 e4 e5 e6 e7 hsg hcx hsk he hx HCm HZm
      go_wp2_with fail
      refine h1.mono ?_
      rintro e w1 ⟨rfl, rfl⟩
      clear h1
      go_wp2
      go_roundw
      case rel =>
        refine ⟨j + 1, x, xa, xc, by omega, by go_num, HCX, ?_, HE7, ?_⟩
        · exact heap_set (heap_set (heap_set HE.out _) _) _
        · exact ((hB.setCell (by simp) _).setCell (by simp) _).setCell (by simp) _
      case measure => simp [intOf]; omega
set_option maxRecDepth 100000 in
set_option maxHeartbeats 4000000 in
theorem kindOf_any (t : Tok) (v : Value) (hv : ∃ a n c, v = .slice a n c) (hb : Byt t.t) (w : World) : Calls Tryz.prog 212 #[tokV t v] w fun e w' => e = .returned (.tuple #[.int .i64 (kindT t), .bool (kindT t != 0)]) ∧ Below w.heap.size w w' := by
  obtain ⟨va, vn, vc, rfl⟩ := hv
  unfold tokV
  have HB0 : Hid (Below w.heap.size w (w.alloc (.cells #[.int .i64 t.k, .int .i64 (t.p : Int), .string (strOfNums t.t), .slice va vn vc] 54))) := below_alloc _ _
  have s42 : ((strOfNums t.t).toList == ([42] : List UInt8)) = decide (t.t = [42]) := by
    have := strNums_eq hb (y := [42]) (fun y hy => by simp at hy; omega)
    rw [strL [42]] at this
    exact this
  have s43 : ((strOfNums t.t).toList == ([43] : List UInt8)) = decide (t.t = [43]) := by
    have := strNums_eq hb (y := [43]) (fun y hy => by simp at hy; omega)
    rw [strL [43]] at this
    exact this
  have s63 : ((strOfNums t.t).toList == ([63] : List UInt8)) = decide (t.t = [63]) := by
    have := strNums_eq hb (y := [63]) (fun y hy => by simp at hy; omega)
    rw [strL [63]] at this
    exact this
  obtain ⟨kk, hkk⟩ : ∃ kk, kk = kindT t := ⟨_, rfl⟩
  rw [← hkk]
  have HK : Hid (kk = kindT t) := hkk
  clear hkk hb
  by_cases h2 : t.k = 2
  · have h2' : (t.k != 2) = false := by simpa using h2
    by_cases q42 : t.t = [42]
    · have HE : Hid (kk = 3) := by show _ = _; rw [HK.out]; simp [kindT, tkSign, h2, q42]
      rw [decide_eq_true q42] at s42
      clear q42 s43 s63 h2
      go_enter Tryz.func212, Tryz.ntmps212
      go_wp2
      go_ret2
      rw [HE.out]
      exact ⟨rfl, HB0.out⟩
    · rw [decide_eq_false q42] at s42
      by_cases q43 : t.t = [43]
      · have HE : Hid (kk = 4) := by show _ = _; rw [HK.out]; simp [kindT, tkSign, h2, q43]
        rw [decide_eq_true q43] at s43
        clear q43 s63 h2 q42
        go_enter Tryz.func212, Tryz.ntmps212
        go_wp2
        go_ret2
        rw [HE.out]
        exact ⟨rfl, HB0.out⟩
      · rw [decide_eq_false q43] at s43
        by_cases q63 : t.t = [63]
        · have HE : Hid (kk = 5) := by show _ = _; rw [HK.out]; simp [kindT, tkSign, h2, q63]
          rw [decide_eq_true q63] at s63
          clear q63 h2 q42 q43
          go_enter Tryz.func212, Tryz.ntmps212
          go_wp2
          go_ret2
          rw [HE.out]
          exact ⟨rfl, HB0.out⟩
        · rw [decide_eq_false q63] at s63
          have HE : Hid (kk = 0) := by show _ = _; rw [HK.out]; simp [kindT, tkSign, q42, q43, q63]
          clear q63 h2 q42 q43
          go_enter Tryz.func212, Tryz.ntmps212
          go_wp2
          go_ret2
          rw [HE.out]
          exact ⟨rfl, HB0.out⟩
  · have h2' : (t.k != 2) = true := by simpa using h2
    have HE : Hid (kk = 0) := by show _ = _; rw [HK.out]; simp [kindT, tkSign, h2]
    clear h2 s42 s43 s63
    go_enter Tryz.func212, Tryz.ntmps212
    go_wp2
    go_ret2
    rw [HE.out]
    exact ⟨rfl, HB0.out⟩
set_option maxRecDepth 100000 in
set_option maxHeartbeats 4000000 in
theorem joined_any (Q : Nat → Prop) (k : Int) (l : List Nd) (v : Value) (w : World) (hq : ∀ k, Q k → k < w.heap.size) (hv : KdX Q w v l) (hl : l.length ≤ 80000) :
    Calls Tryz.prog 147 #[.int .i64 k, v] w fun e w' => ∃ z, e = .returned (ndV (joinN k l) z) ∧ KdX Q w z (joinN k l).kids ∧ Below w.heap.size w w' := by
  obtain ⟨va, vc, rfl, _⟩ := hv.slice
  by_cases h1 : l.length = 1
  · obtain ⟨x, rfl⟩ := List.length_eq_one_iff.1 h1
    obtain ⟨g, off, cap, z', e1, e2, e3, e4, e5, e6, e7⟩ := hv.at 0 (by simp)
    simp only [List.getElem_cons_zero, Nat.zero_mul, Nat.add_zero] at e4 e5 e6 e7
    obtain ⟨rfl, _, rfl⟩ : va = some ⟨g, off, none⟩ ∧ [x].length = [x].length ∧ vc = cap := by simpa using e1
    obtain ⟨xa, xc, rfl, _⟩ := e7.slice
    have hgl := hq g e3
    have hcp : 1 ≤ vc := by simpa using e2
    have HE7 : Hid (KdX Q w (.slice xa x.kids.length xc) x.kids) := e7
    have HJ : Hid (joinN k [x] = x) := rfl
    simp only [List.length_cons, List.length_nil, Nat.zero_add]
    obtain ⟨jn, hjn⟩ : ∃ jn, jn = joinN k [x] := ⟨_, rfl⟩
    rw [← hjn]
    have HJN : Hid (jn = x) := hjn
    clear hv hq e1 e7 h1 hjn
    go_enter Tryz.func147, Tryz.ntmps147
    go_wp2
    refine bodyPost_ret (results_row_one rfl _ _ w.heap.size 39 #[.int .i64 x.k, .int .i64 x.s, .slice xa x.kids.length xc] (0, 0) _ rfl ?_ Tryz.underlying39 rfl (by kernel_rfl)) rfl ?_
    · exact heap_new' w _
    rw [HJN.out]
    exact ⟨_, rfl, HE7.out, below_alloc _ _⟩
  · have h1' : ((l.length : Int) == 1) = false := by simp; omega
    have HJ : Hid (joinN k l = ⟨k, 0, l⟩) := by
      show _ = _
      match l, h1 with
      | [], _ => rfl
      | [x], h => exact absurd rfl h
      | x :: y :: m, _ => rfl
    have HV : Hid (KdX Q w (.slice va l.length vc) l) := hv
    obtain ⟨jn, hjn⟩ : ∃ jn, jn = joinN k l := ⟨_, rfl⟩
    rw [← hjn]
    have HJN : Hid (jn = ⟨k, 0, l⟩) := hjn.trans HJ.out
    clear hv hq h1 hjn
    go_enter Tryz.func147, Tryz.ntmps147
    go_wp2
    refine bodyPost_ret (results_row_one rfl _ _ w.heap.size 39 #[.int .i64 k, .int .i64 0, .slice va l.length vc] (0, 0) _ rfl ?_ Tryz.underlying39 rfl (by kernel_rfl)) rfl ?_
    · exact heap_new' w _
    rw [HJN.out]
    exact ⟨_, rfl, HV.out, below_alloc _ _⟩
end Go.Proofs.YtfdjchnckjgapaaGreatDoor
