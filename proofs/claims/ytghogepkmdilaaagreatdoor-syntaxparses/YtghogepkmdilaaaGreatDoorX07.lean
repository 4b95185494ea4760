/-
  What is left behind a parse is shorter, and has the end yet. What ranges.add answers: a range more behind a row of the call's own, or its last one grown. What ranges.stretch answers of a set.
-/
import Derived.Test.YtghogepkmdilaaaGreatDoorX06
import Derived.Test.YtghogepkmdilaaaGreatDoorX03
import Derived.BigQuiet
import Derived.BigRegion
import Derived.RegionTactic
namespace Go.Proofs.YtghogepkmdilaaaGreatDoor
open Go.RowKit S1
set_option linter.unusedVariables false

/-- r is left of ts, and is not longer than n says. -/
def Left (ts r : List Tok) : Prop := r.length ≤ ts.length ∧ (EndsT ts → EndsT r) ∧ ∀ t ∈ r, t ∈ ts
def LeftS (ts r : List Tok) : Prop := r.length < ts.length ∧ (EndsT ts → EndsT r) ∧ ∀ t ∈ r, t ∈ ts
theorem Left.refl (ts : List Tok) : Left ts ts := ⟨Nat.le_refl _, id, fun _ h => h⟩
theorem Left.trans {a b c : List Tok} (h : Left a b) (k : Left b c) : Left a c := ⟨Nat.le_trans k.1 h.1, fun x => k.2.1 (h.2.1 x), fun t q => h.2.2 t (k.2.2 t q)⟩
theorem LeftS.left {a b : List Tok} (h : LeftS a b) : Left a b := ⟨Nat.le_of_lt h.1, h.2⟩
theorem LeftS.trans {a b c : List Tok} (h : LeftS a b) (k : Left b c) : LeftS a c := ⟨Nat.lt_of_le_of_lt k.1 h.1, fun x => k.2.1 (h.2.1 x), fun t q => h.2.2 t (k.2.2 t q)⟩
theorem Left.transS {a b c : List Tok} (h : Left a b) (k : LeftS b c) : LeftS a c := ⟨Nat.lt_of_lt_of_le k.1 h.1, fun x => k.2.1 (h.2.1 x), fun t q => h.2.2 t (k.2.2 t q)⟩
theorem leftS_tail {ts : List Tok} (h : (hdT ts).k ≠ 4) : LeftS ts ts.tail := by
  match ts, h with
  | [], h => exact absurd rfl h
  | t :: r, h => exact ⟨by simp, fun e => e.tail h, fun t q => List.mem_of_mem_tail q⟩
theorem left_tail_sign {c : Int} {ts : List Tok} (h : tkSign c (hdT ts) = true) : LeftS ts ts.tail := leftS_tail (sign_end h)

theorem setM_end {N : Nms} {t : Tok} {s : List Rg} (h : setM N t = .inr s) : t.k ≠ 4 := by
  intro e
  have h2 : ∀ c, tkSign c t = false := fun c => by simp [tkSign, e]
  have h3 : tkName t = false := by simp [tkName, e]
  simp [setM, e, h2, h3] at h
theorem opOf_end {t : Tok} {op} (h : opOf t = some op) : t.k ≠ 4 := by
  intro e
  have h2 : ∀ c, tkSign c t = false := fun c => by simp [tkSign, e]
  simp [opOf, h2] at h
theorem kindT_end {t : Tok} (h : kindT t ≠ 0) : t.k ≠ 4 := by
  intro e
  have h2 : ∀ c, tkSign c t = false := fun c => by simp [tkSign, e]
  simp [kindT, h2] at h

/-- What a parse of a set leaves. -/
def QLeft (ts : List Tok) : QR → Prop
  | .inl (r, _) => Left ts r
  | .inr (_, r) => LeftS ts r
theorem QLeft.weak {a b : List Tok} (h : Left a b) {q : QR} (k : QLeft b q) : QLeft a q := by
  match q, k with
  | .inl (r, _), k => exact h.trans k
  | .inr (s, r), k => exact h.transS k
theorem sumF_left {f : List Tok → QR} (hf : ∀ ts, QLeft ts (f ts)) : ∀ (n : Nat) (acc : List Rg) (ts : List Tok), (∀ r e, sumF f n acc ts = .inl (r, e) → Left ts r) ∧ (∀ s r, sumF f n acc ts = .inr (s, r) → Left ts r)
  | 0, acc, ts => ⟨fun r e h => (by cases h), fun s r h => (by cases h; exact Left.refl _)⟩
  | n + 1, acc, ts => by
    unfold sumF
    split
    · exact ⟨fun r e h => (by cases h), fun s r h => (by cases h; exact Left.refl _)⟩
    · rename_i op ho
      have h0 := leftS_tail (opOf_end ho)
      have h1 := hf ts.tail
      split
      · rename_i e he
        rw [he] at h1
        obtain ⟨r', e'⟩ := e
        exact ⟨fun r e h => (by cases h; exact h0.left.trans h1), fun s r h => (by cases h)⟩
      · rename_i s r he
        rw [he] at h1
        have ih := sumF_left hf n (op acc s) r
        have h2 : Left ts r := (h0.trans (LeftS.left h1)).left
        exact ⟨fun r e h => h2.trans (ih.1 r e h), fun s r h => h2.trans (ih.2 s r h)⟩
theorem sumG_left {f : List Tok → QR} (hf : ∀ ts, QLeft ts (f ts)) (ts : List Tok) : QLeft ts (sumG f ts) := by
  have h1 := hf ts
  unfold sumG
  split
  · rename_i e he; rw [he] at h1; exact h1
  · rename_i s r he
    rw [he] at h1
    have ih := sumF_left hf (r.length + 1) s r
    cases h : sumF f (r.length + 1) s r with
    | inl x => obtain ⟨r', e'⟩ := x; exact (LeftS.left h1).trans (ih.1 _ _ h)
    | inr x => obtain ⟨s', r'⟩ := x; exact LeftS.trans h1 (ih.2 _ _ h)
theorem endQ_left {c : Int} {ts : List Tok} {q : QR} (h : QLeft ts q) : QLeft ts (endQ c q) := by
  match q, h with
  | .inl (r, e), h => exact h
  | .inr (s, r), h =>
    simp only [endQ]
    split
    · rename_i q; exact LeftS.trans h (left_tail_sign q).left
    · exact LeftS.left h
theorem termG_left {N : Nms} {f : Option (List Tok → QR)} (hf : ∀ g, f = some g → ∀ ts, QLeft ts (g ts)) (ts : List Tok) : QLeft ts (termG N f ts) := by
  unfold termG
  split
  · rename_i hs
    have h0 := left_tail_sign hs
    split
    · exact Left.refl ts
    · rename_i g
      have h1 := hf g rfl ts.tail
      cases h : g ts.tail with
      | inl x => obtain ⟨r', e'⟩ := x; rw [h] at h1; exact h0.left.trans h1
      | inr x => obtain ⟨s', r'⟩ := x; rw [h] at h1; exact h0.trans (LeftS.left h1)
  · split
    · rename_i hs
      have h0 := left_tail_sign hs
      split
      · exact Left.refl ts
      · rename_i g
        exact QLeft.weak h0.left (endQ_left (sumG_left (hf g rfl) ts.tail))
    · split
      · exact Left.refl ts
      · rename_i s hs
        exact leftS_tail (setM_end hs)
theorem termM_left (N : Nms) : ∀ (b : Nat) (ts : List Tok), QLeft ts (termM N b ts)
  | 0, ts => termG_left (fun g h => by cases h) ts
  | b + 1, ts => termG_left (fun g h => by cases h; exact termM_left N b) ts
theorem sumM_left (N : Nms) (b : Nat) (ts : List Tok) : QLeft ts (sumM N b ts) := sumG_left (termM_left N b) ts

/-- What a parse of an expression leaves. -/
def NLeft {α : Type} (ts : List Tok) : NR α → Prop
  | .inl (r, _) => Left ts r
  | .inr (_, r, _) => Left ts r
def NLeftS {α : Type} (ts : List Tok) : NR α → Prop
  | .inl (r, _) => Left ts r
  | .inr (_, r, _) => LeftS ts r
theorem NLeftS.weak {α : Type} {ts : List Tok} {q : NR α} (h : NLeftS ts q) : NLeft ts q := by
  match q, h with
  | .inl (r, _), h => exact h
  | .inr (_, r, _), h => exact LeftS.left h
theorem endN_left {c : Int} {ts : List Tok} {q : NR Nd} (h : NLeft ts q) : NLeft ts (endN c q) := by
  match q, h with
  | .inl (r, e), h => exact h
  | .inr (n, r, st), h =>
    simp only [endN]
    split
    · rename_i q; exact Left.trans h (left_tail_sign q).left
    · exact h
theorem partM_left {N : Nms} {f : Option (List Tok → Sts → NR Nd)} (hf : ∀ g, f = some g → ∀ ts st, NLeft ts (g ts st)) (ts : List Tok) (st : Sts) : NLeftS ts (partM N f ts st) := by
  unfold partM
  split
  · rename_i hs
    have h0 := left_tail_sign hs
    split
    · exact Left.refl ts
    · rename_i g
      have h1 := endN_left (c := 41) (hf g rfl ts.tail st)
      cases h : endN 41 (g ts.tail st) with
      | inl x => obtain ⟨r', e'⟩ := x; rw [h] at h1; exact h0.left.trans h1
      | inr x => obtain ⟨s', r', st'⟩ := x; rw [h] at h1; exact h0.trans h1
  · split
    · exact Left.refl ts
    · rename_i s hs
      split
      · exact Left.refl ts
      · exact leftS_tail (setM_end hs)
theorem signF_left : ∀ (f c : Nat) (n : Nd) (ts : List Tok) (st : Sts), NLeft ts (signF f c n ts st)
  | 0, c, n, ts, st => Left.refl ts
  | f + 1, c, n, ts, st => by
    unfold signF
    split
    · exact Left.refl ts
    · rename_i hk
      split
      · exact Left.refl ts
      · have h0 := leftS_tail (kindT_end hk)
        have ih := signF_left f (c + 1) ⟨kindT (hdT ts), 0, [n]⟩ ts.tail st
        cases h : signF f (c + 1) ⟨kindT (hdT ts), 0, [n]⟩ ts.tail st with
        | inl x => obtain ⟨r', e'⟩ := x; rw [h] at ih; exact h0.left.trans ih
        | inr x => obtain ⟨s', r', st'⟩ := x; rw [h] at ih; exact h0.left.trans ih
theorem signedM_left {p : List Tok → Sts → NR Nd} (hp : ∀ ts st, NLeftS ts (p ts st)) (ts : List Tok) (st : Sts) : NLeftS ts (signedM p ts st) := by
  have h1 := hp ts st
  unfold signedM
  split
  · rename_i e he; rw [he] at h1; exact h1
  · rename_i n r st' he
    rw [he] at h1
    have h2 := signF_left 4 (cntN 4 n) n r st'
    cases h : signF 4 (cntN 4 n) n r st' with
    | inl x => obtain ⟨r', e'⟩ := x; rw [h] at h2; exact (LeftS.left h1).trans h2
    | inr x => obtain ⟨s', r', st'⟩ := x; rw [h] at h2; exact LeftS.trans h1 h2
theorem catF_left {p : List Tok → Sts → NR Nd} (hp : ∀ ts st, NLeftS ts (p ts st)) : ∀ (f : Nat) (acc : List Nd) (ts : List Tok) (st : Sts), NLeft ts (catF p f acc ts st)
  | 0, acc, ts, st => Left.refl ts
  | f + 1, acc, ts, st => by
    have h1 := hp ts st
    unfold catF
    split
    · split
      · rename_i e he; rw [he] at h1; exact h1
      · rename_i n r st' he
        rw [he] at h1
        have ih := catF_left hp f (acc ++ [n]) r st'
        cases h : catF p f (acc ++ [n]) r st' with
        | inl x => obtain ⟨r', e'⟩ := x; rw [h] at ih; exact (LeftS.left h1).trans ih
        | inr x => obtain ⟨s', r', st'⟩ := x; rw [h] at ih; exact (LeftS.left h1).trans ih
    · exact Left.refl ts
theorem catM_left {p : List Tok → Sts → NR Nd} (hp : ∀ ts st, NLeftS ts (p ts st)) (ts : List Tok) (st : Sts) : NLeft ts (catM p ts st) := by
  have h1 := catF_left hp (ts.length + 1) [] ts st
  unfold catM
  split
  · rename_i e he; rw [he] at h1; exact h1
  · rename_i n r st' he
    rw [he] at h1; exact h1
theorem altF_left {p : List Tok → Sts → NR Nd} (hp : ∀ ts st, NLeft ts (p ts st)) : ∀ (f : Nat) (acc : List Nd) (ts : List Tok) (st : Sts), NLeft ts (altF p f acc ts st)
  | 0, acc, ts, st => Left.refl ts
  | f + 1, acc, ts, st => by
    have h1 := hp ts.tail st
    unfold altF
    split
    · rename_i hs
      have h0 := (left_tail_sign hs).left
      split
      · rename_i e he; rw [he] at h1; exact h0.trans h1
      · rename_i n r st' he
        rw [he] at h1
        have ih := altF_left hp f (acc ++ [n]) r st'
        cases h : altF p f (acc ++ [n]) r st' with
        | inl x => obtain ⟨r', e'⟩ := x; rw [h] at ih; exact (h0.trans h1).trans ih
        | inr x => obtain ⟨s', r', st'⟩ := x; rw [h] at ih; exact (h0.trans h1).trans ih
    · exact Left.refl ts
theorem regexG_left {p : List Tok → Sts → NR Nd} (hp : ∀ ts st, NLeft ts (p ts st)) (ts : List Tok) (st : Sts) : NLeft ts (regexG p ts st) := by
  have h1 := hp ts st
  unfold regexG
  split
  · rename_i e he; rw [he] at h1; exact h1
  · rename_i n r st' he
    rw [he] at h1
    have h2 := altF_left hp (r.length + 1) [n] r st'
    split
    · rename_i e he; rw [he] at h2; exact Left.trans h1 h2
    · rename_i l r2 st2 he; rw [he] at h2; exact Left.trans h1 h2
theorem regexM_left (N : Nms) : ∀ (b : Nat) (ts : List Tok) (st : Sts), NLeft ts (regexM N b ts st)
  | 0, ts, st => regexG_left (catM_left (signedM_left (partM_left (fun g h => by cases h)))) ts st
  | b + 1, ts, st => regexG_left (catM_left (signedM_left (partM_left (fun g h => by cases h; exact regexM_left N b)))) ts st
theorem inner_left (N : Nms) (b : Nat) : ∀ g, inner N b = some g → ∀ ts st, NLeft ts (g ts st) := fun g h => by
  cases b with
  | zero => cases h
  | succ b => cases h; exact regexM_left N b
end Go.Proofs.YtghogepkmdilaaaGreatDoor

namespace Go.Proofs.YtghogepkmdilaaaGreatDoor
open Go.RowKit
set_option linter.unusedVariables false

theorem heap_new2 (w : World) (o o' : Obj) : ((w.alloc o).alloc o').heap[w.heap.size + 1]? = some o' := by
  have := heap_new' (w.alloc o) o'
  rwa [World.size_alloc] at this

theorem own_frozen {w : World} {base e size n g m c : Nat} {xs : List Value} (h : w.ownsRow base e size (.slice (some ⟨g, 0, none⟩) m c) n xs) (j : Nat) : w.frozen? ⟨g, j, none⟩ = false := by
  rcases h.2 with ⟨e, _⟩ | ⟨g', cap', cur, e, hb, hg, _⟩
  · cases e
  · obtain ⟨rfl, _⟩ : g = g' ∧ _ := by simpa using e
    exact frozen_of_row _ _ _ _ _ hg

set_option maxRecDepth 100000 in
set_option maxHeartbeats 2000000 in
theorem add_any (base : Nat) (l : List Rg) (r : Rg) (v : Value) (w : World) (hlen : l.length ≤ 600000) (hbd : ∀ s ∈ l, -10 ≤ s.hi ∧ s.hi ≤ 2000000) (hbase : base ≤ w.heap.size) (hown : w.ownsRow base 80 2 v l.length (cellsRs l)) :
    Calls Tryz.prog 104 #[v, .agg #[.int .i64 r.lo, .int .i64 r.hi]] w fun e w' => ∃ v', e = .returned v' ∧ w'.ownsRow base 80 2 v' (addL l r).length (cellsRs (addL l r)) ∧ Below base w w' := by
  obtain ⟨i0, hi, hz0, hz1, hz2⟩ := info_parts Tryz.infoRange
  obtain ⟨a, cap, rfl, hc, hcell⟩ := rng_of_row hown
  have HO : Hid (w.ownsRow base 80 2 (.slice a l.length cap) l.length (cellsRs l)) := hown
  clear hown
  rcases list_last l with rfl | ⟨ini, s, rfl⟩
  · have HO2 : Hid (((w.alloc (.cells #[.int .i64 r.lo, .int .i64 r.hi] 80)).alloc (.cells #[.int .i64 r.lo, .int .i64 r.hi] 80)).ownsRow base 80 2 (.slice a 0 cap) 0 []) := (World.ownsRow.alloc HO.out _).alloc _
    have HN : Hid _ := heap_new2 w (.cells #[.int .i64 r.lo, .int .i64 r.hi] 80) (.cells #[.int .i64 r.lo, .int .i64 r.hi] 80)
    have HB : Hid (Below base w ((w.alloc (.cells #[.int .i64 r.lo, .int .i64 r.hi] 80)).alloc (.cells #[.int .i64 r.lo, .int .i64 r.hi] 80))) := ((Below.refl base w).alloc hbase _).alloc (by simp; omega) _
    rw [addL_nil]
    clear hcell HO
    go_enter Tryz.func104, Tryz.ntmps104
    go_wp2_with (at_builtin; go_must (refine wpList_append_own _ rfl (.tmp 33) (.tmp 35) 44 rfl base 80 i0 (.agg #[.int .i64 0, .int .i64 0]) 2 16 Tryz.underlying44 hi hz0 hz1 hz2 rfl (by decide) _ _ _ rfl HO2.out ⟨w.heap.size + 1, 0, none⟩ 1 1 (cellsR r) rfl rfl (World.news_of_block HN.out) (by simp [cellsR, Value.oneCell']) (by unfold maxLen; omega) (by omega) (by simp; omega) ?_); intro v' w1 hown' hgrow hnil)
    go_ret
    exact ⟨v', rfl, by simpa [cellsRs] using hown', HB.out.grown hgrow (by simp; omega) (fun j e => (World.ownsRow.lt HO2.out j e).1)⟩
  · have hl1 : (ini ++ [s]).length = ini.length + 1 := by simp
    have hbs := hbd s (by simp)
    have hle : ini.length + 1 ≤ 600000 := by rw [← hl1]; exact hlen
    obtain ⟨g, off, rfl, hg, c0, c1⟩ := hcell ini.length (by omega)
    have e1 : (ini ++ [s])[ini.length]'(by omega) = s := by simp
    rw [e1] at c0 c1
    have hoff : off = 0 ∧ base ≤ g := by
      rcases HO.out.2 with ⟨e, _⟩ | ⟨g', cap', cur, e, hb, _⟩
      · cases e
      · simp at e; exact ⟨e.1.2, by rw [e.1.1]; exact hb⟩
    obtain ⟨hoff, hbg⟩ := hoff
    subst hoff
    simp only [Nat.zero_add] at c0 c1
    rw [hl1] at HO hc ⊢
    have HO1 : Hid ((w.alloc (.cells #[.int .i64 r.lo, .int .i64 r.hi] 80)).ownsRow base 80 2 (.slice (some ⟨g, 0, none⟩) (ini.length + 1) cap) (ini.length + 1) (cellsRs (ini ++ [s]))) := World.ownsRow.alloc HO.out _
    have hB1 : Below base w (w.alloc (.cells #[.int .i64 r.lo, .int .i64 r.hi] 80)) := (Below.refl base w).alloc hbase _
    clear hcell hbd hlen e1 HO
    have hn0 : (0 : Int) < (ini.length : Int) + 1 := by omega
    by_cases q : r.lo ≤ s.hi + 1
    · rw [addL_join q]
      obtain ⟨mx, hmx0⟩ : ∃ mx, max s.hi r.hi = mx := ⟨_, rfl⟩
      rw [hmx0]
      have HMX : Hid (max s.hi r.hi = mx) := hmx0
      clear hmx0
      go_enter Tryz.func104, Tryz.ntmps104
      go_wp2
      go_quiet (fail)
      have HB2 := below_drewN' hB1 nq
      have HO2 := ownsRow_drewN HO1.out nq
      have b0 : ((w.alloc (.cells #[.int .i64 r.lo, .int .i64 r.hi] 80)).drewN nq).cell? ⟨w.heap.size, 0, none⟩ = some (.int .i64 r.lo) := cell_of_row _ _ 0 _ _ _ (heap_new' w _)
      have b1 : ((w.alloc (.cells #[.int .i64 r.lo, .int .i64 r.hi] 80)).drewN nq).cell? ⟨w.heap.size, 1, none⟩ = some (.int .i64 r.hi) := cell_of_row _ _ 1 _ _ _ (heap_new' w _)
      have d1 : ((w.alloc (.cells #[.int .i64 r.lo, .int .i64 r.hi] 80)).drewN nq).cell? ⟨g, ini.length * 2 + 1, none⟩ = some (.int .i64 s.hi) := (World.cell?_of_block (a := ⟨g, ini.length * 2 + 1, none⟩) (Below.heap_alloc w _ g hg)).trans c1
      have f1 : ((w.alloc (.cells #[.int .i64 r.lo, .int .i64 r.hi] 80)).drewN nq).frozen? ⟨g, ini.length * 2 + 1, none⟩ = false := own_frozen HO2 _
      obtain ⟨W1, hW1⟩ : ∃ W1, (w.alloc (.cells #[.int .i64 r.lo, .int .i64 r.hi] 80)).drewN nq = W1 := ⟨_, rfl⟩
      rw [hW1] at HO2 HB2 b0 b1 d1 f1 ⊢
      have HO3 : Hid (W1.ownsRow base 80 2 (.slice (some ⟨g, 0, none⟩) (ini.length + 1) cap) (ini.length + 1) (cellsRs (ini ++ [s]))) := HO2
      have HB3 : Hid (Below base w W1) := HB2
      clear hW1 HO1 hB1 c0 c1 HO2 HB2
      go_wp2
      go_region
      have hmx : (if s.hi < r.hi then r.hi else s.hi) = mx := by
        rw [← HMX.out]
        split
        · rename_i z; exact (Int.max_eq_right (by omega)).symm
        · rename_i z; exact (Int.max_eq_left (by omega)).symm
      rw [hmx]
      clear hmx
      have HO4 : Hid ((W1.setCell ⟨g, ini.length * 2 + 1, none⟩ (.int .i64 mx)).ownsRow base 80 2 (.slice (some ⟨g, 0, none⟩) (ini.length + 1) cap) (ini ++ [(⟨s.lo, mx⟩ : Rg)]).length (cellsRs (ini ++ [⟨s.lo, mx⟩]))) := by
        have := own_grow (base := base) (g := g) (cap := cap) (ini := ini) (s := s) (w := W1) (by rw [hl1]; exact HO3.out) mx
        rw [hl1] at this
        exact this
      have HB4 : Hid (Below base w (W1.setCell ⟨g, ini.length * 2 + 1, none⟩ (.int .i64 mx))) := HB3.out.setCell (p := ⟨g, ini.length * 2 + 1, none⟩) hbg _
      clear d1 f1 b0 b1 HO3 HB3
      go_wp2
      go_ret
      exact ⟨.slice (some ⟨g, 0, none⟩) (ini.length + 1) cap, rfl, ownsRow_drewN HO4.out 1, below_drewN' HB4.out 1⟩
    · rw [addL_snoc q]
      go_enter Tryz.func104, Tryz.ntmps104
      go_wp2
      go_quiet (fail)
      have HO2 := World.ownsRow.alloc (ownsRow_drewN HO1.out nq) (.cells #[.int .i64 r.lo, .int .i64 r.hi] 80)
      have HB2 := (below_drewN' hB1 nq).alloc (by simp; omega) (.cells #[.int .i64 r.lo, .int .i64 r.hi] 80)
      have HN2 := heap_new' ((w.alloc (.cells #[.int .i64 r.lo, .int .i64 r.hi] 80)).drewN nq) (.cells #[.int .i64 r.lo, .int .i64 r.hi] 80)
      have b0 : ((w.alloc (.cells #[.int .i64 r.lo, .int .i64 r.hi] 80)).drewN nq).cell? ⟨w.heap.size, 0, none⟩ = some (.int .i64 r.lo) := cell_of_row _ _ 0 _ _ _ (heap_new' w _)
      have b1 : ((w.alloc (.cells #[.int .i64 r.lo, .int .i64 r.hi] 80)).drewN nq).cell? ⟨w.heap.size, 1, none⟩ = some (.int .i64 r.hi) := cell_of_row _ _ 1 _ _ _ (heap_new' w _)
      have hsz : ((w.alloc (.cells #[.int .i64 r.lo, .int .i64 r.hi] 80)).drewN nq).heap.size = w.heap.size + 1 := by show (w.alloc _).heap.size = _; simp
      obtain ⟨W1, hW1⟩ : ∃ W1, (w.alloc (.cells #[.int .i64 r.lo, .int .i64 r.hi] 80)).drewN nq = W1 := ⟨_, rfl⟩
      rw [hW1] at HO2 HB2 HN2 b0 b1 hsz ⊢
      have HO3 : Hid ((W1.alloc (.cells #[.int .i64 r.lo, .int .i64 r.hi] 80)).ownsRow base 80 2 (.slice (some ⟨g, 0, none⟩) (ini.length + 1) cap) (ini.length + 1) (cellsRs (ini ++ [s]))) := HO2
      have HB3 : Hid (Below base w (W1.alloc (.cells #[.int .i64 r.lo, .int .i64 r.hi] 80))) := HB2
      have HN3 : Hid ((W1.alloc (.cells #[.int .i64 r.lo, .int .i64 r.hi] 80)).heap[W1.heap.size]? = some (.cells #[.int .i64 r.lo, .int .i64 r.hi] 80)) := HN2
      have HS : Hid (W1.heap.size = w.heap.size + 1) := hsz
      clear hW1 HO1 hB1 c0 c1 HO2 HB2 HN2 hsz
      go_wp2_with (at_builtin; go_must (refine wpList_append_own _ rfl (.tmp 33) (.tmp 35) 44 rfl base 80 i0 (.agg #[.int .i64 0, .int .i64 0]) 2 16 Tryz.underlying44 hi hz0 hz1 hz2 rfl (by decide) _ _ _ rfl HO3.out ⟨W1.heap.size, 0, none⟩ 1 1 (cellsR r) rfl rfl (World.news_of_block HN3.out) (by simp [cellsR, Value.oneCell']) (by unfold maxLen; omega) (by omega) (by simp; have := HS.out; omega) ?_); intro v' w1 hown' hgrow hnil)
      go_ret
      refine ⟨v', rfl, ?_, HB3.out.grown hgrow (by simp; have := HS.out; omega) (fun j e => (World.ownsRow.lt HO3.out j e).1)⟩
      rw [cellsRs_snoc]
      simpa using hown'
end Go.Proofs.YtghogepkmdilaaaGreatDoor

namespace Go.Proofs.YtghogepkmdilaaaGreatDoor
open Go.RowKit
set_option linter.unusedVariables false

theorem RngAt.cons {n : Nat} {w : World} {v : Value} {r : Rg} {t : List Rg} (h : RngAt n w v (r :: t)) : ∃ g off cap, v = .slice (some ⟨g, off, none⟩) (t.length + 1) cap ∧ t.length + 1 ≤ cap ∧ g < n ∧ w.cell? ⟨g, off, none⟩ = some (.int .i64 r.lo) ∧ w.cell? ⟨g, off + 1, none⟩ = some (.int .i64 r.hi) := by
  obtain ⟨a, cap, rfl, hc, hi⟩ := h
  obtain ⟨g, off, rfl, hg, h0, h1⟩ := hi 0 (by simp)
  refine ⟨g, off, cap, rfl, by simpa using hc, hg, by simpa using h0, by simpa using h1⟩
theorem RngAt.tail' {n : Nat} {w : World} {g off cap : Nat} {r : Rg} {t : List Rg} (h : RngAt n w (.slice (some ⟨g, off, none⟩) (t.length + 1) cap) (r :: t)) : RngAt n w (.slice (if cap = 1 then some ⟨g, off, none⟩ else some ⟨g, off + 2, none⟩) t.length (cap - 1)) t := by
  by_cases q : cap = 1
  · obtain ⟨a, c, e, hc, _⟩ := h
    simp at e hc
    have : t = [] := List.length_eq_zero_iff.1 (by omega)
    subst this
    exact RngAt.empty _ _
  · rw [if_neg q]
    exact h.tail
theorem RngAt.drew {m : Nat} {w : World} {v : Value} {l : List Rg} (h : RngAt m w v l) (n : Nat) : RngAt m (w.drewN n) v l := h.below (below_drewN' (Below.refl _ _) n)

set_option maxRecDepth 100000 in
set_option maxHeartbeats 2000000 in
theorem stretch_any (n : Nat) (a : List Rg) (low : Int) (v : Value) (w : World) (hnw : n ≤ w.heap.size) (hlen : a.length ≤ 600000) (hlow : 0 ≤ low ∧ low ≤ 1114111) (hn : NormFrom 0 a) (hf : ∀ r ∈ a, r.hi ≤ 1114111) (hv : RngAt n w v a) :
    Calls Tryz.prog 224 #[v, .int .i64 low] w fun e w' => ∃ is high rest v', Stretch a low is high rest ∧ e = .returned (.tuple #[.bool is, .int .i64 high, v']) ∧ RngAt n w' v' rest ∧ Below w.heap.size w w' := by
  have HV : Hid (RngAt n w v a) := hv
  have HN : Hid (NormFrom 0 a) := hn
  have HF : Hid (∀ r ∈ a, r.hi ≤ 1114111) := hf
  obtain ⟨ad, cap, rfl, hc, _⟩ := hv
  clear hn hf
  go_enter Tryz.func224, Tryz.ntmps224
  go_wp2
  go_loopw [0] (fun x wr => ∃ k : Nat, k ≤ a.length ∧ RngAt n w x (a.drop k) ∧ (∀ r ∈ a.take k, r.hi < low) ∧ wr = w) (fun x _ => match x with | .slice _ n _ => n | _ => 0)
  case atStart => exact ⟨0, Nat.zero_le _, HV.out, fun r hr => by simp at hr, rfl⟩
  case round =>
    obtain ⟨k, hk, hx, hb, rfl⟩ := hrel
    have HB : Hid (∀ r ∈ a.take k, r.hi < low) := hb
    clear hb
    cases hd : a.drop k with
    | nil =>
      rw [hd] at hx
      have HD : Hid (a.drop k = []) := hd
      obtain ⟨ad', cap', rfl, hc', _⟩ := hx
      clear hd
      simp only [List.length_nil]
      have hid : decide ((0 : Int) < 0) = false := rfl
      go_wp2
      go_ret3
      exact ⟨_, _, _, _, stretch_none hlow.2 HB.out HD.out, rfl, RngAt.nil _ _, Below.refl _ _⟩
    | cons r t =>
      rw [hd] at hx
      have HX : Hid (RngAt n wr _ (r :: t)) := hx
      have HD : Hid (a.drop k = r :: t) := hd
      have hkl : k + t.length + 1 = a.length := by
        have := congrArg List.length hd
        simp at this; omega
      have hord := NormFrom.ord HN.out r (List.mem_of_mem_drop (i := k) (by rw [hd]; simp))
      have hrh := HF.out r (List.mem_of_mem_drop (i := k) (by rw [hd]; simp))
      obtain ⟨g, off, cap', rfl, hc', hg0, c0, c1⟩ := hx.cons
      have hg : g < wr.heap.size := by omega
      clear hd hx
      have hn0 : (0 : Int) < (t.length : Int) + 1 := by omega
      by_cases q : r.hi < low
      · have HR : Hid (∀ s ∈ a.take (k + 1), s.hi < low) := fun s hs => by
          have e : a.take (k + 1) = a.take k ++ [r] := by
            rw [List.take_add_one, ← List.head?_drop, HD.out]; rfl
          rw [e] at hs
          rcases List.mem_append.1 hs with z | z
          · exact HB.out s z
          · rw [List.mem_singleton.1 z]; exact q
        have HT : Hid (a.drop (k + 1) = t) := by
          show a.drop (k + 1) = t
          rw [← List.tail_drop, HD.out]; rfl
        go_wp2
        go_roundw
        case rel => exact ⟨k + 1, by omega, by rw [HT.out]; exact RngAt.tail' HX.out, HR.out, trivial⟩
        case measure => exact Nat.lt_succ_self _
      · have hnl : low ≤ r.hi := by omega
        by_cases q2 : low < r.lo
        · have HS : Hid _ := stretch_out hlow.2 HN.out HF.out HB.out HD.out q2
          go_wp2
          go_region
          go_wp2
          go_ret3
          refine ⟨_, _, _, _, HS.out, ?_, HX.out.drew 1, (Below.refl _ _).drew⟩
          rw [show min (r.lo - 1) 1114111 = r.lo - 1 from Int.min_eq_left (by omega)]
          rfl
        · have HS : Hid _ := stretch_in hlow.2 HN.out HF.out HB.out HD.out q2 hnl
          go_wp2
          go_region
          go_wp2
          go_ret3
          refine ⟨_, _, _, _, HS.out, ?_, HX.out.drew 1, (Below.refl _ _).drew⟩
          rw [show min r.hi 1114111 = r.hi from Int.min_eq_left hrh]
          rfl
end Go.Proofs.YtghogepkmdilaaaGreatDoor
