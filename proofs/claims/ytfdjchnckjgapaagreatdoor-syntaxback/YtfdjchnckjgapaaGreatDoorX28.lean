/-
  RulP
-/
import Derived.Test.YtfdjchnckjgapaaGreatDoorX27
namespace Go.Proofs.YtfdjchnckjgapaaGreatDoor
open Go.RowKit Go.Shelf S1
set_option linter.unusedVariables false
structure Wr (B : Nat) (w w' : World) : Prop where
  os : w'.os = w.os
  tape : w'.tape = w.tape
  output : w'.output = w.output
  size : w'.heap.size = w.heap.size
  block : ∀ k, k ≠ B → w'.heap[k]? = w.heap[k]?
theorem Wr.refl (B : Nat) (w : World) : Wr B w w := ⟨rfl, rfl, rfl, rfl, fun _ _ => rfl⟩
theorem Wr.set {B : Nat} {w w' : World} (h : Wr B w w') (i : Nat) (v : Value) : Wr B w (w'.setCell ⟨B, i, none⟩ v) :=
  ⟨h.os, h.tape, h.output, by rw [← h.size]; simp [World.setCell], fun k hk => (Below.heap_setCell w' ⟨B, i, none⟩ v k (by simpa using hk)).trans (h.block k hk)⟩
theorem Wr.im {B P : Nat} {w w' : World} (h : Wr B w w') (hP : P ≠ B) {Y : Nat → Prop} {k : Nat} (hk : Im Y w P k) : Im Y w' P k :=
  hk.same (by rw [h.size]; exact Nat.le_refl _) (World.cell?_of_block (a := ⟨P, 3, none⟩) (h.block P hP))
theorem Wr.fr {n P B : Nat} {w w' : World} (h : Wr B w w') (hn : n ≤ B) (hP : P ≠ B) : Fr n P w w' :=
  ⟨h.os, h.tape, h.output, by rw [h.size]; exact Nat.le_refl _, fun k hk hm => ⟨h.block k (by omega), h.im hP hm⟩⟩
theorem Pa.wr {c : Pc} {X : Nat → Prop} {P : Nat} {w w' : World} {ts : List Tok} {st : Sts} {d : Nat} (h : Pa c X P w ts st d) {B : Nat} (hx : X B) (hB : Im NoX w P B) (hw : Wr B w w') : Pa c X P w' ts st d := by
  have hP : P ≠ B := Ne.symm hB.2.1
  obtain ⟨k, sv, h1, h2, h3⟩ := h
  refine ⟨k, sv, (hw.block P hP).trans h1, h2.to (fun j hj => ⟨hw.block j (fun q => hj.2.2.2 (q ▸ hx)), hw.im hP hj⟩) (fun j hj => hw.block j (fun q => ?_)) (fun j hj => by rw [hw.size]; exact h2.bound j hj), h3⟩
  exact hB.2.2.1 sv (by rw [row_cell h1]; rfl) (q ▸ hj)
theorem KdX.wr {X Y : Nat → Prop} {P B lo lo' : Nat} {w w' : World} {z : Value} {l : List Nd} (h : KdX (fun k => lo ≤ k ∧ Im X w P k) w z l) (hx : X B) (hP : P ≠ B) (hw : Wr B w w') (hY : ∀ k, Y k → X k) (hlo : lo' ≤ lo) : KdX (fun k => lo' ≤ k ∧ Im Y w' P k) w' z l :=
  h.to (fun k hk => ⟨hw.block k (fun q => hk.2.2.2.2 (q ▸ hx)), by have := hk.1; omega, (hw.im hP hk.2).less (hY k)⟩)
def RA (c : Pc) (X : Nat → Prop) (P : Nat) (d : Nat) (q : NR Rl) (w : World) (e : Ending) (w' : World) : Prop :=
  ∃ b l zl n zr x r st, e = .returned (.tuple #[.agg #[.bool b, .int .i64 l.k, .int .i64 l.s, zl, .int .i64 n.k, .int .i64 n.s, zr], .int .i64 x]) ∧ KdX (fun k => w.heap.size ≤ k ∧ Im X w' P k) w' zl l.kids ∧ KdX (fun k => w.heap.size ≤ k ∧ Im X w' P k) w' zr n.kids ∧ Pa c X P w' r st d ∧ Fr w.heap.size P w w' ∧ ((x ≠ 0 ∧ q = .inl (r, x)) ∨ (x = 0 ∧ q = .inr (⟨b, l, n⟩, r, st)))
theorem ruleM_bad {N : Nms} {ts : List Tok} {st : Sts} {e : List Tok × Int} (h : endN 47 (regexM N 20 ts.tail st) = .inl e) : ruleM N ts st = .inl e := by unfold ruleM; rw [h]
theorem ruleM_bad2 {N : Nms} {ts : List Tok} {st : Sts} {l : Nd} {r : List Tok} {st1 : Sts} {e : List Tok × Int} (h : endN 47 (regexM N 20 ts.tail st) = .inr (l, r, st1)) (h2 : endN 59 (regexM N 20 r st1) = .inl e) : ruleM N ts st = .inl e := by unfold ruleM; rw [h]; simp only; rw [h2]
theorem ruleM_good {N : Nms} {ts : List Tok} {st : Sts} {l n : Nd} {r r2 : List Tok} {st1 st2 : Sts} (h : endN 47 (regexM N 20 ts.tail st) = .inr (l, r, st1)) (h2 : endN 59 (regexM N 20 r st1) = .inr (n, r2, st2)) : ruleM N ts st = .inr (⟨tkWord wBreak (hdT ts), l, n⟩, r2, st2) := by unfold ruleM; rw [h]; simp only; rw [h2]
set_option maxRecDepth 100000 in
set_option maxHeartbeats 16000000 in
theorem rule_any (c : Pc) (X : Nat → Prop) (P : Nat) (w : World) (t : Tok) (r : List Tok) (st : Sts) (hpa : Pa c X P w (t :: r) st 0) (hk : t.k ≠ 4) :
    Calls Tryz.prog 85 #[.pointer (some ⟨P, 0, none⟩)] w fun e w' => RA c X P 0 (ruleM c.N (t :: r) st) w e w' := by
  have hPl := hpa.lt
  have hp0 := hpa.alloc (.cells #[.bool false, .int .i64 0, .int .i64 0, .slice none 0 0, .int .i64 0, .int .i64 0, .slice none 0 0] 41)
  have h1 : Calls Tryz.prog 82 #[.pointer (some ⟨P, 0, none⟩), .string ⟨#[98, 114, 101, 97, 107]⟩] (w.alloc (.cells #[.bool false, .int .i64 0, .int .i64 0, .slice none 0 0, .int .i64 0, .int .i64 0, .slice none 0 0] 41)) fun e w' => AnsB (w.alloc (.cells #[.bool false, .int .i64 0, .int .i64 0, .slice none 0 0, .int .i64 0, .int .i64 0, .slice none 0 0] 41)) (tkWord wBreak t) e w' := isWord_ans c _ P _ t r st 0 hp0 wBreak byt_break
  obtain ⟨b, hb⟩ : ∃ b, b = tkWord wBreak t := ⟨_, rfl⟩
  rw [← hb] at h1
  have HBB : Hid (b = tkWord wBreak t) := hb
  obtain ⟨q, hq⟩ : ∃ q, q = ruleM c.N (t :: r) st := ⟨_, rfl⟩
  rw [← hq]
  have HQ : Hid (q = ruleM c.N (t :: r) st) := hq
  have HIR : Hid (Im NoX (w.alloc (.cells #[.bool false, .int .i64 0, .int .i64 0, .slice none 0 0, .int .i64 0, .int .i64 0, .slice none 0 0] 41)) P w.heap.size) := hpa.im_new _
  have HE0 : Hid ((w.alloc (.cells #[.bool false, .int .i64 0, .int .i64 0, .slice none 0 0, .int .i64 0, .int .i64 0, .slice none 0 0] 41)).heap[w.heap.size]? = some (.cells #[.bool false, .int .i64 0, .int .i64 0, .slice none 0 0, .int .i64 0, .int .i64 0, .slice none 0 0] 41 (0, 0))) := heap_new' _ _
  have HF0 : Hid (Fr w.heap.size P w (w.alloc (.cells #[.bool false, .int .i64 0, .int .i64 0, .slice none 0 0, .int .i64 0, .int .i64 0, .slice none 0 0] 41))) := hpa.fr (below_alloc _ _)
  have HSZ : Hid ((w.alloc (.cells #[.bool false, .int .i64 0, .int .i64 0, .slice none 0 0, .int .i64 0, .int .i64 0, .slice none 0 0] 41)).heap.size = w.heap.size + 1) := by show _ = _; simp
  have HP0 : Hid (Pa c (fun k => X k ∨ k = w.heap.size) P (w.alloc (.cells #[.bool false, .int .i64 0, .int .i64 0, .slice none 0 0, .int .i64 0, .int .i64 0, .slice none 0 0] 41)) (t :: r) st 0) := hp0
  clear hb hq hpa hp0
  go_enter Tryz.func85, Tryz.ntmps85
  go_wp2_with fail
  refine h1.mono ?_
  rintro e w1 ⟨rfl, hB1⟩
  have hp1 := HP0.out.below hB1
  have hp2 := hp1.alloc (.cells #[.bool b, .int .i64 0, .int .i64 0, .slice none 0 0, .int .i64 0, .int .i64 0, .slice none 0 0] 41)
  have hIT := hp1.im_new (.cells #[.bool b, .int .i64 0, .int .i64 0, .slice none 0 0, .int .i64 0, .int .i64 0, .slice none 0 0] 41)
  have hET := heap_new' w1 (.cells #[.bool b, .int .i64 0, .int .i64 0, .slice none 0 0, .int .i64 0, .int .i64 0, .slice none 0 0] 41)
  have hf12 := hp1.fr (below_alloc w1 (.cells #[.bool b, .int .i64 0, .int .i64 0, .slice none 0 0, .int .i64 0, .int .i64 0, .slice none 0 0] 41))
  have hf02 := (HP0.out.fr hB1).then hf12 hB1.size
  have h2 : Calls Tryz.prog 113 #[.pointer (some ⟨P, 0, none⟩)] (w1.alloc (.cells #[.bool b, .int .i64 0, .int .i64 0, .slice none 0 0, .int .i64 0, .int .i64 0, .slice none 0 0] 41)) fun e w' => e = .returned (.tuple #[]) ∧ Pa c (fun k => (X k ∨ k = w.heap.size) ∨ k = w1.heap.size) P w' r st 0 ∧ Fr (w1.alloc (.cells #[.bool b, .int .i64 0, .int .i64 0, .slice none 0 0, .int .i64 0, .int .i64 0, .slice none 0 0] 41)).heap.size P (w1.alloc (.cells #[.bool b, .int .i64 0, .int .i64 0, .slice none 0 0, .int .i64 0, .int .i64 0, .slice none 0 0] 41)) w' ∧ w'.heap.size = (w1.alloc (.cells #[.bool b, .int .i64 0, .int .i64 0, .slice none 0 0, .int .i64 0, .int .i64 0, .slice none 0 0] 41)).heap.size := take_any c _ P _ t r st 0 hp2 hk
  have HIT : Hid (Im NoX (w1.alloc (.cells #[.bool b, .int .i64 0, .int .i64 0, .slice none 0 0, .int .i64 0, .int .i64 0, .slice none 0 0] 41)) P w1.heap.size) := hIT
  have HET : Hid ((w1.alloc (.cells #[.bool b, .int .i64 0, .int .i64 0, .slice none 0 0, .int .i64 0, .int .i64 0, .slice none 0 0] 41)).heap[w1.heap.size]? = some (.cells #[.bool b, .int .i64 0, .int .i64 0, .slice none 0 0, .int .i64 0, .int .i64 0, .slice none 0 0] 41 (0, 0))) := hET
  have HF02 : Hid (Fr (w.alloc (.cells #[.bool false, .int .i64 0, .int .i64 0, .slice none 0 0, .int .i64 0, .int .i64 0, .slice none 0 0] 41)).heap.size P (w.alloc (.cells #[.bool false, .int .i64 0, .int .i64 0, .slice none 0 0, .int .i64 0, .int .i64 0, .slice none 0 0] 41)) (w1.alloc (.cells #[.bool b, .int .i64 0, .int .i64 0, .slice none 0 0, .int .i64 0, .int .i64 0, .slice none 0 0] 41))) := hf02
  have hlR : w.heap.size < w1.heap.size := by have := hB1.size; rw [HSZ.out] at this; omega
  clear h1 hB1 hp1 hp2 hIT hET hf12 hf02 HP0
  go_wp2_with fail
  refine h2.mono ?_
  rintro e w3 ⟨rfl, hp3, hf3, hs3⟩
  clear h2 hs3
  have h4 : Calls Tryz.prog 118 #[.pointer (some ⟨P, 0, none⟩), .func (.func 119) #[.pointer (some ⟨P, 0, none⟩)] #[], .string ⟨#[47]⟩] w3 fun e w' => NA c (fun k => (X k ∨ k = w.heap.size) ∨ k = w1.heap.size) P 0 (endN 47 (regexM c.N 20 r st)) w3 e w' := endedN_any c _ P w3 r st 0 _ 47 (by decide) hp3 (regex_any 20 c P r st 0 rfl)
  obtain ⟨q1, hq1⟩ : ∃ q1, q1 = endN 47 (regexM c.N 20 r st) := ⟨_, rfl⟩
  rw [← hq1] at h4
  have HQ1 : Hid (endN 47 (regexM c.N 20 (t :: r).tail st) = q1) := hq1.symm
  have HF3 : Hid (Fr (w.alloc (.cells #[.bool false, .int .i64 0, .int .i64 0, .slice none 0 0, .int .i64 0, .int .i64 0, .slice none 0 0] 41)).heap.size P (w.alloc (.cells #[.bool false, .int .i64 0, .int .i64 0, .slice none 0 0, .int .i64 0, .int .i64 0, .slice none 0 0] 41)) w3) := HF02.out.then hf3 HF02.out.size
  have HT3 : Hid (w3.heap[w1.heap.size]? = some (.cells #[.bool b, .int .i64 0, .int .i64 0, .slice none 0 0, .int .i64 0, .int .i64 0, .slice none 0 0] 41 (0, 0)) ∧ Im NoX w3 P w1.heap.size) := by
    obtain ⟨a1, a2⟩ := hf3.keep _ HIT.out.1 HIT.out
    exact ⟨a1.trans HET.out, a2⟩
  clear hq1 hp3 hf3 HIT HET HF02
  go_wp2_with fail
  refine h4.mono ?_
  rintro e w4 ⟨n, z, x, r2, st2, rfl, hz, hp4, hf4, hx⟩
  obtain ⟨za, zc, rfl, _⟩ := hz.slice
  unfold ndV
  obtain ⟨hT4, hI4⟩ := hf4.keep _ HT3.out.2.1 HT3.out.2
  have hT4' := hT4.trans HT3.out.1
  have hf04 := HF3.out.then hf4 HF3.out.size
  have hPT : P ≠ w1.heap.size := Ne.symm hI4.2.1
  have hW5 : Wr w1.heap.size w4 (((w4.setCell ⟨w1.heap.size, 1, none⟩ (.int .i64 n.k)).setCell ⟨w1.heap.size, 2, none⟩ (.int .i64 n.s)).setCell ⟨w1.heap.size, 3, none⟩ (.slice za n.kids.length zc)) := (((Wr.refl _ w4).set 1 _).set 2 _).set 3 _
  have hE5 : (((w4.setCell ⟨w1.heap.size, 1, none⟩ (.int .i64 n.k)).setCell ⟨w1.heap.size, 2, none⟩ (.int .i64 n.s)).setCell ⟨w1.heap.size, 3, none⟩ (.slice za n.kids.length zc)).heap[w1.heap.size]? = some (.cells #[.bool b, .int .i64 n.k, .int .i64 n.s, .slice za n.kids.length zc, .int .i64 0, .int .i64 0, .slice none 0 0] 41 (0, 0)) := heap_set (heap_set (heap_set hT4' _) _) _
  have hp5 := hp4.wr (B := w1.heap.size) (.inr rfl) hI4 hW5
  have hI5 := hW5.im hPT hI4
  have hlT : w1.heap.size < w4.heap.size := hI4.1
  have hz5 := hz.wr (Y := (fun k => (X k ∨ k = w.heap.size) ∨ k = w1.heap.size)) (lo' := w3.heap.size) (.inr rfl) hPT hW5 (fun _ q => q) (Nat.le_refl _)
  have hfr5 : Fr (w.alloc (.cells #[.bool false, .int .i64 0, .int .i64 0, .slice none 0 0, .int .i64 0, .int .i64 0, .slice none 0 0] 41)).heap.size P (w.alloc (.cells #[.bool false, .int .i64 0, .int .i64 0, .slice none 0 0, .int .i64 0, .int .i64 0, .slice none 0 0] 41)) (((w4.setCell ⟨w1.heap.size, 1, none⟩ (.int .i64 n.k)).setCell ⟨w1.heap.size, 2, none⟩ (.int .i64 n.s)).setCell ⟨w1.heap.size, 3, none⟩ (.slice za n.kids.length zc)) := hf04.trans (hW5.fr (by rw [HSZ.out]; omega) hPT)
  obtain ⟨w5, hw5⟩ : ∃ w5, w5 = (((w4.setCell ⟨w1.heap.size, 1, none⟩ (.int .i64 n.k)).setCell ⟨w1.heap.size, 2, none⟩ (.int .i64 n.s)).setCell ⟨w1.heap.size, 3, none⟩ (.slice za n.kids.length zc)) := ⟨_, rfl⟩
  rw [← hw5] at hE5 hp5 hI5 hz5 hfr5
  have HW5 : Hid ((((w4.setCell ⟨w1.heap.size, 1, none⟩ (.int .i64 n.k)).setCell ⟨w1.heap.size, 2, none⟩ (.int .i64 n.s)).setCell ⟨w1.heap.size, 3, none⟩ (.slice za n.kids.length zc)) = w5) := hw5.symm
  have HS5 : Hid (w5.heap.size = w4.heap.size) := by show _ = _; rw [hw5]; simp [World.setCell]
  have HE5 : Hid (w5.heap[w1.heap.size]? = some (.cells #[.bool b, .int .i64 n.k, .int .i64 n.s, .slice za n.kids.length zc, .int .i64 0, .int .i64 0, .slice none 0 0] 41 (0, 0)) ∧ Im NoX w5 P w1.heap.size) := ⟨hE5, hI5⟩
  have HP5 : Hid (Pa c (fun k => (X k ∨ k = w.heap.size) ∨ k = w1.heap.size) P w5 r2 st2 0) := hp5
  have HZ5 : Hid (KdX (fun k => w3.heap.size ≤ k ∧ Im (fun k => (X k ∨ k = w.heap.size) ∨ k = w1.heap.size) w5 P k) w5 (.slice za n.kids.length zc) n.kids) := hz5
  have HF5 : Hid (Fr (w.alloc (.cells #[.bool false, .int .i64 0, .int .i64 0, .slice none 0 0, .int .i64 0, .int .i64 0, .slice none 0 0] 41)).heap.size P (w.alloc (.cells #[.bool false, .int .i64 0, .int .i64 0, .slice none 0 0, .int .i64 0, .int .i64 0, .slice none 0 0] 41)) w5) := hfr5
  have HSW3 : Hid (w.heap.size ≤ w3.heap.size) := by have := HF3.out.size; rw [HSZ.out] at this; show _ ≤ _; omega
  have HSW4 : Hid (w.heap.size ≤ w5.heap.size) := by have := HF5.out.size; rw [HSZ.out] at this; show _ ≤ _; omega
  
  have FIN : Hid (∀ (w6 : World) (n2 : Nd) (z2 : Value) (y : Int) (r3 : List Tok) (st3 : Sts) (W7 W : World), Fr w5.heap.size P w5 w6 → Pa c (fun k => (X k ∨ k = w.heap.size) ∨ k = w1.heap.size) P w6 r3 st3 0 → KdX (fun k => w.heap.size ≤ k ∧ Im (fun k => (X k ∨ k = w.heap.size) ∨ k = w1.heap.size) w6 P k) w6 z2 n2.kids → Wr w1.heap.size w6 W7 → Wr w.heap.size W7 W → ((y ≠ 0 ∧ q = .inl (r3, y)) ∨ (y = 0 ∧ q = .inr (⟨b, n, n2⟩, r3, st3))) →
      RA c X P 0 q w (.returned (.tuple #[.agg #[.bool b, .int .i64 n.k, .int .i64 n.s, .slice za n.kids.length zc, .int .i64 n2.k, .int .i64 n2.s, z2], .int .i64 y])) W) := fun w6 n2 z2 y r3 st3 W7 W hf6 hp6 hz6 hW7 hW hq6 => by
    obtain ⟨a1, a2⟩ := (HF5.out.then hf6 HF5.out.size).keep w.heap.size (by rw [HSZ.out]; omega) HIR.out
    obtain ⟨b1, b2⟩ := hf6.keep _ HE5.out.2.1 HE5.out.2
    have hPR : P ≠ w.heap.size := Ne.symm a2.2.1
    have hPT : P ≠ w1.heap.size := Ne.symm b2.2.1
    refine ⟨b, n, _, n2, z2, y, r3, st3, rfl, ((HZ5.out.fr hf6).wr (Y := (fun k => (X k ∨ k = w.heap.size) ∨ k = w1.heap.size)) (lo' := w3.heap.size) (.inr rfl) hPT hW7 (fun k q => q) (Nat.le_refl _)).wr (.inl (.inr rfl)) hPR hW (fun k q => .inl (.inl q)) HSW3.out, (hz6.wr (Y := (fun k => (X k ∨ k = w.heap.size) ∨ k = w1.heap.size)) (lo' := w.heap.size) (.inr rfl) hPT hW7 (fun k q => q) (Nat.le_refl _)).wr (.inl (.inr rfl)) hPR hW (fun k q => .inl (.inl q)) (Nat.le_refl _), ((hp6.wr (.inr rfl) b2 hW7).wr (.inl (.inr rfl)) (hW7.im hPT a2) hW).less (fun k q => .inl (.inl q)), ?_, hq6⟩
    exact ((HF0.out.then (HF5.out.then hf6 HF5.out.size) (by rw [HSZ.out]; omega)).trans (hW7.fr (by omega) hPT)).trans (hW.fr (Nat.le_refl _) hPR)
  have ROW : Hid (∀ (w6 : World), Fr w5.heap.size P w5 w6 → w6.heap[w.heap.size]? = some (.cells #[.bool false, .int .i64 0, .int .i64 0, .slice none 0 0, .int .i64 0, .int .i64 0, .slice none 0 0] 41 (0, 0)) ∧ w.heap.size < w6.heap.size) := fun w6 hf6 => by
    obtain ⟨a1, a2⟩ := (HF5.out.then hf6 HF5.out.size).keep w.heap.size (by rw [HSZ.out]; omega) HIR.out
    exact ⟨a1.trans HE0.out, a2.1⟩
  obtain ⟨hR4, _⟩ := (HF3.out.then hf4 HF3.out.size).keep w.heap.size (by rw [HSZ.out]; omega) HIR.out
  have hR4' := hR4.trans HE0.out
  have d0 : w4.cell? ⟨w.heap.size, 0, none⟩ = some (.bool false) := cell_of_row _ _ 0 _ _ _ hR4'
  have df0 : w4.frozen? ⟨w.heap.size, 0, none⟩ = false := frozen_of_row _ _ 0 _ _ hR4'
  have d1 : w4.cell? ⟨w.heap.size, 1, none⟩ = some (.int .i64 0) := cell_of_row _ _ 1 _ _ _ hR4'
  have df1 : w4.frozen? ⟨w.heap.size, 1, none⟩ = false := frozen_of_row _ _ 1 _ _ hR4'
  have d2 : w4.cell? ⟨w.heap.size, 2, none⟩ = some (.int .i64 0) := cell_of_row _ _ 2 _ _ _ hR4'
  have df2 : w4.frozen? ⟨w.heap.size, 2, none⟩ = false := frozen_of_row _ _ 2 _ _ hR4'
  have d3 : w4.cell? ⟨w.heap.size, 3, none⟩ = some (.slice none 0 0) := cell_of_row _ _ 3 _ _ _ hR4'
  have df3 : w4.frozen? ⟨w.heap.size, 3, none⟩ = false := frozen_of_row _ _ 3 _ _ hR4'
  have d4 : w4.cell? ⟨w.heap.size, 4, none⟩ = some (.int .i64 0) := cell_of_row _ _ 4 _ _ _ hR4'
  have df4 : w4.frozen? ⟨w.heap.size, 4, none⟩ = false := frozen_of_row _ _ 4 _ _ hR4'
  have d5 : w4.cell? ⟨w.heap.size, 5, none⟩ = some (.int .i64 0) := cell_of_row _ _ 5 _ _ _ hR4'
  have df5 : w4.frozen? ⟨w.heap.size, 5, none⟩ = false := frozen_of_row _ _ 5 _ _ hR4'
  have d6 : w4.cell? ⟨w.heap.size, 6, none⟩ = some (.slice none 0 0) := cell_of_row _ _ 6 _ _ _ hR4'
  have df6 : w4.frozen? ⟨w.heap.size, 6, none⟩ = false := frozen_of_row _ _ 6 _ _ hR4'
  have t0 : w4.cell? ⟨w1.heap.size, 0, none⟩ = some (.bool b) := cell_of_row _ _ 0 _ _ _ hT4'
  have tf0 : w4.frozen? ⟨w1.heap.size, 0, none⟩ = false := frozen_of_row _ _ 0 _ _ hT4'
  have t1 : w4.cell? ⟨w1.heap.size, 1, none⟩ = some (.int .i64 0) := cell_of_row _ _ 1 _ _ _ hT4'
  have tf1 : w4.frozen? ⟨w1.heap.size, 1, none⟩ = false := frozen_of_row _ _ 1 _ _ hT4'
  have t2 : w4.cell? ⟨w1.heap.size, 2, none⟩ = some (.int .i64 0) := cell_of_row _ _ 2 _ _ _ hT4'
  have tf2 : w4.frozen? ⟨w1.heap.size, 2, none⟩ = false := frozen_of_row _ _ 2 _ _ hT4'
  have t3 : w4.cell? ⟨w1.heap.size, 3, none⟩ = some (.slice none 0 0) := cell_of_row _ _ 3 _ _ _ hT4'
  have tf3 : w4.frozen? ⟨w1.heap.size, 3, none⟩ = false := frozen_of_row _ _ 3 _ _ hT4'
  have t4 : w4.cell? ⟨w1.heap.size, 4, none⟩ = some (.int .i64 0) := cell_of_row _ _ 4 _ _ _ hT4'
  have tf4 : w4.frozen? ⟨w1.heap.size, 4, none⟩ = false := frozen_of_row _ _ 4 _ _ hT4'
  have t5 : w4.cell? ⟨w1.heap.size, 5, none⟩ = some (.int .i64 0) := cell_of_row _ _ 5 _ _ _ hT4'
  have tf5 : w4.frozen? ⟨w1.heap.size, 5, none⟩ = false := frozen_of_row _ _ 5 _ _ hT4'
  have t6 : w4.cell? ⟨w1.heap.size, 6, none⟩ = some (.slice none 0 0) := cell_of_row _ _ 6 _ _ _ hT4'
  have tf6 : w4.frozen? ⟨w1.heap.size, 6, none⟩ = false := frozen_of_row _ _ 6 _ _ hT4'
  have hne : w.heap.size ≠ w1.heap.size := by omega
  have hlR4 : w.heap.size < w4.heap.size := by omega
  rcases hx with ⟨hx, hxq⟩ | ⟨rfl, hxq⟩
  · have hx' : (x == 0) = false := by simpa using hx
    have HE : Hid (q = .inl (r2, x)) := by
      show _ = _
      rw [HQ.out]
      exact ruleM_bad (HQ1.out.trans hxq)
    have HX : Hid (x ≠ 0) := hx
    clear h4 hz hp4 hf4 hT4 hI4 hT4' hf04 hW5 hE5 hp5 hI5 hz5 hfr5 hR4 hR4' hx hxq hw5
    go_wp2
    refine bodyPost_ret (results_row_tmp rfl _ _ w.heap.size 41 #[.bool b, .int .i64 n.k, .int .i64 n.s, .slice za n.kids.length zc, .int .i64 0, .int .i64 0, .slice none 0 0] (0, 0) _ rfl ?_ Tryz.underlying41 rfl (by kernel_rfl)) rfl ?_
    · rw [HW5.out]; exact heap_set (heap_set (heap_set (heap_set (heap_set (heap_set (heap_set (ROW.out w5 (Fr.refl _ _ _)).1 _) _) _) _) _) _) _
    rw [HW5.out]
    exact FIN.out w5 ⟨0, 0, []⟩ (.slice none 0 0) x r2 st2 _ _ (Fr.refl _ _ _) HP5.out (KdX.nil _ _) (Wr.refl _ _) (((((((Wr.refl _ _).set 0 _).set 1 _).set 2 _).set 3 _).set 4 _).set 5 _ |>.set 6 _) (.inl ⟨HX.out, HE.out⟩)
  · have h6 : Calls Tryz.prog 118 #[.pointer (some ⟨P, 0, none⟩), .func (.func 119) #[.pointer (some ⟨P, 0, none⟩)] #[], .string ⟨#[59]⟩] (((w4.setCell ⟨w1.heap.size, 1, none⟩ (.int .i64 n.k)).setCell ⟨w1.heap.size, 2, none⟩ (.int .i64 n.s)).setCell ⟨w1.heap.size, 3, none⟩ (.slice za n.kids.length zc)) fun e w' => NA c (fun k => (X k ∨ k = w.heap.size) ∨ k = w1.heap.size) P 0 (endN 59 (regexM c.N 20 r2 st2)) w5 e w' := by rw [HW5.out]; exact endedN_any c _ P w5 r2 st2 0 _ 59 (by decide) HP5.out (regex_any 20 c P r2 st2 0 rfl)
    obtain ⟨q2, hq2⟩ : ∃ q2, q2 = endN 59 (regexM c.N 20 r2 st2) := ⟨_, rfl⟩
    rw [← hq2] at h6
    have HE : Hid ((∀ e, q2 = .inl e → q = .inl e) ∧ ∀ n2 r3 st3, q2 = .inr (n2, r3, st3) → q = .inr (⟨b, n, n2⟩, r3, st3)) := by
      have h7 := HQ1.out.trans hxq
      refine ⟨fun e he => ?_, fun n2 r3 st3 he => ?_⟩
      · rw [HQ.out]; exact ruleM_bad2 h7 (hq2.symm.trans he)
      · rw [HQ.out, HBB.out]; exact ruleM_good h7 (hq2.symm.trans he)
    clear h4 hz hp4 hf4 hT4 hI4 hT4' hf04 hW5 hE5 hp5 hI5 hz5 hfr5 hR4 hR4' hxq hq2 hw5
    go_wp2_with fail
    refine h6.mono ?_
    rintro e w6 ⟨n2, z2, y, r3, st3, rfl, hz6, hp6, hf6, hy⟩
    obtain ⟨ya, yc, rfl, _⟩ := hz6.slice
    unfold ndV
    obtain ⟨hT6, hI6⟩ := hf6.keep _ HE5.out.2.1 HE5.out.2
    have hT6' := hT6.trans HE5.out.1
    obtain ⟨hR6, hlR6⟩ := ROW.out w6 hf6
    have hlT6 : w1.heap.size < w6.heap.size := hI6.1
    have HYQ : Hid ((y ≠ 0 ∧ q = .inl (r3, y)) ∨ (y = 0 ∧ q = .inr (⟨b, n, n2⟩, r3, st3))) := by
      rcases hy with ⟨a1, a2⟩ | ⟨a1, a2⟩
      · exact .inl ⟨a1, HE.out.1 _ a2⟩
      · exact .inr ⟨a1, HE.out.2 _ _ _ a2⟩
    have hW7 : Wr w1.heap.size w6 (((w6.setCell ⟨w1.heap.size, 4, none⟩ (.int .i64 n2.k)).setCell ⟨w1.heap.size, 5, none⟩ (.int .i64 n2.s)).setCell ⟨w1.heap.size, 6, none⟩ (.slice ya n2.kids.length yc)) := (((Wr.refl _ w6).set 4 _).set 5 _).set 6 _
    have hE7 : (((w6.setCell ⟨w1.heap.size, 4, none⟩ (.int .i64 n2.k)).setCell ⟨w1.heap.size, 5, none⟩ (.int .i64 n2.s)).setCell ⟨w1.heap.size, 6, none⟩ (.slice ya n2.kids.length yc)).heap[w.heap.size]? = some (.cells #[.bool false, .int .i64 0, .int .i64 0, .slice none 0 0, .int .i64 0, .int .i64 0, .slice none 0 0] 41 (0, 0)) := (hW7.block _ (by omega)).trans hR6
    have HE7 : Hid ((((w6.setCell ⟨w1.heap.size, 4, none⟩ (.int .i64 n2.k)).setCell ⟨w1.heap.size, 5, none⟩ (.int .i64 n2.s)).setCell ⟨w1.heap.size, 6, none⟩ (.slice ya n2.kids.length yc)).heap[w.heap.size]? = some (.cells #[.bool false, .int .i64 0, .int .i64 0, .slice none 0 0, .int .i64 0, .int .i64 0, .slice none 0 0] 41 (0, 0))) := hE7
    have HFN : Hid (∀ W, Wr w.heap.size (((w6.setCell ⟨w1.heap.size, 4, none⟩ (.int .i64 n2.k)).setCell ⟨w1.heap.size, 5, none⟩ (.int .i64 n2.s)).setCell ⟨w1.heap.size, 6, none⟩ (.slice ya n2.kids.length yc)) W → RA c X P 0 q w (.returned (.tuple #[.agg #[.bool b, .int .i64 n.k, .int .i64 n.s, .slice za n.kids.length zc, .int .i64 n2.k, .int .i64 n2.s, .slice ya n2.kids.length yc], .int .i64 y])) W) := fun W hW => FIN.out w6 n2 _ y r3 st3 _ W hf6 hp6 (hz6.to (fun k hk => ⟨rfl, by have := hk.1; have := HSW4.out; omega, hk.2⟩)) hW7 hW HYQ.out
    clear h6 d0 d1 d2 d3 d4 d5 d6 df0 df1 df2 df3 df4 df5 df6 t0 t1 t2 t3 t4 t5 t6 tf0 tf1 tf2 tf3 tf4 tf5 tf6
    have d0 : w6.cell? ⟨w.heap.size, 0, none⟩ = some (.bool false) := cell_of_row _ _ 0 _ _ _ hR6
    have df0 : w6.frozen? ⟨w.heap.size, 0, none⟩ = false := frozen_of_row _ _ 0 _ _ hR6
    have d1 : w6.cell? ⟨w.heap.size, 1, none⟩ = some (.int .i64 0) := cell_of_row _ _ 1 _ _ _ hR6
    have df1 : w6.frozen? ⟨w.heap.size, 1, none⟩ = false := frozen_of_row _ _ 1 _ _ hR6
    have d2 : w6.cell? ⟨w.heap.size, 2, none⟩ = some (.int .i64 0) := cell_of_row _ _ 2 _ _ _ hR6
    have df2 : w6.frozen? ⟨w.heap.size, 2, none⟩ = false := frozen_of_row _ _ 2 _ _ hR6
    have d3 : w6.cell? ⟨w.heap.size, 3, none⟩ = some (.slice none 0 0) := cell_of_row _ _ 3 _ _ _ hR6
    have df3 : w6.frozen? ⟨w.heap.size, 3, none⟩ = false := frozen_of_row _ _ 3 _ _ hR6
    have d4 : w6.cell? ⟨w.heap.size, 4, none⟩ = some (.int .i64 0) := cell_of_row _ _ 4 _ _ _ hR6
    have df4 : w6.frozen? ⟨w.heap.size, 4, none⟩ = false := frozen_of_row _ _ 4 _ _ hR6
    have d5 : w6.cell? ⟨w.heap.size, 5, none⟩ = some (.int .i64 0) := cell_of_row _ _ 5 _ _ _ hR6
    have df5 : w6.frozen? ⟨w.heap.size, 5, none⟩ = false := frozen_of_row _ _ 5 _ _ hR6
    have d6 : w6.cell? ⟨w.heap.size, 6, none⟩ = some (.slice none 0 0) := cell_of_row _ _ 6 _ _ _ hR6
    have df6 : w6.frozen? ⟨w.heap.size, 6, none⟩ = false := frozen_of_row _ _ 6 _ _ hR6
    have t0 : w6.cell? ⟨w1.heap.size, 0, none⟩ = some (.bool b) := cell_of_row _ _ 0 _ _ _ hT6'
    have tf0 : w6.frozen? ⟨w1.heap.size, 0, none⟩ = false := frozen_of_row _ _ 0 _ _ hT6'
    have t1 : w6.cell? ⟨w1.heap.size, 1, none⟩ = some (.int .i64 n.k) := cell_of_row _ _ 1 _ _ _ hT6'
    have tf1 : w6.frozen? ⟨w1.heap.size, 1, none⟩ = false := frozen_of_row _ _ 1 _ _ hT6'
    have t2 : w6.cell? ⟨w1.heap.size, 2, none⟩ = some (.int .i64 n.s) := cell_of_row _ _ 2 _ _ _ hT6'
    have tf2 : w6.frozen? ⟨w1.heap.size, 2, none⟩ = false := frozen_of_row _ _ 2 _ _ hT6'
    have t3 : w6.cell? ⟨w1.heap.size, 3, none⟩ = some (.slice za n.kids.length zc) := cell_of_row _ _ 3 _ _ _ hT6'
    have tf3 : w6.frozen? ⟨w1.heap.size, 3, none⟩ = false := frozen_of_row _ _ 3 _ _ hT6'
    have t4 : w6.cell? ⟨w1.heap.size, 4, none⟩ = some (.int .i64 0) := cell_of_row _ _ 4 _ _ _ hT6'
    have tf4 : w6.frozen? ⟨w1.heap.size, 4, none⟩ = false := frozen_of_row _ _ 4 _ _ hT6'
    have t5 : w6.cell? ⟨w1.heap.size, 5, none⟩ = some (.int .i64 0) := cell_of_row _ _ 5 _ _ _ hT6'
    have tf5 : w6.frozen? ⟨w1.heap.size, 5, none⟩ = false := frozen_of_row _ _ 5 _ _ hT6'
    have t6 : w6.cell? ⟨w1.heap.size, 6, none⟩ = some (.slice none 0 0) := cell_of_row _ _ 6 _ _ _ hT6'
    have tf6 : w6.frozen? ⟨w1.heap.size, 6, none⟩ = false := frozen_of_row _ _ 6 _ _ hT6'
    clear hz6 hp6 hf6 hy hT6 hI6 hT6' hR6 hW7 hE7 FIN ROW HE
    go_wp2
    refine bodyPost_ret (results_row_tmp rfl _ _ w.heap.size 41 #[.bool b, .int .i64 n.k, .int .i64 n.s, .slice za n.kids.length zc, .int .i64 n2.k, .int .i64 n2.s, .slice ya n2.kids.length yc] (0, 0) _ rfl ?_ Tryz.underlying41 rfl (by kernel_rfl)) rfl ?_
    · exact heap_set (heap_set (heap_set (heap_set (heap_set (heap_set (heap_set HE7.out _) _) _) _) _) _) _
    exact HFN.out _ ((((((((Wr.refl _ _).set 0 _).set 1 _).set 2 _).set 3 _).set 4 _).set 5 _).set 6 _)
end Go.Proofs.YtfdjchnckjgapaaGreatDoor
