/-
  The six sorts of steps are steps.
-/
import Derived.Test.YtklhjjgnhigbiaaGreatDoorMtNew
namespace Go.Proofs.YtklhjjgnhigbiaaGreatDoor
open Go.RowKit Go.Shelf
set_option linter.unusedVariables false

theorem overL_mem {ws : List Nat} {s : Int} {l : List Nat} {p : Nat} : p ∈ overL ws s l ↔ ∃ q ∈ l, relS ws s q p := by
  unfold overL relS
  rw [List.mem_map]
  constructor
  · rintro ⟨q, hq, rfl⟩
    rw [List.mem_filter] at hq
    exact ⟨q, hq.1, rfl, hq.2⟩
  · rintro ⟨q, hq, rfl, hb⟩
    exact ⟨q, List.mem_filter.2 ⟨hq, hb⟩, rfl⟩
theorem overL_ris {ws : List Nat} {s : Int} {l : List Nat} (h : Ris ws.length l) : Ris ws.length (overL ws s l) := by
  refine ⟨?_, fun p hp => ?_⟩
  · unfold overL
    rw [List.pairwise_map]
    exact (h.1.sublist List.filter_sublist).imp (fun h => by omega)
  · obtain ⟨q, _, rfl, hb⟩ := overL_mem.1 hp
    have := bitW_lt hb
    omega

def overD (b0 lo hi b1 b2 : Nat) (wv : Value) (ws : List Nat) (s : Int) : Sd :=
  ⟨85, #[.pointer (some ⟨b1, 0, none⟩), .pointer (some ⟨b2, 0, none⟩)], lo, hi, relS ws s, fun W S => hi ≤ W.heap.size ∧ W.cell? ⟨b1, 0, none⟩ = some wv ∧ W.cell? ⟨b2, 0, none⟩ = some (.int .i64 s) ∧ WrdAt b0 W wv ws⟩
theorem over_ok {b0 lo hi b1 b2 : Nat} {wv : Value} {ws : List Nat} {k : Nat} (hk : k < 64) (hL : ws.length < 64) (hb : b0 ≤ lo) (hlh : lo ≤ hi) (h1 : lo ≤ b1 ∧ b1 < hi) (h2 : lo ≤ b2 ∧ b2 < hi) : (overD b0 lo hi b1 b2 wv ws (k : Int)).ok ws.length b0 where
  ent := enters_of Tryz.func85 (by kernel_rfl) rfl
  size := fun w S h => h.1
  keep := fun w w' S h hk hs => ⟨Nat.le_trans h.1 hs, (World.cell?_of_block (a := ⟨b1, _, none⟩) (hk b1 (.inr h1))).trans h.2.1, (World.cell?_of_block (a := ⟨b2, _, none⟩) (hk b2 (.inr h2))).trans h.2.2.1, h.2.2.2.to (fun k hk2 => hk k (.inl hk2)) (Nat.le_refl _)⟩
  call := fun w S v l B hI hB hBs hv hr => by
    have hI2 : hi ≤ w.heap.size ∧ w.cell? ⟨b1, 0, none⟩ = some wv ∧ w.cell? ⟨b2, 0, none⟩ = some (.int .i64 (k : Int)) ∧ WrdAt b0 w wv ws := hI
    have hB' : hi ≤ B := hB
    refine Calls.mono (over_any b1 b2 wv ws k l v w b0 B ws.length hI2.2.1 hI2.2.2.1 hk (hI2.2.2.2.to (fun k _ => rfl) (by omega)) hv hr hL) ?_
    rintro e w' ⟨v', rfl, ho, hb2⟩
    refine ⟨v', _, rfl, plc_of_row ho hBs, overL_ris hr, ?_, FrI.of hb2 (by show lo ≤ _; omega), fun p hp => overL_mem.1 hp, fun q hq p hR => .inl (overL_mem.2 ⟨q, hq, hR⟩)⟩
    exact ⟨by have := hb2.size; omega, (hb2.cell (p := ⟨b1, 0, none⟩) (by show b1 < _; omega)).trans hI2.2.1, (hb2.cell (p := ⟨b2, 0, none⟩) (by show b2 < _; omega)).trans hI2.2.2.1, hI2.2.2.2.to (fun k hk2 => hb2.block k (by omega)) (Nat.le_refl _)⟩

def stayD (lo : Nat) : Sd := ⟨77, #[], lo, lo, fun q p => p = q, fun W S => lo ≤ W.heap.size⟩
theorem stay_any (v : Value) (w : World) (a : Option Addr) (n c : Nat) (hv : v = .slice a n c) : Calls Tryz.prog 77 #[v] w fun e w' => e = .returned v ∧ w' = w := by
  subst hv
  go_enter Tryz.func77, Tryz.ntmps77
  go_wp2
  go_ret
  exact ⟨rfl, rfl⟩
theorem stay_ok {L b0 lo : Nat} : (stayD lo).ok L b0 where
  ent := enters_of Tryz.func77 (by kernel_rfl) rfl
  size := fun w S h => h
  keep := fun w w' S h hk hs => Nat.le_trans h hs
  call := fun w S v l B hI hB hBs hv hr => by
    obtain ⟨a, c, e, _⟩ := hv.slice
    refine Calls.mono (stay_any v w a l.length c e) ?_
    rintro e w' ⟨rfl, rfl⟩
    exact ⟨v, l, rfl, hv, hr, hI, FrI.refl _ _ _, fun p hp => ⟨p, hp, rfl⟩, fun q hq p hR => .inl (by rw [show p = q from hR]; exact hq)⟩

def joinD (lo hi b1 b2 g cap : Nat) (D : List Sd) : Sd :=
  ⟨86, #[.pointer (some ⟨b1, 0, none⟩), .pointer (some ⟨b2, 0, none⟩)], lo, hi, fun q p => ∃ d ∈ D, d.R q p, IJn lo hi b1 b2 g cap D⟩
theorem join_ok {L b0 lo hi b1 b2 g cap : Nat} {D : List Sd} (hL : L < 64) (F : Fam L b0 lo hi D) (f1 : Free lo hi D b1) (f2 : Free lo hi D b2) (f3 : Free lo hi D g) (hcap : D.length ≤ cap) (hDl : D.length ≤ 1000000) : (joinD lo hi b1 b2 g cap D).ok L b0 where
  ent := enters_of Tryz.func86 (by kernel_rfl) rfl
  size := fun w S h => h.1
  keep := fun w w' S h hk hs => ⟨Nat.le_trans h.1 hs, (World.cell?_of_block (a := ⟨b1, _, none⟩) (hk b1 (.inr f1.1))).trans h.2.1, (World.cell?_of_block (a := ⟨b2, _, none⟩) (hk b2 (.inr f2.1))).trans h.2.2.1, h.2.2.2.1.to (hk g (.inr f3.1)), fun d hd => (F.ok d hd).keep w w' S (h.2.2.2.2 d hd) (fun k hk2 => hk k (hk2.imp id (fun q => by
    have := F.le d hd
    show lo ≤ k ∧ k < hi
    omega))) hs⟩
  call := fun w S v l B hI hB hBs hv hr => joined_call hL F f1 f2 f3 hcap hDl w S v l B hI hB hBs hv hr

def turnD (lo hi b1 g cap : Nat) (D : List Sd) : Sd := ⟨92, #[.pointer (some ⟨b1, 0, none⟩)], lo, hi, Rcat D, ITn lo hi b1 g cap D⟩
theorem turn_ok {L b0 lo hi b1 g cap : Nat} {D : List Sd} (F : Fam L b0 lo hi D) (f1 : Free lo hi D b1) (f3 : Free lo hi D g) (hcap : D.length ≤ cap) (hDl : D.length ≤ 1000000) : (turnD lo hi b1 g cap D).ok L b0 where
  ent := enters_of Tryz.func92 (by kernel_rfl) rfl
  size := fun w S h => h.1
  keep := fun w w' S h hk hs => ⟨Nat.le_trans h.1 hs, (World.cell?_of_block (a := ⟨b1, _, none⟩) (hk b1 (.inr f1.1))).trans h.2.1, h.2.2.1.to (hk g (.inr f3.1)), fun j hj => (F.ok _ (List.getElem_mem hj)).keep w w' _ (h.2.2.2 j hj) (fun k hk2 => hk k (hk2.imp id (fun q => by
    have := F.le _ (List.getElem_mem hj)
    show lo ≤ k ∧ k < hi
    omega))) hs⟩
  call := fun w S v l B hI hB hBs hv hr => inTurn_call F f1 f3 hcap hDl w S v l B hI hB hBs hv hr

def againD (lo hi b1 b2 mb : Nat) (d : Sd) : Sd := ⟨88, #[.pointer (some ⟨b1, 0, none⟩), .pointer (some ⟨b2, 0, none⟩)], lo, hi, Pl d.R, IAg hi b1 b2 mb d⟩
theorem again_ok {L b0 lo hi b1 b2 mb : Nat} {d : Sd} (hL : L < 64) (F : Fam L b0 lo hi [d]) (f1 : Free lo hi [d] b1) (f2 : Free lo hi [d] b2) (f3 : Free lo hi [d] mb) (hn1 : b1 ≠ mb) (hn2 : b2 ≠ mb) : (againD lo hi b1 b2 mb d).ok L b0 where
  ent := enters_of Tryz.func88 (by kernel_rfl) rfl
  size := fun w S h => h.1
  keep := fun w w' S h hk hs => by
    obtain ⟨h0, h1, h2, m, h3, h4, h5, h6⟩ := h
    refine ⟨Nat.le_trans h0 hs, (World.cell?_of_block (a := ⟨b1, _, none⟩) (hk b1 (.inr f1.1))).trans h1, (World.cell?_of_block (a := ⟨b2, _, none⟩) (hk b2 (.inr f2.1))).trans h2, m, h3, (hk mb (.inr f3.1)).trans h4, h5, ?_⟩
    have := F.le d (by simp)
    exact (F.ok d (by simp)).keep w w' _ h6 (fun k hk2 => hk k (hk2.imp id (fun q => by
      show lo ≤ k ∧ k < hi
      omega))) hs
  call := fun w S v l B hI hB hBs hv hr => again_call hL F f1 f2 f3 hn1 hn2 w S v l B hI hB hBs hv hr

/-- The beginning: taken from nowhere. -/
def S0 : Nat → Prop := fun _ => False
theorem chS_none (D : List Sd) : ∀ i, chS D S0 i = S0
  | 0 => rfl
  | i + 1 => by
    rw [chS, chS_none D i]
    funext p
    simp [ImgS, S0]
theorem again_start {hi b1 b2 mb : Nat} {d : Sd} {w : World} (h0 : hi ≤ w.heap.size) (h1 : w.cell? ⟨b1, 0, none⟩ = some (.slice (some ⟨mb, 0, none⟩) 1 1)) (h2 : w.cell? ⟨b2, 0, none⟩ = some (funV d)) (h3 : MkAt w mb 0) (h4 : d.I w S0) : IAg hi b1 b2 mb d w S0 := by
  have e : (fun x => (0 : Nat).testBit x = true) = S0 := by funext x; simp [S0]
  exact ⟨h0, h1, h2, 0, by decide, h3, fun x => by simp [ClS, S0], by rw [e]; exact h4⟩

/-- The relations of parts. -/
theorem relA_of {ws : List Nat} : ∀ {l : List Nd} {D : List Sd}, D.map Sd.R = l.map (relN ws) → (fun q p => ∃ d ∈ D, d.R q p) = relA ws l
  | [], [], _ => by funext q p; rw [relA]; simp
  | [], _ :: _, h => by simp at h
  | _ :: _, [], h => by simp at h
  | x :: l, d :: D, h => by
    simp only [List.map_cons, List.cons.injEq] at h
    have ih := relA_of (ws := ws) h.2
    funext q p
    rw [relA]
    show _ = (relN ws x q p ∨ relA ws l q p)
    rw [← ih, ← h.1]
    simp
theorem chS_cons (d : Sd) (D : List Sd) (S : Nat → Prop) : ∀ i, chS (d :: D) S (i + 1) = chS D (ImgS d.R S) i
  | 0 => rfl
  | i + 1 => by
    have ih := chS_cons d D S i
    show ImgS _ (chS (d :: D) S (i + 1)) = ImgS _ (chS D (ImgS d.R S) i)
    rw [ih]; rfl
theorem relC_of {ws : List Nat} : ∀ {l : List Nd} {D : List Sd}, D.map Sd.R = l.map (relN ws) → Rcat D = relC ws l
  | [], [], _ => by funext q p; rw [relC]; rfl
  | [], _ :: _, h => by simp at h
  | _ :: _, [], h => by simp at h
  | x :: l, d :: D, h => by
    simp only [List.map_cons, List.cons.injEq] at h
    have ih := relC_of (ws := ws) h.2
    funext q p
    rw [relC]
    show chS (d :: D) (fun y => y = q) (D.length + 1) p = (∃ m, relN ws x q m ∧ relC ws l m p)
    rw [chS_cons, ← ih, ← h.1]
    apply propext
    rw [chS_iff]
    unfold ImgS Rcat
    constructor
    · rintro ⟨m, ⟨y, rfl, a⟩, b⟩; exact ⟨m, a, b⟩
    · rintro ⟨m, a, b⟩; exact ⟨m, ⟨q, rfl, a⟩, b⟩
end Go.Proofs.YtklhjjgnhigbiaaGreatDoor
