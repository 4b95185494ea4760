/-
  Steps in memory: what a step keeps, and what it tells.
-/
import Derived.Test.YtklhjjgnhigbiaaGreatDoorMtJoin
import Derived.Shelf.Abstract
namespace Go.Proofs.YtklhjjgnhigbiaaGreatDoor
open Go.RowKit Go.Shelf
set_option linter.unusedVariables false

def SU (S : Nat → Prop) (l : List Nat) : Nat → Prop := fun x => S x ∨ x ∈ l
/-- What a step, taken from the places l behind those of S, tells: the places l'. -/
def Tells (R : Nat → Nat → Prop) (S : Nat → Prop) (l l' : List Nat) : Prop :=
  (∀ p ∈ l', ∃ q ∈ l, R q p) ∧ ∀ q ∈ l, ∀ p, R q p → p ∈ l' ∨ ∃ q', S q' ∧ R q' p
/-- The function fn with caps is a step along R; I tells from where it was taken; its memory is lo .. hi. -/
structure StepT (fn : Nat) (caps : Array Value) (L b0 lo hi : Nat) (R : Nat → Nat → Prop) (I : World → (Nat → Prop) → Prop) : Prop where
  ent : ∀ args w, (callFunc fn args).run Tryz.prog w = .ok (.enter fn args) w
  size : ∀ w S, I w S → hi ≤ w.heap.size
  keep : ∀ w w' S, I w S → (∀ k, k < b0 ∨ (lo ≤ k ∧ k < hi) → w'.heap[k]? = w.heap[k]?) → w.heap.size ≤ w'.heap.size → I w' S
  call : ∀ w S v l B, I w S → hi ≤ B → B ≤ w.heap.size → PlcAt b0 B w v l → Ris L l → Calls Tryz.prog fn (#[v] ++ caps) w fun e w' => ∃ v' l', e = .returned v' ∧ PlcAt b0 B w' v' l' ∧ Ris L l' ∧ I w' (SU S l) ∧ FrI lo hi w w' ∧ Tells R S l l'
/-- A step with all that belongs to it. -/
structure Sd where
  fn : Nat
  caps : Array Value
  lo : Nat
  hi : Nat
  R : Nat → Nat → Prop
  I : World → (Nat → Prop) → Prop
def funV (d : Sd) : Value := .func (.func d.fn) #[] d.caps
def Sd.ok (L b0 : Nat) (d : Sd) : Prop := StepT d.fn d.caps L b0 d.lo d.hi d.R d.I
theorem Sd.below {L b0 : Nat} {d : Sd} (h : d.ok L b0) {w w' : World} {S : Nat → Prop} (hI : d.I w S) (hb : b0 ≤ w.heap.size) (hB : Below w.heap.size w w') : d.I w' S :=
  h.keep w w' S hI (fun k hk => hB.block k (hk.elim (fun q => Nat.lt_of_lt_of_le q hb) (fun q => Nat.lt_of_lt_of_le q.2 (h.size w S hI)))) hB.size
theorem Sd.other {L b0 : Nat} {d : Sd} (h : d.ok L b0) {w w' : World} {S : Nat → Prop} {lo hi : Nat} (hI : d.I w S) (hf : FrI lo hi w w') (hb : b0 ≤ lo) (ha : d.hi ≤ lo ∨ hi ≤ d.lo) : d.I w' S := by
  have hs := h.size w S hI
  refine h.keep w w' S hI (fun k hk => hf.block ?_) hf.size
  rcases hk with q | q
  · exact .inl (by omega)
  · rcases ha with a | a
    · exact .inl (by omega)
    · exact .inr ⟨by omega, by omega⟩
/-- Steps side by side within lo .. hi. -/
structure Fam (L b0 lo hi : Nat) (D : List Sd) : Prop where
  base : b0 ≤ lo
  ok : ∀ d ∈ D, d.ok L b0
  le : ∀ d ∈ D, lo ≤ d.lo ∧ d.lo ≤ d.hi ∧ d.hi ≤ hi
  apart : D.Pairwise fun a b => a.hi ≤ b.lo
/-- A block in lo .. hi of none of them. -/
def Free (lo hi : Nat) (D : List Sd) (k : Nat) : Prop := (lo ≤ k ∧ k < hi) ∧ ∀ d ∈ D, k < d.lo ∨ d.hi ≤ k
theorem Free.fr {lo hi k : Nat} {D : List Sd} (h : Free lo hi D k) {d : Sd} (hd : d ∈ D) {w w' : World} (hf : FrI d.lo d.hi w w') (hs : hi ≤ w.heap.size) : w'.heap[k]? = w.heap[k]? := by
  have := h.1
  rcases h.2 d hd with q | q
  · exact hf.block (.inl q)
  · exact hf.block (.inr ⟨q, by omega⟩)
/-- The steps' values in memory. -/
def PrtIn (w : World) (g : Nat) (D : List Sd) : Prop := ∀ i, (h : i < D.length) → w.cell? ⟨g, i, none⟩ = some (funV D[i])
theorem PrtIn.to {w w' : World} {g : Nat} {D : List Sd} (h : PrtIn w g D) (hb : w'.heap[g]? = w.heap[g]?) : PrtIn w' g D := fun i hi => (World.cell?_of_block (a := ⟨g, _, none⟩) hb).trans (h i hi)

/-- Of the steps D the first i have been taken from l, too. -/
def Now (D : List Sd) (w : World) (S : Nat → Prop) (l : List Nat) (i : Nat) : Prop := ∀ j, (h : j < D.length) → D[j].I w (if j < i then SU S l else S)
theorem Now.below {L b0 lo hi : Nat} {D : List Sd} (F : Fam L b0 lo hi D) {w w' : World} {S : Nat → Prop} {l : List Nat} {i : Nat} (h : Now D w S l i) (hb : b0 ≤ w.heap.size) (hB : Below w.heap.size w w') : Now D w' S l i := fun j hj =>
  Sd.below (F.ok _ (List.getElem_mem hj)) (h j hj) hb hB
theorem Now.step {L b0 lo hi : Nat} {D : List Sd} (F : Fam L b0 lo hi D) {w w' : World} {S : Nat → Prop} {l : List Nat} {i : Nat} (h : Now D w S l i) (hi' : i < D.length) (hI : D[i].I w' (SU S l)) (hf : FrI D[i].lo D[i].hi w w') : Now D w' S l (i + 1) := fun j hj => by
  by_cases e : j = i
  · subst e
    rw [if_pos (by omega)]; exact hI
  · have hap := F.apart
    rw [List.pairwise_iff_getElem] at hap
    have hh := h j hj
    have hle := F.le _ (List.getElem_mem hi')
    have hb := F.base
    have e2 : (if j < i + 1 then SU S l else S) = (if j < i then SU S l else S) := by
      by_cases q : j < i
      · rw [if_pos q, if_pos (by omega)]
      · rw [if_neg q, if_neg (by omega)]
    rw [e2]
    refine Sd.other (F.ok _ (List.getElem_mem hj)) hh hf (by omega) ?_
    rcases Nat.lt_or_gt_of_ne e with q | q
    · exact .inl (hap j i hj hi' q)
    · exact .inr (hap i j hi' hj q)

/-- A step of several that are taken from the same places. -/
def IJn (lo hi b1 b2 g cap : Nat) (D : List Sd) (w : World) (S : Nat → Prop) : Prop :=
  hi ≤ w.heap.size ∧ w.cell? ⟨b1, 0, none⟩ = some (.slice (some ⟨g, 0, none⟩) D.length cap) ∧ w.cell? ⟨b2, 0, none⟩ = some (.func (.func 76) #[] #[]) ∧ PrtIn w g D ∧ ∀ d ∈ D, d.I w S

theorem enters_join : ∀ args w, (callFunc 76 args).run Tryz.prog w = .ok (.enter 76 args) w := enters_of Tryz.func76 (by kernel_rfl) rfl

set_option maxRecDepth 100000 in
set_option maxHeartbeats 8000000 in
theorem joined_call {L b0 lo hi b1 b2 g cap : Nat} {D : List Sd} (hL : L < 64) (F : Fam L b0 lo hi D) (f1 : Free lo hi D b1) (f2 : Free lo hi D b2) (f3 : Free lo hi D g) (hcap : D.length ≤ cap) (hDl : D.length ≤ 1000000)
    (w : World) (S : Nat → Prop) (v : Value) (l : List Nat) (B : Nat) (hI : IJn lo hi b1 b2 g cap D w S) (hB : hi ≤ B) (hBs : B ≤ w.heap.size) (hv : PlcAt b0 B w v l) (hr : Ris L l) :
    Calls Tryz.prog 86 #[v, .pointer (some ⟨b1, 0, none⟩), .pointer (some ⟨b2, 0, none⟩)] w fun e w' => ∃ v' l', e = .returned v' ∧ PlcAt b0 B w' v' l' ∧ Ris L l' ∧ IJn lo hi b1 b2 g cap D w' (SU S l) ∧ FrI lo hi w w' ∧ Tells (fun q p => ∃ d ∈ D, d.R q p) S l l' := by
  obtain ⟨h0, h1, h2, h3, h4⟩ := hI
  have hF := F
  obtain ⟨len, hlen⟩ : ∃ len, len = D.length := ⟨_, rfl⟩
  rw [← hlen] at h1 hcap hDl
  have HLEN : Hid (len = D.length) := hlen
  have HF : Hid (Fam L b0 lo hi D) := F
  have HV : Hid (PlcAt b0 B w v l) := hv
  have HR : Hid (Ris L l) := hr
  have H4 : Hid (Now D w S l 0) := fun j hj => h4 _ (List.getElem_mem hj)
  have HP : Hid (PrtIn w g D) := h3
  obtain ⟨va, vc, rfl, hvc⟩ := hv.slice
  obtain ⟨ll, hll⟩ : ∃ n, n = l.length := ⟨_, rfl⟩
  rw [← hll] at HV hvc ⊢
  have HC1 : Hid (w.cell? ⟨b1, 0, none⟩ = some (.slice (some ⟨g, 0, none⟩) len cap)) := h1
  have HC2 : Hid (w.cell? ⟨b2, 0, none⟩ = some (.func (.func 76) #[] #[])) := h2
  have eg := enters_join
  clear hF h3 h4 hlen hr hv hll
  go_enter Tryz.func86, Tryz.ntmps86
  go_wp2
  go_loopw [5, 10] (fun x5 x10 wr => ∃ (j : Nat) (tl : List Nat), j ≤ len ∧ x10 = .int .i64 (j : Int) ∧ Hid (PlcAt b0 B wr x5 tl) ∧ Hid (Ris L tl) ∧ Hid (Now D wr S l j) ∧ Hid (FrI lo hi w wr) ∧ Hid (PrtIn wr g D) ∧ wr.cell? ⟨b2, 0, none⟩ = some (.func (.func 76) #[] #[]) ∧ Hid (wr.cell? ⟨b1, 0, none⟩ = some (.slice (some ⟨g, 0, none⟩) len cap)) ∧ Hid (Tells (fun q p => ∃ d ∈ D.take j, d.R q p) S l tl)) (fun _ x10 _ => len - (intOf x10).toNat)
  case atStart => exact ⟨0, [], Nat.zero_le _, rfl, PlcAt.nil _ _ _, Ris.nil _, H4, FrI.refl _ _ _, HP, HC2.out, HC1, (⟨fun p hp => (by cases hp), fun q hq p ⟨d, hd, _⟩ => by simp at hd⟩)⟩
  case round =>
    obtain ⟨j, tl, hj, rfl, HT, HTR, HN, HFR, HPR, c2, HC1', HTL⟩ := hrel
    have hws : w.heap.size ≤ wr.heap.size := HFR.out.size
    by_cases hjl : j < len
    · have hjn : j < D.length := by rw [← HLEN.out]; exact hjl
      have cp : wr.cell? ⟨g, j, none⟩ = some (funV D[j]) := HPR.out j hjn
      obtain ⟨d, hd⟩ : ∃ d, d = D[j] := ⟨_, rfl⟩
      have HD : Hid (d = D[j]) := hd
      have hdm : d ∈ D := by rw [hd]; exact List.getElem_mem hjn
      have hok : d.ok L b0 := HF.out.ok d hdm
      have hle := HF.out.le d hdm
      have hdI : d.I wr S := by
        have := HN.out j hjn
        rw [if_neg (by omega), ← hd] at this
        exact this
      have HVr : Hid (PlcAt b0 B wr (.slice va ll vc) l) := HV.out.fr HFR.out hB HF.out.base
      have eg1 := hok.ent
      obtain ⟨fn, hfn⟩ : ∃ x, x = d.fn := ⟨_, rfl⟩
      obtain ⟨caps, hcaps⟩ : ∃ x, x = d.caps := ⟨_, rfl⟩
      rw [← hd] at cp
      unfold funV at cp
      rw [← hfn, ← hcaps] at cp
      rw [← hfn] at eg1
      have HCALL : Hid (∀ W, Below wr.heap.size wr W → Calls Tryz.prog fn (#[.slice va ll vc] ++ caps) W fun e w' => ∃ v' l', e = .returned v' ∧ PlcAt b0 B w' v' l' ∧ Ris L l' ∧ d.I w' (SU S l) ∧ FrI d.lo d.hi W w' ∧ Tells d.R S l l') := fun W hW => by
        rw [hfn, hcaps]
        exact hok.call W S _ l B (Sd.below hok hdI (by have := HF.out.base; omega) hW) (by omega) (by have := hW.size; omega) (HVr.out.below hW) HR.out
      have HFD : Hid (∀ k, Free lo hi D k → ∀ W w', Below wr.heap.size wr W → FrI d.lo d.hi W w' → w'.heap[k]? = wr.heap[k]?) := fun k hk W w' hW hf => (hk.fr hdm hf (by have := hW.size; omega)).trans (hW.block k (by have := hk.1; omega))
      have HKEEP : Hid (∀ W w', Below wr.heap.size wr W → FrI d.lo d.hi W w' → w'.cell? ⟨b2, 0, none⟩ = some (.func (.func 76) #[] #[])) := fun W w' hW hf => (World.cell?_of_block (a := ⟨b2, _, none⟩) (HFD.out b2 f2 W w' hW hf)).trans c2
      have HKEEP2 : Hid (∀ W w' w'', Below wr.heap.size wr W → FrI d.lo d.hi W w' → Below w'.heap.size w' w'' → w''.cell? ⟨b2, 0, none⟩ = some (.func (.func 76) #[] #[])) := fun W w' w'' hW hf hb => (hb.cell (p := ⟨b2, 0, none⟩) (by have h1 := hW.size; have h2 := hf.size; have h3 := f2.1; show b2 < _; omega)).trans (HKEEP.out W w' hW hf)
      have HSZ : Hid (∀ W w', Below wr.heap.size wr W → FrI d.lo d.hi W w' → wr.heap.size ≤ w'.heap.size) := fun W w' hW hf => Nat.le_trans hW.size hf.size
      have HTT : Hid (∀ W w', Below wr.heap.size wr W → FrI d.lo d.hi W w' → PlcAt b0 B w' u5 tl) := fun W w' hW hf => (HT.out.below hW).fr hf (by omega) (by have := HF.out.base; omega)
      clear hfn hcaps hd hok hdI hdm
      go_wp2
      go_region_held3 (fun w' => w'.cell? ⟨b2, 0, none⟩ = some (.func (.func 76) #[] #[])) (first | go_keep | exact HKEEP.out _ _ (by exact below_drewN' (Below.refl _ _) 1) hf1 | exact HKEEP2.out _ _ _ (by exact below_drewN' (Below.refl _ _) 1) hf1 hB2) ((first | (go_at_call 76; refine (join_any tl l1 u5 v1 w1 b0 B L (HTT.out _ _ (by exact below_drewN' (Below.refl _ _) 1) hf1) hp1 HTR.out hr1 hL (by have := HSZ.out _ _ (by exact below_drewN' (Below.refl _ _) 1) hf1; omega)).mono ?_; rintro e w2 ⟨v2, rfl, hp2, hB2⟩) | (refine (HCALL.out _ (by exact below_drewN' (Below.refl _ _) 1)).mono ?_; rintro e w1 ⟨v1, l1, rfl, hp1, hr1, hi1, hf1, ht1⟩)))
      have hBW : Below wr.heap.size wr (wr.drewN 1) := below_drewN' (Below.refl _ _) 1
      have HF2 : Hid (FrI lo hi wr w2) := ((FrI.of hBW (by omega)).trans (hf1.wide hle.1 hle.2.2)).trans (FrI.of hB2 (by have := HSZ.out _ _ hBW hf1; omega))
      have HN2 : Hid (Now D w2 S l (j + 1)) := by
        have hb0 := HF.out.base
        have h1 := HN.out.below HF.out (by omega) hBW
        have h2 : Now D w1 S l (j + 1) := h1.step HF.out hjn (by rw [← HD.out]; exact hi1) (by rw [← HD.out]; exact hf1)
        exact h2.below HF.out (by have := HSZ.out _ _ hBW hf1; omega) hB2
      have HBL : Hid (∀ k, Free lo hi D k → w2.heap[k]? = wr.heap[k]?) := fun k hk => (hB2.block k (by have := hk.1; have := HSZ.out _ _ hBW hf1; omega)).trans (HFD.out k hk _ _ hBW hf1)
      have HT2 : Hid (Tells (fun q p => ∃ d ∈ D.take (j + 1), d.R q p) S l (mergeL tl l1)) := by
        have e : D.take (j + 1) = D.take j ++ [d] := by rw [List.take_add_one, List.getElem?_eq_getElem hjn, HD.out]; rfl
        have h1 := HTL.out
        rw [e]
        refine ⟨fun p hp => ?_, fun q hq p ⟨x, hx, hR⟩ => ?_⟩
        · rcases (mergeL_mem _ _ _).1 hp with h | h
          · obtain ⟨q, hq, x, hx, hR⟩ := h1.1 p h
            exact ⟨q, hq, x, by simp [hx], hR⟩
          · obtain ⟨q, hq, hR⟩ := ht1.1 p h
            exact ⟨q, hq, d, by simp, hR⟩
        · rw [mergeL_mem]
          rcases List.mem_append.1 hx with h | h
          · rcases h1.2 q hq p ⟨x, h, hR⟩ with h | ⟨q', h2, y, hy, h3⟩
            · exact .inl (.inl h)
            · exact .inr ⟨q', h2, y, by simp [hy], h3⟩
          · obtain rfl : x = d := by simpa using h
            rcases ht1.2 q hq p hR with h | ⟨q', h2, h3⟩
            · exact .inl (.inr h)
            · exact .inr ⟨q', h2, x, by simp, h3⟩
      have c2' : w2.cell? ⟨b2, 0, none⟩ = some (.func (.func 76) #[] #[]) := (World.cell?_of_block (a := ⟨b2, _, none⟩) (HBL.out b2 f2)).trans c2
      have HC1'' : Hid (w2.cell? ⟨b1, 0, none⟩ = some (.slice (some ⟨g, 0, none⟩) len cap)) := (World.cell?_of_block (a := ⟨b1, _, none⟩) (HBL.out b1 f1)).trans HC1'.out
      have HPR2 : Hid (PrtIn w2 g D) := HPR.out.to (HBL.out g f3)
      have HRM : Hid (Ris L (mergeL tl l1)) := mergeL_ris _ _ HTR.out hr1
      have HP2 : Hid (PlcAt b0 B w2 v2 (mergeL tl l1)) := hp2
      clear hp1 hr1 hi1 hf1 ht1 hp2 hB2 hBW
      go_wp2
      go_roundw
      case rel => exact ⟨j + 1, mergeL tl l1, by omega, by go_num, HP2, HRM, HN2, HFR.out.trans HF2.out, HPR2, c2', HC1'', HT2⟩
      case measure => simp [intOf]; omega
    · obtain rfl : j = len := by omega
      have HTF : Hid (Tells (fun q p => ∃ d ∈ D, d.R q p) S l tl) := by
        have := HTL.out
        rw [List.take_of_length_le (by rw [← HLEN.out]; exact Nat.le_refl _)] at this
        exact this
      go_wp2
      go_ret
      refine ⟨_, tl, rfl, HT.out, HTR.out, ⟨by omega, ?_, c2, HPR.out, fun d hd => ?_⟩, HFR.out, HTF.out⟩
      · rw [← HLEN.out]; exact HC1'.out
      · obtain ⟨i, hi, rfl⟩ := List.getElem_of_mem hd
        have := HN.out i hi
        rw [if_pos (by have := HLEN.out; omega)] at this
        exact this
end Go.Proofs.YtklhjjgnhigbiaaGreatDoor
