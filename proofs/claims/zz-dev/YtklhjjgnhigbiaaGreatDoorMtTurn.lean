/-
  Steps taken one behind the other.
-/
import Derived.Test.YtklhjjgnhigbiaaGreatDoorMtStep
namespace Go.Proofs.YtklhjjgnhigbiaaGreatDoor
open Go.RowKit Go.Shelf
set_option linter.unusedVariables false

def ImgS (R : Nat → Nat → Prop) (S : Nat → Prop) : Nat → Prop := fun p => ∃ q, S q ∧ R q p
/-- To where the first i steps lead. -/
def chS (D : List Sd) (S : Nat → Prop) : Nat → (Nat → Prop)
  | 0 => S
  | i + 1 => ImgS (match D[i]? with | some d => d.R | none => fun _ _ => False) (chS D S i)
theorem chS_succ {D : List Sd} {S : Nat → Prop} {i : Nat} (h : i < D.length) : chS D S (i + 1) = ImgS D[i].R (chS D S i) := by
  rw [chS, List.getElem?_eq_getElem h]
theorem chS_iff (D : List Sd) (S : Nat → Prop) : ∀ (i : Nat) (p : Nat), chS D S i p ↔ ∃ q, S q ∧ chS D (fun x => x = q) i p
  | 0, p => by
    simp only [chS]
    exact ⟨fun h => ⟨p, h, rfl⟩, fun ⟨q, h, e⟩ => by rw [e]; exact h⟩
  | i + 1, p => by
    simp only [chS, ImgS]
    constructor
    · rintro ⟨m, h1, h2⟩
      obtain ⟨q, h3, h4⟩ := (chS_iff D S i m).1 h1
      exact ⟨q, h3, m, h4, h2⟩
    · rintro ⟨q, h3, m, h4, h2⟩
      exact ⟨m, (chS_iff D S i m).2 ⟨q, h3, h4⟩, h2⟩
theorem chS_congr {D : List Sd} {S T : Nat → Prop} {j : Nat} (h : chS D S j = chS D T j) : ∀ k, j ≤ k → chS D S k = chS D T k := by
  intro k hk
  induction k with
  | zero => obtain rfl : j = 0 := by omega
            exact h
  | succ k ih =>
    by_cases e : j = k + 1
    · rw [← e]; exact h
    · simp only [chS]; rw [ih (by omega)]
def Rcat (D : List Sd) (q p : Nat) : Prop := chS D (fun x => x = q) D.length p

def ITn (lo hi b1 g cap : Nat) (D : List Sd) (w : World) (S : Nat → Prop) : Prop :=
  hi ≤ w.heap.size ∧ w.cell? ⟨b1, 0, none⟩ = some (.slice (some ⟨g, 0, none⟩) D.length cap) ∧ PrtIn w g D ∧ ∀ j, (h : j < D.length) → D[j].I w (chS D S j)
/-- Of the steps D the first i have been taken, from where the ones ahead led to, too. -/
def Nch (D : List Sd) (w : World) (S : Nat → Prop) (l : List Nat) (i : Nat) : Prop := ∀ j, (h : j < D.length) → D[j].I w (if j < i then chS D (SU S l) j else chS D S j)
theorem Nch.step {L b0 lo hi : Nat} {D : List Sd} (F : Fam L b0 lo hi D) {w w' : World} {S : Nat → Prop} {l : List Nat} {i : Nat} (h : Nch D w S l i) (hi' : i < D.length) (hI : D[i].I w' (chS D (SU S l) i)) (hf : FrI D[i].lo D[i].hi w w') : Nch D w' S l (i + 1) := fun j hj => by
  by_cases e : j = i
  · subst e
    rw [if_pos (by omega)]; exact hI
  · have hap := F.apart
    rw [List.pairwise_iff_getElem] at hap
    have hh := h j hj
    have hle := F.le _ (List.getElem_mem hi')
    have hb := F.base
    have e2 : (if j < i + 1 then chS D (SU S l) j else chS D S j) = (if j < i then chS D (SU S l) j else chS D S j) := by
      by_cases q : j < i
      · rw [if_pos q, if_pos (by omega)]
      · rw [if_neg q, if_neg (by omega)]
    rw [e2]
    refine Sd.other (F.ok _ (List.getElem_mem hj)) hh hf (by omega) ?_
    rcases Nat.lt_or_gt_of_ne e with q | q
    · exact .inl (hap j i hj hi' q)
    · exact .inr (hap i j hi' hj q)
/-- All of it, once no place is left. -/
theorem tells_cat {D : List Sd} {S : Nat → Prop} {l l' : List Nat} (he : chS D (SU S l) D.length = SU (chS D S D.length) l') (hs : ∀ p ∈ l', chS D (fun x => x ∈ l) D.length p) : Tells (Rcat D) S l l' := by
  refine ⟨fun p hp => ?_, fun q hq p hR => ?_⟩
  · obtain ⟨q, hq, h⟩ := (chS_iff _ _ _ _).1 (hs p hp)
    exact ⟨q, hq, h⟩
  · have h1 : chS D (SU S l) D.length p := (chS_iff _ _ _ _).2 ⟨q, .inr hq, hR⟩
    rw [he] at h1
    rcases h1 with h | h
    · obtain ⟨q', h2, h3⟩ := (chS_iff _ _ _ _).1 h
      exact .inr ⟨q', h2, h3⟩
    · exact .inl h

set_option maxRecDepth 100000 in
set_option maxHeartbeats 8000000 in
theorem inTurn_call {L b0 lo hi b1 g cap : Nat} {D : List Sd} (F : Fam L b0 lo hi D) (f1 : Free lo hi D b1) (f3 : Free lo hi D g) (hcap : D.length ≤ cap) (hDl : D.length ≤ 1000000)
    (w : World) (S : Nat → Prop) (v : Value) (l : List Nat) (B : Nat) (hI : ITn lo hi b1 g cap D w S) (hB : hi ≤ B) (hBs : B ≤ w.heap.size) (hv : PlcAt b0 B w v l) (hr : Ris L l) :
    Calls Tryz.prog 92 #[v, .pointer (some ⟨b1, 0, none⟩)] w fun e w' => ∃ v' l', e = .returned v' ∧ PlcAt b0 B w' v' l' ∧ Ris L l' ∧ ITn lo hi b1 g cap D w' (SU S l) ∧ FrI lo hi w w' ∧ Tells (Rcat D) S l l' := by
  obtain ⟨h0, h1, h3, h4⟩ := hI
  obtain ⟨len, hlen⟩ : ∃ len, len = D.length := ⟨_, rfl⟩
  rw [← hlen] at h1 hcap hDl
  have HLEN : Hid (len = D.length) := hlen
  have HF : Hid (Fam L b0 lo hi D) := F
  have HV : Hid (PlcAt b0 B w v l) := hv
  have HR : Hid (Ris L l) := hr
  have H4 : Hid (Nch D w S l 0) := fun j hj => h4 j hj
  have HP : Hid (PrtIn w g D) := h3
  have HC1 : Hid (w.cell? ⟨b1, 0, none⟩ = some (.slice (some ⟨g, 0, none⟩) len cap)) := h1
  clear h3 h4 hlen hr hv F
  go_enter Tryz.func92, Tryz.ntmps92
  go_wp2
  go_loopw [0, 8] (fun x0 x8 wr => ∃ (j : Nat) (tl : List Nat), j ≤ len ∧ x8 = .int .i64 (j : Int) ∧ Hid (PlcAt b0 B wr x0 tl) ∧ Hid (Ris L tl) ∧ Hid (Nch D wr S l j) ∧ Hid (FrI lo hi w wr) ∧ Hid (PrtIn wr g D) ∧ Hid (wr.cell? ⟨b1, 0, none⟩ = some (.slice (some ⟨g, 0, none⟩) len cap)) ∧ Hid (chS D (SU S l) j = SU (chS D S j) tl) ∧ Hid (∀ p ∈ tl, chS D (fun x => x ∈ l) j p)) (fun _ x8 _ => len - (intOf x8).toNat)
  case atStart => exact ⟨0, l, Nat.zero_le _, rfl, HV, HR, H4, FrI.refl _ _ _, HP, HC1, rfl, fun p hp => hp⟩
  case round =>
    obtain ⟨j, tl, hj, rfl, HT, HTR, HN, HFR, HPR, HC1', HEQ, HSO⟩ := hrel
    have hws : w.heap.size ≤ wr.heap.size := HFR.out.size
    obtain ⟨va, vc, rfl, hvc⟩ := HT.out.slice
    have HEND : Hid (∀ (hfin : chS D (SU S l) D.length = SU (chS D S D.length) tl) (hso : ∀ p ∈ tl, chS D (fun x => x ∈ l) D.length p) (hn : Nch D wr S l D.length), ∃ v' l', (Ending.returned (.slice va tl.length vc) : Ending) = .returned v' ∧ PlcAt b0 B wr v' l' ∧ Ris L l' ∧ ITn lo hi b1 g cap D wr (SU S l) ∧ FrI lo hi w wr ∧ Tells (Rcat D) S l l') := fun hfin hso hn => by
      refine ⟨_, tl, rfl, HT.out, HTR.out, ⟨by omega, by rw [← HLEN.out]; exact HC1'.out, HPR.out, fun i hi => ?_⟩, HFR.out, tells_cat hfin hso⟩
      have := hn i hi
      rw [if_pos hi] at this
      exact this
    by_cases hjl : j < len
    · have hjn : j < D.length := by rw [← HLEN.out]; exact hjl
      have cp : wr.cell? ⟨g, j, none⟩ = some (funV D[j]) := HPR.out j hjn
      cases tl with
      | nil =>
        have HFIN : Hid (∀ k, j ≤ k → chS D (SU S l) k = chS D S k) := by
          have := HEQ.out
          exact chS_congr (this.trans (by funext x; simp [SU]))
        have hend := HEND.out (by rw [HFIN.out D.length (by omega)]; funext x; simp [SU]) (fun p hp => by cases hp) (fun i hi => by
          have := HN.out i hi
          rw [if_pos hi]
          by_cases q : i < j
          · rwa [if_pos q] at this
          · rw [if_neg q] at this
            rw [HFIN.out i (by omega)]; exact this)
        have HE : Hid (∃ v' l', (Ending.returned (.slice va 0 vc) : Ending) = .returned v' ∧ PlcAt b0 B wr v' l' ∧ Ris L l' ∧ ITn lo hi b1 g cap D wr (SU S l) ∧ FrI lo hi w wr ∧ Tells (Rcat D) S l l') := hend
        unfold funV at cp
        clear hend
        go_wp2
        go_ret
        exact HE.out
      | cons y tl =>
        obtain ⟨d, hd⟩ : ∃ d, d = D[j] := ⟨_, rfl⟩
        have HD : Hid (d = D[j]) := hd
        have hdm : d ∈ D := by rw [hd]; exact List.getElem_mem hjn
        have hok : d.ok L b0 := HF.out.ok d hdm
        have hle := HF.out.le d hdm
        have hdI : d.I wr (chS D S j) := by
          have := HN.out j hjn
          rw [if_neg (by omega), ← hd] at this
          exact this
        have eg1 := hok.ent
        obtain ⟨fn, hfn⟩ : ∃ x, x = d.fn := ⟨_, rfl⟩
        obtain ⟨caps, hcaps⟩ : ∃ x, x = d.caps := ⟨_, rfl⟩
        rw [← hd] at cp
        unfold funV at cp
        rw [← hfn, ← hcaps] at cp
        rw [← hfn] at eg1
        have hcall : Calls Tryz.prog fn (#[.slice va (tl.length + 1) vc] ++ caps) wr fun e w' => ∃ v' l', e = .returned v' ∧ PlcAt b0 B w' v' l' ∧ Ris L l' ∧ d.I w' (SU (chS D S j) (y :: tl)) ∧ FrI d.lo d.hi wr w' ∧ Tells d.R (chS D S j) (y :: tl) l' := by
          rw [hfn, hcaps]
          exact hok.call wr _ _ _ B hdI (by omega) (by omega) HT.out HTR.out
        have hne : ((tl.length : Int) + 1 == 0) = false := by simp; omega
        have HFD : Hid (∀ k, Free lo hi D k → ∀ w', FrI d.lo d.hi wr w' → w'.heap[k]? = wr.heap[k]?) := fun k hk w' hf => hk.fr hdm hf (by omega)
        clear hfn hcaps hd hok hdI hdm
        go_wp2_with fail
        refine hcall.mono ?_
        rintro e w1 ⟨v1, l1, rfl, hp1, hr1, hi1, hf1, ht1⟩
        have HEQ2 : Hid (chS D (SU S l) (j + 1) = SU (chS D S (j + 1)) l1) := by
          show _ = _
          rw [chS_succ hjn, chS_succ hjn, HEQ.out, ← HD.out]
          funext p
          apply propext
          constructor
          · rintro ⟨q, h | h, hR⟩
            · exact .inl ⟨q, h, hR⟩
            · rcases ht1.2 q h p hR with h2 | ⟨q', h2, h3⟩
              · exact .inr h2
              · exact .inl ⟨q', h2, h3⟩
          · rintro (⟨q, h, hR⟩ | h)
            · exact ⟨q, .inl h, hR⟩
            · obtain ⟨q, hq, hR⟩ := ht1.1 p h
              exact ⟨q, .inr hq, hR⟩
        have HSO2 : Hid (∀ p ∈ l1, chS D (fun x => x ∈ l) (j + 1) p) := fun p hp => by
          obtain ⟨q, hq, hR⟩ := ht1.1 p hp
          rw [chS_succ hjn]
          exact ⟨q, HSO.out q hq, by rw [← HD.out]; exact hR⟩
        have HN2 : Hid (Nch D w1 S l (j + 1)) := HN.out.step HF.out hjn (by rw [HEQ.out, ← HD.out]; exact hi1) (by rw [← HD.out]; exact hf1)
        have HF2 : Hid (FrI lo hi w w1) := HFR.out.trans (hf1.wide hle.1 hle.2.2)
        have HC1'' : Hid (w1.cell? ⟨b1, 0, none⟩ = some (.slice (some ⟨g, 0, none⟩) len cap)) := (World.cell?_of_block (a := ⟨b1, _, none⟩) (HFD.out b1 f1 _ hf1)).trans HC1'.out
        have HPR2 : Hid (PrtIn w1 g D) := HPR.out.to (HFD.out g f3 _ hf1)
        have HP1 : Hid (PlcAt b0 B w1 v1 l1) := hp1
        have HR1 : Hid (Ris L l1) := hr1
        clear hcall hp1 hr1 hi1 hf1 ht1 cp
        go_wp2
        go_roundw
        case rel => exact ⟨j + 1, l1, by omega, by go_num, HP1, HR1, HN2, HF2, HPR2, HC1'', HEQ2, HSO2⟩
        case measure => simp [intOf]; omega
    · obtain rfl : j = len := by omega
      have hend := HEND.out (by rw [← HLEN.out]; exact HEQ.out) (by rw [← HLEN.out]; exact HSO.out) (by rw [← HLEN.out]; exact HN.out)
      have HE : Hid (∃ v' l', (Ending.returned (.slice va tl.length vc) : Ending) = .returned v' ∧ PlcAt b0 B wr v' l' ∧ Ris L l' ∧ ITn lo hi b1 g cap D wr (SU S l) ∧ FrI lo hi w wr ∧ Tells (Rcat D) S l l') := hend
      clear hend
      go_wp2
      go_ret
      exact HE.out
end Go.Proofs.YtklhjjgnhigbiaaGreatDoor
