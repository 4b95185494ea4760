/-
  States as machines: the fewest of them, and the first word that tells two apart. Plain mathematics.
-/
import Derived.Test.YtklhjjgnhigbiaaGreatDoorLsLeast
import Derived.Test.YtklhjjgnhigbiaaGreatDoorLsApart
import Derived.Test.YtklhjjgnhigbiaaGreatDoorGG
namespace Go.Proofs.YtklhjjgnhigbiaaGreatDoor
open Go.RowKit
set_option linter.unusedVariables false

def mch (N : List (List Int)) (F : List Bool) : Mach := ⟨N.length, (N.getD 0 []).length, fun s c => ((N.getD s []).getD c 0).toNat, fun s => F.getD s false⟩
/-- The fewest states of the same words. -/
def leN (N : List (List Int)) (F : List Bool) : List (List Int) := intsL (lsN (mch N F))
def leF (N : List (List Int)) (F : List Bool) : List Bool := lsF (mch N F)
def natL (cs : List Int) : List Nat := cs.map Int.toNat
section
variable {N : List (List Int)} {F : List Bool}
theorem mch_ent (h : rightD N F = true) {s c : Nat} (hs : s < N.length) (hc : c < (N.getD 0 []).length) : ∃ q : Nat, q < N.length ∧ (N.getD s []).getD c 0 = (q : Int) ∧ (mch N F).d s c = q := by
  obtain ⟨h1, h2, h3, h4, h5, h6⟩ := rightD_iff.1 h
  obtain ⟨k1, k2⟩ := h6 s hs
  have e : N.getD s [] = N[s] := by rw [List.getD_eq_getElem?_getD, List.getElem?_eq_getElem hs]; rfl
  have hc2 : c < N[s].length := by omega
  have e2 : (N.getD s []).getD c 0 = N[s][c] := by rw [e, List.getD_eq_getElem?_getD, List.getElem?_eq_getElem hc2]; rfl
  have := inB_iff.1 (List.all_eq_true.1 k2 _ (List.getElem_mem hc2))
  refine ⟨N[s][c].toNat, by omega, by rw [e2]; omega, ?_⟩
  show ((N.getD s []).getD c 0).toNat = _
  rw [e2]
theorem mch_ok (h : rightD N F = true) : (mch N F).Ok := by
  refine ⟨(rightD_iff.1 h).1, fun s c hs hc => ?_⟩
  obtain ⟨q, h1, _, h3⟩ := mch_ent h hs hc
  rw [h3]
  exact h1
theorem wd_natL {cs : List Int} (h : cs.all (inB (N.getD 0 []).length) = true) : (mch N F).wd (natL cs) := fun c hc => by
  obtain ⟨x, hx, rfl⟩ := List.mem_map.1 hc
  have := inB_iff.1 (List.all_eq_true.1 h x hx)
  show x.toNat < (N.getD 0 []).length
  omega
theorem run_mch (h : rightD N F = true) : ∀ (cs : List Int) (s : Nat), s < N.length → cs.all (inB (N.getD 0 []).length) = true → runD N (s : Int) cs = (((mch N F).run s (natL cs) : Nat) : Int) ∧ (mch N F).run s (natL cs) < N.length
  | [], s, hs, _ => ⟨rfl, hs⟩
  | c :: cs, s, hs, hc => by
    rw [List.all_cons, Bool.and_eq_true] at hc
    have hc0 := inB_iff.1 hc.1
    obtain ⟨q, h1, h2, h3⟩ := mch_ent h hs (show c.toNat < (N.getD 0 []).length by omega)
    have ih := run_mch h cs q h1 hc.2
    have e1 : stepD N (s : Int) c = (q : Int) := by
      unfold stepD
      rw [Int.toNat_natCast]
      exact h2
    have e2 : (mch N F).run s (natL (c :: cs)) = (mch N F).run q (natL cs) := by
      show (mch N F).run ((mch N F).d s c.toNat) (natL cs) = _
      rw [h3]
    rw [e2]
    refine ⟨?_, ih.2⟩
    show runD N (stepD N (s : Int) c) cs = _
    rw [e1]
    exact ih.1
/-- What a run tells, as the machine has it. -/
theorem runV_mch (h : rightD N F = true) {cs : List Int} (hc : cs.all (inB (N.getD 0 []).length) = true) : ∃ q : Nat, runV N F 0 cs = (q : Int) ∧ runE N F 0 cs = 0 ∧ ∃ hq : q < F.length, F[q] = (mch N F).tk 0 (natL cs) := by
  obtain ⟨h1, h2, h3, h4, h5, h6⟩ := rightD_iff.1 h
  have hok : runOk N F 0 cs = true := by
    unfold runOk
    rw [h, hc]
    simp [inB]; omega
  obtain ⟨k1, k2⟩ := run_mch h cs 0 (by omega) hc
  refine ⟨(mch N F).run 0 (natL cs), ?_, ?_, by omega, ?_⟩
  · unfold runV
    rw [if_pos hok]
    exact k1
  · unfold runE
    rw [if_pos hok]
  · show _ = F.getD _ false
    rw [List.getD_eq_getElem?_getD, List.getElem?_eq_getElem (by omega)]
    rfl
theorem tab_eq (L : List (List Nat)) (G : List Bool) : mch (intsL L) G = tab (L.getD 0 []).length L G := by
  have e : ∀ s, (intsL L).getD s [] = upI (L.getD s []) := fun s => by
    unfold intsL
    rw [List.getD_eq_getElem?_getD, List.getElem?_map, List.getD_eq_getElem?_getD]
    cases L[s]? <;> rfl
  unfold mch tab
  congr 1
  · simp [intsL]
  · rw [e]; simp [upI]
  · funext s c
    rw [e]
    generalize L.getD s [] = r
    unfold upI
    rw [List.getD_eq_getElem?_getD, List.getD_eq_getElem?_getD, List.getElem?_map]
    cases r[c]? <;> rfl
theorem le_k (h : rightD N F = true) : ((lsN (mch N F)).getD 0 []).length = (N.getD 0 []).length := ls_rowl (mch_ok h) (ls_pos (mch_ok h))
theorem le_mch (h : rightD N F = true) : mch (leN N F) (leF N F) = tab (mch N F).k (lsN (mch N F)) (lsF (mch N F)) := by
  show mch (intsL _) _ = _
  rw [tab_eq, le_k h]
  rfl
theorem le_len (h : rightD N F = true) : (leN N F).length = lsm (mch N F) ∧ (leF N F).length = lsm (mch N F) ∧ lsm (mch N F) ≤ N.length := by
  refine ⟨?_, ls_lenF (mch_ok h), (ls_fin (mch_ok h)).2⟩
  show (intsL _).length = _
  unfold intsL
  rw [List.length_map]
  exact ls_lenN (mch_ok h)
theorem le_cls (h : rightD N F = true) : ((leN N F).getD 0 []).length = (N.getD 0 []).length := by
  have := congrArg Mach.k (le_mch h)
  exact this
/-- They may be. -/
theorem le_right (h : rightD N F = true) : rightD (leN N F) (leF N F) = true := by
  obtain ⟨h1, h2, h3, h4, h5, h6⟩ := rightD_iff.1 h
  obtain ⟨l1, l2, l3⟩ := le_len h
  have hp := ls_pos (mch_ok h)
  refine rightD_iff.2 ⟨by omega, by omega, by omega, by rw [le_cls h]; omega, by rw [le_cls h]; omega, fun i hi => ?_⟩
  have hi2 : i < lsm (mch N F) := by omega
  have hi3 : i < (lsN (mch N F)).length := by rw [ls_lenN (mch_ok h)]; exact hi2
  have e : (leN N F)[i] = upI (lsN (mch N F))[i] := by
    show (intsL _)[i] = _
    simp [intsL]
  have e2 : (lsN (mch N F)).getD i [] = (lsN (mch N F))[i] := by rw [List.getD_eq_getElem?_getD, List.getElem?_eq_getElem hi3]; rfl
  have hrl := ls_rowl (mch_ok h) hi2
  rw [e2] at hrl
  rw [le_cls h, l1, e]
  refine ⟨by simp [upI]; exact hrl, List.all_eq_true.2 (fun x hx => ?_)⟩
  obtain ⟨y, hy, rfl⟩ := List.mem_map.1 hx
  obtain ⟨c, hc, rfl⟩ := List.mem_iff_getElem.1 hy
  have := (ls_row (mch_ok h) hi2 (c := c) (by rw [← hrl]; exact hc)).1
  rw [e2, List.getD_eq_getElem?_getD, List.getElem?_eq_getElem hc] at this
  exact inB_iff.2 ⟨by omega, by simpa using this⟩
/-- They have the same words. -/
theorem le_lng (h : rightD N F = true) : Lng (mch N F) (mch (leN N F) (leF N F)) 0 0 := by
  rw [le_mch h]
  exact Lng.symm (M1 := tab (mch N F).k (lsN (mch N F)) (lsF (mch N F))) (M2 := mch N F) rfl (tab_lng (mch_ok h))
/-- The fewest of the fewest are these. -/
theorem le_le (h : rightD N F = true) : leN (leN N F) (leF N F) = leN N F ∧ leF (leN N F) (leF N F) = leF N F := by
  obtain ⟨_, e2, e3⟩ := ls_same (mch_ok h) (mch_ok (le_right h)) (le_cls h).symm (le_lng h)
  exact ⟨by show intsL _ = intsL _; rw [← e2], e3.symm⟩
theorem upI_inj13 {a b : List Nat} (h : upI a = upI b) : a = b := by
  unfold upI at h
  refine List.map_inj_right (fun x y e => ?_) |>.1 h
  exact Int.ofNat.inj e
theorem intsL_inj {a b : List (List Nat)} (h : intsL a = intsL b) : a = b := by
  unfold intsL at h
  exact List.map_inj_right (fun x y e => upI_inj13 e) |>.1 h
end
section
variable {N N' : List (List Int)} {F F' : List Bool}
/-- Two have the same words just if their fewest are the same. -/
theorem le_iff (h : rightD N F = true) (h' : rightD N' F' = true) (hk : (N.getD 0 []).length = (N'.getD 0 []).length) : (leN N F = leN N' F' ∧ leF N F = leF N' F') ↔ apD (mch N F) (mch N' F') = none := by
  rw [apD_none (mch_ok h) (mch_ok h') hk]
  constructor
  · rintro ⟨e1, e2⟩
    exact ls_same' (mch_ok h) (mch_ok h') hk (intsL_inj e1) e2
  · intro e
    obtain ⟨_, e2, e3⟩ := ls_same (mch_ok h) (mch_ok h') hk e
    exact ⟨by show intsL _ = intsL _; rw [e2], e3⟩
/-- What a machine and its fewest tell are alike. -/
theorem le_alike (h : rightD N F = true) : apD (mch N F) (mch (leN N F) (leF N F)) = none := (apD_none (mch_ok h) (mch_ok (le_right h)) (le_cls h).symm).2 (le_lng h)
end
section
variable {M1 M2 : Mach}
/-- Where Final is turned, of the states alone. -/
theorem nt_same (h1 : M1.Ok) (h2 : M2.Ok) (hn : M2.n = M1.n) (hk : M1.k = M2.k) (hd : ∀ s c, s < M1.n → c < M1.k → M2.d s c = M1.d s c) (hf : ∀ s, s < M1.n → M2.f s = !M1.f s) : lsm M1 = lsm M2 ∧ lsN M1 = lsN M2 ∧ lsF M2 = (lsF M1).map (!·) := by
  have hrun : ∀ (w : List Nat) (s : Nat), s < M1.n → M1.wd w → M2.tk s w = !M1.tk s w := by
    intro w
    induction w with
    | nil => intro s hs _; exact hf s hs
    | cons c w ih =>
      intro s hs hw
      obtain ⟨hc, hw'⟩ := wd_cons.1 hw
      show M2.tk (M2.d s c) w = !M1.tk (M1.d s c) w
      rw [hd s c hs hc]
      exact ih _ (h1.cl s c hs hc) hw'
  have hwd : ∀ w, M2.wd w → M1.wd w := fun w hw c hc => by rw [hk]; exact hw c hc
  have hwd2 : ∀ w, M1.wd w → M2.wd w := fun w hw c hc => by rw [← hk]; exact hw c hc
  have halk : ∀ s t, s < M1.n → t < M1.n → (alk M1 s t ↔ alk M2 s t) := fun s t hs ht => by
    constructor
    · intro e w hw
      rw [hrun w s hs (hwd w hw), hrun w t ht (hwd w hw), e w (hwd w hw)]
    · intro e w hw
      have := e w (hwd2 w hw)
      rw [hrun w s hs hw, hrun w t ht hw] at this
      simpa using this
  have hrep : ∀ s, s < M1.n → rep M2 s = rep M1 s := fun s hs => by
    have hs2 : s < M2.n := by omega
    obtain ⟨a1, a2, a3⟩ := rep_spec (M := M1) (r := M1.n) hs
    obtain ⟨b1, b2, b3⟩ := rep_spec (M := M2) (r := M2.n) hs2
    show repR M2 M2.n s = repR M1 M1.n s
    rcases Nat.lt_trichotomy (repR M2 M2.n s) (repR M1 M1.n s) with q | q | q
    · have k1 := a3 _ q
      have k2 := (halk _ _ (by omega) hs).2 ((alk_iff h2 (by omega) hs2).1 b2)
      rw [(alk_iff h1 (by omega) hs).2 k2] at k1
      cases k1
    · exact q
    · have k1 := b3 _ q
      have k2 := (halk _ _ (by omega) hs).1 ((alk_iff h1 (by omega) hs).1 a2)
      rw [(alk_iff h2 (by omega) hs2).2 k2] at k1
      cases k1
  let R : Nat → Nat → Prop := fun a b => a = b ∧ a < M1.n
  have hR : ∀ a b a' b', R a b → R a' b' → (a = a' ↔ b = b') := by
    rintro a b a' b' ⟨rfl, _⟩ ⟨rfl, _⟩
    exact Iff.rfl
  have h0 : R (rep M1 0) (rep M2 0) := ⟨(hrep 0 h1.ne).symm, rep_lt h1.ne⟩
  have hs : ∀ a b c, R a b → c < M1.k → R (nxr M1 a c) (nxr M2 b c) := by
    rintro a b c ⟨rfl, ha⟩ hc
    refine ⟨?_, nxr_lt h1 ha hc⟩
    show rep M1 (M1.d a c) = rep M2 (M2.d a c)
    rw [hd a c ha hc, hrep _ (h1.cl a c ha hc)]
  have f1 := (ls_fin h1).1
  have f2 := (ls_fin h2).1
  rw [← hk] at f2
  have em : lsm M1 = lsm M2 := (gfin_iso hR h0 hs f1).one f2
  obtain ⟨k1, k2, _⟩ := gbf_iso hR h0 hs (lsm M1) f1.1
  refine ⟨em, ?_, ?_⟩
  · show (gbf _ _ _ _).N = (gbf _ _ _ _).N
    rw [k2, hk, em]
  · have e2 : (lsG M2).S = (gbf (nxr M2) M1.k (rep M2 0) (lsm M1)).S := by unfold lsG; rw [hk, em]
    unfold lsF
    rw [e2, List.map_map]
    refine List.ext_getElem (by simp only [List.length_map]; exact k1.1.symm) (fun i p1 p2 => ?_)
    simp only [List.getElem_map]
    have p1' : i < (gbf (nxr M2) M1.k (rep M2 0) (lsm M1)).S.length := by rw [List.length_map] at p1; exact p1
    have p2' : i < (gbf (nxr M1) M1.k (rep M1 0) (lsm M1)).S.length := by rw [List.length_map] at p2; exact p2
    obtain ⟨q1, q2⟩ := k1.2 i p2' p1'
    rw [← q1]
    exact hf _ q2
end
theorem le_not {N : List (List Int)} {F : List Bool} (h : rightD N F = true) : rightD N (F.map (!·)) = true ∧ leN N (F.map (!·)) = leN N F ∧ leF N (F.map (!·)) = (leF N F).map (!·) := by
  obtain ⟨h1, h2, h3, h4, h5, h6⟩ := rightD_iff.1 h
  have hr : rightD N (F.map (!·)) = true := rightD_iff.2 ⟨h1, h2, by rw [List.length_map]; exact h3, h4, h5, h6⟩
  obtain ⟨_, e2, e3⟩ := nt_same (mch_ok h) (mch_ok hr) rfl rfl (fun s c _ _ => rfl) (fun s hs => by
    have hs2 : s < F.length := by rw [h3]; exact hs
    show (F.map (!·)).getD s false = !(F.getD s false)
    rw [List.getD_eq_getElem?_getD, List.getElem?_map, List.getD_eq_getElem?_getD, List.getElem?_eq_getElem hs2]
    rfl)
  exact ⟨hr, by show intsL _ = intsL _; rw [e2], e3⟩
end Go.Proofs.YtklhjjgnhigbiaaGreatDoor
