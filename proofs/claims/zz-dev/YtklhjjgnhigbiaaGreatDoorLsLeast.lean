/-
  The fewest states of the same words: the least of those that are alike, as they are met. Plain mathematics.
-/
import Derived.Test.YtklhjjgnhigbiaaGreatDoorLsMach
import Derived.Test.YtklhjjgnhigbiaaGreatDoorLsBfs
namespace Go.Proofs.YtklhjjgnhigbiaaGreatDoor
set_option linter.unusedVariables false

theorem nodup_inj {l : List Nat} (h : l.Nodup) {i j : Nat} (hi : i < l.length) (hj : j < l.length) (e : l[i] = l[j]) : i = j := by
  rcases Nat.lt_trichotomy i j with q | q | q
  · exact absurd e (List.pairwise_iff_getElem.1 h i j hi hj q)
  · exact q
  · exact absurd e.symm (List.pairwise_iff_getElem.1 h j i hj hi q)
def nxr (M : Mach) (a c : Nat) : Nat := rep M (M.d a c)
def lsm (M : Mach) : Nat := gend (nxr M) M.k (rep M 0) M.n 0
def lsG (M : Mach) : Gst := gbf (nxr M) M.k (rep M 0) (lsm M)
/-- The rows, and which are final. -/
def lsN (M : Mach) : List (List Nat) := (lsG M).N
def lsF (M : Mach) : List Bool := (lsG M).S.map M.f
/-- The machine that rows are. -/
def tab (k : Nat) (N : List (List Nat)) (F : List Bool) : Mach := ⟨N.length, k, fun s c => (N.getD s []).getD c 0, fun s => F.getD s false⟩
/-- Two machines' states that take the same words. -/
def Lng (M1 M2 : Mach) (a b : Nat) : Prop := ∀ w, M1.wd w → M1.tk a w = M2.tk b w
section
variable {M : Mach}
theorem nxr_lt (h : M.Ok) {a c : Nat} (ha : a < M.n) (hc : c < M.k) : nxr M a c < M.n := rep_lt (h.cl a c ha hc)
theorem ls_fin (h : M.Ok) : Gfin (nxr M) M.k (rep M 0) (lsm M) ∧ lsm M ≤ M.n := by
  obtain ⟨m, h1, h2⟩ := gfin_ex (nx := nxr M) (k := M.k) (rep_lt (M := M) h.ne) (fun a c => nxr_lt h)
  have e : lsm M = m := gend_fin h2 M.n 0 (Nat.zero_le _) (by omega)
  rw [e]
  exact ⟨h2, h1⟩
theorem ls_len (h : M.Ok) : (lsG M).S.length = lsm M := (ls_fin h).1.len
theorem ls_pos (h : M.Ok) : 0 < lsm M := by
  have := (List.getElem?_eq_some_iff.1 (gbf_first (nx := nxr M) (k := M.k) (a0 := rep M 0) (lsm M))).1
  have h2 := ls_len h
  unfold lsG at h2
  omega
theorem ls_first (h : M.Ok) : (lsG M).S.getD 0 0 = rep M 0 := by
  rw [List.getD_eq_getElem?_getD]
  unfold lsG
  rw [gbf_first]
  rfl
theorem ls_lenN (h : M.Ok) : (lsN M).length = lsm M := gbf_N _
theorem ls_lenF (h : M.Ok) : (lsF M).length = lsm M := by unfold lsF; rw [List.length_map]; exact ls_len h
theorem ls_F {s : Nat} (h : M.Ok) (hs : s < lsm M) : (lsF M).getD s false = M.f ((lsG M).S.getD s 0) := by
  have hl : s < (lsG M).S.length := by rw [ls_len h]; exact hs
  unfold lsF
  rw [List.getD_eq_getElem?_getD, List.getElem?_map, List.getElem?_eq_getElem hl, List.getD_eq_getElem?_getD, List.getElem?_eq_getElem hl]
  rfl
/-- Each of them is the least of those that are alike it. -/
theorem ls_mem (h : M.Ok) : ∀ x ∈ (lsG M).S, x < M.n ∧ rep M x = x := fun x hx => by
  refine ⟨gbf_lt (rep_lt (M := M) h.ne) (fun a c => nxr_lt h) _ (ls_fin h).1.1 x hx, ?_⟩
  have key : ∀ j, Vg (nxr M) M.k (rep M 0) j → ∀ x ∈ (gbf (nxr M) M.k (rep M 0) j).S, rep M x = x := by
    intro j
    induction j with
    | zero =>
      intro _ x hx
      have : x = rep M 0 := List.mem_singleton.1 hx
      subst this
      exact rep_id h.ne
    | succ j ih =>
      intro hv x hx
      rcases rowG_mem _ _ M.k x (show x ∈ (rowG (nxr M) ((gbf (nxr M) M.k (rep M 0) j).S.getD j 0) (gbf (nxr M) M.k (rep M 0) j).S M.k).2 from hx) with q | ⟨c, hc, rfl⟩
      · exact ih (hv.le (by omega)) x q
      · have hj := hv j (by omega)
        refine rep_id (h.cl _ _ (gbf_lt (rep_lt (M := M) h.ne) (fun a c => nxr_lt h) j (hv.le (by omega)) _ ?_) hc)
        rw [List.getD_eq_getElem?_getD, List.getElem?_eq_getElem hj]
        exact List.getElem_mem hj
  exact key _ (ls_fin h).1.1 x hx
theorem ls_at (h : M.Ok) {s : Nat} (hs : s < lsm M) : (lsG M).S.getD s 0 < M.n ∧ rep M ((lsG M).S.getD s 0) = (lsG M).S.getD s 0 := by
  have hl : s < (lsG M).S.length := by rw [ls_len h]; exact hs
  refine ls_mem h _ ?_
  rw [List.getD_eq_getElem?_getD, List.getElem?_eq_getElem hl]
  exact List.getElem_mem hl
/-- The rows lead as the states do. -/
theorem ls_row (h : M.Ok) {s c : Nat} (hs : s < lsm M) (hc : c < M.k) : ((lsN M).getD s []).getD c 0 < lsm M ∧ (lsG M).S.getD (((lsN M).getD s []).getD c 0) 0 = nxr M ((lsG M).S.getD s 0) c := by
  obtain ⟨q, hq, h1, h2, h3⟩ := gfin_row (ls_fin h).1 hs hc
  have e1 : (lsN M).getD s [] = (rowG (nxr M) ((lsG M).S.getD s 0) (gbf (nxr M) M.k (rep M 0) s).S M.k).1 := by
    rw [List.getD_eq_getElem?_getD]
    show ((gbf (nxr M) M.k (rep M 0) (lsm M)).N[s]?).getD [] = _
    rw [h1]; rfl
  have e2 : ((lsN M).getD s []).getD c 0 = q := by
    rw [e1, List.getD_eq_getElem?_getD]
    show ((rowG (nxr M) ((gbf (nxr M) M.k (rep M 0) (lsm M)).S.getD s 0) (gbf (nxr M) M.k (rep M 0) s).S M.k).1[c]?).getD 0 = q
    rw [h2]; rfl
  rw [e2]
  exact ⟨hq, h3⟩
theorem ls_rowl (h : M.Ok) {s : Nat} (hs : s < lsm M) : ((lsN M).getD s []).length = M.k := by
  by_cases hk : M.k = 0
  · have key : ∀ j, ∀ r ∈ (gbf (nxr M) M.k (rep M 0) j).N, r.length = M.k := by
      intro j
      induction j with
      | zero => intro r hr; cases hr
      | succ j ih =>
        intro r hr
        rcases List.mem_append.1 (show r ∈ (gbf (nxr M) M.k (rep M 0) j).N ++ [_] from hr) with q | q
        · exact ih r q
        · rw [List.mem_singleton.1 q]; exact rowG_len _ _ _
    have hl : s < (lsN M).length := by rw [ls_lenN h]; exact hs
    rw [List.getD_eq_getElem?_getD, List.getElem?_eq_getElem hl]
    exact key _ _ (List.getElem_mem hl)
  · obtain ⟨q, hq, h1, h2, h3⟩ := gfin_row (ls_fin h).1 hs (show 0 < M.k by omega)
    rw [List.getD_eq_getElem?_getD]
    show (((gbf (nxr M) M.k (rep M 0) (lsm M)).N[s]?).getD []).length = _
    rw [h1]
    exact rowG_len _ _ _
theorem f_rep (h : M.Ok) {s : Nat} (hs : s < M.n) : M.f (rep M s) = M.f s := rep_alk h hs [] wd_nil
theorem tab_ok (h : M.Ok) : (tab M.k (lsN M) (lsF M)).Ok := ⟨by show 0 < (lsN M).length; rw [ls_lenN h]; exact ls_pos h, fun s c hs hc => by
  have hs' : s < lsm M := by rw [← ls_lenN h]; exact hs
  show _ < (lsN M).length
  rw [ls_lenN h]
  exact (ls_row h hs' hc).1⟩
theorem nxr_rep (h : M.Ok) {x c : Nat} (hx : x < M.n) (hc : c < M.k) : nxr M (rep M x) c = nxr M x c := (rep_iff h (h.cl _ _ (rep_lt hx) hc) (h.cl _ _ hx hc)).2 (alk_step h hc (rep_alk h hx))
/-- Each of the fewest takes the words of the state that it is. -/
theorem tab_tk (h : M.Ok) : ∀ (w : List Nat) (s : Nat), s < lsm M → M.wd w → (tab M.k (lsN M) (lsF M)).tk s w = M.tk ((lsG M).S.getD s 0) w
  | [], s, hs, _ => ls_F h hs
  | c :: w, s, hs, hw => by
    obtain ⟨hc, hw'⟩ := wd_cons.1 hw
    obtain ⟨h1, h2⟩ := ls_row h hs hc
    have ih := tab_tk h w _ h1 hw'
    show (tab M.k (lsN M) (lsF M)).tk (((lsN M).getD s []).getD c 0) w = M.tk (M.d ((lsG M).S.getD s 0) c) w
    rw [ih, h2]
    exact rep_alk h (h.cl _ _ (ls_at h hs).1 hc) w hw'
/-- The fewest have the same words. -/
theorem tab_lng (h : M.Ok) : Lng (tab M.k (lsN M) (lsF M)) M 0 0 := fun w hw => by
  rw [tab_tk h w 0 (ls_pos h) hw, ls_first h]
  exact rep_alk h h.ne w hw
/-- No two of the fewest are alike. -/
theorem tab_apart (h : M.Ok) {s t : Nat} (hs : s < lsm M) (ht : t < lsm M) (e : alk (tab M.k (lsN M) (lsF M)) s t) : s = t := by
  have e2 : alk M ((lsG M).S.getD s 0) ((lsG M).S.getD t 0) := fun w hw => by
    rw [← tab_tk h w s hs hw, ← tab_tk h w t ht hw]
    exact e w hw
  obtain ⟨a1, a2⟩ := ls_at h hs
  obtain ⟨b1, b2⟩ := ls_at h ht
  have e3 := (rep_iff h a1 b1).2 e2
  rw [a2, b2] at e3
  have hsl : s < (lsG M).S.length := by rw [ls_len h]; exact hs
  have htl : t < (lsG M).S.length := by rw [ls_len h]; exact ht
  rw [List.getD_eq_getElem?_getD, List.getElem?_eq_getElem hsl, List.getD_eq_getElem?_getD, List.getElem?_eq_getElem htl] at e3
  exact nodup_inj (gbf_nodup (nx := nxr M) (k := M.k) (a0 := rep M 0) (lsm M)) hsl htl e3
end
section
variable {M1 M2 : Mach}
theorem Lng.symm (hk : M1.k = M2.k) {a b : Nat} (h : Lng M1 M2 a b) : Lng M2 M1 b a := fun w hw => (h w (fun c hc => by rw [hk]; exact hw c hc)).symm
/-- Machines of the same words have the same fewest states. -/
theorem ls_same (h1 : M1.Ok) (h2 : M2.Ok) (hk : M1.k = M2.k) (e : Lng M1 M2 0 0) : lsm M1 = lsm M2 ∧ lsN M1 = lsN M2 ∧ lsF M1 = lsF M2 := by
  let R : Nat → Nat → Prop := fun a b => a < M1.n ∧ b < M2.n ∧ rep M1 a = a ∧ rep M2 b = b ∧ Lng M1 M2 a b
  have hwd : ∀ w, M1.wd w → M2.wd w := fun w hw c hc => by rw [← hk]; exact hw c hc
  have hR : ∀ a b a' b', R a b → R a' b' → (a = a' ↔ b = b') := by
    rintro a b a' b' ⟨p1, p2, p3, p4, p5⟩ ⟨q1, q2, q3, q4, q5⟩
    constructor
    · rintro rfl
      have : alk M2 b b' := fun w hw => by
        have hw1 : M1.wd w := fun c hc => by rw [hk]; exact hw c hc
        rw [← p5 w hw1, ← q5 w hw1]
      have := (rep_iff h2 p2 q2).2 this
      rwa [p4, q4] at this
    · rintro rfl
      have : alk M1 a a' := fun w hw => by rw [p5 w hw, q5 w hw]
      have := (rep_iff h1 p1 q1).2 this
      rwa [p3, q3] at this
  have h0 : R (rep M1 0) (rep M2 0) := ⟨rep_lt h1.ne, rep_lt h2.ne, rep_id h1.ne, rep_id h2.ne, fun w hw => by
    rw [rep_alk h1 h1.ne w hw, rep_alk h2 h2.ne w (hwd w hw)]
    exact e w hw⟩
  have hs : ∀ a b c, R a b → c < M1.k → R (nxr M1 a c) (nxr M2 b c) := by
    rintro a b c ⟨p1, p2, p3, p4, p5⟩ hc
    have hc2 : c < M2.k := by rw [← hk]; exact hc
    refine ⟨nxr_lt h1 p1 hc, nxr_lt h2 p2 hc2, rep_id (h1.cl _ _ p1 hc), rep_id (h2.cl _ _ p2 hc2), fun w hw => ?_⟩
    show M1.tk (rep M1 (M1.d a c)) w = M2.tk (rep M2 (M2.d b c)) w
    rw [rep_alk h1 (h1.cl _ _ p1 hc) w hw, rep_alk h2 (h2.cl _ _ p2 hc2) w (hwd w hw)]
    exact p5 (c :: w) (wd_cons.2 ⟨hc, hw⟩)
  have f1 := (ls_fin h1).1
  have f2 := (ls_fin h2).1
  rw [← hk] at f2
  have em : lsm M1 = lsm M2 := (gfin_iso hR h0 hs f1).one f2
  obtain ⟨k1, k2, _⟩ := gbf_iso hR h0 hs (lsm M1) f1.1
  refine ⟨em, ?_, ?_⟩
  · show (gbf _ _ _ _).N = (gbf _ _ _ _).N
    rw [k2, hk, em]
  · have e2 : (lsG M2).S = (gbf (nxr M2) M1.k (rep M2 0) (lsm M1)).S := by unfold lsG; rw [hk, em]
    unfold lsF
    rw [e2]
    refine List.ext_getElem (by simp only [List.length_map]; exact k1.1) (fun i p1 p2 => ?_)
    simp only [List.getElem_map]
    have p1' : i < (gbf (nxr M1) M1.k (rep M1 0) (lsm M1)).S.length := by rw [List.length_map] at p1; exact p1
    have p2' : i < (gbf (nxr M2) M1.k (rep M2 0) (lsm M1)).S.length := by rw [List.length_map] at p2; exact p2
    have := (k1.2 i p1' p2').2.2.2.2 [] wd_nil
    exact this
/-- .. and the other way round. -/
theorem ls_same' (h1 : M1.Ok) (h2 : M2.Ok) (hk : M1.k = M2.k) (eN : lsN M1 = lsN M2) (eF : lsF M1 = lsF M2) : Lng M1 M2 0 0 := fun w hw => by
  have hw2 : M2.wd w := fun c hc => by rw [← hk]; exact hw c hc
  have a := tab_lng h1 w hw
  have b := tab_lng h2 w hw2
  rw [← a, ← b, eN, eF, hk]
end
/-- Where Final is turned. -/
def ntM (M : Mach) : Mach := ⟨M.n, M.k, M.d, fun s => !M.f s⟩
theorem nt_apt (M : Mach) : ∀ r s t, (ntM M).apt r s t = M.apt r s t
  | 0, s, t => by
    show ((!M.f s) != (!M.f t)) = (M.f s != M.f t)
    cases M.f s <;> cases M.f t <;> rfl
  | r + 1, s, t => by
    show ((ntM M).apt r s t || (List.range M.k).any fun c => (ntM M).apt r (M.d s c) (M.d t c)) = (M.apt r s t || (List.range M.k).any fun c => M.apt r (M.d s c) (M.d t c))
    rw [nt_apt M r s t]
    congr 1
    refine congrArg _ (funext fun c => nt_apt M r _ _)
theorem nt_rep (M : Mach) (s : Nat) : rep (ntM M) s = rep M s := by
  unfold rep repR
  show ((List.range M.n).find? fun t => !(ntM M).apt M.n t s).getD s = _
  congr 2
  exact funext fun t => by rw [nt_apt]
theorem nt_nxr (M : Mach) : nxr (ntM M) = nxr M := funext fun a => funext fun c => nt_rep M _
theorem nt_ls (M : Mach) : lsm (ntM M) = lsm M ∧ lsN (ntM M) = lsN M ∧ lsF (ntM M) = (lsF M).map (!·) := by
  have e : lsm (ntM M) = lsm M := by
    unfold lsm
    rw [nt_nxr, nt_rep]
    rfl
  have e2 : lsG (ntM M) = lsG M := by
    unfold lsG
    rw [e, nt_nxr, nt_rep]
    rfl
  refine ⟨e, by unfold lsN; rw [e2], ?_⟩
  unfold lsF
  rw [e2, List.map_map]
  rfl
end Go.Proofs.YtklhjjgnhigbiaaGreatDoor
