/-
  CatP
-/
import Derived.Test.YtfdjchnckjgapaaGreatDoorX26
import Derived.Test.YtfdjchnckjgapaaGreatDoorX15
import Derived.Deep.RegionWith
namespace Go.Proofs.YtfdjchnckjgapaaGreatDoor
open Go.RowKit Go.Shelf S1
set_option linter.unusedVariables false
def jnM (k : Int) : NR (List Nd) → NR Nd
  | .inl e => .inl e
  | .inr (l, r, st) => .inr (joinN k l, r, st)
theorem catM_eq (p : List Tok → Sts → NR Nd) (ts : List Tok) (st : Sts) : catM p ts st = jnM 0 (sevF tkPart id p (ts.length + 1) [] ts st) := by
  unfold catM
  rw [catF_sev]
  cases sevF tkPart id p (ts.length + 1) [] ts st with
  | inl e => rfl
  | inr x => rfl
def ptM (p : List Tok → Sts → NR Nd) : NR Nd → NR (List Nd)
  | .inl e => .inl e
  | .inr (n, r, st) => altF p (r.length + 1) [n] r st
theorem regexG_eq (p : List Tok → Sts → NR Nd) (ts : List Tok) (st : Sts) : regexG p ts st = jnM 2 (ptM p (p ts st)) := by
  unfold regexG
  cases h : p ts st with
  | inl e => rfl
  | inr x =>
    obtain ⟨n, r, st'⟩ := x
    show (match altF p (r.length + 1) [n] r st' with | .inl e => _ | .inr (l, r2, st2) => _) = jnM 2 (altF p (r.length + 1) [n] r st')
    cases altF p (r.length + 1) [n] r st' with
    | inl e => rfl
    | inr x => rfl
def preM (a : List Nd) : NR (List Nd) → NR (List Nd)
  | .inl e => .inl e
  | .inr (l, r, st) => .inr (a ++ l, r, st)
theorem sevF_acc (m : Tok → Bool) (adv : List Tok → List Tok) (p : List Tok → Sts → NR Nd) (a : List Nd) : ∀ (f : Nat) (b : List Nd) (ts : List Tok) (st : Sts), sevF m adv p f (a ++ b) ts st = preM a (sevF m adv p f b ts st)
  | 0, b, ts, st => rfl
  | f + 1, b, ts, st => by
    cases hm : m (hdT ts) with
    | false => rw [sevF_end hm, sevF_end hm]; rfl
    | true =>
      cases hp : p (adv ts) st with
      | inl e => rw [sevF_bad hm hp, sevF_bad hm hp]; rfl
      | inr x =>
        obtain ⟨n, r, st'⟩ := x
        rw [sevF_on hm hp, sevF_on hm hp, List.append_assoc]
        exact sevF_acc m adv p a f _ r st'
set_option maxRecDepth 100000 in
set_option maxHeartbeats 8000000 in
theorem cat_of (c : Pc) (P : Nat) (ts : List Tok) (st : Sts) (d : Nat) (q0 : NR (List Nd)) (p : List Tok → Sts → NR Nd) (hq0 : q0 = sevF tkPart id p (ts.length + 1) [] ts st) (hsg : ∀ ts st, NFn 186 c P ts st d (p ts st)) (hleft : ∀ ts st, NLeftS ts (p ts st)) : NFn 146 c P ts st d (jnM 0 q0) := fun X w hpa => by
  have hPl := hpa.lt
  have h1 := several_any c _ P (ndW w) ts st d 186 187 #[.pointer (some ⟨P, 0, none⟩)] #[] tkPart id p (enters_of Tryz.func186 (by kernel_rfl) rfl) (enters_of Tryz.func187 (by kernel_rfl) rfl) (hpa.alloc _)
    (fun Y w1 t r st1 hp1 _ => (beginsPart_ans c Y P w1 t r st1 d hp1).mono (by
      rintro e w' ⟨rfl, hB⟩
      refine ⟨rfl, ?_, hp1.fr hB⟩
      have : (if tkPart t = true then id (t :: r) else t :: r) = t :: r := by split <;> rfl
      rw [this]
      exact hp1.below hB)) hsg (fun t r st1 n r2 st2 hm hpq => by
      have hL := hleft (t :: r) st1
      have hpq' : p (t :: r) st1 = .inr (n, r2, st2) := hpq
      rw [hpq'] at hL
      exact hL.1) (ts.length + 1) (by omega)
  rw [← hq0] at h1
  obtain ⟨q, hq⟩ : ∃ q, q = jnM 0 q0 := ⟨_, rfl⟩
  have HQ : Hid (q = jnM 0 q0) := hq
  rw [← hq]
  have HIR : Hid (Im NoX (ndW w) P w.heap.size) := hpa.im_new _
  have HE0 : Hid ((ndW w).heap[w.heap.size]? = some (.cells #[.int .i64 0, .int .i64 0, .slice none 0 0] 39 (0, 0))) := heap_new' _ _
  have HF0 : Hid (Fr w.heap.size P w (ndW w)) := hpa.fr (below_alloc _ _)
  have HSZ : Hid ((ndW w).heap.size = w.heap.size + 1) := by show _ = _; simp
  clear hq hpa hsg hleft hq0
  go_enter Tryz.func146, Tryz.ntmps146
  go_wp2_with fail
  refine h1.mono ?_
  rintro e w1 ⟨v, l, x, r, st1, rfl, hown, hni, hvi, hkx, hll, hp, hf, hq⟩
  have hkd : KdX (fun k => (ndW w).heap.size ≤ k ∧ Im (fun k => X k ∨ k = w.heap.size) w1 P k) w1 v (l.map Prod.fst) := kids_of_row hown (hkx.to (fun k hk => ⟨rfl, hk.1, hk.2.1⟩)) (fun g hg => ⟨(hown.lt g hg).1, hvi g hg⟩)
  have h2 := joined_any _ 0 (l.map Prod.fst) v w1 (fun k hk => hk.2.1) hkd (by simp; omega)
  obtain ⟨va, vc, hv, _⟩ := hkd.slice
  rw [List.length_map] at hv
  subst hv
  have HP1 : Hid (Pa c (fun k => X k ∨ k = w.heap.size) P w1 r st1 d) := hp
  have HF1 : Hid (Fr (ndW w).heap.size P (ndW w) w1) := hf
  have HXQ : Hid ((x ≠ 0 ∧ q0 = .inl (r, x)) ∨ (x = 0 ∧ q0 = .inr (l.map Prod.fst, r, st1))) := hq
  obtain ⟨jn, hjn⟩ : ∃ jn, jn = joinN 0 (l.map Prod.fst) := ⟨_, rfl⟩
  rw [← hjn] at h2
  have HJN : Hid (jn = joinN 0 (l.map Prod.fst)) := hjn
  clear h1 hown hni hvi hkx hkd hp hf hq hjn
  go_wp2_with fail
  refine h2.mono ?_
  rintro e w2 ⟨z, rfl, hz, hB2⟩
  obtain ⟨za, zc, rfl, _⟩ := hz.slice
  unfold ndV
  have hf2 := HF1.out.then (HP1.out.fr hB2) HF1.out.size
  obtain ⟨hR, hI⟩ := hf2.keep w.heap.size (by rw [HSZ.out]; omega) HIR.out
  have hR2 := hR.trans HE0.out
  have HR2 : Hid (w2.heap[w.heap.size]? = some (.cells #[.int .i64 0, .int .i64 0, .slice none 0 0] 39 (0, 0))) := hR2
  have HFN : Hid (NA c X P d q w (.returned (.tuple #[.agg #[.int .i64 jn.k, .int .i64 jn.s, .slice za jn.kids.length zc], .int .i64 x])) (set3 w2 w.heap.size (.int .i64 jn.k) (.int .i64 jn.s) (.slice za jn.kids.length zc))) := by
    obtain ⟨g1, g2, g3⟩ := fin3 (HP1.out.below hB2) hI (HF0.out.then hf2 (by rw [HSZ.out]; omega)) (Nat.le_refl _) ((hz.to (fun k hk => (⟨(HP1.out.fr hB2).all k hk.2 |>.1, hk.1, (HP1.out.fr hB2).all k hk.2 |>.2⟩ : w2.heap[k]? = w1.heap[k]? ∧ ((ndW w).heap.size ≤ k ∧ Im (fun k => X k ∨ k = w.heap.size) w2 P k))))) (by rw [HSZ.out]; omega) (.int .i64 jn.k) (.int .i64 jn.s) (.slice za jn.kids.length zc)
    refine ⟨jn, _, x, r, st1, rfl, g3, g1, g2, ?_⟩
    rw [HQ.out]
    rcases HXQ.out with ⟨e1, e2⟩ | ⟨e1, e2⟩
    · rw [e2]; exact .inl ⟨e1, rfl⟩
    · rw [e2, HJN.out]; exact .inr ⟨e1, rfl⟩
  have d0 : w2.cell? ⟨w.heap.size, 0, none⟩ = some (.int .i64 0) := cell_of_row _ _ 0 _ _ _ hR2
  have df0 : w2.frozen? ⟨w.heap.size, 0, none⟩ = false := frozen_of_row _ _ 0 _ _ hR2
  have d1 : w2.cell? ⟨w.heap.size, 1, none⟩ = some (.int .i64 0) := cell_of_row _ _ 1 _ _ _ hR2
  have df1 : w2.frozen? ⟨w.heap.size, 1, none⟩ = false := frozen_of_row _ _ 1 _ _ hR2
  have d2 : w2.cell? ⟨w.heap.size, 2, none⟩ = some (.slice none 0 0) := cell_of_row _ _ 2 _ _ _ hR2
  have df2 : w2.frozen? ⟨w.heap.size, 2, none⟩ = false := frozen_of_row _ _ 2 _ _ hR2
  have hlw : w.heap.size < w2.heap.size := hI.1
  clear h2 hz hB2 hf2 hR hI hR2
  go_wp2
  refine bodyPost_ret (results_row_tmp rfl _ _ w.heap.size 39 #[.int .i64 jn.k, .int .i64 jn.s, .slice za jn.kids.length zc] (0, 0) _ rfl ?_ Tryz.underlying39 rfl (by kernel_rfl)) rfl ?_
  · exact set3_row HR2.out _ _ _
  exact HFN.out
set_option maxRecDepth 100000 in
set_option maxHeartbeats 4000000 in
theorem parted1_any (c : Pc) (X : Nat → Prop) (P B1 B2 : Nat) (w : World) (t : Tok) (r : List Tok) (st : Sts) (d : Nat) (x : Int) (hx : 0 ≤ x ∧ x ≤ 255) (h1 : w.cell? ⟨B1, 0, none⟩ = some (.pointer (some ⟨P, 0, none⟩))) (h2 : w.cell? ⟨B2, 0, none⟩ = some (.string (strOfNums [x]))) (hpa : Pa c X P w (t :: r) st d) :
    Calls Tryz.prog 185 #[.pointer (some ⟨B1, 0, none⟩), .pointer (some ⟨B2, 0, none⟩)] w fun e w' => e = .returned (.bool (tkSign x t)) ∧ Pa c X P w' (if tkSign x t = true then r else t :: r) st d ∧ Fr w.heap.size P w w' := by
  have hpd : Pa c X P w.drew (t :: r) st d := hpa.below ((Below.refl _ _).drew)
  have h3 := takesSign_ans c X P w.drew t r st d hpd x hx
  have hPl := hpa.lt
  have HFD : Hid (Fr w.heap.size P w w.drew) := hpa.fr ((Below.refl _ _).drew)
  obtain ⟨rr, hrr⟩ : ∃ rr, rr = (if tkSign x t = true then r else t :: r) := ⟨_, rfl⟩
  obtain ⟨b, hb⟩ : ∃ b, b = tkSign x t := ⟨_, rfl⟩
  rw [← hrr, ← hb] at h3
  rw [← hrr, ← hb]
  clear hpa hpd hrr hb
  go_enter Tryz.func185, Tryz.ntmps185
  go_wp2
  go_region_with (go_at_call 115; refine h3.mono ?_; rintro e w1 ⟨rfl, hp1, hf1⟩)
  all_goals
    go_wp2
    go_ret
    exact ⟨rfl, hp1, HFD.out.then hf1 (Nat.le_refl _)⟩
theorem regrow_im {c : Pc} {X : Nat → Prop} {P : Nat} {w w' : World} {ts : List Tok} {st : Sts} {d : Nat} {v : Value} {g : Nat} (h : Pa c X P w ts st d) (hv : ∀ g, v.ownBlock = some g → Im X w P g) (hg : w.grownBy w' v.ownBlock) (hat : v.ownBlock = some g ∨ g = w.heap.size) (hlt : g < w'.heap.size) : Im X w' P g := by
  have hP := h.lt
  obtain ⟨k, sv, e1, e2, _⟩ := h
  have hPv : some P ≠ v.ownBlock := fun q => (hv P q.symm).2.1 rfl
  have hc : w'.cell? ⟨P, 3, none⟩ = w.cell? ⟨P, 3, none⟩ := World.cell?_of_block (a := ⟨P, 3, none⟩) (hg.block P hP hPv)
  rcases hat with q | q
  · exact (hv g q).same hg.size hc
  · refine ⟨hlt, by omega, fun x hx => ?_, fun hX => by have := e2.bound g hX; omega⟩
    rw [hc, row_cell e1] at hx
    obtain rfl : sv = x := by simpa [Pc.row] using hx
    intro q2
    have := (e2.row_lt _ q2).2
    omega
theorem cellsNs_one_of {Q : Nat → Prop} {w : World} {a l : List (Nd × Value)} (h : KidsX Q w (a ++ l)) : ∀ u ∈ cellsNs l, u.oneCell' = true := fun u hu => by
  obtain ⟨x, hx, hux⟩ := List.mem_flatMap.1 hu
  obtain ⟨za, zc, e, _⟩ := (h x (by simp [hx])).slice
  simp only [cellsN, e, List.mem_cons, List.not_mem_nil, or_false] at hux
  rcases hux with rfl | rfl | rfl <;> rfl
theorem KidsX.im {Q Q' : Nat → Prop} {w : World} {l : List (Nd × Value)} (h : KidsX Q w l) (hq : ∀ k, Q k → Q' k) : KidsX Q' w l := h.to (fun k hk => ⟨rfl, hq k hk⟩)
set_option maxRecDepth 100000 in
set_option maxHeartbeats 16000000 in
theorem parted_any (c : Pc) (X : Nat → Prop) (P : Nat) (w : World) (ts : List Tok) (st : Sts) (d : Nat) (p : List Tok → Sts → NR Nd) (hpa : Pa c X P w ts st d) (hcat : ∀ ts st, NFn 146 c P ts st d (p ts st)) (hleft : ∀ ts st, NLeft ts (p ts st)) :
    Calls Tryz.prog 145 #[.pointer (some ⟨P, 0, none⟩), .func (.func 146) #[.pointer (some ⟨P, 0, none⟩)] #[], .string ⟨#[124]⟩] w fun e w' => LA 70001 c X P d (ptM p (p ts st)) w e w' := by
  obtain ⟨i0, hi0, hz0, hz1, hz2⟩ := info_parts Tryz.infoNode8
  have hPl := hpa.lt
  have hB0 : Below w.heap.size w ((w.alloc (.cells #[.pointer (some ⟨P, 0, none⟩)] 79)).alloc (.cells #[.string ⟨#[124]⟩] 9)) := below_after (below_alloc _ _) (below_alloc _ _)
  have hp0 := hpa.below hB0
  have hsz0 : ((w.alloc (.cells #[.pointer (some ⟨P, 0, none⟩)] 79)).alloc (.cells #[.string ⟨#[124]⟩] 9)).heap.size = w.heap.size + 2 := by simp
  have h1 := hcat ts st _ _ hp0
  have hno := hpa.less (X' := NoX) (fun _ q => q.elim)
  have hI1 := hno.fresh hB0 w.heap.size (by omega) (by omega)
  have hI2 := hno.fresh hB0 (w.heap.size + 1) (by omega) (by omega)
  have k1 : ((w.alloc (.cells #[.pointer (some ⟨P, 0, none⟩)] 79)).alloc (.cells #[.string ⟨#[124]⟩] 9)).heap[w.heap.size]? = some (.cells #[.pointer (some ⟨P, 0, none⟩)] 79 (0, 0)) := ((below_alloc _ _).block _ (by simp)).trans (heap_new' w _)
  have k2 : ((w.alloc (.cells #[.pointer (some ⟨P, 0, none⟩)] 79)).alloc (.cells #[.string ⟨#[124]⟩] 9)).heap[w.heap.size + 1]? = some (.cells #[.string ⟨#[124]⟩] 9 (0, 0)) := by have := heap_new' (w.alloc (.cells #[.pointer (some ⟨P, 0, none⟩)] 79)) (.cells #[.string ⟨#[124]⟩] 9); rw [World.size_alloc] at this; exact this
  have HBX : Hid ((Im NoX ((w.alloc (.cells #[.pointer (some ⟨P, 0, none⟩)] 79)).alloc (.cells #[.string ⟨#[124]⟩] 9)) P w.heap.size ∧ ((w.alloc (.cells #[.pointer (some ⟨P, 0, none⟩)] 79)).alloc (.cells #[.string ⟨#[124]⟩] 9)).heap[w.heap.size]? = some (.cells #[.pointer (some ⟨P, 0, none⟩)] 79 (0, 0))) ∧ Im NoX ((w.alloc (.cells #[.pointer (some ⟨P, 0, none⟩)] 79)).alloc (.cells #[.string ⟨#[124]⟩] 9)) P (w.heap.size + 1) ∧ ((w.alloc (.cells #[.pointer (some ⟨P, 0, none⟩)] 79)).alloc (.cells #[.string ⟨#[124]⟩] 9)).heap[w.heap.size + 1]? = some (.cells #[.string ⟨#[124]⟩] 9 (0, 0))) := ⟨⟨hI1, k1⟩, hI2, k2⟩
  have HF0 : Hid (Fr w.heap.size P w ((w.alloc (.cells #[.pointer (some ⟨P, 0, none⟩)] 79)).alloc (.cells #[.string ⟨#[124]⟩] 9))) := hpa.fr hB0
  have HSZ : Hid (((w.alloc (.cells #[.pointer (some ⟨P, 0, none⟩)] 79)).alloc (.cells #[.string ⟨#[124]⟩] 9)).heap.size = w.heap.size + 2) := hsz0
  have HCAT : Hid (∀ ts st, NFn 146 c P ts st d (p ts st)) := hcat
  have HLF : Hid (∀ ts st, NLeft ts (p ts st)) := hleft
  obtain ⟨q0, hq0⟩ : ∃ q0, q0 = p ts st := ⟨_, rfl⟩
  rw [← hq0] at h1 ⊢
  obtain ⟨q, hq⟩ : ∃ q, q = ptM p q0 := ⟨_, rfl⟩
  rw [← hq]
  have HQ : Hid (q = ptM p q0) := hq
  clear hq hq0 hpa hB0 hp0 hsz0 hcat hno hI1 hI2 k1 k2 hleft
  go_enter Tryz.func145, Tryz.ntmps145
  go_wp2_with fail
  refine h1.mono ?_
  rintro e w1 ⟨n, z, x, r, st1, rfl, hz, hp1, hf1, hq1⟩
  obtain ⟨za, zc, rfl, _⟩ := hz.slice
  unfold ndV
  have hf01 := HF0.out.then hf1 (by rw [HSZ.out]; omega)
  have hsz1 : w.heap.size + 2 ≤ w1.heap.size := by have := hf1.size; rw [HSZ.out] at this; exact this
  have hB2 := below_alloc w1 (.cells #[.int .i64 n.k, .int .i64 n.s, .slice za n.kids.length zc] 39)
  have hp2 := hp1.below hB2
  have hf2 := hp1.fr hB2
  have hf02 := hf01.then hf2 hf01.size
  rcases hq1 with ⟨hx, rfl⟩ | ⟨rfl, rfl⟩
  · have hx' : (x != 0) = true := by simpa using hx
    have HFN : Hid (LA 70001 c X P d q w (.returned (.tuple #[.slice none 0 0, .int .i64 x])) (w1.alloc (.cells #[.int .i64 n.k, .int .i64 n.s, .slice za n.kids.length zc] 39))) := ⟨.slice none 0 0, [], x, r, st1, rfl, World.ownsRow_nil _ _ _ _, (fun _ => rfl), (fun g q => by simp [Value.ownBlock] at q), (fun x hx => (by cases hx)), by simp, hp2, hf02, .inl ⟨hx, HQ.out⟩⟩
    clear h1 hz hp1 hf1 hf01 hB2 hp2 hf2 hf02 hx
    go_wp2
    go_ret2
    exact HFN.out
  · have HT : Hid ((w1.alloc (.cells #[.int .i64 n.k, .int .i64 n.s, .slice za n.kids.length zc] 39)).heap[w1.heap.size]? = some (.cells #[.int .i64 n.k, .int .i64 n.s, .slice za n.kids.length zc] 39 (0, 0))) := heap_new' _ _
    have hIT := hp1.fresh hB2 w1.heap.size (Nat.le_refl _) (by simp)
    have HIT : Hid (Im X (w1.alloc (.cells #[.int .i64 n.k, .int .i64 n.s, .slice za n.kids.length zc] 39)) P w1.heap.size) := hIT
    have hz2 := hz.fr hf2
    have HZ2 : Hid (KdX (fun k => ((w.alloc (.cells #[.pointer (some ⟨P, 0, none⟩)] 79)).alloc (.cells #[.string ⟨#[124]⟩] 9)).heap.size ≤ k ∧ Im X (w1.alloc (.cells #[.int .i64 n.k, .int .i64 n.s, .slice za n.kids.length zc] 39)) P k) (w1.alloc (.cells #[.int .i64 n.k, .int .i64 n.s, .slice za n.kids.length zc] 39)) (.slice za n.kids.length zc) n.kids) := hz2
    have HF02 : Hid (Fr w.heap.size P w (w1.alloc (.cells #[.int .i64 n.k, .int .i64 n.s, .slice za n.kids.length zc] 39))) := hf02
    have HFB : Hid (Fr (w.heap.size + 2) P ((w.alloc (.cells #[.pointer (some ⟨P, 0, none⟩)] 79)).alloc (.cells #[.string ⟨#[124]⟩] 9)) (w1.alloc (.cells #[.int .i64 n.k, .int .i64 n.s, .slice za n.kids.length zc] 39))) := by
      have h5 := hf1.then hf2 hf1.size
      rw [HSZ.out] at h5
      exact h5
    obtain ⟨w2, hw2⟩ : ∃ w2, w2 = w1.alloc (.cells #[.int .i64 n.k, .int .i64 n.s, .slice za n.kids.length zc] 39) := ⟨_, rfl⟩
    have h2 : Calls Tryz.prog 184 #[.func (.func 146) #[.pointer (some ⟨P, 0, none⟩)] #[], .func (.func 185) #[] #[.pointer (some ⟨w.heap.size, 0, none⟩), .pointer (some ⟨w.heap.size + 1, 0, none⟩)]] (w1.alloc (.cells #[.int .i64 n.k, .int .i64 n.s, .slice za n.kids.length zc] 39)) fun e w' => LA 70000 c X P d (sevF (tkSign 124) List.tail p (r.length + 1) [] r st1) w2 e w' := by
      rw [hw2]
      exact several_any c X P (w1.alloc (.cells #[.int .i64 n.k, .int .i64 n.s, .slice za n.kids.length zc] 39)) r st1 d 146 185 #[] #[.pointer (some ⟨w.heap.size, 0, none⟩), .pointer (some ⟨w.heap.size + 1, 0, none⟩)] (tkSign 124) List.tail p (enters_of Tryz.func146 (by kernel_rfl) rfl) (enters_of Tryz.func185 (by kernel_rfl) rfl) hp2
        (fun Y w3 t r3 st3 hp3 hf3 => by
          obtain ⟨⟨i1, b1⟩, i2, b2⟩ := HBX.out
          obtain ⟨a1, a2⟩ := HFB.out.keep w.heap.size (by omega) i1
          obtain ⟨a3, a4⟩ := HFB.out.keep (w.heap.size + 1) (by omega) i2
          have c1 := (hf3.keep w.heap.size a2.1 a2).1.trans (a1.trans b1)
          have c2 := (hf3.keep (w.heap.size + 1) a4.1 a4).1.trans (a3.trans b2)
          exact parted1_any c Y P w.heap.size (w.heap.size + 1) w3 t r3 st3 d 124 (by decide) (cell_of_row _ _ 0 _ _ _ c1) (cell_of_row _ _ 0 _ _ _ c2) hp3)
        HCAT.out (fun t r3 st3 n3 r4 st4 hm hpq => by
          have hL := HLF.out r3 st3
          have hpq' : p r3 st3 = .inr (n3, r4, st4) := hpq
          rw [hpq'] at hL
          have := hL.1
          simp; omega) (r.length + 1) (by omega)
    have HEQ : Hid (q = preM [n] (sevF (tkSign 124) List.tail p (r.length + 1) [] r st1)) := by
      show _ = _
      rw [HQ.out]
      show altF p (r.length + 1) [n] r st1 = _
      rw [altF_sev, ← sevF_acc]; rfl
    obtain ⟨qs, hqs⟩ : ∃ qs, qs = sevF (tkSign 124) List.tail p (r.length + 1) [] r st1 := ⟨_, rfl⟩
    rw [← hqs] at h2 HEQ
    rw [← hw2] at HT HIT HZ2 HF02
    have HW2 : Hid (w1.alloc (.cells #[.int .i64 n.k, .int .i64 n.s, .slice za n.kids.length zc] 39) = w2) := hw2.symm
    have HSW2 : Hid (w2.heap.size = w1.heap.size + 1) := by show _ = _; rw [hw2]; simp
    clear h1 hz hp1 hf1 hf01 hB2 hp2 hf2 hf02 hIT hz2 hw2 hqs HFB HBX HCAT HLF HQ HF0
    go_wp2_with fail
    refine h2.mono ?_
    rintro e w3 ⟨v, l, x, r3, st3, rfl, hown, hni, hvi, hkx, hll, hp3, hf3, hq3⟩
    obtain ⟨hT3, hI3⟩ := hf3.all w1.heap.size HIT.out
    have hT3' := hT3.trans HT.out
    have hz3 := HZ2.out.fr hf3
    have hB4 := below_alloc w3 (.cells #[.int .i64 n.k, .int .i64 n.s, .slice za n.kids.length zc] 39)
    have hp4 := hp3.below hB4
    have hf4 := hp3.fr hB4
    have hf34 := hf3.then hf4 hf3.size
    have hf04 := HF02.out.then hf34 HF02.out.size
    have hsz3 : w1.heap.size + 1 ≤ w3.heap.size := by have := hf3.size; rw [HSW2.out] at this; exact this
    have hS4 := heap_new' w3 (.cells #[.int .i64 n.k, .int .i64 n.s, .slice za n.kids.length zc] 39)
    have hIS := hp3.fresh hB4 w3.heap.size (Nat.le_refl _) (by simp)
    have t0 : w3.cell? ⟨w1.heap.size, 0, none⟩ = some (.int .i64 n.k) := cell_of_row _ _ 0 _ _ _ hT3'
    have t1 : w3.cell? ⟨w1.heap.size, 1, none⟩ = some (.int .i64 n.s) := cell_of_row _ _ 1 _ _ _ hT3'
    have t2 : w3.cell? ⟨w1.heap.size, 2, none⟩ = some (.slice za n.kids.length zc) := cell_of_row _ _ 2 _ _ _ hT3'
    have hown4 : (w3.alloc (.cells #[.int .i64 n.k, .int .i64 n.s, .slice za n.kids.length zc] 39)).ownsRow w.heap.size 39 3 (.slice (some ⟨w3.heap.size, 0, none⟩) 1 1) 1 (cellsNs [(n, .slice za n.kids.length zc)]) := ⟨rfl, .inr ⟨w3.heap.size, 1, _, rfl, by omega, hS4, Nat.le_refl _, by unfold maxLen; omega, rfl, rfl⟩⟩
    have HQ4 : Hid ((x ≠ 0 ∧ q = .inl (r3, x)) ∨ (x = 0 ∧ q = .inr (([(n, Value.slice za n.kids.length zc)] ++ l).map Prod.fst, r3, st3))) := by
      rcases hq3 with ⟨e1, e2⟩ | ⟨e1, e2⟩
      · exact .inl ⟨e1, by rw [HEQ.out, e2]; rfl⟩
      · exact .inr ⟨e1, by rw [HEQ.out, e2]; simp [preM]⟩
    have hz4 := hz3.fr hf4
    have hne1 : ∀ k, v.ownBlock = some k → k ≠ w3.heap.size := fun k hk => by have := (hown.lt k hk).2; omega
    have HK4 : Hid (KidsX (fun k => w.heap.size ≤ k ∧ Im X (w3.alloc (.cells #[.int .i64 n.k, .int .i64 n.s, .slice za n.kids.length zc] 39)) P k ∧ k < w3.heap.size) (w3.alloc (.cells #[.int .i64 n.k, .int .i64 n.s, .slice za n.kids.length zc] 39)) ([(n, Value.slice za n.kids.length zc)] ++ l)) := fun y hy => by
      rcases List.mem_append.1 hy with hy | hy
      · obtain rfl : y = (n, Value.slice za n.kids.length zc) := by simpa using hy
        exact hz3.to (fun k hk => by
          obtain ⟨g1, g2⟩ := hf4.all k hk.2
          exact ⟨g1, by have := hk.1; rw [HSZ.out] at this; omega, g2, hk.2.1⟩)
      · exact (hkx y hy).to (fun k hk => by
          obtain ⟨g1, g2⟩ := hf4.all k hk.2.1
          exact ⟨g1, by have := hk.1; rw [HSW2.out] at this; omega, g2, hk.2.1.1⟩)
    have HOW4 : Hid ((w3.alloc (.cells #[.int .i64 n.k, .int .i64 n.s, .slice za n.kids.length zc] 39)).ownsRow w.heap.size 39 3 (.slice (some ⟨w3.heap.size, 0, none⟩) 1 1) 1 (cellsNs [(n, .slice za n.kids.length zc)])) := hown4
    have HP4 : Hid (Pa c X P (w3.alloc (.cells #[.int .i64 n.k, .int .i64 n.s, .slice za n.kids.length zc] 39)) r3 st3 d) := hp4
    have HF4 : Hid (Fr w.heap.size P w (w3.alloc (.cells #[.int .i64 n.k, .int .i64 n.s, .slice za n.kids.length zc] 39))) := hf04
    have HIS : Hid (Im X (w3.alloc (.cells #[.int .i64 n.k, .int .i64 n.s, .slice za n.kids.length zc] 39)) P w3.heap.size) := hIS
    have HOV : Hid ((w3.alloc (.cells #[.int .i64 n.k, .int .i64 n.s, .slice za n.kids.length zc] 39)).ownsRow w2.heap.size 39 3 v l.length (cellsNs l)) := hown.alloc _
    have HLL : Hid (l.length ≤ 70000) := hll
    have HZ4 : Hid ((w3.alloc (.cells #[.int .i64 n.k, .int .i64 n.s, .slice za n.kids.length zc] 39)).heap.size = w3.heap.size + 1) := by show _ = _; simp
    by_cases hl : l = []
    · obtain rfl := hni hl
      subst hl
      clear h2 hown hni hvi hkx hp3 hf3 hq3 hT3 hI3 hT3' hz3 hB4 hp4 hf4 hf34 hf04 hS4 hIS hown4 hz4 hne1
      go_wp2_with (at_builtin; go_must (refine wpList_append_own_none rfl (.tmp 26) (.tmp 27) 37 rfl w.heap.size 39 i0 3 Tryz.underlying37 hi0 _ _ _ rfl HOW4.out rfl ?_))
      go_ret2
      exact ⟨_, [(n, .slice za n.kids.length zc)], x, r3, st3, rfl, HOW4.out, (fun q => by simp at q), (fun g hg => (show w3.heap.size = g by simpa [Value.ownBlock] using hg) ▸ HIS.out), HK4.out.im (fun k hk => ⟨hk.1, hk.2.1, fun q => by simp [Value.ownBlock] at q; have := hk.2.2; omega⟩), by simp, HP4.out, HF4.out, HQ4.out⟩
    · have hpx := hp3.alloc (.cells #[.int .i64 n.k, .int .i64 n.s, .slice za n.kids.length zc] 39)
      have HPX : Hid (Pa c (XV X (.slice (some ⟨w3.heap.size, 0, none⟩) 1 1)) P (w3.alloc (.cells #[.int .i64 n.k, .int .i64 n.s, .slice za n.kids.length zc] 39)) r3 st3 d) := hpx.less (fun k hk => hk.elim .inl (fun q => .inr (by simpa [Value.ownBlock] using q.symm)))
      rcases hown.2 with ⟨rfl, h0⟩ | ⟨gv, capv, cur, rfl, hb, hg, hc, hm, hs, ht⟩
      · exact absurd (List.length_eq_zero_iff.1 h0) hl
      have hpos : 0 < l.length := List.length_pos_iff.2 hl
      have hlB : l.length ≤ 70000 := hll
      clear h2 hown hni hvi hkx hp3 hf3 hq3 hT3 hI3 hT3' hz3 hB4 hp4 hf4 hf34 hf04 hS4 hIS hown4 hz4 hne1 hpx hb hg hm hs ht cur hl
      go_wp2_with (at_builtin; go_must (refine wpList_append_lies _ rfl (.tmp 26) (.tmp 27) 37 rfl w.heap.size 39 i0 (.agg #[.int .i64 0, .int .i64 0, .slice none 0 0]) 3 40 Tryz.underlying37 hi0 hz0 hz1 hz2 rfl (by decide) _ _ _ rfl HOW4.out ⟨gv, 0, none⟩ l.length capv (cellsNs l) rfl (cellsNs_length l) (HOV.out.cells (g := gv) rfl) (cellsNs_one_of HK4.out) hpos (by unfold maxLen; omega) (by omega) (by rw [HZ4.out]; omega) _ rfl ?_); intro g2 cap2 w5 hown5 hgrow5 hat5 hlt5; refine Hid.out ?_)
      refine Lib.hid ?_
      have hown6 : w5.ownsRow w.heap.size 39 3 (.slice (some ⟨g2, 0, none⟩) (1 + l.length) cap2) ([(n, Value.slice za n.kids.length zc)] ++ l).length (cellsNs ([(n, Value.slice za n.kids.length zc)] ++ l)) := by
        have e1 : cellsNs ([(n, Value.slice za n.kids.length zc)] ++ l) = cellsNs [(n, .slice za n.kids.length zc)] ++ cellsNs l := by simp [cellsNs]
        have e2 : ([(n, Value.slice za n.kids.length zc)] ++ l).length = 1 + l.length := by simp; omega
        rw [e1, e2]; exact hown5
      have hv5 : ∀ g, (Value.slice (some ⟨w3.heap.size, 0, none⟩) 1 1).ownBlock = some g → Im X (w3.alloc (.cells #[.int .i64 n.k, .int .i64 n.s, .slice za n.kids.length zc] 39)) P g := fun g hg => (show w3.heap.size = g by simpa [Value.ownBlock] using hg) ▸ HIS.out
      have hn6 : ∀ g, (Value.slice (some ⟨g2, 0, none⟩) (1 + l.length) cap2).ownBlock = some g → (Value.slice (some ⟨w3.heap.size, 0, none⟩) 1 1).ownBlock = some g ∨ (w3.alloc (.cells #[.int .i64 n.k, .int .i64 n.s, .slice za n.kids.length zc] 39)).heap.size ≤ g := fun g hg => by
        obtain rfl : g2 = g := by simpa [Value.ownBlock] using hg
        rcases hat5 with q | q
        · exact .inl q
        · exact .inr (by rw [q]; exact Nat.le_refl _)
      have hp6 := (HPX.out.regrow (v' := .slice (some ⟨g2, 0, none⟩) (1 + l.length) cap2) (fun g hg => (hv5 g hg).no) hgrow5 hn6 (fun g hg => (show g2 = g by simpa [Value.ownBlock] using hg) ▸ hlt5)).less (X' := X) (fun k hk => .inl hk)
      obtain ⟨rg1, rg2, rg3⟩ := regrow (X := X) (v' := .slice (some ⟨g2, 0, none⟩) (1 + l.length) cap2) (fun g hg => (hv5 g hg).no) HP4.out.lt hgrow5 hn6
      have hI6 := regrow_im HP4.out hv5 hgrow5 hat5 hlt5
      have hg2 : w3.heap.size ≤ g2 := by
        rcases hat5 with q | q
        · have q' : (Value.slice (some ⟨w3.heap.size, 0, none⟩) 1 1).ownBlock = some g2 := q
          have : w3.heap.size = g2 := by simpa [Value.ownBlock] using q'
          omega
        · rw [q, HZ4.out]; omega
      have hkx6 : KidsX (fun k => w.heap.size ≤ k ∧ Im X w5 P k ∧ (Value.slice (some ⟨g2, 0, none⟩) (1 + l.length) cap2).ownBlock ≠ some k) w5 ([(n, Value.slice za n.kids.length zc)] ++ l) := HK4.out.to (fun k hk => by
        have hk2 : Im (XV X (.slice (some ⟨w3.heap.size, 0, none⟩) 1 1)) (w3.alloc (.cells #[.int .i64 n.k, .int .i64 n.s, .slice za n.kids.length zc] 39)) P k := hk.2.1.no.with (fun q => q.elim hk.2.1.2.2.2 (fun q => by simp [Value.ownBlock] at q; have := hk.2.2; omega))
        obtain ⟨a1, a2⟩ := rg1 k hk2
        exact ⟨a1, hk.1, a2.less (fun q => .inl q), fun q => by simp [Value.ownBlock] at q; have := hk.2.2; omega⟩)
      have hfr6 : Fr w.heap.size P w w5 := ⟨hgrow5.os.trans HF4.out.os, hgrow5.tape.trans HF4.out.tape, hgrow5.output.trans HF4.out.output, Nat.le_trans HF4.out.size hgrow5.size, fun k hk hm => by
        obtain ⟨e1, e2⟩ := HF4.out.keep k hk hm
        have hne : some k ≠ (Value.slice (some ⟨w3.heap.size, 0, none⟩) 1 1).ownBlock := fun q => by simp [Value.ownBlock] at q; omega
        exact ⟨(hgrow5.block k e2.1 hne).trans e1, e2.same hgrow5.size rg3⟩⟩
      have HFN : Hid (LA 70001 c X P d q w (.returned (.tuple #[.slice (some ⟨g2, 0, none⟩) (1 + l.length) cap2, .int .i64 x])) w5) := ⟨_, [(n, .slice za n.kids.length zc)] ++ l, x, r3, st3, rfl, hown6, (fun q => by simp at q), (fun g hg => (show g2 = g by simpa [Value.ownBlock] using hg) ▸ hI6), hkx6, (by have := HLL.out; simp; omega), hp6, hfr6, HQ4.out⟩
      clear hown5 hgrow5 hat5 hlt5 hown6 hv5 hn6 hp6 rg1 rg2 rg3 hI6 hg2 hkx6 hfr6
      go_wp2
      go_ret2
      exact HFN.out
set_option maxRecDepth 100000 in
set_option maxHeartbeats 8000000 in
theorem regex_of (c : Pc) (P : Nat) (ts : List Tok) (st : Sts) (d : Nat) (q0 : NR (List Nd)) (p : List Tok → Sts → NR Nd) (hq0 : q0 = ptM p (p ts st)) (hcat : ∀ ts st, NFn 146 c P ts st d (p ts st)) (hleft : ∀ ts st, NLeft ts (p ts st)) : NFn 119 c P ts st d (jnM 2 q0) := fun X w hpa => by
  have hPl := hpa.lt
  have h1 := parted_any c _ P (ndW w) ts st d p (hpa.alloc _) hcat hleft
  rw [← hq0] at h1
  obtain ⟨q, hq⟩ : ∃ q, q = jnM 2 q0 := ⟨_, rfl⟩
  have HQ : Hid (q = jnM 2 q0) := hq
  rw [← hq]
  have HIR : Hid (Im NoX (ndW w) P w.heap.size) := hpa.im_new _
  have HE0 : Hid ((ndW w).heap[w.heap.size]? = some (.cells #[.int .i64 0, .int .i64 0, .slice none 0 0] 39 (0, 0))) := heap_new' _ _
  have HF0 : Hid (Fr w.heap.size P w (ndW w)) := hpa.fr (below_alloc _ _)
  have HSZ : Hid ((ndW w).heap.size = w.heap.size + 1) := by show _ = _; simp
  clear hq hpa hcat hleft hq0
  go_enter Tryz.func119, Tryz.ntmps119
  go_wp2_with fail
  refine h1.mono ?_
  rintro e w1 ⟨v, l, x, r, st1, rfl, hown, hni, hvi, hkx, hll, hp, hf, hq⟩
  have hkd : KdX (fun k => (ndW w).heap.size ≤ k ∧ Im (fun k => X k ∨ k = w.heap.size) w1 P k) w1 v (l.map Prod.fst) := kids_of_row hown (hkx.to (fun k hk => ⟨rfl, hk.1, hk.2.1⟩)) (fun g hg => ⟨(hown.lt g hg).1, hvi g hg⟩)
  have h2 := joined_any _ 2 (l.map Prod.fst) v w1 (fun k hk => hk.2.1) hkd (by simp; omega)
  obtain ⟨va, vc, hv, _⟩ := hkd.slice
  rw [List.length_map] at hv
  subst hv
  have HP1 : Hid (Pa c (fun k => X k ∨ k = w.heap.size) P w1 r st1 d) := hp
  have HF1 : Hid (Fr (ndW w).heap.size P (ndW w) w1) := hf
  have HXQ : Hid ((x ≠ 0 ∧ q0 = .inl (r, x)) ∨ (x = 0 ∧ q0 = .inr (l.map Prod.fst, r, st1))) := hq
  obtain ⟨jn, hjn⟩ : ∃ jn, jn = joinN 2 (l.map Prod.fst) := ⟨_, rfl⟩
  rw [← hjn] at h2
  have HJN : Hid (jn = joinN 2 (l.map Prod.fst)) := hjn
  clear h1 hown hni hvi hkx hkd hp hf hq hjn
  go_wp2_with fail
  refine h2.mono ?_
  rintro e w2 ⟨z, rfl, hz, hB2⟩
  obtain ⟨za, zc, rfl, _⟩ := hz.slice
  unfold ndV
  have hf2 := HF1.out.then (HP1.out.fr hB2) HF1.out.size
  obtain ⟨hR, hI⟩ := hf2.keep w.heap.size (by rw [HSZ.out]; omega) HIR.out
  have hR2 := hR.trans HE0.out
  have HR2 : Hid (w2.heap[w.heap.size]? = some (.cells #[.int .i64 0, .int .i64 0, .slice none 0 0] 39 (0, 0))) := hR2
  have HFN : Hid (NA c X P d q w (.returned (.tuple #[.agg #[.int .i64 jn.k, .int .i64 jn.s, .slice za jn.kids.length zc], .int .i64 x])) (set3 w2 w.heap.size (.int .i64 jn.k) (.int .i64 jn.s) (.slice za jn.kids.length zc))) := by
    obtain ⟨g1, g2, g3⟩ := fin3 (HP1.out.below hB2) hI (HF0.out.then hf2 (by rw [HSZ.out]; omega)) (Nat.le_refl _) ((hz.to (fun k hk => (⟨(HP1.out.fr hB2).all k hk.2 |>.1, hk.1, (HP1.out.fr hB2).all k hk.2 |>.2⟩ : w2.heap[k]? = w1.heap[k]? ∧ ((ndW w).heap.size ≤ k ∧ Im (fun k => X k ∨ k = w.heap.size) w2 P k))))) (by rw [HSZ.out]; omega) (.int .i64 jn.k) (.int .i64 jn.s) (.slice za jn.kids.length zc)
    refine ⟨jn, _, x, r, st1, rfl, g3, g1, g2, ?_⟩
    rw [HQ.out]
    rcases HXQ.out with ⟨e1, e2⟩ | ⟨e1, e2⟩
    · rw [e2]; exact .inl ⟨e1, rfl⟩
    · rw [e2, HJN.out]; exact .inr ⟨e1, rfl⟩
  have d0 : w2.cell? ⟨w.heap.size, 0, none⟩ = some (.int .i64 0) := cell_of_row _ _ 0 _ _ _ hR2
  have df0 : w2.frozen? ⟨w.heap.size, 0, none⟩ = false := frozen_of_row _ _ 0 _ _ hR2
  have d1 : w2.cell? ⟨w.heap.size, 1, none⟩ = some (.int .i64 0) := cell_of_row _ _ 1 _ _ _ hR2
  have df1 : w2.frozen? ⟨w.heap.size, 1, none⟩ = false := frozen_of_row _ _ 1 _ _ hR2
  have d2 : w2.cell? ⟨w.heap.size, 2, none⟩ = some (.slice none 0 0) := cell_of_row _ _ 2 _ _ _ hR2
  have df2 : w2.frozen? ⟨w.heap.size, 2, none⟩ = false := frozen_of_row _ _ 2 _ _ hR2
  have hlw : w.heap.size < w2.heap.size := hI.1
  clear h2 hz hB2 hf2 hR hI hR2
  go_wp2
  refine bodyPost_ret (results_row_tmp rfl _ _ w.heap.size 39 #[.int .i64 jn.k, .int .i64 jn.s, .slice za jn.kids.length zc] (0, 0) _ rfl ?_ Tryz.underlying39 rfl (by kernel_rfl)) rfl ?_
  · exact set3_row HR2.out _ _ _
  exact HFN.out
theorem regex_step (b : Nat) (h : PartC b) : RegexC b := fun c P ts st d hd => by
  have hpl : ∀ ts st, NLeftS ts (partM c.N (inner c.N b) ts st) := partM_left (inner_left c.N b)
  have hpo : ∀ ts st n r st', partM c.N (inner c.N b) ts st = .inr (n, r, st') → SgOk n := partM_ok (inner_ok c.N b)
  have hsg : ∀ ts st, NFn 186 c P ts st d (signedM (partM c.N (inner c.N b)) ts st) := fun ts st => by
    rw [signedM_eq]
    exact signed_any c P ts st d _ (h c P ts st d hd) (fun n r st' e => hpo ts st n r st' e)
  have hcat : ∀ ts st, NFn 146 c P ts st d (catM (signedM (partM c.N (inner c.N b))) ts st) := fun ts st => by
    rw [catM_eq]
    exact cat_of c P ts st d _ _ rfl hsg (signedM_left hpl)
  rw [regexM_eq, regexG_eq]
  exact regex_of c P ts st d _ _ rfl hcat (catM_left (signedM_left hpl))
theorem regex_any : ∀ b, RegexC b
  | 0 => regex_step 0 part_zero
  | b + 1 => regex_step (b + 1) (part_succ b (regex_any b))
end Go.Proofs.YtfdjchnckjgapaaGreatDoor
