/-
  Expressions that were parsed have few parts; texts have few tokens. Plain mathematics. What scansionref02.with answers: a range more behind a row of the call's own, or its last one grown. What scansionref02's Has, edges, pick, Make, Or, And, Less, Not answer.
-/
import Derived.Test.YtfdjchnckjgapaaGreatDoorY30
import Derived.Test.YtfdjchnckjgapaaGreatDoorY11
import Derived.Test.YtfdjchnckjgapaaGreatDoorY21
namespace Go.Proofs.YtfdjchnckjgapaaGreatDoor
open Go.RowKit Go.Shelf S1
set_option linter.unusedVariables false

/-- So deep, no expression has many parts. -/
def Wid : Nat → List Nd → Prop
  | 0, _ => True
  | f + 1, l => l.length ≤ 70000 ∧ ∀ x ∈ l, Wid f x.kids
def WdN (n : Nd) : Prop := ∀ f, Wid f n.kids
theorem wdN_of {k s : Int} {l : List Nd} (h : l.length ≤ 70000) (hl : ∀ x ∈ l, WdN x) : WdN ⟨k, s, l⟩ := fun f => by
  cases f with
  | zero => trivial
  | succ f => exact ⟨h, fun x hx => hl x hx f⟩
theorem joinN_wd {k : Int} : ∀ {l : List Nd}, l.length ≤ 70000 → (∀ x ∈ l, WdN x) → WdN (joinN k l)
  | [], h, hl => wdN_of h hl
  | [x], h, hl => hl x (by simp)
  | x :: y :: l, h, hl => wdN_of h hl
theorem signF_wd : ∀ (f c : Nat) (n : Nd) (ts : List Tok) (st : Sts) {m : Nd} {r : List Tok} {st' : Sts}, WdN n → signF f c n ts st = .inr (m, r, st') → WdN m
  | 0, c, n, ts, st, m, r, st', hn, h => by cases h; exact hn
  | f + 1, c, n, ts, st, m, r, st', hn, h => by
    unfold signF at h
    split at h
    · cases h; exact hn
    · split at h
      · cases h
      · exact signF_wd f (c + 1) _ _ _ (wdN_of (by simp) (fun x hx => by
          obtain rfl : x = n := by simpa using hx
          exact hn)) h
/-- p tells expressions of few parts. -/
def PWd (p : List Tok → Sts → NR Nd) : Prop := ∀ ts st n r st', ts.length ≤ 69990 → p ts st = .inr (n, r, st') → WdN n ∧ r.length ≤ ts.length
theorem nleft_len {α : Type} {ts : List Tok} {q : NR α} {n : α} {r : List Tok} {st' : Sts} (h : NLeft ts q) (e : q = .inr (n, r, st')) : r.length ≤ ts.length := by
  subst e; exact h.1
theorem signedM_wd {p : List Tok → Sts → NR Nd} (hp : PWd p) : PWd (signedM p) := fun ts st n r st' hl h => by
  unfold signedM at h
  split at h
  · cases h
  · rename_i m r1 st1 he
    obtain ⟨h1, h2⟩ := hp _ _ _ _ _ hl he
    exact ⟨signF_wd 4 _ m r1 st1 h1 h, Nat.le_trans (nleft_len (signF_left 4 (cntN 4 m) m r1 st1) h) h2⟩
theorem catF_wd {p : List Tok → Sts → NR Nd} (hp : PWd p) : ∀ (f : Nat) (acc : List Nd) (ts : List Tok) (st : Sts) {l : List Nd} {r : List Tok} {st' : Sts}, ts.length ≤ 69990 → (∀ x ∈ acc, WdN x) → catF p f acc ts st = .inr (l, r, st') → (∀ x ∈ l, WdN x) ∧ l.length ≤ acc.length + f ∧ r.length ≤ ts.length
  | 0, acc, ts, st, l, r, st', hl, ha, h => by cases h; exact ⟨ha, Nat.le_refl _, Nat.le_refl _⟩
  | f + 1, acc, ts, st, l, r, st', hl, ha, h => by
    unfold catF at h
    split at h
    · split at h
      · cases h
      · rename_i n r1 st1 he
        obtain ⟨h1, h2⟩ := hp _ _ _ _ _ hl he
        obtain ⟨i1, i2, i3⟩ := catF_wd hp f _ _ _ (Nat.le_trans h2 hl) (fun x hx => by
          rcases List.mem_append.1 hx with q | q
          · exact ha x q
          · obtain rfl : x = n := by simpa using q
            exact h1) h
        refine ⟨i1, ?_, Nat.le_trans i3 h2⟩
        simp at i2; omega
    · cases h; exact ⟨ha, by omega, Nat.le_refl _⟩
theorem altF_wd {p : List Tok → Sts → NR Nd} (hp : PWd p) : ∀ (f : Nat) (acc : List Nd) (ts : List Tok) (st : Sts) {l : List Nd} {r : List Tok} {st' : Sts}, ts.length ≤ 69990 → (∀ x ∈ acc, WdN x) → altF p f acc ts st = .inr (l, r, st') → (∀ x ∈ l, WdN x) ∧ l.length ≤ acc.length + f ∧ r.length ≤ ts.length
  | 0, acc, ts, st, l, r, st', hl, ha, h => by cases h; exact ⟨ha, Nat.le_refl _, Nat.le_refl _⟩
  | f + 1, acc, ts, st, l, r, st', hl, ha, h => by
    unfold altF at h
    split at h
    · split at h
      · cases h
      · rename_i n r1 st1 he
        have ht : ts.tail.length ≤ ts.length := by simp
        obtain ⟨h1, h2⟩ := hp _ _ _ _ _ (Nat.le_trans ht hl) he
        obtain ⟨i1, i2, i3⟩ := altF_wd hp f _ _ _ (Nat.le_trans h2 (Nat.le_trans ht hl)) (fun x hx => by
          rcases List.mem_append.1 hx with q | q
          · exact ha x q
          · obtain rfl : x = n := by simpa using q
            exact h1) h
        refine ⟨i1, ?_, Nat.le_trans i3 (Nat.le_trans h2 ht)⟩
        simp at i2; omega
    · cases h; exact ⟨ha, by omega, Nat.le_refl _⟩
theorem catM_wd {p : List Tok → Sts → NR Nd} (hp : PWd p) : PWd (catM p) := fun ts st n r st' hl h => by
  unfold catM at h
  split at h
  · cases h
  · rename_i l r1 st1 he
    cases h
    obtain ⟨i1, i2, i3⟩ := catF_wd hp _ _ _ _ hl (fun x hx => (by cases hx)) he
    exact ⟨joinN_wd (by simp at i2; omega) i1, i3⟩
theorem regexG_wd {p : List Tok → Sts → NR Nd} (hp : PWd p) : PWd (regexG p) := fun ts st n r st' hl h => by
  unfold regexG at h
  split at h
  · cases h
  · rename_i m r1 st1 he
    obtain ⟨h1, h2⟩ := hp _ _ _ _ _ hl he
    split at h
    · cases h
    · rename_i l r2 st2 he2
      cases h
      obtain ⟨i1, i2, i3⟩ := altF_wd hp _ _ _ _ (Nat.le_trans h2 hl) (fun x hx => by
        obtain rfl : x = m := by simpa using hx
        exact h1) he2
      exact ⟨joinN_wd (by simp at i2; omega) i1, Nat.le_trans i3 h2⟩
theorem partM_wd {N : Nms} {f : Option (List Tok → Sts → NR Nd)} (hf : ∀ g, f = some g → PWd g) : PWd (partM N f) := fun ts st n r st' hl h => by
  have ht : ts.tail.length ≤ ts.length := by simp
  unfold partM at h
  split at h
  · split at h
    · cases h
    · rename_i g
      cases hq : g ts.tail st with
      | inl x => rw [hq] at h; cases h
      | inr x =>
        obtain ⟨m, r1, st1⟩ := x
        rw [hq] at h
        simp only [endN] at h
        split at h
        · cases h
          obtain ⟨h1, h2⟩ := hf g rfl _ _ _ _ _ (Nat.le_trans ht hl) hq
          refine ⟨h1, ?_⟩
          have : r1.tail.length ≤ r1.length := by simp
          omega
        · cases h
  · split at h
    · cases h
    · split at h
      · cases h
      · cases h
        exact ⟨wdN_of (by simp) (fun x hx => (by cases hx)), ht⟩
theorem regexM_wd (N : Nms) : ∀ (b : Nat), PWd (regexM N b)
  | 0 => regexG_wd (catM_wd (signedM_wd (partM_wd (fun g h => by cases h))))
  | b + 1 => regexG_wd (catM_wd (signedM_wd (partM_wd (fun g h => by cases h; exact regexM_wd N b))))
/-- A rule's expressions have few parts. -/
def WdR (x : Rl) : Prop := WdN x.l ∧ WdN x.r
theorem ruleM_wd {N : Nms} {ts : List Tok} {st : Sts} {x : Rl} {r : List Tok} {st' : Sts} (hl : ts.length ≤ 69990) (h : ruleM N ts st = .inr (x, r, st')) : WdR x := by
  have ht : ts.tail.length ≤ ts.length := by simp
  have key : ∀ {c : Int} {q : NR Nd} {n : Nd} {r : List Tok} {st' : Sts}, endN c q = .inr (n, r, st') → ∃ r0, q = .inr (n, r0, st') ∧ r.length ≤ r0.length := fun {c q n r st'} h => by
    match q, h with
    | .inr (n0, r0, st0), h =>
      simp only [endN] at h
      split at h
      · cases h; exact ⟨r0, rfl, by simp⟩
      · cases h
  unfold ruleM at h
  split at h
  · cases h
  · rename_i l r1 st1 he
    obtain ⟨r0, e0, hr0⟩ := key he
    obtain ⟨h1, h2⟩ := regexM_wd N 20 _ _ _ _ _ (Nat.le_trans ht hl) e0
    split at h
    · cases h
    · rename_i n r2 st2 he2
      obtain ⟨r3, e3, hr3⟩ := key he2
      obtain ⟨h3, h4⟩ := regexM_wd N 20 _ _ _ _ _ (by omega) e3
      cases h
      exact ⟨h1, h3⟩
theorem textF_wd : ∀ (f : Nat) (N : Nms) (rs : List Rl) (ts : List Tok) (st : Sts) {rs' : List Rl} {st' : Sts}, ts.length ≤ 69990 → (∀ x ∈ rs, WdR x) → textF f N rs ts st = .inr (rs', st') → ∀ x ∈ rs', WdR x
  | 0, N, rs, ts, st, rs', st', hl, ha, h => by cases h; exact ha
  | f + 1, N, rs, ts, st, rs', st', hl, ha, h => by
    have ht : ts.tail.length ≤ ts.length := by simp
    unfold textF at h
    split at h
    · cases h; exact ha
    · rename_i hk
      split at h
      · split at h
        · cases h
        · rename_i N' r hn
          exact textF_wd f N' rs r st (Nat.le_trans (nameM_left hn) (Nat.le_trans ht hl)) ha h
      · split at h
        · cases h
        · split at h
          · cases h
          · split at h
            · cases h
            · rename_i x r st1 hn
              refine textF_wd f N (rs ++ [x]) r st1 (Nat.le_trans (Nat.le_of_lt (ruleM_left hk hn)) hl) (fun y hy => ?_) h
              rcases List.mem_append.1 hy with q | q
              · exact ha y q
              · obtain rfl : y = x := by simpa using q
                exact ruleM_wd hl hn
theorem toksF_few {n : Nat} : ∀ {k : Nat} {us : List U} {acc l : List Tok}, toksF n k us acc = TR.good l → l.length ≤ acc.length + us.length + 1
  | 0, us, acc, l, h => by cases h
  | k + 1, us, acc, l, h => by
    have hbl := blankL_le false us
    cases h1 : tokO n (blankL false us) with
    | inl x => obtain ⟨a, e⟩ := x; rw [toksF_bad h1] at h; cases h
    | inr x =>
      obtain ⟨t, r⟩ := x
      have hlen := tokO_len h1
      by_cases h4 : t.k = 4
      · rw [toksF_end h1 h4] at h
        obtain rfl := Sum.inr.inj h
        simp
      · rw [toksF_on h1 h4] at h
        have h5 := toksF_few h
        have h6 : r.length < (blankL false us).length := by
          rcases hlen with ⟨q, _⟩ | ⟨_, q⟩
          · exact absurd q h4
          · exact q
        simp at h5; omega
theorem toks_few {zs : List Int} {us : List U} (hr : Run zs 0 us zs.length) {l : List Tok} (h : toksL zs.length us = TR.good l) : l.length ≤ zs.length + 1 := by
  have hlen := Run.le hr (Nat.zero_le _)
  have := toksF_few (show toksF zs.length (us.length + 1) us [] = TR.good l from h)
  simp at this
  omega
theorem parseL_wd {zs : List Int} {us : List U} (hr : Run zs 0 us zs.length) (hz : zs.length ≤ 65536) {rs : List Rl} {st : Sts} (h : parseL (toksL zs.length us) = .inr (rs, st)) : ∀ x ∈ rs, WdR x := by
  cases ht : toksL zs.length us with
  | inl e => rw [ht] at h; cases h
  | inr l =>
    have hc := toks_few hr ht
    rw [ht] at h
    unfold parseL at h
    simp only at h
    split at h
    · cases h
    · rename_i x hx
      obtain ⟨rs', st'⟩ := x
      cases h
      exact textF_wd _ _ _ _ _ (by simp; omega) (fun x hx => (by cases hx)) hx
end Go.Proofs.YtfdjchnckjgapaaGreatDoor

namespace Go.Proofs.YtfdjchnckjgapaaGreatDoor
open Go.RowKit
set_option linter.unusedVariables false

set_option maxRecDepth 100000 in
set_option maxHeartbeats 2000000 in
theorem with_any (base : Nat) (l : List Rg) (lo hi : Int) (v : Value) (w : World) (hlen : l.length ≤ 600000) (hbd : -10 ≤ lo ∧ lo ≤ 2000000) (hbase : base ≤ w.heap.size) (hown : w.ownsRow base 94 2 v l.length (cellsRs l)) :
    Calls Tryz.prog 138 #[v, .int .i64 lo, .int .i64 hi] w fun e w' => ∃ v', e = .returned v' ∧ w'.ownsRow base 94 2 v' (withL l lo hi).length (cellsRs (withL l lo hi)) ∧ Below base w w' := by
  obtain ⟨i0, hi0, hz0, hz1, hz2⟩ := info_parts Tryz.infoRange
  obtain ⟨a, cap, rfl, hc, hcell⟩ := rng_of_row hown
  have HO : Hid (w.ownsRow base 94 2 (.slice a l.length cap) l.length (cellsRs l)) := hown
  clear hown
  rcases list_last l with rfl | ⟨ini, s, rfl⟩
  · have HO2 : Hid ((w.alloc (.cells #[.int .i64 lo, .int .i64 hi] 94)).ownsRow base 94 2 (.slice a 0 cap) 0 []) := World.ownsRow.alloc HO.out _
    have HN : Hid _ := heap_new' w (.cells #[.int .i64 lo, .int .i64 hi] 94)
    have HB : Hid (Below base w (w.alloc (.cells #[.int .i64 lo, .int .i64 hi] 94))) := (Below.refl base w).alloc hbase _
    rw [withL_nil]
    clear hcell HO
    have hid : decide ((0 : Int) < 0) = false := rfl
    go_enter Tryz.func138, Tryz.ntmps138
    go_wp2_with (at_builtin; go_must (refine wpList_append_own _ rfl (.tmp 30) (.tmp 34) 43 rfl base 94 i0 (.agg #[.int .i64 0, .int .i64 0]) 2 16 Tryz.underlying43 hi0 hz0 hz1 hz2 rfl (by decide) _ _ _ rfl HO2.out ⟨w.heap.size, 0, none⟩ 1 1 (cellsR ⟨lo, hi⟩) rfl rfl (World.news_of_block HN.out) (by simp [cellsR, Value.oneCell']) (by unfold maxLen; omega) (by omega) (by simp; omega) ?_); intro v' w1 hown' hgrow hnil)
    go_ret
    exact ⟨v', rfl, by simpa [cellsRs] using hown', HB.out.grown hgrow (by simp; omega) (fun j e => (World.ownsRow.lt HO2.out j e).1)⟩
  · have hl1 : (ini ++ [s]).length = ini.length + 1 := by simp
    have hle : ini.length + 1 ≤ 600000 := by rw [← hl1]; exact hlen
    obtain ⟨g, off, rfl, hg, c0, c1⟩ := hcell ini.length (by omega)
    have e1 : (ini ++ [s])[ini.length]'(by omega) = s := by simp
    rw [e1] at c0 c1
    have hoff : off = 0 ∧ base ≤ g := by
      rcases HO.out.2 with ⟨e, _⟩ | ⟨g', cap', cur, e, hb, _⟩
      · cases e
      · simp at e; exact ⟨e.1.2, by rw [e.1.1]; exact hb⟩
    obtain ⟨hoff, hbg⟩ := hoff
    subst hoff
    simp only [Nat.zero_add] at c0 c1
    rw [hl1] at HO hc ⊢
    have f1 : w.frozen? ⟨g, ini.length * 2 + 1, none⟩ = false := own_frozen HO.out _
    clear hcell hlen e1
    have hn0 : (0 : Int) < (ini.length : Int) + 1 := by omega
    by_cases q : s.hi = lo - 1
    · rw [withL_join q]
      have hq : (s.hi == lo - 1) = true := by simp [q]
      clear q
      have HO4 : Hid ((w.setCell ⟨g, ini.length * 2 + 1, none⟩ (.int .i64 hi)).ownsRow base 94 2 (.slice (some ⟨g, 0, none⟩) (ini.length + 1) cap) (ini ++ [(⟨s.lo, hi⟩ : Rg)]).length (cellsRs (ini ++ [⟨s.lo, hi⟩]))) := by
        have := own_grow (base := base) (g := g) (cap := cap) (ini := ini) (s := s) (w := w) (by rw [hl1]; exact HO.out) hi
        rw [hl1] at this
        exact this
      have HB4 : Hid (Below base w (w.setCell ⟨g, ini.length * 2 + 1, none⟩ (.int .i64 hi))) := (Below.refl base w).setCell (p := ⟨g, ini.length * 2 + 1, none⟩) hbg _
      clear HO
      go_enter Tryz.func138, Tryz.ntmps138
      go_wp2
      go_ret
      exact ⟨.slice (some ⟨g, 0, none⟩) (ini.length + 1) cap, rfl, HO4.out, HB4.out⟩
    · rw [withL_snoc q]
      have hq : (s.hi == lo - 1) = false := by simp [q]
      clear q
      have HO3 : Hid ((w.alloc (.cells #[.int .i64 lo, .int .i64 hi] 94)).ownsRow base 94 2 (.slice (some ⟨g, 0, none⟩) (ini.length + 1) cap) (ini.length + 1) (cellsRs (ini ++ [s]))) := World.ownsRow.alloc HO.out _
      have HN3 : Hid _ := heap_new' w (.cells #[.int .i64 lo, .int .i64 hi] 94)
      have HB3 : Hid (Below base w (w.alloc (.cells #[.int .i64 lo, .int .i64 hi] 94))) := (Below.refl base w).alloc hbase _
      clear HO
      go_enter Tryz.func138, Tryz.ntmps138
      go_wp2_with (at_builtin; go_must (refine wpList_append_own _ rfl (.tmp 30) (.tmp 34) 43 rfl base 94 i0 (.agg #[.int .i64 0, .int .i64 0]) 2 16 Tryz.underlying43 hi0 hz0 hz1 hz2 rfl (by decide) _ _ _ rfl HO3.out ⟨w.heap.size, 0, none⟩ 1 1 (cellsR ⟨lo, hi⟩) rfl rfl (World.news_of_block HN3.out) (by simp [cellsR, Value.oneCell']) (by unfold maxLen; omega) (by omega) (by simp; omega) ?_); intro v' w1 hown' hgrow hnil)
      go_ret
      refine ⟨v', rfl, ?_, HB3.out.grown hgrow (by simp; omega) (fun j e => (World.ownsRow.lt HO3.out j e).1)⟩
      rw [cellsRs_snoc]
      simpa using hown'
end Go.Proofs.YtfdjchnckjgapaaGreatDoor

namespace Go.Proofs.YtfdjchnckjgapaaGreatDoor
open Go.RowKit
set_option linter.unusedVariables false

/-- A slice of ranges, fit to be appended. -/
def RngSrc (w : World) (v : Value) (l : List Rg) : Prop := RngIn w v l ∧ SrcIs w v l.length 2 (cellsRs l)
theorem RngSrc.below {w w' : World} {v : Value} {l : List Rg} (h : RngSrc w v l) (hb : Below w.heap.size w w') : RngSrc w' v l := ⟨h.1.below hb, h.2.below hb⟩
theorem RngSrc.nil (w : World) : RngSrc w (.slice none 0 0) [] := ⟨RngAt.nil _ _, .inl ⟨rfl, rfl, rfl⟩⟩
theorem RngSrc.row {w : World} {base : Nat} {v : Value} {l : List Rg} (h : w.ownsRow base 94 2 v l.length (cellsRs l)) : RngSrc w v l := ⟨rng_of_row h, src_of_row h (cellsRs_one l)⟩

set_option maxRecDepth 100000 in
set_option maxHeartbeats 2000000 in
theorem refHas_any (a : List Rg) (hlen : a.length ≤ 600000) (y : Int) (v : Value) (w : World) (hv : RngIn w v a) :
    Calls Tryz.prog 137 #[v, .int .i64 y] w fun e w' => e = .returned (.bool (hasR a y)) ∧ w' = w := by
  obtain ⟨ad, cap, rfl, hc, hcell⟩ := hv
  have HA : Hid (∀ i, (h : i < a.length) → ∃ g off, ad = some ⟨g, off, none⟩ ∧ g < w.heap.size ∧ w.cell? ⟨g, off + i * 2, none⟩ = some (.int .i64 a[i].lo) ∧ w.cell? ⟨g, off + i * 2 + 1, none⟩ = some (.int .i64 a[i].hi)) := hcell
  clear hcell
  obtain ⟨fin, hfin⟩ : ∃ fin, hasR a y = fin := ⟨_, rfl⟩
  have HF : Hid (hasR a y = fin) := hfin
  rw [hfin]
  clear hfin
  go_enter Tryz.func137, Tryz.ntmps137
  go_wp2
  go_loopw [5] (fun x wr => ∃ k : Nat, k ≤ a.length ∧ x = .int .i64 k ∧ (∀ i, (h : i < a.length) → i < k → ¬ (a[i].lo ≤ y ∧ y ≤ a[i].hi)) ∧ wr = w) (fun x _ => a.length - (intOf x).toNat)
  case atStart => exact ⟨0, Nat.zero_le _, rfl, fun i h q => by omega, rfl⟩
  case round =>
    obtain ⟨k, hk, rfl, hno, rfl⟩ := hrel
    have HNO : Hid (∀ i, (h : i < a.length) → i < k → ¬ (a[i].lo ≤ y ∧ y ≤ a[i].hi)) := hno
    clear hno
    by_cases hlt : k < a.length
    · obtain ⟨g, off, rfl, hg, c0, c1⟩ := HA.out k hlt
      obtain ⟨r, hr⟩ : ∃ r, r = a[k] := ⟨_, rfl⟩
      rw [← hr] at c0 c1
      have HR : Hid (r = a[k]) := hr
      clear hr
      by_cases q : r.lo ≤ y
      · by_cases q2 : y ≤ r.hi
        · have HE : Hid (fin = true) := by
            show fin = true
            rw [← HF.out]
            exact hasR_iff.2 ⟨r, by rw [HR.out]; exact List.getElem_mem hlt, q, q2⟩
          go_wp2
          go_ret
          exact ⟨by rw [HE.out]; rfl, rfl⟩
        · have HN2 : Hid (∀ i, (h : i < a.length) → i < k + 1 → ¬ (a[i].lo ≤ y ∧ y ≤ a[i].hi)) := fun i h z => by
            by_cases e : i = k
            · subst e; rw [← HR.out]; omega
            · exact HNO.out i h (by omega)
          go_wp2
          go_roundw
          case rel => exact ⟨k + 1, by omega, by go_num, HN2.out, trivial⟩
          case measure => simp [intOf]; omega
      · have HN2 : Hid (∀ i, (h : i < a.length) → i < k + 1 → ¬ (a[i].lo ≤ y ∧ y ≤ a[i].hi)) := fun i h z => by
          by_cases e : i = k
          · subst e; rw [← HR.out]; omega
          · exact HNO.out i h (by omega)
        have hq : decide (r.lo ≤ y) = false := by simpa using q
        go_wp2
        go_roundw
        case rel => exact ⟨k + 1, by omega, by go_num, HN2.out, trivial⟩
        case measure => simp [intOf]; omega
    · obtain rfl : k = a.length := by omega
      have HE : Hid (fin = false) := by
        show fin = false
        rw [← HF.out]
        cases q : hasR a y with
        | false => rfl
        | true =>
          obtain ⟨r, hr, z1, z2⟩ := hasR_iff.1 q
          obtain ⟨i, hi, rfl⟩ := List.getElem_of_mem hr
          exact absurd ⟨z1, z2⟩ (HNO.out i hi hi)
      go_wp2
      go_ret
      exact ⟨by rw [HE.out]; rfl, rfl⟩

theorem stepE_length (out : List Int) (r : Rg) : (stepE out r).length ≤ out.length + 2 := by
  unfold stepE
  have h1 := insE_length out r.lo
  split
  · have h2 := insE_length (insE out r.lo) (r.hi + 1)
    omega
  · omega
theorem insE_pos (l : List Int) (n : Int) : 1 ≤ (insE l n).length := by
  cases l with
  | nil => simp [insE]
  | cons y l =>
    unfold insE
    repeat' split
    all_goals simp
theorem stepE_pos (out : List Int) (r : Rg) : 1 ≤ (stepE out r).length := by
  unfold stepE
  split
  · exact insE_pos _ _
  · exact insE_pos _ _
theorem edges_length : ∀ (l : List Rg) (out : List Int), (l.foldl stepE out).length ≤ out.length + 2 * l.length
  | [], out => by simp
  | r :: l, out => by
    have := edges_length l (stepE out r)
    have := stepE_length out r
    simp only [List.foldl_cons, List.length_cons]; omega

theorem ints_lit (w : World) (n : Int) : IntsIn (w.alloc (.cells #[.int .i64 n] 3)) (.slice (some ⟨w.heap.size, 0, none⟩) 1 1) [n] := by
  refine ⟨_, 1, rfl, Nat.le_refl _, fun i hi => ⟨_, _, rfl, by simp, ?_⟩⟩
  obtain rfl : i = 0 := by simpa using hi
  exact cell_of_row _ _ 0 _ _ _ (heap_new' w _)

set_option maxRecDepth 100000 in
set_option maxHeartbeats 4000000 in
theorem edges_any (a b : List Rg) (ha : a.length ≤ 20000) (hb : b.length ≤ 20000) (fa : Fits a) (fb : Fits b) (va vb : Value) (w : World) (hva : RngSrc w va a) (hvb : RngSrc w vb b) :
    Calls Tryz.prog 136 #[va, vb] w fun e w' => ∃ v', e = .returned v' ∧ IntsIn w' v' (edgesL (a ++ b)) ∧ Below w.heap.size w w' := by
  obtain ⟨i0, hi0, hz0, hz1, hz2⟩ := info_parts Tryz.infoRange
  have HSA := hva.2
  have HSB : Hid (SrcIs w vb b.length 2 (cellsRs b)) := hvb.2
  obtain ⟨ada, ca, rfl, _, _⟩ := hva.1
  obtain ⟨adb, cb, rfl, _, _⟩ := hvb.1
  clear hva hvb
  have HI0 : Hid (IntsIn (w.alloc (.cells #[.int .i64 0] 3)) (.slice (some ⟨w.heap.size, 0, none⟩) 1 1) [0]) := ints_lit w 0
  have hB0 : Below w.heap.size w ((w.alloc (.cells #[.int .i64 0] 3)).alloc (.cells #[] 94)) := ((Below.refl _ w).alloc (Nat.le_refl _) _).alloc (by simp) _
  have HS1 : Hid (SrcIs ((w.alloc (.cells #[.int .i64 0] 3)).alloc (.cells #[] 94)) (.slice ada a.length ca) a.length 2 (cellsRs a)) := HSA.below hB0
  have hown0 := owns_empty (w.alloc (.cells #[.int .i64 0] 3)) (w.heap.size + 1) 94 2 (by simp)
  rw [World.size_alloc] at hown0
  have HO0 : Hid (((w.alloc (.cells #[.int .i64 0] 3)).alloc (.cells #[] 94)).ownsRow (w.heap.size + 1) 94 2 (.slice (some ⟨w.heap.size + 1, 0, none⟩) 0 0) 0 []) := hown0
  clear hown0 HSA
  have FA : Hid (Fits (a ++ b)) := fun r hr => (List.mem_append.1 hr).elim (fa r) (fb r)
  clear fa fb
  obtain ⟨l, hl⟩ : ∃ l, a ++ b = l := ⟨_, rfl⟩
  have hll : l.length ≤ 40000 := by rw [← hl]; simp; omega
  rw [hl] at FA ⊢
  have HL : Hid (a ++ b = l) := hl
  clear hl
  go_enter Tryz.func136, Tryz.ntmps136
  go_wp2_with (first | (at_builtin; refine wpList_append_src _ rfl (.tmp 9) (.tmp 10) 43 rfl (w.heap.size + 1) 94 i0 (.agg #[.int .i64 0, .int .i64 0]) 2 16 Tryz.underlying43 hi0 hz0 hz1 hz2 rfl (by decide) _ _ _ rfl HO0.out _ rfl a.length _ HS1.out (by unfold maxLen; omega) (by omega) (by simp) ?_; intro v1 w1 ho1 hg1; have hB1' : Below (w.heap.size + 1) (w.alloc (.cells #[.int .i64 0] 3)) w1 := ((Below.refl _ _).alloc (by simp) _).grown hg1 (by simp) (fun j e => (World.ownsRow.lt HO0.out j e).1); have hB1 : Below w.heap.size w w1 := ((Below.refl _ w).alloc (Nat.le_refl _) _).trans (hB1'.mono (by omega)); have hs1 := hB1.size; have hs1' := hB1'.size; have hsr2 := HSB.out.below hB1; have HO1 : Hid (w1.ownsRow (w.heap.size + 1) 94 2 v1 (0 + a.length) ([] ++ cellsRs a)) := ho1; clear ho1 hg1) | (at_builtin; refine wpList_append_src _ rfl (.tmp 11) (.tmp 12) 43 rfl (w.heap.size + 1) 94 i0 (.agg #[.int .i64 0, .int .i64 0]) 2 16 Tryz.underlying43 hi0 hz0 hz1 hz2 rfl (by decide) _ _ _ rfl HO1.out _ rfl b.length _ hsr2 (by unfold maxLen; omega) (by omega) (by simpa using hs1') ?_; intro v2 w2 ho2 hg2))
  have hB2' : Below (w.heap.size + 1) (w.alloc (.cells #[.int .i64 0] 3)) w2 := hB1'.grown (show w1.grownBy w2 v1.ownBlock from hg2) (by simpa using hs1') (fun j e => (World.ownsRow.lt HO1.out j e).1)
  have hB2 : Below w.heap.size w w2 := ((Below.refl _ w).alloc (Nat.le_refl _) _).trans (hB2'.mono (by omega))
  have HR2 : RngIn w2 v2 (a ++ b) := by
    refine rng_of_row (base := w.heap.size + 1) ?_
    have : w2.ownsRow (w.heap.size + 1) 94 2 v2 (0 + a.length + b.length) ([] ++ cellsRs a ++ cellsRs b) := ho2
    have e : (a ++ b).length = 0 + a.length + b.length := by simp
    rw [e, cellsRs_append]
    simpa using this
  have HI2 : Hid (IntsIn w2 (.slice (some ⟨w.heap.size, 0, none⟩) 1 1) [0]) := HI0.out.below (by rw [World.size_alloc]; exact hB2')
  rw [HL.out] at HR2
  obtain ⟨ad2, c2, rfl, _, hcell⟩ := HR2
  have HA : Hid (∀ i, (h : i < l.length) → ∃ g off, ad2 = some ⟨g, off, none⟩ ∧ g < w2.heap.size ∧ w2.cell? ⟨g, off + i * 2, none⟩ = some (.int .i64 l[i].lo) ∧ w2.cell? ⟨g, off + i * 2 + 1, none⟩ = some (.int .i64 l[i].hi)) := hcell
  have hbs2 := hB2.size
  clear hcell ho2 hg2 hsr2 HO1 HO0 HS1 HSB hB1 hB1' hB2' hB0 HI0 hs1 hs1' HL
  go_wp2
  go_loopw [5, 7] (fun y x wr => ∃ k : Nat, k ≤ l.length ∧ x = .int .i64 k ∧ IntsIn wr y ((l.take k).foldl stepE [0]) ∧ Below w2.heap.size w2 wr) (fun _ x _ => l.length - (intOf x).toNat)
  case atStart => exact ⟨0, Nat.zero_le _, rfl, HI2.out, Below.refl _ _⟩
  case round =>
    obtain ⟨k, hk, rfl, hin, hB⟩ := hrel
    have hpos : 1 ≤ ((l.take k).foldl stepE [0]).length := by
      rcases list_last (l.take k) with e | ⟨ini, s, e⟩
      · rw [e]; simp
      · rw [e, List.foldl_append]; exact stepE_pos _ _
    have hlen := edges_length (l.take k) [0]
    obtain ⟨es, hes⟩ : ∃ es, es = (l.take k).foldl stepE [0] := ⟨_, rfl⟩
    rw [← hes] at hin hpos hlen
    have HES : Hid (es = (l.take k).foldl stepE [0]) := hes
    have hlen2 : es.length ≤ 80001 := by simp only [List.length_take, List.length_cons, List.length_nil] at hlen; omega
    clear hes hlen
    have HI : Hid (IntsIn wr _ es) := hin
    obtain ⟨ade, ce, rfl, _, _⟩ := hin
    have hbs := hB.size
    by_cases hlt : k < l.length
    · obtain ⟨g, off, rfl, hg, c0, c1⟩ := HA.out k hlt
      obtain ⟨r, hr⟩ : ∃ r, r = l[k] := ⟨_, rfl⟩
      rw [← hr] at c0 c1
      have hrf := FA.out r (by rw [hr]; exact List.getElem_mem hlt)
      have HST : Hid ((l.take (k + 1)).foldl stepE [0] = stepE es r) := by
        show _ = _
        rw [List.take_succ_eq_append_getElem hlt, List.foldl_append, HES.out, hr]
        rfl
      have d0 : wr.cell? ⟨g, off + k * 2, none⟩ = some (.int .i64 r.lo) := (hB.cell (p := ⟨g, _, none⟩) hg).trans c0
      clear c0 hr HES
      go_wp2_with fail
      refine (rising_any es r.lo _ wr hpos (by omega) HI.out).mono ?_
      rintro e w3 ⟨v3, rfl, hi3, hB3⟩
      have hs3 := hB3.size
      have hB23 : Below w2.heap.size w2 w3 := hB.trans (hB3.mono hbs)
      have HI3 : Hid (IntsIn w3 v3 (insE es r.lo)) := hi3
      have d1 : w3.cell? ⟨g, off + k * 2 + 1, none⟩ = some (.int .i64 r.hi) := (hB23.cell (p := ⟨g, _, none⟩) hg).trans c1
      have hln3 := insE_length es r.lo
      have hps3 := insE_pos es r.lo
      obtain ⟨ad3, c3, rfl, _, _⟩ := hi3
      clear d0 c1 HI
      by_cases q : r.hi < 1114111
      · have HSE : Hid (stepE es r = insE (insE es r.lo) (r.hi + 1)) := by show _ = _; unfold stepE; rw [if_pos q]
        go_wp2_with fail
        refine (rising_any (insE es r.lo) (r.hi + 1) _ w3 hps3 (by omega) HI3.out).mono ?_
        rintro e w4 ⟨v4, rfl, hi4, hB4⟩
        have hB24 : Below w2.heap.size w2 w4 := hB23.trans (hB4.mono (by omega))
        have HI4 : Hid (IntsIn w4 v4 (insE (insE es r.lo) (r.hi + 1))) := hi4
        clear d1 hi4
        go_wp2
        go_roundw
        case rel => exact ⟨k + 1, by omega, by go_num, by rw [HST.out, HSE.out]; exact HI4.out, hB24⟩
        case measure => simp [intOf]; omega
      · have HSE : Hid (stepE es r = insE es r.lo) := by show _ = _; unfold stepE; rw [if_neg q]
        go_wp2
        go_roundw
        case rel => exact ⟨k + 1, by omega, by go_num, by rw [HST.out, HSE.out]; exact HI3.out, hB23⟩
        case measure => simp [intOf]; omega
    · obtain rfl : k = l.length := by omega
      have HE : Hid (edgesL l = es) := by show _ = _; rw [HES.out, List.take_length]; rfl
      go_wp2
      go_ret
      exact ⟨_, rfl, by rw [HE.out]; exact HI.out, hB2.trans (hB.mono hbs2)⟩
end Go.Proofs.YtfdjchnckjgapaaGreatDoor
