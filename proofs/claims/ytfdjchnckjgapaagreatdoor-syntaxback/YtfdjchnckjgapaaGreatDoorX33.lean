/-
  WidM SameP
-/
import Derived.Test.YtfdjchnckjgapaaGreatDoorX32
import Derived.Deep.RegionHeld3
namespace Go.Proofs.YtfdjchnckjgapaaGreatDoor
open Go.RowKit Go.Shelf S1
set_option linter.unusedVariables false
def Wid : Nat → List Nd → Prop
  | 0, _ => True
  | f + 1, l => l.length ≤ 70000 ∧ ∀ x ∈ l, Wid f x.kids
def WdN (n : Nd) : Prop := ∀ f, Wid f n.kids
theorem wdN_of {k s : Int} {l : List Nd} (h : l.length ≤ 70000) (hl : ∀ x ∈ l, WdN x) : WdN ⟨k, s, l⟩ := fun f => by
  cases f with
  | zero => trivial
  | succ f => exact ⟨h, fun x hx => hl x hx f⟩
theorem joinN_wd {k : Int} : ∀ {l : List Nd}, l.length ≤ 70000 → (∀ x ∈ l, WdN x) → WdN (joinN k l)
  | [], h, hl => wdN_of h hl
  | [x], h, hl => hl x (by simp)
  | x :: y :: l, h, hl => wdN_of h hl
theorem signF_wd : ∀ (f c : Nat) (n : Nd) (ts : List Tok) (st : Sts) {m : Nd} {r : List Tok} {st' : Sts}, WdN n → signF f c n ts st = .inr (m, r, st') → WdN m
  | 0, c, n, ts, st, m, r, st', hn, h => by cases h; exact hn
  | f + 1, c, n, ts, st, m, r, st', hn, h => by
    unfold signF at h
    split at h
    · cases h; exact hn
    · split at h
      · cases h
      · exact signF_wd f (c + 1) _ _ _ (wdN_of (by simp) (fun x hx => by
          obtain rfl : x = n := by simpa using hx
          exact hn)) h
def PWd (p : List Tok → Sts → NR Nd) : Prop := ∀ ts st n r st', ts.length ≤ 69990 → p ts st = .inr (n, r, st') → WdN n ∧ r.length ≤ ts.length
theorem nleft_len {α : Type} {ts : List Tok} {q : NR α} {n : α} {r : List Tok} {st' : Sts} (h : NLeft ts q) (e : q = .inr (n, r, st')) : r.length ≤ ts.length := by
  subst e; exact h.1
theorem signedM_wd {p : List Tok → Sts → NR Nd} (hp : PWd p) : PWd (signedM p) := fun ts st n r st' hl h => by
  unfold signedM at h
  split at h
  · cases h
  · rename_i m r1 st1 he
    obtain ⟨h1, h2⟩ := hp _ _ _ _ _ hl he
    exact ⟨signF_wd 4 _ m r1 st1 h1 h, Nat.le_trans (nleft_len (signF_left 4 (cntN 4 m) m r1 st1) h) h2⟩
theorem catF_wd {p : List Tok → Sts → NR Nd} (hp : PWd p) : ∀ (f : Nat) (acc : List Nd) (ts : List Tok) (st : Sts) {l : List Nd} {r : List Tok} {st' : Sts}, ts.length ≤ 69990 → (∀ x ∈ acc, WdN x) → catF p f acc ts st = .inr (l, r, st') → (∀ x ∈ l, WdN x) ∧ l.length ≤ acc.length + f ∧ r.length ≤ ts.length
  | 0, acc, ts, st, l, r, st', hl, ha, h => by cases h; exact ⟨ha, Nat.le_refl _, Nat.le_refl _⟩
  | f + 1, acc, ts, st, l, r, st', hl, ha, h => by
    unfold catF at h
    split at h
    · split at h
      · cases h
      · rename_i n r1 st1 he
        obtain ⟨h1, h2⟩ := hp _ _ _ _ _ hl he
        obtain ⟨i1, i2, i3⟩ := catF_wd hp f _ _ _ (Nat.le_trans h2 hl) (fun x hx => by
          rcases List.mem_append.1 hx with q | q
          · exact ha x q
          · obtain rfl : x = n := by simpa using q
            exact h1) h
        refine ⟨i1, ?_, Nat.le_trans i3 h2⟩
        simp at i2; omega
    · cases h; exact ⟨ha, by omega, Nat.le_refl _⟩
theorem altF_wd {p : List Tok → Sts → NR Nd} (hp : PWd p) : ∀ (f : Nat) (acc : List Nd) (ts : List Tok) (st : Sts) {l : List Nd} {r : List Tok} {st' : Sts}, ts.length ≤ 69990 → (∀ x ∈ acc, WdN x) → altF p f acc ts st = .inr (l, r, st') → (∀ x ∈ l, WdN x) ∧ l.length ≤ acc.length + f ∧ r.length ≤ ts.length
  | 0, acc, ts, st, l, r, st', hl, ha, h => by cases h; exact ⟨ha, Nat.le_refl _, Nat.le_refl _⟩
  | f + 1, acc, ts, st, l, r, st', hl, ha, h => by
    unfold altF at h
    split at h
    · split at h
      · cases h
      · rename_i n r1 st1 he
        have ht : ts.tail.length ≤ ts.length := by simp
        obtain ⟨h1, h2⟩ := hp _ _ _ _ _ (Nat.le_trans ht hl) he
        obtain ⟨i1, i2, i3⟩ := altF_wd hp f _ _ _ (Nat.le_trans h2 (Nat.le_trans ht hl)) (fun x hx => by
          rcases List.mem_append.1 hx with q | q
          · exact ha x q
          · obtain rfl : x = n := by simpa using q
            exact h1) h
        refine ⟨i1, ?_, Nat.le_trans i3 (Nat.le_trans h2 ht)⟩
        simp at i2; omega
    · cases h; exact ⟨ha, by omega, Nat.le_refl _⟩
theorem catM_wd {p : List Tok → Sts → NR Nd} (hp : PWd p) : PWd (catM p) := fun ts st n r st' hl h => by
  unfold catM at h
  split at h
  · cases h
  · rename_i l r1 st1 he
    cases h
    obtain ⟨i1, i2, i3⟩ := catF_wd hp _ _ _ _ hl (fun x hx => (by cases hx)) he
    exact ⟨joinN_wd (by simp at i2; omega) i1, i3⟩
theorem regexG_wd {p : List Tok → Sts → NR Nd} (hp : PWd p) : PWd (regexG p) := fun ts st n r st' hl h => by
  unfold regexG at h
  split at h
  · cases h
  · rename_i m r1 st1 he
    obtain ⟨h1, h2⟩ := hp _ _ _ _ _ hl he
    split at h
    · cases h
    · rename_i l r2 st2 he2
      cases h
      obtain ⟨i1, i2, i3⟩ := altF_wd hp _ _ _ _ (Nat.le_trans h2 hl) (fun x hx => by
        obtain rfl : x = m := by simpa using hx
        exact h1) he2
      exact ⟨joinN_wd (by simp at i2; omega) i1, Nat.le_trans i3 h2⟩
theorem partM_wd {N : Nms} {f : Option (List Tok → Sts → NR Nd)} (hf : ∀ g, f = some g → PWd g) : PWd (partM N f) := fun ts st n r st' hl h => by
  have ht : ts.tail.length ≤ ts.length := by simp
  unfold partM at h
  split at h
  · split at h
    · cases h
    · rename_i g
      cases hq : g ts.tail st with
      | inl x => rw [hq] at h; cases h
      | inr x =>
        obtain ⟨m, r1, st1⟩ := x
        rw [hq] at h
        simp only [endN] at h
        split at h
        · cases h
          obtain ⟨h1, h2⟩ := hf g rfl _ _ _ _ _ (Nat.le_trans ht hl) hq
          refine ⟨h1, ?_⟩
          have : r1.tail.length ≤ r1.length := by simp
          omega
        · cases h
  · split at h
    · cases h
    · split at h
      · cases h
      · cases h
        exact ⟨wdN_of (by simp) (fun x hx => (by cases hx)), ht⟩
theorem regexM_wd (N : Nms) : ∀ (b : Nat), PWd (regexM N b)
  | 0 => regexG_wd (catM_wd (signedM_wd (partM_wd (fun g h => by cases h))))
  | b + 1 => regexG_wd (catM_wd (signedM_wd (partM_wd (fun g h => by cases h; exact regexM_wd N b))))
def WdR (x : Rl) : Prop := WdN x.l ∧ WdN x.r
theorem ruleM_wd {N : Nms} {ts : List Tok} {st : Sts} {x : Rl} {r : List Tok} {st' : Sts} (hl : ts.length ≤ 69990) (h : ruleM N ts st = .inr (x, r, st')) : WdR x := by
  have ht : ts.tail.length ≤ ts.length := by simp
  have key : ∀ {c : Int} {q : NR Nd} {n : Nd} {r : List Tok} {st' : Sts}, endN c q = .inr (n, r, st') → ∃ r0, q = .inr (n, r0, st') ∧ r.length ≤ r0.length := fun {c q n r st'} h => by
    match q, h with
    | .inr (n0, r0, st0), h =>
      simp only [endN] at h
      split at h
      · cases h; exact ⟨r0, rfl, by simp⟩
      · cases h
  unfold ruleM at h
  split at h
  · cases h
  · rename_i l r1 st1 he
    obtain ⟨r0, e0, hr0⟩ := key he
    obtain ⟨h1, h2⟩ := regexM_wd N 20 _ _ _ _ _ (Nat.le_trans ht hl) e0
    split at h
    · cases h
    · rename_i n r2 st2 he2
      obtain ⟨r3, e3, hr3⟩ := key he2
      obtain ⟨h3, h4⟩ := regexM_wd N 20 _ _ _ _ _ (by omega) e3
      cases h
      exact ⟨h1, h3⟩
theorem textF_wd : ∀ (f : Nat) (N : Nms) (rs : List Rl) (ts : List Tok) (st : Sts) {rs' : List Rl} {st' : Sts}, ts.length ≤ 69990 → (∀ x ∈ rs, WdR x) → textF f N rs ts st = .inr (rs', st') → ∀ x ∈ rs', WdR x
  | 0, N, rs, ts, st, rs', st', hl, ha, h => by cases h; exact ha
  | f + 1, N, rs, ts, st, rs', st', hl, ha, h => by
    have ht : ts.tail.length ≤ ts.length := by simp
    unfold textF at h
    split at h
    · cases h; exact ha
    · rename_i hk
      split at h
      · split at h
        · cases h
        · rename_i N' r hn
          exact textF_wd f N' rs r st (Nat.le_trans (nameM_left hn) (Nat.le_trans ht hl)) ha h
      · split at h
        · cases h
        · split at h
          · cases h
          · split at h
            · cases h
            · rename_i x r st1 hn
              refine textF_wd f N (rs ++ [x]) r st1 (Nat.le_trans (Nat.le_of_lt (ruleM_left hk hn)) hl) (fun y hy => ?_) h
              rcases List.mem_append.1 hy with q | q
              · exact ha y q
              · obtain rfl : y = x := by simpa using q
                exact ruleM_wd hl hn
theorem toksF_few {n : Nat} : ∀ {k : Nat} {us : List U} {acc l : List Tok}, toksF n k us acc = TR.good l → l.length ≤ acc.length + us.length + 1
  | 0, us, acc, l, h => by cases h
  | k + 1, us, acc, l, h => by
    have hbl := blankL_le false us
    cases h1 : tokO n (blankL false us) with
    | inl x => obtain ⟨a, e⟩ := x; rw [toksF_bad h1] at h; cases h
    | inr x =>
      obtain ⟨t, r⟩ := x
      have hlen := tokO_len h1
      by_cases h4 : t.k = 4
      · rw [toksF_end h1 h4] at h
        obtain rfl := Sum.inr.inj h
        simp
      · rw [toksF_on h1 h4] at h
        have h5 := toksF_few h
        have h6 : r.length < (blankL false us).length := by
          rcases hlen with ⟨q, _⟩ | ⟨_, q⟩
          · exact absurd q h4
          · exact q
        simp at h5; omega
theorem toks_few {zs : List Int} {us : List U} (hr : Run zs 0 us zs.length) {l : List Tok} (h : toksL zs.length us = TR.good l) : l.length ≤ zs.length + 1 := by
  have hlen := Run.le hr (Nat.zero_le _)
  have := toksF_few (show toksF zs.length (us.length + 1) us [] = TR.good l from h)
  simp at this
  omega
theorem parseL_wd {zs : List Int} {us : List U} (hr : Run zs 0 us zs.length) (hz : zs.length ≤ 65536) {rs : List Rl} {st : Sts} (h : parseL (toksL zs.length us) = .inr (rs, st)) : ∀ x ∈ rs, WdR x := by
  cases ht : toksL zs.length us with
  | inl e => rw [ht] at h; cases h
  | inr l =>
    have hc := toks_few hr ht
    rw [ht] at h
    unfold parseL at h
    simp only at h
    split at h
    · cases h
    · rename_i x hx
      obtain ⟨rs', st'⟩ := x
      cases h
      exact textF_wd _ _ _ _ _ (by simp; omega) (fun x hx => (by cases hx)) hx
end Go.Proofs.YtfdjchnckjgapaaGreatDoor

namespace Go.Proofs.YtfdjchnckjgapaaGreatDoor
open Go.RowKit Go.Shelf S1
set_option linter.unusedVariables false
set_option maxRecDepth 100000 in
set_option maxHeartbeats 8000000 in
theorem sameNode_body (n : Nd) (za zb : Option Addr) (ca cb : Nat) (w : World) (hl : n.kids.length ≤ 70000)
    (HR : ∀ i, (h : i < n.kids.length) → n.kids.length ≤ ca ∧ n.kids.length ≤ cb ∧ ∃ ga oa gb ob xa ka xb kb, za = some ⟨ga, oa, none⟩ ∧ zb = some ⟨gb, ob, none⟩ ∧ ga < w.heap.size ∧ gb < w.heap.size ∧ w.cell? ⟨ga, oa + i * 3, none⟩ = some (.int .i64 n.kids[i].k) ∧ w.cell? ⟨ga, oa + i * 3 + 1, none⟩ = some (.int .i64 n.kids[i].s) ∧ w.cell? ⟨ga, oa + i * 3 + 2, none⟩ = some (.slice xa n.kids[i].kids.length ka) ∧
      w.cell? ⟨gb, ob + i * 3, none⟩ = some (.int .i64 n.kids[i].k) ∧ w.cell? ⟨gb, ob + i * 3 + 1, none⟩ = some (.int .i64 n.kids[i].s) ∧ w.cell? ⟨gb, ob + i * 3 + 2, none⟩ = some (.slice xb n.kids[i].kids.length kb) ∧
      ∀ w', Below w.heap.size w w' → Calls Tryz.prog 17 #[.agg #[.int .i64 n.kids[i].k, .int .i64 n.kids[i].s, .slice xa n.kids[i].kids.length ka], .agg #[.int .i64 n.kids[i].k, .int .i64 n.kids[i].s, .slice xb n.kids[i].kids.length kb]] w' fun e w'' => e = .returned (.bool true) ∧ Below w'.heap.size w' w'') :
    Calls Tryz.prog 17 #[.agg #[.int .i64 n.k, .int .i64 n.s, .slice za n.kids.length ca], .agg #[.int .i64 n.k, .int .i64 n.s, .slice zb n.kids.length cb]] w fun e w' => e = .returned (.bool true) ∧ Below w.heap.size w w' := by
  obtain ⟨len, hlen⟩ : ∃ len, len = n.kids.length := ⟨_, rfl⟩
  obtain ⟨nk, hnk⟩ : ∃ x, x = n.k := ⟨_, rfl⟩
  obtain ⟨ns, hns⟩ : ∃ x, x = n.s := ⟨_, rfl⟩
  have HHR : Hid (∀ i, i < len → len ≤ ca ∧ len ≤ cb ∧ ∃ (ga oa gb ob : Nat) (xa : Option Addr) (ka : Nat) (xb : Option Addr) (kb : Nat) (yk ys : Int) (yl : Nat), za = some ⟨ga, oa, none⟩ ∧ zb = some ⟨gb, ob, none⟩ ∧ ga < w.heap.size ∧ gb < w.heap.size ∧ w.cell? ⟨ga, oa + i * 3, none⟩ = some (.int .i64 yk) ∧ w.cell? ⟨ga, oa + i * 3 + 1, none⟩ = some (.int .i64 ys) ∧ w.cell? ⟨ga, oa + i * 3 + 2, none⟩ = some (.slice xa yl ka) ∧
      w.cell? ⟨gb, ob + i * 3, none⟩ = some (.int .i64 yk) ∧ w.cell? ⟨gb, ob + i * 3 + 1, none⟩ = some (.int .i64 ys) ∧ w.cell? ⟨gb, ob + i * 3 + 2, none⟩ = some (.slice xb yl kb) ∧
      ∀ w', Below w.heap.size w w' → Calls Tryz.prog 17 #[.agg #[.int .i64 yk, .int .i64 ys, .slice xa yl ka], .agg #[.int .i64 yk, .int .i64 ys, .slice xb yl kb]] w' fun e w'' => e = .returned (.bool true) ∧ Below w'.heap.size w' w'') := fun i hi => by
    obtain ⟨h1, h2, ga, oa, gb, ob, xa, ka, xb, kb, h⟩ := HR i (by omega)
    exact ⟨by omega, by omega, ga, oa, gb, ob, xa, ka, xb, kb, _, _, _, h⟩
  rw [← hlen, ← hnk, ← hns]
  have hll : len ≤ 70000 := by omega
  have hkk : (nk != nk) = false := by simp
  have hss : (ns != ns) = false := by simp
  have hee : ((len : Int) != (len : Int)) = false := by simp
  have HB0 : Hid (Below w.heap.size w ((w.alloc (.cells #[.int .i64 nk, .int .i64 ns, .slice za len ca] 39)).alloc (.cells #[.int .i64 nk, .int .i64 ns, .slice zb len cb] 39))) := below_after (below_alloc _ _) (below_alloc _ _)
  have HEB : Hid (((w.alloc (.cells #[.int .i64 nk, .int .i64 ns, .slice za len ca] 39)).alloc (.cells #[.int .i64 nk, .int .i64 ns, .slice zb len cb] 39)).heap[w.heap.size + 1]? = some (.cells #[.int .i64 nk, .int .i64 ns, .slice zb len cb] 39 (0, 0))) := by
    have := heap_new' (w.alloc (.cells #[.int .i64 nk, .int .i64 ns, .slice za len ca] 39)) (.cells #[.int .i64 nk, .int .i64 ns, .slice zb len cb] 39)
    rw [World.size_alloc] at this
    exact this
  have HEA : Hid (((w.alloc (.cells #[.int .i64 nk, .int .i64 ns, .slice za len ca] 39)).alloc (.cells #[.int .i64 nk, .int .i64 ns, .slice zb len cb] 39)).heap[w.heap.size]? = some (.cells #[.int .i64 nk, .int .i64 ns, .slice za len ca] 39 (0, 0))) := ((below_alloc (w.alloc _) _).block _ (by simp)).trans (heap_new' w _)
  clear HR hlen hnk hns hl
  go_enter Tryz.func17, Tryz.ntmps17
  go_wp2
  go_loopw [5] (fun x wr => ∃ (j : Nat), j ≤ len ∧ x = .int .i64 (j : Int) ∧ wr.heap[w.heap.size]? = some (.cells #[.int .i64 nk, .int .i64 ns, .slice za len ca] 39 (0, 0)) ∧ wr.heap[w.heap.size + 1]? = some (.cells #[.int .i64 nk, .int .i64 ns, .slice zb len cb] 39 (0, 0)) ∧ Below w.heap.size w wr) (fun x _ => len - (intOf x).toNat)
  case atStart => exact ⟨0, Nat.zero_le _, rfl, HEA.out, HEB.out, HB0.out⟩
  case round =>
    obtain ⟨j, hj, rfl, hEA, hEB, hB⟩ := hrel
    have hlt : w.heap.size + 1 < wr.heap.size := (Array.getElem?_eq_some_iff.1 hEB).1
    have a2 : wr.cell? ⟨w.heap.size, 2, none⟩ = some (.slice za len ca) := cell_of_row _ _ 2 _ _ _ hEA
    have b2 : wr.cell? ⟨w.heap.size + 1, 2, none⟩ = some (.slice zb len cb) := cell_of_row _ _ 2 _ _ _ hEB
    have HEA' : Hid (wr.heap[w.heap.size]? = some (.cells #[.int .i64 nk, .int .i64 ns, .slice za len ca] 39 (0, 0))) := hEA
    have HEB' : Hid (wr.heap[w.heap.size + 1]? = some (.cells #[.int .i64 nk, .int .i64 ns, .slice zb len cb] 39 (0, 0))) := hEB
    clear hEA hEB
    by_cases hjl : j < len
    · obtain ⟨hca, hcb, ga, oa, gb, ob, xa, ka, xb, kb, yk, ys, yl, rfl, rfl, hga, hgb, p0, p1, p2, q0, q1, q2, hcall⟩ := HHR.out j hjl
      have r0 : wr.cell? ⟨ga, oa + j * 3, none⟩ = some (.int .i64 yk) := (hB.cell (p := ⟨ga, _, none⟩) hga).trans p0
      have r1 : wr.cell? ⟨ga, oa + j * 3 + 1, none⟩ = some (.int .i64 ys) := (hB.cell (p := ⟨ga, _, none⟩) hga).trans p1
      have r2 : wr.cell? ⟨ga, oa + j * 3 + 2, none⟩ = some (.slice xa yl ka) := (hB.cell (p := ⟨ga, _, none⟩) hga).trans p2
      have s0 : wr.cell? ⟨gb, ob + j * 3, none⟩ = some (.int .i64 yk) := (hB.cell (p := ⟨gb, _, none⟩) hgb).trans q0
      have s1 : wr.cell? ⟨gb, ob + j * 3 + 1, none⟩ = some (.int .i64 ys) := (hB.cell (p := ⟨gb, _, none⟩) hgb).trans q1
      have s2 : wr.cell? ⟨gb, ob + j * 3 + 2, none⟩ = some (.slice xb yl kb) := (hB.cell (p := ⟨gb, _, none⟩) hgb).trans q2
      have hga' : ga < wr.heap.size := by omega
      have hgb' : gb < wr.heap.size := by omega
      have hj0 : (0 : Int) ≤ (j : Int) := by omega
      have hj1 : (j : Int) < (len : Int) := by omega
      have HCALL : Hid (∀ W, Below wr.heap.size wr W → Calls Tryz.prog 17 #[.agg #[.int .i64 yk, .int .i64 ys, .slice xa yl ka], .agg #[.int .i64 yk, .int .i64 ys, .slice xb yl kb]] W fun e w'' => e = .returned (.bool true) ∧ Below W.heap.size W w'') := fun W hW => hcall W (hB.trans (hW.mono hB.size))
      have HKEEP : Hid (∀ w', Below (wr.drewN 1).heap.size (wr.drewN 1) w' → w'.cell? ⟨w.heap.size, 2, none⟩ = some (.slice (some ⟨ga, oa, none⟩) len ca) ∧ w'.cell? ⟨w.heap.size + 1, 2, none⟩ = some (.slice (some ⟨gb, ob, none⟩) len cb) ∧ w'.cell? ⟨ga, oa + j * 3, none⟩ = some (.int .i64 yk) ∧ w'.cell? ⟨ga, oa + j * 3 + 1, none⟩ = some (.int .i64 ys) ∧ w'.cell? ⟨ga, oa + j * 3 + 2, none⟩ = some (.slice xa yl ka) ∧ w'.cell? ⟨gb, ob + j * 3, none⟩ = some (.int .i64 yk) ∧ w'.cell? ⟨gb, ob + j * 3 + 1, none⟩ = some (.int .i64 ys) ∧ w'.cell? ⟨gb, ob + j * 3 + 2, none⟩ = some (.slice xb yl kb)) := fun W hW => by
        have hk : Below wr.heap.size wr W := (below_drewN' (Below.refl _ _) 1).trans hW
        exact ⟨(hk.cell (p := ⟨_, _, none⟩) (show w.heap.size < _ by omega)).trans a2, (hk.cell (p := ⟨_, _, none⟩) hlt).trans b2, (hk.cell (p := ⟨ga, _, none⟩) hga').trans r0, (hk.cell (p := ⟨ga, _, none⟩) hga').trans r1, (hk.cell (p := ⟨ga, _, none⟩) hga').trans r2, (hk.cell (p := ⟨gb, _, none⟩) hgb').trans s0, (hk.cell (p := ⟨gb, _, none⟩) hgb').trans s1, (hk.cell (p := ⟨gb, _, none⟩) hgb').trans s2⟩
      clear p0 p1 p2 q0 q1 q2 hcall
      go_wp2
      go_region_held3 (fun w' => w'.cell? ⟨w.heap.size, 2, none⟩ = some (.slice (some ⟨ga, oa, none⟩) len ca) ∧ w'.cell? ⟨w.heap.size + 1, 2, none⟩ = some (.slice (some ⟨gb, ob, none⟩) len cb) ∧ w'.cell? ⟨ga, oa + j * 3, none⟩ = some (.int .i64 yk) ∧ w'.cell? ⟨ga, oa + j * 3 + 1, none⟩ = some (.int .i64 ys) ∧ w'.cell? ⟨ga, oa + j * 3 + 2, none⟩ = some (.slice xa yl ka) ∧ w'.cell? ⟨gb, ob + j * 3, none⟩ = some (.int .i64 yk) ∧ w'.cell? ⟨gb, ob + j * 3 + 1, none⟩ = some (.int .i64 ys) ∧ w'.cell? ⟨gb, ob + j * 3 + 2, none⟩ = some (.slice xb yl kb)) (first | go_keep | exact HKEEP.out _ hB1) ((go_at_call 17; refine (HCALL.out _ (by exact below_drewN' (Below.refl _ _) 1)).mono ?_; rintro e w1 ⟨rfl, hB1⟩))
      have hk : Below wr.heap.size wr w1 := (below_drewN' (Below.refl _ _) 1).trans hB1
      clear hB1
      go_wp2
      go_roundw
      case rel => exact ⟨j + 1, by omega, by go_num, (hk.block _ (by omega)).trans HEA'.out, (hk.block _ hlt).trans HEB'.out, below_after hB hk⟩
      case measure => simp [intOf]; omega
    · obtain rfl : j = len := by omega
      go_wp2
      go_ret
      exact ⟨rfl, hB⟩
theorem KidS.slice {Q : Nat → Prop} {w : World} {f : Nat} {z : Value} {l : List Nd} (h : KidS Q w f z l) : ∃ a cap, z = .slice a l.length cap := by
  cases f with
  | zero => obtain ⟨rfl, a, cap, e⟩ := h; exact ⟨a, cap, e⟩
  | succ f => obtain ⟨a, cap, e, hc, _⟩ := h; exact ⟨a, cap, e⟩
theorem sameNode_any : ∀ (f : Nat) (n : Nd) (z z' : Value) (w : World), KidS (fun k => k < w.heap.size) w f z n.kids → KidS (fun k => k < w.heap.size) w f z' n.kids → Wid f n.kids →
    Calls Tryz.prog 17 #[ndV n z, ndV n z'] w fun e w' => e = .returned (.bool true) ∧ Below w.heap.size w w'
  | 0, n, z, z', w, h, h', hw => by
    obtain ⟨a, ca, rfl⟩ := h.slice
    obtain ⟨b, cb, rfl⟩ := h'.slice
    have h0 : n.kids = [] := h.1
    exact sameNode_body n a b ca cb w (by rw [h0]; simp) (fun i hi => by rw [h0] at hi; cases hi)
  | f + 1, n, z, z', w, h, h', hw => by
    obtain ⟨a, ca, rfl, hca, hia⟩ := h
    obtain ⟨b, cb, rfl, hcb, hib⟩ := h'
    refine sameNode_body n a b ca cb w hw.1 (fun i hi => ?_)
    obtain ⟨ga, oa, xa, rfl, hga, p0, p1, p2, p3⟩ := hia i hi
    obtain ⟨gb, ob, xb, rfl, hgb, q0, q1, q2, q3⟩ := hib i hi
    obtain ⟨ya, ka, rfl⟩ := p3.slice
    obtain ⟨yb, kb, rfl⟩ := q3.slice
    refine ⟨hca, hcb, ga, oa, gb, ob, ya, ka, yb, kb, rfl, rfl, hga, hgb, p0, p1, p2, q0, q1, q2, fun w' hB => ?_⟩
    have hq : ∀ k, k < w.heap.size → w'.heap[k]? = w.heap[k]? ∧ k < w'.heap.size := fun k hk => ⟨hB.block k hk, Nat.lt_of_lt_of_le hk hB.size⟩
    exact sameNode_any f n.kids[i] _ _ w' (p3.to hq) (q3.to hq) (hw.2 _ (List.getElem_mem hi))
theorem sameNode_of {n : Nd} {z z' : Value} {w : World} (h : KdX (fun k => k < w.heap.size) w z n.kids) (h' : KdX (fun k => k < w.heap.size) w z' n.kids) (hw : WdN n) :
    Calls Tryz.prog 17 #[ndV n z, ndV n z'] w fun e w' => e = .returned (.bool true) ∧ Below w.heap.size w w' := by
  obtain ⟨f, h⟩ := h
  obtain ⟨g, h'⟩ := h'
  have h2 := h'.le f
  rw [Nat.add_comm] at h2
  exact sameNode_any (f + g) n z z' w (h.le g) h2 (hw _)
def SetIn (w : World) (sv : Value) (st : Sts) : Prop :=
  ∃ a cap, sv = .slice a st.length cap ∧ st.length ≤ cap ∧ ∀ i, (h : i < st.length) → ∃ g off x, a = some ⟨g, off, none⟩ ∧ g < w.heap.size ∧ w.cell? ⟨g, off + i, none⟩ = some x ∧ RngIn w x st[i]
def RulIn (w : World) (rv : Value) (rl : List Rl) : Prop :=
  ∃ a cap, rv = .slice a rl.length cap ∧ rl.length ≤ cap ∧ ∀ i, (h : i < rl.length) → ∃ g off zl zr, a = some ⟨g, off, none⟩ ∧ g < w.heap.size ∧ w.cell? ⟨g, off + i * 7, none⟩ = some (.bool rl[i].b) ∧ w.cell? ⟨g, off + i * 7 + 1, none⟩ = some (.int .i64 rl[i].l.k) ∧ w.cell? ⟨g, off + i * 7 + 2, none⟩ = some (.int .i64 rl[i].l.s) ∧ w.cell? ⟨g, off + i * 7 + 3, none⟩ = some zl ∧
    w.cell? ⟨g, off + i * 7 + 4, none⟩ = some (.int .i64 rl[i].r.k) ∧ w.cell? ⟨g, off + i * 7 + 5, none⟩ = some (.int .i64 rl[i].r.s) ∧ w.cell? ⟨g, off + i * 7 + 6, none⟩ = some zr ∧ KdX (fun k => k < w.heap.size) w zl rl[i].l.kids ∧ KdX (fun k => k < w.heap.size) w zr rl[i].r.kids
theorem SetIn.below {w w' : World} {v : Value} {st : Sts} (h : SetIn w v st) (hb : Below w.heap.size w w') : SetIn w' v st := by
  obtain ⟨a, cap, rfl, hc, hi⟩ := h
  refine ⟨a, cap, rfl, hc, fun i hlt => ?_⟩
  obtain ⟨g, off, x, rfl, hg, h0, h1⟩ := hi i hlt
  exact ⟨g, off, x, rfl, Nat.lt_of_lt_of_le hg hb.size, (hb.cell (p := ⟨g, _, none⟩) hg).trans h0, h1.below hb⟩
theorem RulIn.below {w w' : World} {v : Value} {rl : List Rl} (h : RulIn w v rl) (hb : Below w.heap.size w w') : RulIn w' v rl := by
  obtain ⟨a, cap, rfl, hc, hi⟩ := h
  refine ⟨a, cap, rfl, hc, fun i hlt => ?_⟩
  have hq : ∀ k, k < w.heap.size → w'.heap[k]? = w.heap[k]? ∧ k < w'.heap.size := fun k hk => ⟨hb.block k hk, Nat.lt_of_lt_of_le hk hb.size⟩
  obtain ⟨g, off, zl, zr, rfl, hg, h0, h1, h2, h3, h4, h5, h6, h7, h8⟩ := hi i hlt
  exact ⟨g, off, zl, zr, rfl, Nat.lt_of_lt_of_le hg hb.size, (hb.cell (p := ⟨g, _, none⟩) hg).trans h0, (hb.cell (p := ⟨g, _, none⟩) hg).trans h1, (hb.cell (p := ⟨g, _, none⟩) hg).trans h2, (hb.cell (p := ⟨g, _, none⟩) hg).trans h3, (hb.cell (p := ⟨g, _, none⟩) hg).trans h4, (hb.cell (p := ⟨g, _, none⟩) hg).trans h5, (hb.cell (p := ⟨g, _, none⟩) hg).trans h6, h7.to hq, h8.to hq⟩
theorem cellsRls_at : ∀ (l : List RlV) (i j : Nat) (h : i < l.length), j < 7 → (cellsRls l)[i * 7 + j]? = (cellsRl l[i])[j]?
  | u :: us, 0, j, h, hj => by
    have e : cellsRls (u :: us) = cellsRl u ++ cellsRls us := rfl
    rw [e, Nat.zero_mul, Nat.zero_add, List.getElem?_append_left (by simpa [cellsRl] using hj)]
    rfl
  | u :: us, i + 1, j, h, hj => by
    have e : cellsRls (u :: us) = cellsRl u ++ cellsRls us := rfl
    rw [e, List.getElem?_append_right (by simp [cellsRl]; omega)]
    have e2 : (i + 1) * 7 + j - (cellsRl u).length = i * 7 + j := by simp [cellsRl]; omega
    rw [e2, cellsRls_at us i j (by simpa using h) hj]
    rfl
theorem PrgAt.sets {base : Nat} {w : World} {sv rv : Value} {rs : List RlV} {st : Sts} (h : PrgAt base w sv rv rs st) : SetIn w sv st := by
  obtain ⟨⟨vs, e6, e6'⟩, _⟩ := h
  have e6'' := e6
  rcases e6.2 with ⟨rfl, h0⟩ | ⟨g, cap, cur, rfl, hb, hg, hc2, hm, hs, ht⟩
  · obtain rfl : st = [] := List.length_eq_zero_iff.1 h0
    exact ⟨none, 0, rfl, by simp, fun i hi => (by cases hi)⟩
  · refine ⟨_, cap, rfl, hc2, fun i hi => ?_⟩
    obtain ⟨x, q1, q2, q3⟩ := e6'.2 i hi
    have := e6''.cells (g := g) rfl i x q1
    rw [add_lit'] at this
    exact ⟨g, 0, x, rfl, (Array.getElem?_eq_some_iff.1 hg).1, this, q2.rng (fun k hk => hk)⟩
theorem PrgAt.rules {base : Nat} {w : World} {sv rv : Value} {rs : List RlV} {st : Sts} (h : PrgAt base w sv rv rs st) : RulIn w rv (rs.map Prod.fst) := by
  obtain ⟨_, h, hx, _⟩ := h
  rcases h.2 with ⟨rfl, h0⟩ | ⟨g, cap, cur, rfl, hb, hg, hc, hm, hs, ht⟩
  · obtain rfl : rs = [] := List.length_eq_zero_iff.1 h0
    exact ⟨none, 0, rfl, by simp, fun i hi => (by cases hi)⟩
  · have key : ∀ i j x, i < rs.length → (cellsRls rs)[i * 7 + j]? = some x → w.cell? ⟨g, 0 + i * 7 + j, none⟩ = some x := fun i j x hi hx => by
      have := h.cells (g := g) rfl (i * 7 + j) x hx
      rw [add_lit'] at this
      rw [Nat.add_assoc]
      exact this
    refine ⟨some ⟨g, 0, none⟩, cap, by simp, by simpa using hc, fun i hi => ?_⟩
    have hi' : i < rs.length := by simpa using hi
    have el : (rs.map Prod.fst)[i] = rs[i].1 := by simp
    rw [el]
    obtain ⟨x1, x2⟩ := hx rs[i] (List.getElem_mem hi')
    exact ⟨g, 0, rs[i].2.1, rs[i].2.2, rfl, (Array.getElem?_eq_some_iff.1 hg).1, key i 0 _ hi' (by rw [cellsRls_at rs i 0 hi' (by omega)]; rfl), key i 1 _ hi' (by rw [cellsRls_at rs i 1 hi' (by omega)]; rfl), key i 2 _ hi' (by rw [cellsRls_at rs i 2 hi' (by omega)]; rfl), key i 3 _ hi' (by rw [cellsRls_at rs i 3 hi' (by omega)]; rfl), key i 4 _ hi' (by rw [cellsRls_at rs i 4 hi' (by omega)]; rfl), key i 5 _ hi' (by rw [cellsRls_at rs i 5 hi' (by omega)]; rfl), key i 6 _ hi' (by rw [cellsRls_at rs i 6 hi' (by omega)]; rfl), x1, x2⟩
end Go.Proofs.YtfdjchnckjgapaaGreatDoor
