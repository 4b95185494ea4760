/-
  SenP
-/
import Derived.Test.YtfdjchnckjgapaaGreatDoorX29
namespace Go.Proofs.YtfdjchnckjgapaaGreatDoor
open Go.RowKit Go.Shelf S1
set_option linter.unusedVariables false
theorem row_ne_map {w : World} {base e size n : Nat} {v : Value} {xs : List Value} {mb : Nat} {es : Array MapEntry} {ck : Nat} (h : w.ownsRow base e size v n xs) (hm : w.heap[mb]? = some (.map es ck)) : ∀ k, v.ownBlock = some k → k ≠ mb := fun k hk q => by
  rcases h.2 with ⟨rfl, _⟩ | ⟨g, cap, cur, rfl, _, hgg, _⟩
  · simp [Value.ownBlock] at hk
  · have : g = k := by simpa [Value.ownBlock] using hk
    rw [this, q, hm] at hgg
    cases hgg
theorem PT.below {c : Pc} {P : Nat} {w w' : World} {rs : List RlV} {ts : List Tok} {st : Sts} (h : PT c P w rs ts st) (hB : Below w.heap.size w w') : PT c P w' rs ts st := by
  obtain ⟨h1, h2, h3, h4, h5⟩ := h
  have hf := h1.fr hB
  exact ⟨h1.below hB, own_block h2 (fun k hk => (hf.keep k (h3 k hk).1 (h3 k hk)).1), fun k hk => (hf.keep k (h3 k hk).1 (h3 k hk)).2, h4.to (fun k hk => ⟨(hf.all k hk.1).1, (hf.all k hk.1).2, hk.2⟩), h5⟩
set_option maxRecDepth 100000 in
set_option maxHeartbeats 16000000 in
theorem sentence_any (c : Pc) (P : Nat) (w : World) (rs : List RlV) (t : Tok) (r : List Tok) (st : Sts) (hpt : PT c P w rs (t :: r) st) (hbm : c.base ≤ c.mb) :
    Calls Tryz.prog 38 #[.pointer (some ⟨P, 0, none⟩)] w fun e w' => SA c P (senM c.N (rs.map Prod.fst) (t :: r) st) w e w' := by
  obtain ⟨i0, hi0, hz0, hz1, hz2⟩ := info_parts Tryz.infoRule8
  have hPl := hpt.1.lt
  have h1 : Calls Tryz.prog 82 #[.pointer (some ⟨P, 0, none⟩), .string ⟨#[115, 101, 116]⟩] w fun e w' => AnsB w (tkWord wSet t) e w' := isWord_ans c _ P w t r st 0 hpt.1 wSet byt_set
  obtain ⟨q, hq⟩ : ∃ q, q = senM c.N (rs.map Prod.fst) (t :: r) st := ⟨_, rfl⟩
  rw [← hq]
  have HQ : Hid (q = senM c.N (rs.map Prod.fst) (t :: r) st) := hq
  have HPT : Hid (PT c P w rs (t :: r) st) := hpt
  have HBM : Hid (c.base ≤ c.mb) := hbm
  clear hq hpt hbm
  go_enter Tryz.func38, Tryz.ntmps38
  cases hw : tkWord wSet t with
  | true =>
    rw [hw] at h1
    have HE : Hid (q = match nameM c.N r with
      | .inl e => .inl e
      | .inr (N', r') => .inr (N', rs.map Prod.fst, r', st)) := by
      show _ = _
      rw [HQ.out]
      unfold senM
      rw [if_pos (show tkWord wSet (hdT (t :: r)) = true from hw)]
      rfl
    have HK : Hid (t.k ≠ 4) := word_end hw
    go_wp2_with fail
    refine h1.mono ?_
    rintro e w1 ⟨rfl, hB1⟩
    clear h1 hw
    have HPT1 : Hid (PT c P w1 rs (t :: r) st) := HPT.out.below hB1
    have h2 := naming_any c _ P w1 t r st HPT1.out.1 HK.out
    obtain ⟨q2, hq2⟩ : ∃ q2, q2 = nameM c.N r := ⟨_, rfl⟩
    have HE2 : Hid ((∀ e, q2 = .inl e → q = .inl e) ∧ ∀ N' r', q2 = .inr (N', r') → q = .inr (N', rs.map Prod.fst, r', st)) := by
      have h5 := HE.out
      rw [← hq2] at h5
      exact ⟨fun e he => by rw [h5, he], fun N' r' he => by rw [h5, he]⟩
    rw [← hq2] at h2
    have HB1 : Hid (Below w.heap.size w w1) := hB1
    clear hq2 HE HQ hB1
    go_wp2_with fail
    refine h2.mono ?_
    rintro e w2 ⟨x, r2, N, rfl, hp2, hf2, hx⟩
    clear h2
    go_wp2
    go_ret
    obtain ⟨p1, p2, p3, p4, p5⟩ := HPT1.out
    have hB2 : Below c.base w w2 := (HB1.out.mono (by have := HPT.out.1.rv.2.2; have := HPT.out.1.lt; omega)).trans (below_of_frM p1 HBM.out hf2)
    refine ⟨x, rfl, hB2, ?_⟩
    rcases hx with ⟨e1, e2⟩ | ⟨e1, e2⟩
    · exact .inl ⟨e1, _, _, r2, st, HE2.out.1 _ e2, hp2⟩
    · obtain ⟨hmq, es, ck, hmap⟩ := p1.mapOf
      have hne := row_ne_map p2 hmap
      refine .inr ⟨e1, c.rv, N, rs, r2, st, HE2.out.2 _ _ e2, hp2, own_block p2 (fun k hk => (hf2.keep k (p3 k hk).1 (p3 k hk)).1 (hne k hk)), fun k hk => (hf2.keep k (p3 k hk).1 (p3 k hk)).2, p4.to (fun k hk => ?_), p5⟩
      obtain ⟨a1, a2⟩ := hf2.keep k hk.1.1 hk.1.no
      exact ⟨a1 hk.2, a2.with hk.1.2.2.2, hk.2⟩
  | false =>
    rw [hw] at h1
    go_wp2_with fail
    refine h1.mono ?_
    rintro e w1 ⟨rfl, hB1⟩
    clear h1
    have HPT1 : Hid (PT c P w1 rs (t :: r) st) := HPT.out.below hB1
    have h2 := beginsRule_ans c _ P w1 t r st 0 HPT1.out.1
    cases hr : tkRule t with
    | false =>
      rw [hr] at h2
      have HE : Hid (q = .inl (t :: r, 6)) := by
        show _ = _
        rw [HQ.out]; unfold senM
        rw [if_neg (by simp [hdT, hw]), if_pos (show tkRule (hdT (t :: r)) = false from hr)]
      go_wp2_with fail
      refine h2.mono ?_
      rintro e w2 ⟨rfl, hB2⟩
      clear h2
      go_wp2
      go_ret
      have hB := below_after hB1 hB2
      exact ⟨6, rfl, below_of_fr HPT.out.1 (HPT.out.1.fr hB), .inl ⟨by decide, _, _, t :: r, st, HE.out, HPT.out.1.below hB⟩⟩
    | true =>
      rw [hr] at h2
      have HR0 : Hid (tkRule t = true) := hr
      have HW0 : Hid (tkWord wSet t = false) := hw
      go_wp2_with fail
      refine h2.mono ?_
      rintro e w2 ⟨rfl, hB2⟩
      clear h2 hr hw
      have HB2 : Hid (Below w.heap.size w w2) := below_after hB1 hB2
      have HPT2 : Hid (PT c P w2 rs (t :: r) st) := HPT.out.below HB2.out
      clear hB1 hB2 HPT1
      obtain ⟨c4, f4, _⟩ := HPT2.out.1.rv
      obtain ⟨ra, rc, hrv⟩ : ∃ a cp, c.rv = .slice a rs.length cp := by
        rcases HPT2.out.2.1.2 with ⟨e1, e2⟩ | ⟨g, cap, cur, e1, _⟩
        · exact ⟨none, 0, by rw [e1, e2]⟩
        · exact ⟨_, _, e1⟩
      rw [hrv] at c4
      have hPl2 := HPT2.out.1.lt
      by_cases h64 : rs.length = 64
      · have h64' : ((rs.length : Int) == 64) = true := by simp; omega
        have HE : Hid (q = .inl (t :: r, 3)) := by
          show _ = _
          rw [HQ.out]; unfold senM
          rw [if_neg (by simp [hdT, HW0.out]), if_neg (by simp [hdT, HR0.out]), if_pos (by simpa using h64)]
        clear h64 hrv
        go_wp2
        go_ret
        exact ⟨3, rfl, below_of_fr HPT.out.1 (HPT.out.1.fr HB2.out), .inl ⟨by decide, _, _, t :: r, st, HE.out, HPT2.out.1⟩⟩
      · have h64' : ((rs.length : Int) == 64) = false := by simp; omega
        have HL64 : Hid (rs.length < 64) := by have := HPT2.out.2.2.2.2; show _ < _; omega
        have hl64 : rs.length < 64 := HL64.out
        have h3 := rule_any c _ P w2 t r st HPT2.out.1 (rule_end HR0.out)
        obtain ⟨q2, hq2⟩ : ∃ q2, q2 = ruleM c.N (t :: r) st := ⟨_, rfl⟩
        have HE2 : Hid ((∀ e, q2 = .inl e → q = .inl e) ∧ ∀ x r' st', q2 = .inr (x, r', st') → q = .inr (c.N, rs.map Prod.fst ++ [x], r', st')) := by
          have h5 := HQ.out
          unfold senM at h5
          rw [if_neg (by simp [hdT, HW0.out]), if_neg (by simp [hdT, HR0.out]), if_neg (by simpa using h64), ← hq2] at h5
          exact ⟨fun e he => by rw [h5, he], fun x r' st' he => by rw [h5, he]⟩
        rw [← hq2] at h3
        have HRV : Hid (c.rv = .slice ra rs.length rc) := hrv
        clear hq2 HQ h64 hrv
        go_wp2_with fail
        refine h3.mono ?_
        rintro e w3 ⟨b, l, zl, n, zr, x, r3, st3, rfl, hzl, hzr, hp3, hf3, hx⟩
        obtain ⟨za, zc, rfl, _⟩ := hzl.slice
        obtain ⟨ya, yc, rfl, _⟩ := hzr.slice
        obtain ⟨p1, p2, p3, p4, p5⟩ := HPT2.out
        
        have hB4 : Below w3.heap.size w3 ((w3.alloc (.cells #[.bool b, .int .i64 l.k, .int .i64 l.s, .slice za l.kids.length zc, .int .i64 n.k, .int .i64 n.s, .slice ya n.kids.length yc] 41)).alloc (.cells #[.bool b, .int .i64 l.k, .int .i64 l.s, .slice za l.kids.length zc, .int .i64 n.k, .int .i64 n.s, .slice ya n.kids.length yc] 41)) := below_after (below_alloc _ _) (below_alloc _ _)
        have hsz4 : ((w3.alloc (.cells #[.bool b, .int .i64 l.k, .int .i64 l.s, .slice za l.kids.length zc, .int .i64 n.k, .int .i64 n.s, .slice ya n.kids.length yc] 41)).alloc (.cells #[.bool b, .int .i64 l.k, .int .i64 l.s, .slice za l.kids.length zc, .int .i64 n.k, .int .i64 n.s, .slice ya n.kids.length yc] 41)).heap.size = w3.heap.size + 2 := by simp
        have hp4 := hp3.below hB4
        have hfr4 := hp3.fr hB4
        have hf24 := hf3.then hfr4 hf3.size
        have HOW4 : Hid (((w3.alloc (.cells #[.bool b, .int .i64 l.k, .int .i64 l.s, .slice za l.kids.length zc, .int .i64 n.k, .int .i64 n.s, .slice ya n.kids.length yc] 41)).alloc (.cells #[.bool b, .int .i64 l.k, .int .i64 l.s, .slice za l.kids.length zc, .int .i64 n.k, .int .i64 n.s, .slice ya n.kids.length yc] 41)).drew.ownsRow c.base 41 7 (.slice ra rs.length rc) rs.length (cellsRls rs)) := by
          have h5 := own_block p2 (w' := ((w3.alloc (.cells #[.bool b, .int .i64 l.k, .int .i64 l.s, .slice za l.kids.length zc, .int .i64 n.k, .int .i64 n.s, .slice ya n.kids.length yc] 41)).alloc (.cells #[.bool b, .int .i64 l.k, .int .i64 l.s, .slice za l.kids.length zc, .int .i64 n.k, .int .i64 n.s, .slice ya n.kids.length yc] 41))) (fun k hk => (hf24.keep k (p3 k hk).1 (p3 k hk)).1)
          rw [HRV.out] at h5
          exact h5.drew
        have HVI4 : Hid (∀ k, (Value.slice ra rs.length rc).ownBlock = some k → Im NoX ((w3.alloc (.cells #[.bool b, .int .i64 l.k, .int .i64 l.s, .slice za l.kids.length zc, .int .i64 n.k, .int .i64 n.s, .slice ya n.kids.length yc] 41)).alloc (.cells #[.bool b, .int .i64 l.k, .int .i64 l.s, .slice za l.kids.length zc, .int .i64 n.k, .int .i64 n.s, .slice ya n.kids.length yc] 41)) P k) := fun k hk => by
          have hk' : c.rv.ownBlock = some k := by rw [HRV.out]; exact hk
          exact (hf24.keep k (p3 k hk').1 (p3 k hk')).2
        have hxv : XV NoX c.rv = XV NoX (.slice ra rs.length rc) := by rw [HRV.out]
        rw [hxv] at hp4 p4 hzl hzr
        have HP4 : Hid (Pa c (XV NoX (.slice ra rs.length rc)) P ((w3.alloc (.cells #[.bool b, .int .i64 l.k, .int .i64 l.s, .slice za l.kids.length zc, .int .i64 n.k, .int .i64 n.s, .slice ya n.kids.length yc] 41)).alloc (.cells #[.bool b, .int .i64 l.k, .int .i64 l.s, .slice za l.kids.length zc, .int .i64 n.k, .int .i64 n.s, .slice ya n.kids.length yc] 41)) r3 st3 0) := hp4
        have HN4 : Hid (((w3.alloc (.cells #[.bool b, .int .i64 l.k, .int .i64 l.s, .slice za l.kids.length zc, .int .i64 n.k, .int .i64 n.s, .slice ya n.kids.length yc] 41)).alloc (.cells #[.bool b, .int .i64 l.k, .int .i64 l.s, .slice za l.kids.length zc, .int .i64 n.k, .int .i64 n.s, .slice ya n.kids.length yc] 41)).drew.heap[w3.heap.size + 1]? = some (.cells #[.bool b, .int .i64 l.k, .int .i64 l.s, .slice za l.kids.length zc, .int .i64 n.k, .int .i64 n.s, .slice ya n.kids.length yc] 41 (0, 0))) := by
          have := heap_new' (w3.alloc (.cells #[.bool b, .int .i64 l.k, .int .i64 l.s, .slice za l.kids.length zc, .int .i64 n.k, .int .i64 n.s, .slice ya n.kids.length yc] 41)) (.cells #[.bool b, .int .i64 l.k, .int .i64 l.s, .slice za l.kids.length zc, .int .i64 n.k, .int .i64 n.s, .slice ya n.kids.length yc] 41)
          rw [World.size_alloc] at this
          exact this
        obtain ⟨hmq, es, ck, hmap⟩ := p1.mapOf
        have hmap4 := (hf24.keep c.mb hmq.1 hmq.no).1.trans hmap
        have HX4 : Hid (RlX (fun k => Im (XV NoX (.slice ra rs.length rc)) ((w3.alloc (.cells #[.bool b, .int .i64 l.k, .int .i64 l.s, .slice za l.kids.length zc, .int .i64 n.k, .int .i64 n.s, .slice ya n.kids.length yc] 41)).alloc (.cells #[.bool b, .int .i64 l.k, .int .i64 l.s, .slice za l.kids.length zc, .int .i64 n.k, .int .i64 n.s, .slice ya n.kids.length yc] 41)) P k ∧ k ≠ c.mb) ((w3.alloc (.cells #[.bool b, .int .i64 l.k, .int .i64 l.s, .slice za l.kids.length zc, .int .i64 n.k, .int .i64 n.s, .slice ya n.kids.length yc] 41)).alloc (.cells #[.bool b, .int .i64 l.k, .int .i64 l.s, .slice za l.kids.length zc, .int .i64 n.k, .int .i64 n.s, .slice ya n.kids.length yc] 41)) (rs ++ [((⟨b, l, n⟩ : Rl), Value.slice za l.kids.length zc, Value.slice ya n.kids.length yc)])) := fun y hy => by
          rcases List.mem_append.1 hy with hy | hy
          · exact (p4.to (w' := ((w3.alloc (.cells #[.bool b, .int .i64 l.k, .int .i64 l.s, .slice za l.kids.length zc, .int .i64 n.k, .int .i64 n.s, .slice ya n.kids.length yc] 41)).alloc (.cells #[.bool b, .int .i64 l.k, .int .i64 l.s, .slice za l.kids.length zc, .int .i64 n.k, .int .i64 n.s, .slice ya n.kids.length yc] 41))) (Q' := fun k => Im (XV NoX (.slice ra rs.length rc)) ((w3.alloc (.cells #[.bool b, .int .i64 l.k, .int .i64 l.s, .slice za l.kids.length zc, .int .i64 n.k, .int .i64 n.s, .slice ya n.kids.length yc] 41)).alloc (.cells #[.bool b, .int .i64 l.k, .int .i64 l.s, .slice za l.kids.length zc, .int .i64 n.k, .int .i64 n.s, .slice ya n.kids.length yc] 41)) P k ∧ k ≠ c.mb) (fun k hk => ⟨(hf24.all k hk.1).1, (hf24.all k hk.1).2, hk.2⟩)) y hy
          · obtain rfl : y = ((⟨b, l, n⟩ : Rl), Value.slice za l.kids.length zc, Value.slice ya n.kids.length yc) := by simpa using hy
            exact ⟨(hzl.to (fun k hk => hfr4.all k hk.2)).off hmap4, (hzr.to (fun k hk => hfr4.all k hk.2)).off hmap4⟩
        have HF4 : Hid (Fr w.heap.size P w ((w3.alloc (.cells #[.bool b, .int .i64 l.k, .int .i64 l.s, .slice za l.kids.length zc, .int .i64 n.k, .int .i64 n.s, .slice ya n.kids.length yc] 41)).alloc (.cells #[.bool b, .int .i64 l.k, .int .i64 l.s, .slice za l.kids.length zc, .int .i64 n.k, .int .i64 n.s, .slice ya n.kids.length yc] 41))) := (HPT.out.1.fr HB2.out).then hf24 HB2.out.size
        have HSZ4 : Hid (((w3.alloc (.cells #[.bool b, .int .i64 l.k, .int .i64 l.s, .slice za l.kids.length zc, .int .i64 n.k, .int .i64 n.s, .slice ya n.kids.length yc] 41)).alloc (.cells #[.bool b, .int .i64 l.k, .int .i64 l.s, .slice za l.kids.length zc, .int .i64 n.k, .int .i64 n.s, .slice ya n.kids.length yc] 41)).heap.size = w3.heap.size + 2) := hsz4
        have hbs : c.base ≤ w3.heap.size := by have := p1.rv.2.2; have := hp3.lt; omega
        have HXQ : Hid ((x ≠ 0 ∧ q = .inl (r3, x)) ∨ (x = 0 ∧ q = .inr (c.N, (rs ++ [((⟨b, l, n⟩ : Rl), Value.slice za l.kids.length zc, Value.slice ya n.kids.length yc)]).map Prod.fst, r3, st3))) := by
          rcases hx with ⟨e1, e2⟩ | ⟨e1, e2⟩
          · exact .inl ⟨e1, HE2.out.1 _ e2⟩
          · exact .inr ⟨e1, by rw [HE2.out.2 _ _ _ e2]; simp⟩
        have hPl3 := hp3.lt
        obtain ⟨c4', f4', _⟩ := hp3.rv
        rw [HRV.out] at c4'
        obtain ⟨c4a, f4a, _⟩ := hp4.rv
        rw [HRV.out] at c4a
        have HC4 : Hid (((w3.alloc (.cells #[.bool b, .int .i64 l.k, .int .i64 l.s, .slice za l.kids.length zc, .int .i64 n.k, .int .i64 n.s, .slice ya n.kids.length yc] 41)).alloc (.cells #[.bool b, .int .i64 l.k, .int .i64 l.s, .slice za l.kids.length zc, .int .i64 n.k, .int .i64 n.s, .slice ya n.kids.length yc] 41)).drew.cell? ⟨P, 4, none⟩ = some (.slice ra rs.length rc)) := c4a
        have HFZ4 : Hid (((w3.alloc (.cells #[.bool b, .int .i64 l.k, .int .i64 l.s, .slice za l.kids.length zc, .int .i64 n.k, .int .i64 n.s, .slice ya n.kids.length yc] 41)).alloc (.cells #[.bool b, .int .i64 l.k, .int .i64 l.s, .slice za l.kids.length zc, .int .i64 n.k, .int .i64 n.s, .slice ya n.kids.length yc] 41)).drew.frozen? ⟨P, 4, none⟩ = false) := f4a
        have HNP : Hid (some P ≠ (Value.slice ra rs.length rc).ownBlock) := fun q => (HVI4.out P q.symm).2.1 rfl
        have hPl4 : P < ((w3.alloc (.cells #[.bool b, .int .i64 l.k, .int .i64 l.s, .slice za l.kids.length zc, .int .i64 n.k, .int .i64 n.s, .slice ya n.kids.length yc] 41)).alloc (.cells #[.bool b, .int .i64 l.k, .int .i64 l.s, .slice za l.kids.length zc, .int .i64 n.k, .int .i64 n.s, .slice ya n.kids.length yc] 41)).heap.size := hp4.lt
        have HPl4 : Hid (P < ((w3.alloc (.cells #[.bool b, .int .i64 l.k, .int .i64 l.s, .slice za l.kids.length zc, .int .i64 n.k, .int .i64 n.s, .slice ya n.kids.length yc] 41)).alloc (.cells #[.bool b, .int .i64 l.k, .int .i64 l.s, .slice za l.kids.length zc, .int .i64 n.k, .int .i64 n.s, .slice ya n.kids.length yc] 41)).drew.heap.size) := hPl4
        clear h3 hzl hzr hp3 hf3 hx p1 p2 p3 p4 p5 hB4 hsz4 hp4 hfr4 hf24 hxv hmq hmap hmap4 HE2 c4 f4 c4a f4a hPl4
        go_wp2
        go_region_law (refine step_append_lies _ (by rfl) (.tmp 36) (.tmp 38) 25 (by rfl) c.base 41 i0 (.agg #[.bool false, .int .i64 0, .int .i64 0, .slice none 0 0, .int .i64 0, .int .i64 0, .slice none 0 0]) 7 88 Tryz.underlying25 hi0 hz0 hz1 hz2 rfl (by decide) (.slice ra rs.length rc) rs.length (cellsRls rs) (by rfl) (by exact HOW4.out) ⟨w3.heap.size + 1, 0, none⟩ 1 1 [.bool b, .int .i64 l.k, .int .i64 l.s, .slice za l.kids.length zc, .int .i64 n.k, .int .i64 n.s, .slice ya n.kids.length yc] (by rfl) rfl (by exact World.news_of_block HN4.out) (by simp [Value.oneCell']) (by omega) (by unfold maxLen; omega) (by omega) (by simp [World.drew]; omega) _ rfl ?_; intro g cap2 w5 hown5 hgrow5 hat5 hlt5; have c45 : w5.cell? ⟨P, 4, none⟩ = some (.slice ra rs.length rc) := hgrow5.cell HC4.out HNP.out; have f45 : w5.frozen? ⟨P, 4, none⟩ = false := (World.frozen?_of_block (a := ⟨P, 4, none⟩) (hgrow5.block P HPl4.out HNP.out)).trans HFZ4.out)
        all_goals
          have HFN : Hid (SA c P q w (.returned (.int .i64 x)) (w5.setCell ⟨P, 4, none⟩ (.slice (some ⟨g, 0, none⟩) (rs.length + 1) cap2))) := by
            have hg5 : ((w3.alloc (.cells #[.bool b, .int .i64 l.k, .int .i64 l.s, .slice za l.kids.length zc, .int .i64 n.k, .int .i64 n.s, .slice ya n.kids.length yc] 41)).alloc (.cells #[.bool b, .int .i64 l.k, .int .i64 l.s, .slice za l.kids.length zc, .int .i64 n.k, .int .i64 n.s, .slice ya n.kids.length yc] 41)).grownBy w5 (Value.slice ra rs.length rc).ownBlock := ⟨hgrow5.os, hgrow5.tape, hgrow5.output, hgrow5.size, hgrow5.block⟩
            have hn6 : ∀ k, (Value.slice (some ⟨g, 0, none⟩) (rs.length + 1) cap2).ownBlock = some k → (Value.slice ra rs.length rc).ownBlock = some k ∨ ((w3.alloc (.cells #[.bool b, .int .i64 l.k, .int .i64 l.s, .slice za l.kids.length zc, .int .i64 n.k, .int .i64 n.s, .slice ya n.kids.length yc] 41)).alloc (.cells #[.bool b, .int .i64 l.k, .int .i64 l.s, .slice za l.kids.length zc, .int .i64 n.k, .int .i64 n.s, .slice ya n.kids.length yc] 41)).heap.size ≤ k := fun k hk => by
              obtain rfl : g = k := by simpa [Value.ownBlock] using hk
              rcases hat5 with q | q
              · exact .inl q
              · exact .inr (by rw [q]; exact Nat.le_refl _)
            have hp6 := HP4.out.regrow (v' := .slice (some ⟨g, 0, none⟩) (rs.length + 1) cap2) (fun k hk => HVI4.out k hk) hg5 hn6 (fun k hk => (show g = k by simpa [Value.ownBlock] using hk) ▸ hlt5)
            obtain ⟨rg1, rg2, rg3⟩ := regrow (X := NoX) (v' := .slice (some ⟨g, 0, none⟩) (rs.length + 1) cap2) (fun k hk => HVI4.out k hk) HP4.out.lt hg5 hn6
            have hI6 := regrow_im (X := NoX) (g := g) (HP4.out.less (fun k q => q.elim)) (fun k hk => HVI4.out k hk) hg5 hat5 hlt5
            have hgP : g ≠ P := hI6.2.1
            have hp7 := hp6.setrv (.slice (some ⟨g, 0, none⟩) (rs.length + 1) cap2)
            have hf7 : Fr w5.heap.size P w5 (w5.setCell ⟨P, 4, none⟩ (.slice (some ⟨g, 0, none⟩) (rs.length + 1) cap2)) := fr_own w5 4 (by decide) _
            have hB7 : Below c.base w (w5.setCell ⟨P, 4, none⟩ (.slice (some ⟨g, 0, none⟩) (rs.length + 1) cap2)) := by
              have h1 := below_of_fr HPT.out.1 HF4.out
              refine h1.trans ⟨hg5.os, hg5.tape, hg5.output, by have := hg5.size; simpa [World.setCell] using this, fun k hk => ?_⟩
              have hbP := HPT.out.1.rv.2.2
              have hlt4 : k < ((w3.alloc (.cells #[.bool b, .int .i64 l.k, .int .i64 l.s, .slice za l.kids.length zc, .int .i64 n.k, .int .i64 n.s, .slice ya n.kids.length yc] 41)).alloc (.cells #[.bool b, .int .i64 l.k, .int .i64 l.s, .slice za l.kids.length zc, .int .i64 n.k, .int .i64 n.s, .slice ya n.kids.length yc] 41)).heap.size := by rw [HSZ4.out]; omega
              have hne : some k ≠ (Value.slice ra rs.length rc).ownBlock := fun q => by
                have := (HOW4.out.lt k q.symm).1
                omega
              exact (Below.heap_setCell w5 ⟨P, 4, none⟩ _ k (by simp; omega)).trans (hg5.block k hlt4 hne)
            refine ⟨x, rfl, hB7, ?_⟩
            rcases HXQ.out with ⟨e1, e2⟩ | ⟨e1, e2⟩
            · exact .inl ⟨e1, _, _, r3, st3, e2, hp7⟩
            · refine .inr ⟨e1, .slice (some ⟨g, 0, none⟩) (rs.length + 1) cap2, c.N, rs ++ [((⟨b, l, n⟩ : Rl), Value.slice za l.kids.length zc, Value.slice ya n.kids.length yc)], r3, st3, e2, hp7, ?_, fun k hk => ?_, ?_, by simp; omega⟩
              · have h8 : w5.ownsRow c.base 41 7 (.slice (some ⟨g, 0, none⟩) (rs.length + 1) cap2) (rs ++ [((⟨b, l, n⟩ : Rl), Value.slice za l.kids.length zc, Value.slice ya n.kids.length yc)]).length (cellsRls (rs ++ [((⟨b, l, n⟩ : Rl), Value.slice za l.kids.length zc, Value.slice ya n.kids.length yc)])) := by
                  rw [cellsRls_snoc, List.length_append]
                  exact hown5
                exact own_block h8 (fun k hk => Below.heap_setCell w5 ⟨P, 4, none⟩ _ k (fun q => hgP ((show g = k by
                  have hk' : (Value.slice (some ⟨g, 0, none⟩) (rs.length + 1) cap2).ownBlock = some k := hk
                  simpa [Value.ownBlock] using hk').trans q)))
              · obtain rfl : g = k := by
                  have hk' : (Value.slice (some ⟨g, 0, none⟩) (rs.length + 1) cap2).ownBlock = some k := hk
                  simpa [Value.ownBlock] using hk'
                exact (hf7.keep g hI6.1 hI6).2
              · exact HX4.out.to (fun k hk => by
                  obtain ⟨a1, a2⟩ := rg1 k hk.1
                  obtain ⟨a3, a4⟩ := hf7.all k a2
                  exact ⟨a3.trans a1, a4, hk.2⟩)
          clear hown5 hgrow5 hat5 hlt5 HC4 HFZ4 HOW4 HX4 HP4 HVI4 HN4 HF4 HXQ
          go_wp2
          go_ret
          exact HFN.out
end Go.Proofs.YtfdjchnckjgapaaGreatDoor
