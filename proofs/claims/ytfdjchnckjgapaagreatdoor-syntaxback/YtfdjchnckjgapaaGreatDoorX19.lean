/-
  SumP
-/
import Derived.Test.YtfdjchnckjgapaaGreatDoorX18
namespace Go.Proofs.YtfdjchnckjgapaaGreatDoor
open Go.RowKit Go.Shelf S1
set_option linter.unusedVariables false
theorem Pa.dep {c : Pc} {X : Nat → Prop} {P : Nat} {w : World} {ts : List Tok} {st : Sts} {d : Nat} (h : Pa c X P w ts st d) : w.cell? ⟨P, 5, none⟩ = some (.int .i64 (d : Int)) ∧ w.frozen? ⟨P, 5, none⟩ = false ∧ d ≤ 20 := by
  obtain ⟨k, sv, h1, h2, h3⟩ := h
  exact ⟨by rw [row_cell h1]; rfl, row_frozen h1 5, h3⟩
theorem Pa.deep {c : Pc} {X : Nat → Prop} {P : Nat} {w : World} {ts : List Tok} {st : Sts} {d : Nat} (h : Pa c X P w ts st d) (d' : Nat) (hd : d' ≤ 20) : Pa c X P (w.setCell ⟨P, 5, none⟩ (.int .i64 (d' : Int))) ts st d' := by
  obtain ⟨k, sv, h1, h2, h3⟩ := h
  have hP : P < w.heap.size := (Array.getElem?_eq_some_iff.1 h1).1
  have h2' := h2
  obtain ⟨e1, e2, e3, e4, e5, e6, e7, e8, e9, e10, e11⟩ := h2
  refine ⟨k, sv, ?_, h2'.to (fun j hj => (fr_own (n := w.heap.size) (P := P) w 5 (by decide) _).all j hj) (fun j hj => Below.heap_setCell w ⟨P, 5, none⟩ _ j (fun q => e7 (by rw [hj]; exact congrArg some q))) (fun j hj => by simpa [World.setCell] using e11 j hj), hd⟩
  rw [heap_set h1]
  simp [Pc.row]
def leftP (n : Nat) (w : World) (P : Nat) : Nat := match w.cell? ⟨P, 1, none⟩ with
  | some (.int _ k) => n - k.toNat
  | _ => 0
theorem Pa.left {c : Pc} {X : Nat → Prop} {P : Nat} {w : World} {ts : List Tok} {st : Sts} {d : Nat} (h : Pa c X P w ts st d) : leftP c.n w P = ts.length := by
  obtain ⟨k, sv, h1, h2, h3⟩ := h
  obtain ⟨e1, _⟩ := h2
  have : w.cell? ⟨P, 1, none⟩ = some (.int .i64 (k : Int)) := by rw [row_cell h1]; rfl
  unfold leftP
  rw [this]
  simp
  omega
theorem Pa.ends {c : Pc} {X : Nat → Prop} {P : Nat} {w : World} {ts : List Tok} {st : Sts} {d : Nat} (h : Pa c X P w ts st d) : EndsT ts := by
  obtain ⟨k, sv, h1, h2, h3⟩ := h
  obtain ⟨e1, e2, e3, e4, _⟩ := h2
  exact e4
theorem RngS.fr {P : Nat} {w w' : World} {X : Nat → Prop} {v : Value} {l : List Rg} (h : RngS (Im X w P) w v l) (hf : Fr w.heap.size P w w') : RngS (Im X w' P) w' v l := h.to (fun k hk => hf.all k hk)
def QA (c : Pc) (X : Nat → Prop) (P : Nat) (st : Sts) (d : Nat) (q : QR) (w : World) (e : Ending) (w' : World) : Prop :=
  ∃ v s x r, e = .returned (.tuple #[v, .int .i64 x]) ∧ IsSet s ∧ RngS (Im X w' P) w' v s ∧ Pa c X P w' r st d ∧ Fr w.heap.size P w w' ∧ ((x ≠ 0 ∧ q = .inl (r, x)) ∨ (x = 0 ∧ q = .inr (s, r)))
set_option maxRecDepth 100000 in
set_option maxHeartbeats 4000000 in
theorem endedR_any (c : Pc) (X : Nat → Prop) (P : Nat) (w : World) (st : Sts) (d : Nat) (q : QR) (x : Int) (hx : 0 ≤ x ∧ x ≤ 255)
    (hcall : Calls Tryz.prog 117 #[.pointer (some ⟨P, 0, none⟩)] w fun e w' => QA c X P st d q w e w') :
    Calls Tryz.prog 116 #[.pointer (some ⟨P, 0, none⟩), .func (.func 117) #[.pointer (some ⟨P, 0, none⟩)] #[], .string (strOfNums [x])] w fun e w' => QA c X P st d (endQ x q) w e w' := by
  go_enter Tryz.func116, Tryz.ntmps116
  go_wp2_with fail
  refine hcall.mono ?_
  rintro e w1 ⟨v, s, y, r, rfl, hs, hr, hp, hf, hq⟩
  obtain ⟨va, vc, rfl⟩ := hr.slice
  have HR : Hid (RngS (Im X w1 P) w1 (.slice va s.length vc) s) := hr
  have HS : Hid (IsSet s) := hs
  clear hcall hs hr
  rcases hq with ⟨hy, rfl⟩ | ⟨rfl, rfl⟩
  · have hy' : (y == 0) = false := by simpa using hy
    have HY : Hid (y ≠ 0) := hy
    clear hy
    go_wp2
    go_ret2
    exact ⟨_, s, y, r, rfl, HS.out, HR.out, hp, hf, .inl ⟨HY.out, rfl⟩⟩
  · obtain ⟨t, r', rfl⟩ := hp.ends.cons
    have h2 := takesSign_ans c X P w1 t r' st d hp x hx
    cases h3 : tkSign x t with
    | true =>
      rw [h3] at h2
      have HE : Hid (endQ x (.inr (s, t :: r')) = .inr (s, r')) := by
        show _ = _
        simp [endQ, hdT, h3]
      go_wp2_with fail
      refine h2.mono ?_
      rintro e w2 ⟨rfl, hp2, hf2⟩
      clear h2
      go_wp2
      go_ret2
      exact ⟨_, s, 0, r', rfl, HS.out, HR.out.fr hf2, hp2, hf.then hf2 hf.size, .inr ⟨rfl, HE.out⟩⟩
    | false =>
      rw [h3] at h2
      have HE : Hid (endQ x (.inr (s, t :: r')) = .inl (t :: r', 6)) := by
        show _ = _
        simp [endQ, hdT, h3]
      go_wp2_with fail
      refine h2.mono ?_
      rintro e w2 ⟨rfl, hp2, hf2⟩
      clear h2
      go_wp2
      go_ret2
      exact ⟨_, s, 6, t :: r', rfl, HS.out, HR.out.fr hf2, hp2, hf.then hf2 hf.size, .inl ⟨by decide, HE.out⟩⟩
set_option maxRecDepth 100000 in
set_option maxHeartbeats 4000000 in
theorem deeperR_full (c : Pc) (X : Nat → Prop) (P : Nat) (w : World) (ts : List Tok) (st : Sts) (g : Nat) (bs cs : Array Value) (hpa : Pa c X P w ts st 20) :
    Calls Tryz.prog 177 #[.pointer (some ⟨P, 0, none⟩), .func (.func g) bs cs] w fun e w' => QA c X P st 20 (.inl (ts, 3)) w e w' := by
  obtain ⟨c5, f5, _⟩ := hpa.dep
  have hP := hpa.lt
  have HP : Hid (Pa c X P w ts st 20) := hpa
  clear hpa
  go_enter Tryz.func177, Tryz.ntmps177
  go_wp2
  go_ret2
  exact ⟨_, [], 3, ts, rfl, IsSet.nil, RngS.nil _ _, HP.out, Fr.refl _ _ _, .inl ⟨by decide, rfl⟩⟩
set_option maxRecDepth 100000 in
set_option maxHeartbeats 4000000 in

theorem deeperR_any (c : Pc) (X : Nat → Prop) (P : Nat) (w : World) (t : Tok) (r : List Tok) (st : Sts) (d : Nat) (g : Nat) (bs cs : Array Value) (q : QR)
    (eg : ∀ args w, (callFunc g args).run Tryz.prog w = .ok (.enter g args) w) (hd : d < 20) (hk : t.k ≠ 4) (hpa : Pa c X P w (t :: r) st d)
    (hcall : ∀ w1, Pa c X P w1 r st (d + 1) → Fr w.heap.size P w w1 → Calls Tryz.prog g (bs ++ cs) w1 fun e w' => QA c X P st (d + 1) q w1 e w') :
    Calls Tryz.prog 177 #[.pointer (some ⟨P, 0, none⟩), .func (.func g) bs cs] w fun e w' => QA c X P st d q w e w' := by
  obtain ⟨c5, f5, _⟩ := hpa.dep
  have hP := hpa.lt
  have h1 := take_any c X P w t r st d hpa hk
  have hd20 : ((d : Int) == 20) = false := by simp; omega
  have HC : Hid (∀ w1, Pa c X P w1 r st (d + 1) → Fr w.heap.size P w w1 → Calls Tryz.prog g (bs ++ cs) w1 fun e w' => QA c X P st (d + 1) q w1 e w') := hcall
  clear hpa hcall
  go_enter Tryz.func177, Tryz.ntmps177
  go_wp2_with fail
  refine h1.mono ?_
  rintro e w1 ⟨rfl, hp1, hf1, hs1⟩
  clear h1 c5 f5
  obtain ⟨c5, f5, _⟩ := hp1.dep
  have hP1 := hp1.lt
  have hp2 := hp1.deep (d + 1) (by omega)
  rw [show ((d + 1 : Nat) : Int) = (d : Int) + 1 by simp] at hp2
  have hf2 : Fr w.heap.size P w (w1.setCell ⟨P, 5, none⟩ (.int .i64 ((d : Int) + 1))) := hf1.trans (fr_own w1 5 (by decide) _)
  have h2 := HC.out _ hp2 hf2
  go_wp2_with fail
  refine h2.mono ?_
  rintro e w2 ⟨v, s, y, r2, rfl, hs, hr, hp, hf, hq⟩
  obtain ⟨va, vc, rfl⟩ := hr.slice
  have HR : Hid (RngS (Im X w2 P) w2 (.slice va s.length vc) s) := hr
  have HS : Hid (IsSet s) := hs
  have HQ : Hid ((y ≠ 0 ∧ q = .inl (r2, y)) ∨ (y = 0 ∧ q = .inr (s, r2))) := hq
  have HP : Hid (Pa c X P w2 r2 st (d + 1)) := hp
  have HF : Hid (Fr w.heap.size P w w2) := hf2.then hf (by simp [World.setCell]; omega)
  clear h2 hr hs hq c5 f5
  obtain ⟨c5, f5, _⟩ := hp.dep
  rw [show ((d + 1 : Nat) : Int) = (d : Int) + 1 by simp] at c5
  have hP2 := hp.lt
  clear hp hf hf2 hp2 hp1 hf1
  go_wp2
  go_ret2
  have hf5 : Fr w2.heap.size P w2 (w2.setCell ⟨P, 5, none⟩ (.int .i64 (d : Int))) := fr_own w2 5 (by decide) _
  exact ⟨_, s, y, r2, rfl, HS.out, HR.out.fr hf5, HP.out.deep d (by omega), HF.out.then hf5 HF.out.size, HQ.out⟩
set_option maxHeartbeats 2000000 in
theorem bracketR1_any (c : Pc) (X : Nat → Prop) (P B1 B2 : Nat) (w : World) (st : Sts) (d : Nat) (q : QR) (h1 : w.cell? ⟨B1, 0, none⟩ = some (.pointer (some ⟨P, 0, none⟩))) (h2 : w.cell? ⟨B2, 0, none⟩ = some (.func (.func 117) #[.pointer (some ⟨P, 0, none⟩)] #[]))
    (hcall : Calls Tryz.prog 117 #[.pointer (some ⟨P, 0, none⟩)] w fun e w' => QA c X P st d q w e w') :
    Calls Tryz.prog 206 #[.pointer (some ⟨B1, 0, none⟩), .pointer (some ⟨B2, 0, none⟩)] w fun e w' => QA c X P st d (endQ 41 q) w e w' := by
  have h3 : Calls Tryz.prog 116 #[.pointer (some ⟨P, 0, none⟩), .func (.func 117) #[.pointer (some ⟨P, 0, none⟩)] #[], .string ⟨#[41]⟩] w fun e w' => QA c X P st d (endQ 41 q) w e w' := endedR_any c X P w st d q 41 (by decide) hcall
  clear hcall
  go_enter Tryz.func206, Tryz.ntmps206
  go_wp2_with fail
  refine h3.mono ?_
  rintro e w2 ⟨v, s, y, r2, rfl, hs, hr, hp, hf, hq⟩
  clear h3
  go_wp2
  go_ret2
  exact ⟨_, s, y, r2, rfl, hs, hr, hp, hf, hq⟩
set_option maxRecDepth 100000 in
set_option maxHeartbeats 4000000 in
theorem bracketR_any (c : Pc) (X : Nat → Prop) (P : Nat) (w : World) (t : Tok) (r : List Tok) (st : Sts) (d : Nat) (q : QR) (hd : d < 20) (hk : t.k ≠ 4) (hpa : Pa c X P w (t :: r) st d)
    (hcall : ∀ w1, Pa c X P w1 r st (d + 1) → Calls Tryz.prog 117 #[.pointer (some ⟨P, 0, none⟩)] w1 fun e w' => QA c X P st (d + 1) q w1 e w') :
    Calls Tryz.prog 179 #[.pointer (some ⟨P, 0, none⟩), .func (.func 117) #[.pointer (some ⟨P, 0, none⟩)] #[]] w fun e w' => QA c X P st d (endQ 41 q) w e w' := by
  have HC : Hid (∀ w1, Pa c X P w1 r st (d + 1) → Calls Tryz.prog 117 #[.pointer (some ⟨P, 0, none⟩)] w1 fun e w' => QA c X P st (d + 1) q w1 e w') := hcall
  have HP : Hid (Pa c X P w (t :: r) st d) := hpa
  have hPl := hpa.lt
  clear hcall hpa
  go_enter Tryz.func179, Tryz.ntmps179
  go_wp2_with fail
  have hB : Below w.heap.size w ((w.alloc (.cells #[.pointer (some ⟨P, 0, none⟩)] 79)).alloc (.cells #[.func (.func 117) #[.pointer (some ⟨P, 0, none⟩)] #[]] 152)) := below_after (below_alloc _ _) (below_alloc _ _)
  have hE1 : ((w.alloc (.cells #[.pointer (some ⟨P, 0, none⟩)] 79)).alloc (.cells #[.func (.func 117) #[.pointer (some ⟨P, 0, none⟩)] #[]] 152)).heap[w.heap.size]? = some (.cells #[.pointer (some ⟨P, 0, none⟩)] 79 (0, 0)) := ((below_alloc _ _).block _ (by simp)).trans (heap_new' w _)
  have hE2 := heap_new' (w.alloc (.cells #[.pointer (some ⟨P, 0, none⟩)] 79)) (.cells #[.func (.func 117) #[.pointer (some ⟨P, 0, none⟩)] #[]] 152)
  rw [World.size_alloc] at hE2
  have hsz : ((w.alloc (.cells #[.pointer (some ⟨P, 0, none⟩)] 79)).alloc (.cells #[.func (.func 117) #[.pointer (some ⟨P, 0, none⟩)] #[]] 152)).heap.size = w.heap.size + 2 := by simp
  have h1 := deeperR_any c X P _ t r st d 206 #[] #[.pointer (some ⟨w.heap.size, 0, none⟩), .pointer (some ⟨w.heap.size + 1, 0, none⟩)] (endQ 41 q) (enters_of Tryz.func206 (by kernel_rfl) rfl) hd hk (HP.out.below hB) (fun w1 hp1 hf1 => by
    have k1 := (hf1.keep w.heap.size (by omega) ((HP.out.less (X' := NoX) (fun _ q => q.elim)).fresh hB _ (by omega) (by omega))).1.trans hE1
    have k2 := (hf1.keep (w.heap.size + 1) (by omega) ((HP.out.less (X' := NoX) (fun _ q => q.elim)).fresh hB _ (by omega) (by omega))).1.trans hE2
    exact bracketR1_any c X P w.heap.size (w.heap.size + 1) w1 st (d + 1) q (cell_of_row _ _ 0 _ _ _ k1) (cell_of_row _ _ 0 _ _ _ k2) (HC.out w1 hp1))
  refine h1.mono ?_
  rintro e w2 ⟨v, s, y, r2, rfl, hs, hr, hp, hf, hq⟩
  have HF : Hid (Fr w.heap.size P w w2) := (HP.out.fr hB).then hf (by omega)
  clear h1 hE1 hE2 hB
  go_wp2
  go_ret2
  exact ⟨_, s, y, r2, rfl, hs, hr, hp, HF.out, hq⟩
end Go.Proofs.YtfdjchnckjgapaaGreatDoor
