/-
  least.joined's closure: a state's number. least.joined's closure, walked. least.joined: the new states, in memory. least.joined, walked. least.joined: what a round leaves, told ahead of the walk.
-/
import Derived.Test.YtklhjjgnhigbiaaGreatDoorGR
import Derived.Test.YtklhjjgnhigbiaaGreatDoorLsRLeast
import Derived.Deep.CutRange
namespace Go.Proofs.YtklhjjgnhigbiaaGreatDoor
open Go.RowKit Go.Shelf
set_option linter.unusedVariables false

/-- The closure's variables: L is of each part its number and one more, l the states that were met. -/
structure JnI (w : World) (base bn bp bm gu gp n : Nat) (L p : Nat → Nat) (mv : Value) (l : List Nat) : Prop where
  nb : w.heap[bn]? = some (.cells #[.slice (some ⟨gu, 0, none⟩) n n] 26 (0, 0))
  pb : w.heap[bp]? = some (.cells #[.slice (some ⟨gp, 0, none⟩) n n] 26 (0, 0))
  mb : w.heap[bm]? = some (.cells #[mv] 26 (0, 0))
  num : RowN w base gu n L
  prt : RowN w base gp n p
  met : w.ownsRow base 3 1 mv l.length (cellP l)
  ug : gu ≠ gp
  mg : mv.ownBlock ≠ some gu ∧ mv.ownBlock ≠ some gp
  bb : bn ≠ bm ∧ bp ≠ bm
  lo : base ≤ bm
/-- What a meeting leaves alone. -/
structure JnF (bm gu : Nat) (mv : Value) (w : World) (mv' : Value) (w' : World) : Prop where
  os : w'.os = w.os
  tape : w'.tape = w.tape
  output : w'.output = w.output
  size : w.heap.size ≤ w'.heap.size
  block : ∀ k, k < w.heap.size → k ≠ bm → k ≠ gu → mv.ownBlock ≠ some k → w'.heap[k]? = w.heap[k]?
  fresh : ∀ k, mv'.ownBlock = some k → mv.ownBlock = some k ∨ w.heap.size ≤ k
section
variable {w w2 : World} {base bn bp bm gu gp n : Nat} {L p : Nat → Nat} {mv : Value} {l : List Nat}
theorem JnI.below (h : JnI w base bn bp bm gu gp n L p mv l) (hb : Below w.heap.size w w2) : JnI w2 base bn bp bm gu gp n L p mv l :=
  ⟨(hb.block _ (lt_of_heap h.nb)).trans h.nb, (hb.block _ (lt_of_heap h.pb)).trans h.pb, (hb.block _ (lt_of_heap h.mb)).trans h.mb, h.num.below hb, h.prt.below hb, ownsRow_below h.met hb, h.ug, h.mg, h.bb, h.lo⟩
/-- Behind the append: the new row stands in its variable, and the part has its number. -/
theorem JnI.push (h : JnI w base bn bp bm gu gp n L p mv l) {w1 : World} (hb : Below w.heap.size w w1) {o : Obj} {s y g c : Nat} (hy : y < n) (hg : (w1.alloc o).grownBy w2 mv.ownBlock) (ho : w2.ownsRow base 3 1 (.slice (some ⟨g, 0, none⟩) (l.length + 1) c) (l.length + 1) (cellP l ++ [.int .i64 (s : Int)])) (hat : mv.ownBlock = some g ∨ w1.heap.size < g + 1) :
    (w2.cell? ⟨bm, 0, none⟩ = some mv ∧ w2.frozen? ⟨bm, 0, none⟩ = false ∧ bm < w2.heap.size) ∧
    ((w2.setCell ⟨bm, 0, none⟩ (.slice (some ⟨g, 0, none⟩) (l.length + 1) c)).cell? ⟨bm, 0, none⟩ = some (.slice (some ⟨g, 0, none⟩) (l.length + 1) c) ∧ bm < (w2.setCell ⟨bm, 0, none⟩ (.slice (some ⟨g, 0, none⟩) (l.length + 1) c)).heap.size ∧ (w2.setCell ⟨bm, 0, none⟩ (.slice (some ⟨g, 0, none⟩) (l.length + 1) c)).cell? ⟨gu, y, none⟩ = some (.int .i64 ((L y : Nat) : Int)) ∧ (w2.setCell ⟨bm, 0, none⟩ (.slice (some ⟨g, 0, none⟩) (l.length + 1) c)).frozen? ⟨gu, y, none⟩ = false ∧ gu < (w2.setCell ⟨bm, 0, none⟩ (.slice (some ⟨g, 0, none⟩) (l.length + 1) c)).heap.size) ∧
    JnI ((w2.setCell ⟨bm, 0, none⟩ (.slice (some ⟨g, 0, none⟩) (l.length + 1) c)).setCell ⟨gu, y, none⟩ (.int .i64 ((l.length + 1 : Nat) : Int))) base bn bp bm gu gp n (upN L y (l.length + 1)) p (.slice (some ⟨g, 0, none⟩) (l.length + 1) c) (l ++ [s]) ∧
    JnF bm gu mv w (.slice (some ⟨g, 0, none⟩) (l.length + 1) c) ((w2.setCell ⟨bm, 0, none⟩ (.slice (some ⟨g, 0, none⟩) (l.length + 1) c)).setCell ⟨gu, y, none⟩ (.int .i64 ((l.length + 1 : Nat) : Int))) := by
  have hsz := hb.size
  have ha := below_alloc w1 o
  have keep : ∀ k, k < w.heap.size → mv.ownBlock ≠ some k → w2.heap[k]? = w.heap[k]? := fun k hk hne => (hg.block k (by simp; omega) (fun e => hne e.symm)).trans ((ha.block k (by omega)).trans (hb.block k hk))
  have hty : ∀ {k : Nat} {cs : Array Value} {t : TypeId} {fr : Nat × Nat}, w.heap[k]? = some (.cells cs t fr) → t ≠ 3 → mv.ownBlock ≠ some k := fun {k cs t fr} hk ht e => by
    obtain ⟨c2, h2⟩ := own_typed h.met e
    exact ht (typ_ne hk h2)
  have nb2 := (keep bn (lt_of_heap h.nb) (hty h.nb (by decide))).trans h.nb
  have pb2 := (keep bp (lt_of_heap h.pb) (hty h.pb (by decide))).trans h.pb
  have mb2 := (keep bm (lt_of_heap h.mb) (hty h.mb (by decide))).trans h.mb
  have num2 : RowN w2 base gu n L := h.num.blk (keep gu h.num.lt.1 h.mg.1)
  have prt2 : RowN w2 base gp n p := h.prt.blk (keep gp h.prt.lt.1 h.mg.2)
  obtain ⟨nv, hnv⟩ : ∃ v, v = Value.slice (some ⟨g, 0, none⟩) (l.length + 1) c := ⟨_, rfl⟩
  have hO : OnlyB bm w2 (w2.setCell ⟨bm, 0, none⟩ nv) := (OnlyB.refl _ _).set _ _
  have hne : ∀ {b2 nn : Nat} {e : TypeId} {u : Value} {xs : List Value} {k : Nat}, w2.ownsRow b2 e 1 u nn xs → e ≠ 26 → u.ownBlock = some k → k ≠ bm := fun {b2 nn e u xs k} hu he ek q => by
    obtain ⟨c1, h1⟩ := own_typed hu ek
    rw [q] at h1
    exact he (typ_ne h1 mb2)
  have hub : gu ≠ bm := hne num2 (by decide) rfl
  have hpb : gp ≠ bm := hne prt2 (by decide) rfl
  have hgb : g ≠ bm := hne ho (by decide) rfl
  have hgu : g ≠ gu ∧ g ≠ gp := by
    rcases hat with e | e
    · exact ⟨fun q => h.mg.1 (by rw [e, q]), fun q => h.mg.2 (by rw [e, q])⟩
    · have := h.num.lt.1
      have := h.prt.lt.1
      exact ⟨by omega, by omega⟩
  have num3 : RowN (w2.setCell ⟨bm, 0, none⟩ nv) base gu n L := num2.blk (hO.block _ hub)
  have mb3 : (w2.setCell ⟨bm, 0, none⟩ nv).heap[bm]? = some (.cells #[nv] 26 (0, 0)) := by
    have := heap_setN (i := 0) mb2 nv
    simpa using this
  have hO2 : OnlyB gu (w2.setCell ⟨bm, 0, none⟩ nv) ((w2.setCell ⟨bm, 0, none⟩ nv).setCell ⟨gu, y, none⟩ (.int .i64 ((l.length + 1 : Nat) : Int))) := (OnlyB.refl _ _).set _ _
  have hnb : bn ≠ gu := fun e => by
    obtain ⟨cs, hc⟩ := num2.typed
    rw [e] at nb2
    exact absurd (typ_ne nb2 hc) (by decide)
  have hpu : bp ≠ gu := fun e => by
    obtain ⟨cs, hc⟩ := num2.typed
    rw [e] at pb2
    exact absurd (typ_ne pb2 hc) (by decide)
  rw [← hnv] at ho ⊢
  refine ⟨⟨cell_in mb2 0, by simp [World.frozen?, mb2], lt_of_heap mb2⟩, ⟨cell_in mb3 0, lt_of_heap mb3, num3.at hy, num3.nf y, num3.lt.1⟩, ⟨(hO2.block _ hnb).trans ((hO.block _ h.bb.1).trans nb2), (hO2.block _ hpu).trans ((hO.block _ h.bb.2).trans pb2), (hO2.block _ (Ne.symm hub)).trans mb3, num3.set hy _, (prt2.blk (hO.block _ hpb)).blk (hO2.block _ (Ne.symm h.ug)), ?_, h.ug, ?_, h.bb, h.lo⟩, ⟨hO2.os.trans (hO.os.trans (hg.os.trans (ha.os.trans hb.os))), hO2.tape.trans (hO.tape.trans (hg.tape.trans (ha.tape.trans hb.tape))), hO2.output.trans (hO.output.trans (hg.output.trans (ha.output.trans hb.output))), ?_, fun k a b d e => (hO2.block k d).trans ((hO.block k b).trans (keep k a e)), fun k e => ?_⟩⟩
  · rw [List.length_append, List.length_singleton, cellP_snoc]
    refine own_blk ho (fun k e => ?_)
    have e2 : g = k := by rw [hnv] at e; injection e
    rw [← e2]
    exact (hO2.block _ hgu.1).trans (hO.block _ hgb)
  · rw [hnv]
    exact ⟨fun e => hgu.1 (by injection e), fun e => hgu.2 (by injection e)⟩
  · rw [hO2.size, hO.size]
    have := hg.size
    simp at this
    omega
  · have e2 : g = k := by rw [hnv] at e; injection e
    rw [← e2]
    exact hat.imp id (fun z => by omega)
end
end Go.Proofs.YtklhjjgnhigbiaaGreatDoor

namespace Go.Proofs.YtklhjjgnhigbiaaGreatDoor
open Go.RowKit Go.Shelf
set_option linter.unusedVariables false

set_option maxRecDepth 100000 in
set_option maxHeartbeats 4000000 in
theorem jmeet_any (base bn bp bm gu gp n s : Nat) (L p : Nat → Nat) (mv : Value) (l : List Nat) (w : World) (hI : JnI w base bn bp bm gu gp n L p mv l) (hs : s < n) (hp : ∀ x, x < n → p x < n) (hn : n ≤ 5000) (hl : l.length ≤ 5000) (hL : L (p s) ≤ 5000) :
    Calls Tryz.prog 49 #[.int .i64 (s : Int), .pointer (some ⟨bn, 0, none⟩), .pointer (some ⟨bp, 0, none⟩), .pointer (some ⟨bm, 0, none⟩)] w fun e w' => ∃ L' mv' l', e = .returned (.int .i64 ((L' (p s) : Nat) - 1 : Int)) ∧ ((L (p s) = 0 ∧ L' = upN L (p s) (l.length + 1) ∧ l' = l ++ [s]) ∨ (L (p s) ≠ 0 ∧ L' = L ∧ l' = l)) ∧ JnI w' base bn bp bm gu gp n L' p mv' l' ∧ JnF bm gu mv w mv' w' := by
  obtain ⟨iI, hiI, hzI0, hzI1, hzI2⟩ := info_parts Tryz.infoInt
  have HI : Hid (JnI w base bn bp bm gu gp n L p mv l) := hI
  obtain ⟨y, hy⟩ : ∃ y, y = p s := ⟨_, rfl⟩
  have hyn : y < n := by rw [hy]; exact hp s hs
  have n0 := cell_in hI.nb 0
  have nl := lt_of_heap hI.nb
  have p0 := cell_in hI.pb 0
  have pl := lt_of_heap hI.pb
  simp at n0 p0
  have ps := hI.prt.at hs
  have psl := hI.prt.lt.1
  rw [← hy] at ps ⊢
  have HY : Hid (y = p s) := hy
  have us := hI.num.at hyn
  have usl := hI.num.lt.1
  have hL5 : L y ≤ 5000 := by rw [hy]; exact hL
  obtain ⟨z, hz⟩ : ∃ z, z = L y := ⟨_, rfl⟩
  have HZL : Hid (z = L y) := hz
  rw [← hz] at us hL5
  have hs0 : (0 : Int) ≤ (s : Int) := by omega
  have hs1 : (s : Int) < (n : Int) := by omega
  have hy0 : (0 : Int) ≤ (y : Int) := by omega
  have hy1 : (y : Int) < (n : Int) := by omega
  have hbw : base ≤ w.heap.size := by have := hI.num.lt; omega
  obtain ⟨va, vn, vc, rfl⟩ := own_any hI.met
  have hvn : vn = l.length := own_len13 hI.met
  have HVN : Hid (vn = l.length) := hvn
  have m0 := cell_in hI.mb 0
  have ml := lt_of_heap hI.mb
  simp at m0
  have hv5 : vn ≤ 5000 := by omega
  have HMR : Hid (w.ownsRow base 3 1 (.slice va vn vc) vn (cellP l)) := by
    have := hI.met
    rw [hvn] at this ⊢
    exact this
  clear hI hp hL hy hz hvn hl
  go_enter Tryz.func49, Tryz.ntmps49
  go_upto_region 1 with fail
  go_cut [6] from 7 to 12 (fun s6 wx => s6 = .pointer (some ⟨gu, y, none⟩) ∧ wx = w.drew)
  case first =>
    go_region
    all_goals (
      go_wp2
      go_meet
      exact ⟨rfl, rfl⟩)
  case rest =>
    obtain ⟨rfl, rfl⟩ := hcut
    by_cases hz0 : z = 0
    · have hz1 : (z : Int) = 0 := by omega
      have HZ0 : Hid (z = 0) := hz0
      have HFN : Hid (∀ w2 g c, (w.drew.alloc (.cells #[.int .i64 (s : Int)] 3)).grownBy w2 (Value.slice va vn vc).ownBlock → w2.ownsRow base 3 1 (.slice (some ⟨g, 0, none⟩) (vn + 1) c) (vn + 1) (cellP l ++ [.int .i64 (s : Int)]) → ((Value.slice va vn vc).ownBlock = some g ∨ g = (w.drew.alloc (.cells #[.int .i64 (s : Int)] 3)).heap.size) →
        (w2.cell? ⟨bm, 0, none⟩ = some (.slice va vn vc) ∧ w2.frozen? ⟨bm, 0, none⟩ = false ∧ bm < w2.heap.size) ∧
        ((w2.setCell ⟨bm, 0, none⟩ (.slice (some ⟨g, 0, none⟩) (vn + 1) c)).cell? ⟨bm, 0, none⟩ = some (.slice (some ⟨g, 0, none⟩) (vn + 1) c) ∧ bm < (w2.setCell ⟨bm, 0, none⟩ (.slice (some ⟨g, 0, none⟩) (vn + 1) c)).heap.size ∧ (w2.setCell ⟨bm, 0, none⟩ (.slice (some ⟨g, 0, none⟩) (vn + 1) c)).cell? ⟨gu, y, none⟩ = some (.int .i64 ((z : Nat) : Int)) ∧ (w2.setCell ⟨bm, 0, none⟩ (.slice (some ⟨g, 0, none⟩) (vn + 1) c)).frozen? ⟨gu, y, none⟩ = false ∧ gu < (w2.setCell ⟨bm, 0, none⟩ (.slice (some ⟨g, 0, none⟩) (vn + 1) c)).heap.size) ∧
        (((w2.setCell ⟨bm, 0, none⟩ (.slice (some ⟨g, 0, none⟩) (vn + 1) c)).setCell ⟨gu, y, none⟩ (.int .i64 ((vn + 1 : Nat) : Int))).cell? ⟨gu, y, none⟩ = some (.int .i64 ((vn + 1 : Nat) : Int)) ∧ gu < ((w2.setCell ⟨bm, 0, none⟩ (.slice (some ⟨g, 0, none⟩) (vn + 1) c)).setCell ⟨gu, y, none⟩ (.int .i64 ((vn + 1 : Nat) : Int))).heap.size) ∧
        Hid (JnI ((w2.setCell ⟨bm, 0, none⟩ (.slice (some ⟨g, 0, none⟩) (vn + 1) c)).setCell ⟨gu, y, none⟩ (.int .i64 ((vn + 1 : Nat) : Int))) base bn bp bm gu gp n (upN L y (l.length + 1)) p (.slice (some ⟨g, 0, none⟩) (vn + 1) c) (l ++ [s]) ∧ JnF bm gu (.slice va vn vc) w (.slice (some ⟨g, 0, none⟩) (vn + 1) c) ((w2.setCell ⟨bm, 0, none⟩ (.slice (some ⟨g, 0, none⟩) (vn + 1) c)).setCell ⟨gu, y, none⟩ (.int .i64 ((vn + 1 : Nat) : Int))))) := fun w2 g c hg ho hat => by
        have hv := HVN.out
        have hi := HI.out
        rw [HZL.out]
        rw [hv] at hi hg ho hat ⊢
        have h1 := hi.push (s := s) (Below.refl _ _).drew hyn hg ho (hat.imp id (fun e => by
          rw [e]
          simp
          omega))
        refine ⟨h1.1, h1.2.1, ?_, h1.2.2.1, h1.2.2.2⟩
        have h2 := h1.2.2.1.num
        have h3 := h2.at hyn
        rw [show upN L y (l.length + 1) y = l.length + 1 by simp [upN]] at h3
        exact ⟨h3, h2.lt.1⟩
      clear hz0
      go_upto_region 3 with fail
      clear us hz1 n0 p0 ps
      go_upto_region 4 with (at_builtin; go_must (refine wpList_append_lies _ rfl _ _ 26 rfl base 3 iI (.int .i64 0) 1 8 Tryz.underlying26 hiI hzI0 hzI1 hzI2 rfl (by decide) _ _ _ rfl (HMR.out.drew.alloc _) ⟨w.drew.heap.size, 0, none⟩ 1 1 [.int .i64 (s : Int)] rfl rfl (World.news_of_block (by exact heap_new' w.drew _)) (by simp [Value.oneCell']) (by omega) (by unfold maxLen; omega) (by omega) (by simp; omega) _ rfl ?_); intro g c w2 ho2 hg2 hat2 _; obtain ⟨⟨z0, z1, z2⟩, ⟨z3, z4, z5, z6, z7⟩, ⟨z8, z9⟩, HZ⟩ := HFN.out w2 g c hg2 ho2 hat2; clear ho2 hg2 hat2)
      clear m0 ml
      go_wp2
      go_ret
      refine ⟨_, _, _, ?_, .inl ⟨by rw [← HZL.out]; exact HZ0.out, rfl, rfl⟩, HZ.out.1, HZ.out.2⟩
      · have e5 : upN L y (l.length + 1) y = vn + 1 := by rw [HVN.out]; simp [upN]
        rw [e5]
        first | rfl | (refine congrArg (fun x => Ending.returned (Value.int .i64 x)) ?_; omega)
    · have hz1 : ¬ (z : Int) = 0 := by omega
      have HZ0 : Hid (z ≠ 0) := hz0
      have hz2 : 1 ≤ (z : Int) := by omega
      go_wp2
      go_ret
      refine ⟨L, _, l, ?_, .inr ⟨by rw [← HZL.out]; exact HZ0.out, rfl, rfl⟩, HI.out.below (Below.refl _ _).drew, ⟨rfl, rfl, rfl, Nat.le_refl _, fun _ _ _ _ _ => rfl, fun _ e => .inl e⟩⟩
      · rw [← HZL.out]
        rfl
/-- What the parts' numbers tell of the states that were met. -/
def LkI (M : Mach) (n : Nat) (p L : Nat → Nat) (l : List Nat) : Prop := (∀ x ∈ l, x < n) ∧ (l.map (rep M)).Nodup ∧ ∀ s, s < n → L (p s) = if rep M s ∈ l.map (rep M) then (l.map (rep M)).idxOf (rep M s) + 1 else 0
theorem LkI.start (M : Mach) (n : Nat) (p : Nat → Nat) : LkI M n p (fun _ => 0) [] := ⟨by simp, List.nodup_nil, fun s _ => by simp⟩
theorem LkI.few {M : Mach} {n : Nat} {p L : Nat → Nat} {l : List Nat} (hM : M.Ok) (hn : M.n = n) (h : LkI M n p L l) : l.length ≤ n := by
  have := nodup_len (n := n) h.2.1 (fun x hx => by
    obtain ⟨y, hy, rfl⟩ := List.mem_map.1 hx
    rw [← hn]
    exact rep_lt (by rw [hn]; exact h.1 y hy))
  rwa [List.length_map] at this
theorem LkI.step {M : Mach} {n : Nat} {p L L' : Nat → Nat} {l l' : List Nat} (hM : M.Ok) (hn : M.n = n) (hp : ∀ i k, i < n → k < n → (p i = p k ↔ alk M i k)) (h : LkI M n p L l) {s : Nat} (hs : s < n) (hc : (L (p s) = 0 ∧ L' = upN L (p s) (l.length + 1) ∧ l' = l ++ [s]) ∨ (L (p s) ≠ 0 ∧ L' = L ∧ l' = l)) :
    LkI M n p L' l' ∧ l'.map (rep M) = meetG (l.map (rep M)) (rep M s) ∧ L' (p s) = (l.map (rep M)).idxOf (rep M s) + 1 := by
  have hri : ∀ t, t < n → (p t = p s ↔ rep M t = rep M s) := fun t ht => (hp t s ht hs).trans (rep_iff hM (by rw [hn]; exact ht) (by rw [hn]; exact hs)).symm
  have h0 := h.2.2 s hs
  rcases hc with ⟨a, rfl, rfl⟩ | ⟨a, rfl, rfl⟩
  · have hnot : ¬ rep M s ∈ l.map (rep M) := fun q => by
      rw [if_pos q] at h0
      omega
    have hidx : (l.map (rep M)).idxOf (rep M s) = l.length := by rw [List.idxOf_eq_length hnot, List.length_map]
    have hmap : (l ++ [s]).map (rep M) = l.map (rep M) ++ [rep M s] := by simp
    refine ⟨⟨fun x hx => ?_, ?_, fun t ht => ?_⟩, ?_, ?_⟩
    · rcases List.mem_append.1 hx with q | q
      · exact h.1 x q
      · rw [List.mem_singleton.1 q]; exact hs
    · rw [hmap, List.nodup_append]
      exact ⟨h.2.1, by simp, fun x hx y hy e => by
        rw [List.mem_singleton.1 hy] at e
        rw [e] at hx
        exact hnot hx⟩
    · rw [hmap]
      unfold upN
      by_cases q : p t = p s
      · have e := (hri t ht).1 q
        rw [if_pos q, e, if_pos (by simp), List.idxOf_append, if_neg hnot]
        simp
      · have e : rep M t ≠ rep M s := fun z => q ((hri t ht).2 z)
        rw [if_neg q, h.2.2 t ht]
        by_cases r : rep M t ∈ l.map (rep M)
        · rw [if_pos r, if_pos (List.mem_append_left _ r), List.idxOf_append, if_pos r]
        · rw [if_neg r, if_neg (fun z => by
            rcases List.mem_append.1 z with z | z
            · exact r z
            · exact e (List.mem_singleton.1 z))]
    · rw [hmap]
      unfold meetG
      rw [if_neg hnot]
    · rw [hidx]
      simp [upN]
  · have hin : rep M s ∈ l'.map (rep M) := by
      by_cases q : rep M s ∈ l'.map (rep M)
      · exact q
      · rw [if_neg q] at h0
        exact absurd h0 a
    rw [if_pos hin] at h0
    refine ⟨h, ?_, h0⟩
    unfold meetG
    rw [if_pos hin]

/-- A state's number, as the states are met. -/
theorem jmeet2 (base bn bp bm gu gp n s : Nat) (M : Mach) (L p : Nat → Nat) (mv : Value) (l : List Nat) (w : World) (hM : M.Ok) (hMn : M.n = n) (hpa : ∀ i k, i < n → k < n → (p i = p k ↔ alk M i k)) (hI : JnI w base bn bp bm gu gp n L p mv l) (hk : LkI M n p L l) (hs : s < n) (hp : ∀ x, x < n → p x < n) (hn : n ≤ 5000) :
    Calls Tryz.prog 49 #[.int .i64 (s : Int), .pointer (some ⟨bn, 0, none⟩), .pointer (some ⟨bp, 0, none⟩), .pointer (some ⟨bm, 0, none⟩)] w fun e w' => ∃ L' mv' l', e = .returned (.int .i64 (((l.map (rep M)).idxOf (rep M s) : Nat) : Int)) ∧ LkI M n p L' l' ∧ l'.map (rep M) = meetG (l.map (rep M)) (rep M s) ∧ (l' = l ∨ l' = l ++ [s]) ∧ JnI w' base bn bp bm gu gp n L' p mv' l' ∧ JnF bm gu mv w mv' w' := by
  have hl := hk.few hM hMn
  refine (jmeet_any base bn bp bm gu gp n s L p mv l w hI hs hp hn (by omega) ?_).mono ?_
  · rw [hk.2.2 s hs]
    split
    · have := List.idxOf_le_length (a := rep M s) (l := l.map (rep M))
      rename_i q
      have h2 := List.idxOf_lt_length_of_mem q
      rw [List.length_map] at h2
      omega
    · omega
  · rintro e w' ⟨L', mv', l', h1, h2, h3, h4⟩
    obtain ⟨k1, k2, k3⟩ := hk.step hM hMn hpa hs h2
    refine ⟨L', mv', l', ?_, k1, k2, h2.elim (fun q => .inr q.2.2) (fun q => .inl q.2.2), h3, h4⟩
    rw [h1, k3]
    congr 2
    omega
end Go.Proofs.YtklhjjgnhigbiaaGreatDoor

namespace Go.Proofs.YtklhjjgnhigbiaaGreatDoor
open Go.RowKit Go.Shelf
set_option linter.unusedVariables false

/-- The new states N, F in the variable at bd; mv are the states that were met. -/
structure JoI (w : World) (b2 bd : Nat) (nv fv : Value) (ns : List Value) (N : List (List Nat)) (F : List Bool) (mv : Value) : Prop where
  lbd : b2 ≤ bd
  dbx : w.heap[bd]? = some (.cells #[nv, fv] 35 (0, 0))
  mat : MbI w b2 nv ns N
  fin : w.ownsRow b2 4 1 fv F.length (cellBo F)
  sep : ∀ u ∈ ns, ∀ k, u.ownBlock = some k → mv.ownBlock ≠ some k
section
variable {w w2 w' : World} {b2 bd bm gu : Nat} {nv fv mv mv' : Value} {ns : List Value} {N : List (List Nat)} {F : List Bool}
theorem JoI.below (h : JoI w b2 bd nv fv ns N F mv) (hb : Below w.heap.size w w') : JoI w' b2 bd nv fv ns N F mv := ⟨h.lbd, (hb.block _ (lt_of_heap h.dbx)).trans h.dbx, h.mat.below hb, ownsRow_below h.fin hb, h.sep⟩
theorem JoI.rows (h : JoI w b2 bd nv fv ns N F mv) : ∀ u ∈ ns, ∀ k, u.ownBlock = some k → (∃ cs, w.heap[k]? = some (.cells cs 3 (0, 0))) ∧ b2 ≤ k ∧ k < w.heap.size := fun u hu k e => by
  obtain ⟨i, hi, rfl⟩ := List.mem_iff_getElem.1 hu
  have hr := h.mat.row i hi (by rw [← h.mat.len]; exact hi)
  exact ⟨own_typed hr e, (hr.lt k e)⟩
/-- A state was met. -/
theorem JoI.meet (h : JoI w b2 bd nv fv ns N F mv) (hf : JnF bm gu mv w mv' w') (hbm : bm < b2) (hgu : gu < b2) (hmt : ∀ k, mv.ownBlock = some k → ∃ cs, w.heap[k]? = some (.cells cs 3 (0, 0))) : JoI w' b2 bd nv fv ns N F mv' := by
  have keep : ∀ {k : Nat} {cs : Array Value} {t : TypeId} {fr : Nat × Nat}, w.heap[k]? = some (.cells cs t fr) → b2 ≤ k → t ≠ 3 → w'.heap[k]? = w.heap[k]? := fun {k cs t fr} hk h2 ht => hf.block k (lt_of_heap hk) (by omega) (by omega) (fun e => by
    obtain ⟨c2, hc⟩ := hmt k e
    exact ht (typ_ne hk hc))
  refine ⟨h.lbd, (keep h.dbx h.lbd (by decide)).trans h.dbx, h.mat.to (fun k e => ?_) (fun u hu k e => ?_), own_blk h.fin (fun k e => ?_), fun u hu k e e2 => ?_⟩
  · obtain ⟨cs, hc⟩ := own_typed h.mat.arr e
    exact keep hc (h.mat.arr.lt k e).1 (by decide)
  · obtain ⟨_, h1, h2⟩ := h.rows u hu k e
    exact hf.block k h2 (by omega) (by omega) (h.sep u hu k e)
  · obtain ⟨cs, hc⟩ := own_typed h.fin e
    exact keep hc (h.fin.lt k e).1 (by decide)
  · rcases hf.fresh k e2 with q | q
    · exact h.sep u hu k e q
    · have := (h.rows u hu k e).2.2
      omega
/-- The row that is being written, when a state is met. -/
theorem row_meet13 {gr C : Nat} {R : Nat → Nat} (h : RowN w b2 gr C R) (hf : JnF bm gu mv w mv' w') (hbm : bm < b2) (hgu : gu < b2) (hne : mv.ownBlock ≠ some gr) : RowN w' b2 gr C R ∧ mv'.ownBlock ≠ some gr := by
  have h1 := h.lt
  refine ⟨h.blk (hf.block gr h1.1 (by omega) (by omega) hne), fun e => ?_⟩
  rcases hf.fresh gr e with q | q
  · exact hne q
  · omega
/-- A row is written. -/
theorem JoI.only {gr C : Nat} {R : Nat → Nat} (h : JoI w b2 bd nv fv ns N F mv) (hr : RowN w b2 gr C R) (hns : ∀ u ∈ ns, u.ownBlock ≠ some gr) (hO : OnlyB gr w w') : JoI w' b2 bd nv fv ns N F mv := by
  obtain ⟨cg, hcg⟩ := hr.typed
  have keep : ∀ {k : Nat} {cs : Array Value} {t : TypeId} {fr : Nat × Nat}, w.heap[k]? = some (.cells cs t fr) → t ≠ 3 → w'.heap[k]? = w.heap[k]? := fun {k cs t fr} hk ht => hO.block k (fun e => by
    rw [e] at hk
    exact ht (typ_ne hk hcg))
  refine ⟨h.lbd, (keep h.dbx (by decide)).trans h.dbx, h.mat.to (fun k e => ?_) (fun u hu k e => hO.block k (fun q => hns u hu (by rw [← q]; exact e))), own_blk h.fin (fun k e => ?_), h.sep⟩
  · obtain ⟨cs, hc⟩ := own_typed h.mat.arr e
    exact keep hc (by decide)
  · obtain ⟨cs, hc⟩ := own_typed h.fin e
    exact keep hc (by decide)
theorem JnI.step {base bn bp gp n : Nat} {L p : Nat → Nat} {l : List Nat} (h : JnI w base bn bp bm gu gp n L p mv l) {row : Option Nat} (hg : w.grownBy w2 row) (hne : ∀ k, row = some k → k ≠ bn ∧ k ≠ bp ∧ k ≠ bm ∧ k ≠ gu ∧ k ≠ gp ∧ mv.ownBlock ≠ some k) : JnI w2 base bn bp bm gu gp n L p mv l := by
  have keep : ∀ k, k < w.heap.size → (∀ q, row = some q → q ≠ k) → w2.heap[k]? = w.heap[k]? := fun k hk hn => hg.block k hk (fun e => hn k e.symm rfl)
  exact ⟨(keep bn (lt_of_heap h.nb) (fun q e => (hne q e).1)).trans h.nb, (keep bp (lt_of_heap h.pb) (fun q e => (hne q e).2.1)).trans h.pb, (keep bm (lt_of_heap h.mb) (fun q e => (hne q e).2.2.1)).trans h.mb, h.num.blk (keep gu h.num.lt.1 (fun q e => (hne q e).2.2.2.1)), h.prt.blk (keep gp h.prt.lt.1 (fun q e => (hne q e).2.2.2.2.1)), own_blk h.met (fun k e => keep k (h.met.lt k e).2 (fun q e2 e3 => (hne q e2).2.2.2.2.2 (by rw [e3]; exact e))), h.ug, h.mg, h.bb, h.lo⟩
/-- A row more. -/
theorem JoI.pushN {gr C g c : Nat} {r : List Nat} (h : JoI w b2 bd nv fv ns N F mv) (hr : w.ownsRow b2 3 1 (.slice (some ⟨gr, 0, none⟩) C C) r.length (cellP r)) (hns : ∀ u ∈ ns, u.ownBlock ≠ some gr) (hmr : mv.ownBlock ≠ some gr) {o : Obj} (hg : (w.alloc o).grownBy w2 nv.ownBlock) (ho : w2.ownsRow b2 26 1 (.slice (some ⟨g, 0, none⟩) (N.length + 1) c) (N.length + 1) (ns ++ [.slice (some ⟨gr, 0, none⟩) C C])) :
    (w2.cell? ⟨bd, 0, none⟩ = some nv ∧ w2.frozen? ⟨bd, 0, none⟩ = false ∧ bd < w2.heap.size) ∧ JoI (w2.setCell ⟨bd, 0, none⟩ (.slice (some ⟨g, 0, none⟩) (N.length + 1) c)) b2 bd (.slice (some ⟨g, 0, none⟩) (N.length + 1) c) fv (ns ++ [.slice (some ⟨gr, 0, none⟩) C C]) (N ++ [r]) F mv := by
  have ha : JoI (w.alloc o) b2 bd nv fv ns N F mv := h.below (below_alloc w o)
  have hra : (w.alloc o).ownsRow b2 3 1 (.slice (some ⟨gr, 0, none⟩) C C) r.length (cellP r) := hr.alloc o
  have keep : ∀ {k : Nat} {cs : Array Value} {t : TypeId} {fr : Nat × Nat}, (w.alloc o).heap[k]? = some (.cells cs t fr) → t ≠ 26 → w2.heap[k]? = (w.alloc o).heap[k]? := fun {k cs t fr} hk ht => hg.block k (lt_of_heap hk) (fun e => by
    obtain ⟨c2, hc⟩ := own_typed ha.mat.arr e.symm
    exact ht (typ_ne hk hc))
  have hd2 := (keep ha.dbx (by decide)).trans ha.dbx
  obtain ⟨v', hv'⟩ : ∃ v, v = Value.slice (some ⟨g, 0, none⟩) (N.length + 1) c := ⟨_, rfl⟩
  rw [← hv'] at ho ⊢
  have hO : OnlyB bd w2 (w2.setCell ⟨bd, 0, none⟩ v') := (OnlyB.refl _ _).set _ _
  have hnu : ∀ {u : Value} {nn b : Nat} {e : TypeId} {xs : List Value} {k : Nat}, w2.ownsRow b e 1 u nn xs → e ≠ 35 → u.ownBlock = some k → k ≠ bd := fun {u nn b e xs k} hu he ek q => by
    obtain ⟨c1, h1⟩ := own_typed hu ek
    rw [q] at h1
    exact he (typ_ne h1 hd2)
  have hrow2 : ∀ {u : Value} {nn : Nat} {xs : List Value}, (w.alloc o).ownsRow b2 3 1 u nn xs → w2.ownsRow b2 3 1 u nn xs := fun {u nn xs} hu => own_blk hu (fun k e => by
    obtain ⟨cs, hc⟩ := own_typed hu e
    exact keep hc (by decide))
  have hrow3 : ∀ {u : Value} {nn : Nat} {xs : List Value}, (w.alloc o).ownsRow b2 3 1 u nn xs → (w2.setCell ⟨bd, 0, none⟩ v').ownsRow b2 3 1 u nn xs := fun {u nn xs} hu => own_blk (hrow2 hu) (fun k e => hO.block k (hnu (hrow2 hu) (by decide) e))
  have hfin2 : w2.ownsRow b2 4 1 fv F.length (cellBo F) := own_blk ha.fin (fun k e => by
    obtain ⟨cs, hc⟩ := own_typed ha.fin e
    exact keep hc (by decide))
  have hlen := h.mat.len
  refine ⟨⟨cell_in hd2 0, by simp [World.frozen?, hd2], lt_of_heap hd2⟩, h.lbd, ?_, ⟨?_, fun i a b => ?_, fun i j hi hj k ei ej => ?_⟩, own_blk hfin2 (fun k e => hO.block k (hnu hfin2 (by decide) e)), fun u hu k e => ?_⟩
  · have := heap_setN (i := 0) hd2 v'
    simpa using this
  · rw [List.length_append, List.length_singleton]
    exact own_blk ho (fun k e => hO.block k (hnu ho (by decide) e))
  · by_cases q : i < ns.length
    · have q2 : i < N.length := by omega
      rw [List.getElem_append_left q, List.getElem_append_left q2]
      exact hrow3 (ha.mat.row i q q2)
    · have e : i = ns.length := by simp at a; omega
      subst e
      rw [List.getElem_append_right (Nat.le_refl _), List.getElem_append_right (by omega)]
      simp only [Nat.sub_self, List.getElem_cons_zero, hlen]
      exact hrow3 hra
  · have val : ∀ i, (a : i < (ns ++ [Value.slice (some ⟨gr, 0, none⟩) C C]).length) → (ns ++ [Value.slice (some ⟨gr, 0, none⟩) C C])[i].ownBlock = some k → (∃ q : i < ns.length, ns[i].ownBlock = some k) ∨ (i = ns.length ∧ gr = k) := fun i a e => by
      by_cases q : i < ns.length
      · rw [List.getElem_append_left q] at e
        exact .inl ⟨q, e⟩
      · have e2 : i = ns.length := by simp at a; omega
        rw [List.getElem_append_right (by omega)] at e
        simp only [e2, Nat.sub_self, List.getElem_cons_zero] at e
        exact .inr ⟨e2, by injection e⟩
    rcases val i hi ei with ⟨a, b⟩ | ⟨a, b⟩ <;> rcases val j hj ej with ⟨c, d⟩ | ⟨c, d⟩
    · exact h.mat.inj i j a c k b d
    · exact absurd (d ▸ b) (hns _ (List.getElem_mem a))
    · exact absurd (b ▸ d) (hns _ (List.getElem_mem c))
    · omega
  · rcases List.mem_append.1 hu with q | q
    · exact h.sep u q k e
    · rw [List.mem_singleton.1 q] at e
      have : gr = k := by injection e
      rw [← this]
      exact hmr
/-- A mark more. -/
theorem JoI.pushF {v' : Value} {x : Bool} (h : JoI w b2 bd nv fv ns N F mv) {o : Obj} (hg : (w.alloc o).grownBy w2 fv.ownBlock) (ho : w2.ownsRow b2 4 1 v' (F.length + 1) (cellBo F ++ [.bool x])) :
    (w2.cell? ⟨bd, 1, none⟩ = some fv ∧ w2.frozen? ⟨bd, 1, none⟩ = false ∧ bd < w2.heap.size) ∧ JoI (w2.setCell ⟨bd, 1, none⟩ v') b2 bd nv v' ns N (F ++ [x]) mv := by
  have ha : JoI (w.alloc o) b2 bd nv fv ns N F mv := h.below (below_alloc w o)
  have keep : ∀ {k : Nat} {cs : Array Value} {t : TypeId} {fr : Nat × Nat}, (w.alloc o).heap[k]? = some (.cells cs t fr) → t ≠ 4 → w2.heap[k]? = (w.alloc o).heap[k]? := fun {k cs t fr} hk ht => hg.block k (lt_of_heap hk) (fun e => by
    obtain ⟨c2, hc⟩ := own_typed ha.fin e.symm
    exact ht (typ_ne hk hc))
  have hd2 := (keep ha.dbx (by decide)).trans ha.dbx
  have hO : OnlyB bd w2 (w2.setCell ⟨bd, 1, none⟩ v') := (OnlyB.refl _ _).set _ _
  have hnu : ∀ {u : Value} {nn b : Nat} {e : TypeId} {xs : List Value} {k : Nat}, w2.ownsRow b e 1 u nn xs → e ≠ 35 → u.ownBlock = some k → k ≠ bd := fun {u nn b e xs k} hu he ek q => by
    obtain ⟨c1, h1⟩ := own_typed hu ek
    rw [q] at h1
    exact he (typ_ne h1 hd2)
  have ma : MbI w2 b2 nv ns N := ha.mat.to (fun k e => by
    obtain ⟨cs, hc⟩ := own_typed ha.mat.arr e
    exact keep hc (by decide)) (fun u hu k e => by
    obtain ⟨⟨cs, hc⟩, _⟩ := ha.rows u hu k e
    exact keep hc (by decide))
  refine ⟨⟨cell_in hd2 1, by simp [World.frozen?, hd2], lt_of_heap hd2⟩, h.lbd, ?_, ma.to (fun k e => hO.block k (hnu ma.arr (by decide) e)) (fun u hu k e => ?_), ?_, h.sep⟩
  · have := heap_setN (i := 1) hd2 v'
    simpa using this
  · obtain ⟨i, hi, rfl⟩ := List.mem_iff_getElem.1 hu
    exact hO.block k (hnu (ma.row i hi (by rw [← ma.len]; exact hi)) (by decide) e)
  · rw [List.length_append, List.length_singleton, show cellBo (F ++ [x]) = cellBo F ++ [.bool x] by simp [cellBo]]
    exact own_blk ho (fun k e => hO.block k (hnu ho (by decide) e))
/-- What is handed out. -/
theorem JoI.dfa {D : Nat} (h : JoI w b2 bd nv fv ns N F mv) (hD : D < b2) : DfaAt ((w.setCell ⟨D, 0, none⟩ nv).setCell ⟨D, 1, none⟩ fv) (.agg #[nv, fv]) (intsL N) F := by
  have hO : OnlyB D w ((w.setCell ⟨D, 0, none⟩ nv).setCell ⟨D, 1, none⟩ fv) := ((OnlyB.refl _ _).set _ _).set _ _
  have hn : ∀ {e : TypeId} {n : Nat} {v : Value} {xs : List Value} {k : Nat}, w.ownsRow b2 e 1 v n xs → v.ownBlock = some k → k ≠ D := fun {e n v xs k} hr hk q => by
    have := (hr.lt k hk).1
    omega
  exact dfa_of_rows (base := b2) (b2 := b2) h.mat.len (own_blk h.mat.arr fun k e => hO.block k (hn h.mat.arr e)) (fun i h1 h2 => lst_of_row (own_blk (h.mat.row i h1 h2) fun k e => hO.block k (hn (h.mat.row i h1 h2) e)) (Nat.le_refl _)) (own_blk h.fin fun k e => hO.block k (hn h.fin e))
end
end Go.Proofs.YtklhjjgnhigbiaaGreatDoor

namespace Go.Proofs.YtklhjjgnhigbiaaGreatDoor
open Go.RowKit Go.Shelf
set_option linter.unusedVariables false

/-- joined's variables as they are made. -/
theorem jn_made {w W4 W6 : World} {n gp bq : Nat} {p : Nat → Nat} {na nb : Value} (hq : RowN w bq gp n p) (hn : n ≤ 5000)
    (h4 : W4 = (((w.alloc (.cells #[na, nb] 35)).alloc (.cells #[.slice (some ⟨gp, 0, none⟩) n n] 26)).alloc (.cells #[.slice none 0 0, .slice none 0 0] 35)).alloc (.cells #[.slice none 0 0] 26))
    (h6 : W6 = (W4.alloc (.cells (madeCells #[.int .i64 0] n) 3)).alloc (.cells #[.slice (some ⟨W4.heap.size, 0, none⟩) n n] 26)) :
    (DBox W4 w.heap.size na nb ∧ DBox W6 w.heap.size na nb ∧ W6.heap[w.heap.size + 2]? = some (.cells #[.slice none 0 0, .slice none 0 0] 35 (0, 0))) ∧ JnI W6 0 (w.heap.size + 5) (w.heap.size + 1) (w.heap.size + 3) (w.heap.size + 4) gp n (fun _ => 0) p (.slice none 0 0) [] ∧ Below w.heap.size w W6 ∧ W6.heap.size = w.heap.size + 6 ∧ W4.heap.size = w.heap.size + 4 := by
  obtain ⟨V1, e1⟩ : ∃ V, V = w.alloc (.cells #[na, nb] 35) := ⟨_, rfl⟩
  obtain ⟨V2, e2⟩ : ∃ V, V = V1.alloc (.cells #[.slice (some ⟨gp, 0, none⟩) n n] 26) := ⟨_, rfl⟩
  obtain ⟨V3, e3⟩ : ∃ V, V = V2.alloc (.cells #[.slice none 0 0, .slice none 0 0] 35) := ⟨_, rfl⟩
  obtain ⟨V5, e5⟩ : ∃ V, V = W4.alloc (.cells (madeCells #[.int .i64 0] n) 3) := ⟨_, rfl⟩
  rw [← e1, ← e2, ← e3] at h4
  rw [← e5] at h6
  have s1 : V1.heap.size = w.heap.size + 1 := by rw [e1]; simp
  have s2 : V2.heap.size = w.heap.size + 2 := by rw [e2]; simp [s1]
  have s3 : V3.heap.size = w.heap.size + 3 := by rw [e3]; simp [s2]
  have s4 : W4.heap.size = w.heap.size + 4 := by rw [h4]; simp [s3]
  have s5 : V5.heap.size = w.heap.size + 5 := by rw [e5]; simp [s4]
  have s6 : W6.heap.size = w.heap.size + 6 := by rw [h6]; simp [s5]
  have b1 : Below w.heap.size w V1 := by rw [e1]; exact below_alloc _ _
  have b2 : Below V1.heap.size V1 V2 := by rw [e2]; exact below_alloc _ _
  have b3 : Below V2.heap.size V2 V3 := by rw [e3]; exact below_alloc _ _
  have b4 : Below V3.heap.size V3 W4 := by rw [h4]; exact below_alloc _ _
  have b5 : Below W4.heap.size W4 V5 := by rw [e5]; exact below_alloc _ _
  have b6 : Below V5.heap.size V5 W6 := by rw [h6]; exact below_alloc _ _
  have c46 : Below W4.heap.size W4 W6 := below_after b5 b6
  have c36 : Below V3.heap.size V3 W6 := below_after b4 c46
  have c26 : Below V2.heap.size V2 W6 := below_after b3 c36
  have c16 : Below V1.heap.size V1 W6 := below_after b2 c26
  have x1 : V1.heap[w.heap.size]? = some (.cells #[na, nb] 35 (0, 0)) := by rw [e1]; exact heap_new' _ _
  have x2 : V2.heap[V1.heap.size]? = some (.cells #[.slice (some ⟨gp, 0, none⟩) n n] 26 (0, 0)) := by rw [e2]; exact heap_new' _ _
  have x3 : V3.heap[V2.heap.size]? = some (.cells #[.slice none 0 0, .slice none 0 0] 35 (0, 0)) := by rw [e3]; exact heap_new' _ _
  have x4 : W4.heap[V3.heap.size]? = some (.cells #[.slice none 0 0] 26 (0, 0)) := by rw [h4]; exact heap_new' _ _
  have x5 : RowZ V5 0 W4.heap.size n (fun _ => 0) := by rw [e5]; exact rowZ_made W4 (Nat.zero_le _) (by unfold maxLen; omega)
  have x6 : W6.heap[V5.heap.size]? = some (.cells #[.slice (some ⟨W4.heap.size, 0, none⟩) n n] 26 (0, 0)) := by rw [h6]; exact heap_new' _ _
  have gl := hq.lt.1
  rw [s1] at x2
  rw [s2] at x3
  rw [s3] at x4
  rw [s4] at x5 x6
  rw [s5] at x6
  have hD4 : DBox W4 w.heap.size na nb := ((below_after (below_after b2 b3) b4).block _ (by omega)).trans x1
  have x5b : RowN V5 0 (w.heap.size + 4) n (fun _ => 0) := by
    have := x5
    unfold RowZ rowZ at this
    unfold RowN rowN
    exact this
  exact ⟨⟨hD4, (c16.block _ (by omega)).trans x1, (c36.block _ (by omega)).trans x3⟩, ⟨x6, (c26.block _ (by omega)).trans x2, (c46.block _ (by omega)).trans x4, x5b.below b6, own_mono13 (hq.below (below_after b1 c16)) (Nat.zero_le _), World.ownsRow_nil _ _ _ _, by omega, ⟨by simp [Value.ownBlock], by simp [Value.ownBlock]⟩, ⟨by omega, by omega⟩, Nat.zero_le _⟩, below_after b1 c16, s6, s4⟩
end Go.Proofs.YtklhjjgnhigbiaaGreatDoor

namespace Go.Proofs.YtklhjjgnhigbiaaGreatDoor
open Go.RowKit Go.Shelf
set_option linter.unusedVariables false

theorem getD_snoc13 (r : List Nat) (v x : Nat) : upN (fun y => r.getD y 0) r.length v x = (r ++ [v]).getD x 0 := by
  unfold upN
  by_cases e : x = r.length
  · subst e
    simp
  · by_cases h : x < r.length
    · simp [e, List.getD_eq_getElem?_getD, List.getElem?_append_left h]
    · have h2 : r.length + 1 ≤ x := by omega
      simp [e, List.getD_eq_getElem?_getD, List.getElem?_eq_none (show r.length ≤ x by omega), List.getElem?_eq_none (show (r ++ [v]).length ≤ x by simp; omega)]
theorem rowG_congr {nx : Nat → Nat → Nat} {a b : Nat} (S : List Nat) : ∀ i, (∀ c, c < i → nx a c = nx b c) → rowG nx a S i = rowG nx b S i
  | 0, _ => rfl
  | i + 1, h => by
    show stepG nx a (rowG nx a S i) i = stepG nx b (rowG nx b S i) i
    rw [rowG_congr S i (fun c hc => h c (by omega))]
    unfold stepG
    rw [h i (by omega)]
/-- All below b2 is as it was, but for bm and gu. -/
structure Kp13 (bm gu b2 : Nat) (w w' : World) : Prop where
  os : w'.os = w.os
  tape : w'.tape = w.tape
  output : w'.output = w.output
  size : w.heap.size ≤ w'.heap.size
  block : ∀ k, k < b2 → k ≠ bm → k ≠ gu → w'.heap[k]? = w.heap[k]?
section
variable {w W W' V : World} {bm gu b2 bd0 D bn bp gp bd n : Nat} {A B mv mv' nv : Value}
theorem Kp13.trans (h : Kp13 bm gu b2 w W) (k : Kp13 bm gu b2 W V) : Kp13 bm gu b2 w V := ⟨k.os.trans h.os, k.tape.trans h.tape, k.output.trans h.output, Nat.le_trans h.size k.size, fun x a b c => (k.block x a b c).trans (h.block x a b c)⟩
theorem Kp13.of_jn (h : JnF bm gu mv w mv' W) (hs : b2 ≤ w.heap.size) (hm : ∀ k, mv.ownBlock = some k → b2 ≤ k) : Kp13 bm gu b2 w W := ⟨h.os, h.tape, h.output, h.size, fun k a b c => h.block k (by omega) b c (fun e => by have := hm k e; omega)⟩
theorem Kp13.of_only {g : Nat} (h : OnlyB g w W) (hg : b2 ≤ g) : Kp13 bm gu b2 w W := ⟨h.os, h.tape, h.output, by rw [h.size]; exact Nat.le_refl _, fun k a b c => h.block k (by omega)⟩
theorem Kp13.of_grown {row : Option Nat} (h : w.grownBy W row) (hs : b2 ≤ w.heap.size) (hm : ∀ k, row = some k → b2 ≤ k) : Kp13 bm gu b2 w W := ⟨h.os, h.tape, h.output, h.size, fun k a b c => h.block k (by omega) (fun e => by have := hm k e.symm; omega)⟩
theorem Kp13.of_below (h : Below w.heap.size w W) (hs : b2 ≤ w.heap.size) : Kp13 bm gu b2 w W := ⟨h.os, h.tape, h.output, h.size, fun k a b c => h.block k (by omega)⟩
/-- Where joined's variables lie. -/
structure Low13 (w : World) (bm gu b2 bd0 D bn bp gp bd : Nat) : Prop where
  e0 : bd0 = w.heap.size
  l0 : bd0 < bm ∧ bd0 < gu
  lD : bd0 < D ∧ D < b2 ∧ D ≠ bm ∧ D ≠ gu
  lb : bm < b2 ∧ gu < b2 ∧ bn < b2 ∧ bp < b2 ∧ gp < b2
  ld : b2 ≤ bd
/-- What stays of the memory: the expression's variable, the result's, all that was there at the start. -/
structure St13 (w : World) (bd0 D : Nat) (A B : Value) (W : World) : Prop where
  box : DBox W bd0 A B
  res : W.heap[D]? = some (.cells #[.slice none 0 0, .slice none 0 0] 35 (0, 0))
  old : Below w.heap.size w W
theorem St13.keep (h : St13 w bd0 D A B W) (hl : Low13 w bm gu b2 bd0 D bn bp gp bd) (k : Kp13 bm gu b2 W V) : St13 w bd0 D A B V := by
  have h1 := hl.l0
  have h2 := hl.lD
  have h3 := hl.lb
  have h0 := hl.e0
  refine ⟨(k.block bd0 (by omega) (by omega) (by omega)).trans h.box, (k.block D (by omega) (by omega) (by omega)).trans h.res, ⟨k.os.trans h.old.os, k.tape.trans h.old.tape, k.output.trans h.old.output, Nat.le_trans h.old.size k.size, fun x hx => (k.block x (by omega) (by omega) (by omega)).trans (h.old.block x hx)⟩⟩
theorem JnI.only {base g : Nat} {L p : Nat → Nat} {l : List Nat} (h : JnI w base bn bp bm gu gp n L p mv l) (hO : OnlyB g w W) (hl : bm < g ∧ gu < g ∧ bn < g ∧ bp < g ∧ gp < g) (hm : mv.ownBlock ≠ some g) : JnI W base bn bp bm gu gp n L p mv l :=
  ⟨(hO.block bn (by omega)).trans h.nb, (hO.block bp (by omega)).trans h.pb, (hO.block bm (by omega)).trans h.mb, h.num.blk (hO.block gu (by omega)), h.prt.blk (hO.block gp (by omega)), own_blk h.met (fun k e => hO.block k (fun q => hm (by rw [← q]; exact e))), h.ug, h.mg, h.bb, h.lo⟩

/-- A class more: behind the closure's call and the store. -/
theorem jo_class {L L3 p : Nat → Nat} {M : Mach} {l l2 l3 : List Nat} {t c C gr a : Nat} {Sj : List Nat} {fv : Value} {ns : List Value} {N : List (List Nat)} {F : List Bool}
    (hl : Low13 w bm gu b2 bd0 D bn bp gp bd) (hJ : JnI W 0 bn bp bm gu gp n L p mv l2) (hO : JoI W b2 bd nv fv ns N F mv) (hR : RowN W b2 gr C (fun x => (rowG (nxr M) a Sj c).1.getD x 0)) (hmg : mv.ownBlock ≠ some gr) (hmb : ∀ k, mv.ownBlock = some k → b2 ≤ k) (hS : St13 w bd0 D A B W) (hns : ∀ u ∈ ns, u.ownBlock ≠ some gr) (hc : c < C) (ht : t = M.d a c) (h2 : l2.map (rep M) = (rowG (nxr M) a Sj c).2) (hT : ∃ T, l2 = l ++ T)
    (k3 : LkI M n p L3 l3) (m3 : l3.map (rep M) = meetG (l2.map (rep M)) (rep M t)) (e3 : l3 = l2 ∨ l3 = l2 ++ [t]) (j3 : JnI V 0 bn bp bm gu gp n L3 p mv' l3) (f3 : JnF bm gu mv W mv' V) :
    (V.cell? ⟨gr, c, none⟩ = some (.int .i64 (((rowG (nxr M) a Sj c).1.getD c 0 : Nat) : Int)) ∧ V.frozen? ⟨gr, c, none⟩ = false ∧ gr < V.heap.size) ∧
    (l3.map (rep M) = (rowG (nxr M) a Sj (c + 1)).2 ∧ ∃ T, l3 = l ++ T) ∧ LkI M n p L3 l3 ∧
    JnI (V.setCell ⟨gr, c, none⟩ (.int .i64 (((l2.map (rep M)).idxOf (rep M t) : Nat) : Int))) 0 bn bp bm gu gp n L3 p mv' l3 ∧
    JoI (V.setCell ⟨gr, c, none⟩ (.int .i64 (((l2.map (rep M)).idxOf (rep M t) : Nat) : Int))) b2 bd nv fv ns N F mv' ∧
    (RowN (V.setCell ⟨gr, c, none⟩ (.int .i64 (((l2.map (rep M)).idxOf (rep M t) : Nat) : Int))) b2 gr C (fun x => (rowG (nxr M) a Sj (c + 1)).1.getD x 0) ∧ mv'.ownBlock ≠ some gr ∧ ∀ k, mv'.ownBlock = some k → b2 ≤ k) ∧
    St13 w bd0 D A B (V.setCell ⟨gr, c, none⟩ (.int .i64 (((l2.map (rep M)).idxOf (rep M t) : Nat) : Int))) := by
  have hb := hl.lb
  have hbw : b2 ≤ W.heap.size := by have := hO.lbd; have := lt_of_heap hO.dbx; omega
  obtain ⟨hr3, hg3⟩ := row_meet13 hR f3 hb.1 hb.2.1 hmg
  have hgr := hr3.lt
  have hO3 := hO.meet f3 hb.1 hb.2.1 (fun k e => own_typed hJ.met e)
  have hOn : OnlyB gr V (V.setCell ⟨gr, c, none⟩ (.int .i64 (((l2.map (rep M)).idxOf (rep M t) : Nat) : Int))) := (OnlyB.refl _ _).set _ _
  have hnx : rep M t = nxr M a c := by rw [ht]; rfl
  refine ⟨⟨hr3.at hc, hr3.nf c, hgr.1⟩, ⟨?_, ?_⟩, k3, j3.only hOn ⟨by omega, by omega, by omega, by omega, by omega⟩ hg3, hO3.only hr3 hns hOn, ⟨?_, hg3, fun k e => ?_⟩, hS.keep hl ((Kp13.of_jn f3 hbw hmb).trans (Kp13.of_only hOn hgr.2))⟩
  · rw [m3, h2, hnx]
    rfl
  · obtain ⟨T, hT⟩ := hT
    rcases e3 with e | e
    · exact ⟨T, by rw [e, hT]⟩
    · exact ⟨T ++ [t], by rw [e, hT, List.append_assoc]⟩
  · refine (hr3.set hc _).same (fun x hx => ?_)
    have hl := rowG_len (nx := nxr M) a Sj c
    have := getD_snoc13 (rowG (nxr M) a Sj c).1 ((l2.map (rep M)).idxOf (rep M t)) x
    rw [hl] at this
    rw [this, h2, hnx]
    rfl
  · rcases f3.fresh k e with q | q
    · exact hmb k q
    · omega
/-- A row more. -/
theorem jo_row {L p : Nat → Nat} {l2 : List Nat} {C gr g c : Nat} {r : List Nat} {fv : Value} {ns : List Value} {N : List (List Nat)} {F : List Bool} {o : Obj}
    (hl : Low13 w bm gu b2 bd0 D bn bp gp bd) (hJ : JnI W 0 bn bp bm gu gp n L p mv l2) (hO : JoI W b2 bd nv fv ns N F mv) (hR : RowN W b2 gr C (fun x => r.getD x 0)) (hrl : r.length = C) (hmg : mv.ownBlock ≠ some gr) (hmb : ∀ k, mv.ownBlock = some k → b2 ≤ k) (hS : St13 w bd0 D A B W) (hns : ∀ u ∈ ns, u.ownBlock ≠ some gr)
    (hg : (W.alloc o).grownBy V nv.ownBlock) (ho : V.ownsRow b2 26 1 (.slice (some ⟨g, 0, none⟩) (N.length + 1) c) (N.length + 1) (ns ++ [.slice (some ⟨gr, 0, none⟩) C C])) :
    (V.cell? ⟨bd, 0, none⟩ = some nv ∧ V.frozen? ⟨bd, 0, none⟩ = false ∧ bd < V.heap.size) ∧
    JnI (V.setCell ⟨bd, 0, none⟩ (.slice (some ⟨g, 0, none⟩) (N.length + 1) c)) 0 bn bp bm gu gp n L p mv l2 ∧
    JoI (V.setCell ⟨bd, 0, none⟩ (.slice (some ⟨g, 0, none⟩) (N.length + 1) c)) b2 bd (.slice (some ⟨g, 0, none⟩) (N.length + 1) c) fv (ns ++ [.slice (some ⟨gr, 0, none⟩) C C]) (N ++ [r]) F mv ∧
    St13 w bd0 D A B (V.setCell ⟨bd, 0, none⟩ (.slice (some ⟨g, 0, none⟩) (N.length + 1) c)) := by
  have hb := hl.lb
  have hbw : b2 ≤ W.heap.size := by have := hO.lbd; have := lt_of_heap hO.dbx; omega
  have hcell : W.ownsRow b2 3 1 (.slice (some ⟨gr, 0, none⟩) C C) r.length (cellP r) := by
    have e := rowN_cellP r
    rw [hrl] at e
    have := hR
    unfold RowN at this
    rw [e] at this
    rw [hrl]
    exact this
  obtain ⟨h1, h2⟩ := hO.pushN hcell hns hmg hg ho
  have hba := below_alloc W o
  have hnb : ∀ k, nv.ownBlock = some k → b2 ≤ k := fun k e => (hO.mat.arr.lt k e).1
  have hma : ∀ k, nv.ownBlock = some k → mv.ownBlock ≠ some k := fun k e e2 => by
    obtain ⟨c1, h1⟩ := own_typed hO.mat.arr e
    obtain ⟨c2, h2⟩ := own_typed hJ.met e2
    exact absurd (typ_ne h1 h2) (by decide)
  have hJ2 := (hJ.below hba).step hg (fun k e => ⟨by have := hnb k e; omega, by have := hnb k e; omega, by have := hnb k e; omega, by have := hnb k e; omega, by have := hnb k e; omega, hma k e⟩)
  have hd1 := hl.ld
  have hOn : OnlyB bd V (V.setCell ⟨bd, 0, none⟩ (.slice (some ⟨g, 0, none⟩) (N.length + 1) c)) := (OnlyB.refl _ _).set _ _
  have hmd : mv.ownBlock ≠ some bd := fun e => by
    obtain ⟨c2, h2⟩ := own_typed hJ.met e
    exact absurd (typ_ne hO.dbx h2) (by decide)
  have hsz : b2 ≤ (W.alloc o).heap.size := by simp; omega
  exact ⟨h1, hJ2.only hOn ⟨by omega, by omega, by omega, by omega, by omega⟩ hmd, h2, hS.keep hl ((Kp13.of_below hba hbw).trans ((Kp13.of_grown hg hsz hnb).trans (Kp13.of_only hOn hd1)))⟩
/-- A mark more. -/
theorem jo_mark {L p : Nat → Nat} {l2 : List Nat} {v' fv : Value} {x : Bool} {ns : List Value} {N : List (List Nat)} {F : List Bool} {o : Obj}
    (hl : Low13 w bm gu b2 bd0 D bn bp gp bd) (hJ : JnI W 0 bn bp bm gu gp n L p mv l2) (hO : JoI W b2 bd nv fv ns N F mv) (hS : St13 w bd0 D A B W)
    (hg : (W.alloc o).grownBy V fv.ownBlock) (ho : V.ownsRow b2 4 1 v' (F.length + 1) (cellBo F ++ [.bool x])) :
    (V.cell? ⟨bd, 1, none⟩ = some fv ∧ V.frozen? ⟨bd, 1, none⟩ = false ∧ bd < V.heap.size) ∧
    JnI (V.setCell ⟨bd, 1, none⟩ v') 0 bn bp bm gu gp n L p mv l2 ∧ JoI (V.setCell ⟨bd, 1, none⟩ v') b2 bd nv v' ns N (F ++ [x]) mv ∧ St13 w bd0 D A B (V.setCell ⟨bd, 1, none⟩ v') := by
  have hb := hl.lb
  have hbw : b2 ≤ W.heap.size := by have := hO.lbd; have := lt_of_heap hO.dbx; omega
  obtain ⟨h1, h2⟩ := hO.pushF hg ho
  have hba := below_alloc W o
  have hnb : ∀ k, fv.ownBlock = some k → b2 ≤ k := fun k e => (hO.fin.lt k e).1
  have hma : ∀ k, fv.ownBlock = some k → mv.ownBlock ≠ some k := fun k e e2 => by
    obtain ⟨c1, h1⟩ := own_typed hO.fin e
    obtain ⟨c2, h2⟩ := own_typed hJ.met e2
    exact absurd (typ_ne h1 h2) (by decide)
  have hJ2 := (hJ.below hba).step hg (fun k e => ⟨by have := hnb k e; omega, by have := hnb k e; omega, by have := hnb k e; omega, by have := hnb k e; omega, by have := hnb k e; omega, hma k e⟩)
  have hd1 := hl.ld
  have hOn : OnlyB bd V (V.setCell ⟨bd, 1, none⟩ v') := (OnlyB.refl _ _).set _ _
  have hmd : mv.ownBlock ≠ some bd := fun e => by
    obtain ⟨c2, h2⟩ := own_typed hJ.met e
    exact absurd (typ_ne hO.dbx h2) (by decide)
  have hsz : b2 ≤ (W.alloc o).heap.size := by simp; omega
  exact ⟨h1, hJ2.only hOn ⟨by omega, by omega, by omega, by omega, by omega⟩ hmd, h2, hS.keep hl ((Kp13.of_below hba hbw).trans ((Kp13.of_grown hg hsz hnb).trans (Kp13.of_only hOn hd1)))⟩
/-- What is handed out, in whatever memory that has the new blocks. -/
theorem JoI.dfa2 {fv : Value} {ns : List Value} {N : List (List Nat)} {F : List Bool} (h : JoI W b2 bd nv fv ns N F mv) (hk : ∀ k, b2 ≤ k → V.heap[k]? = W.heap[k]?) : DfaAt V (.agg #[nv, fv]) (intsL N) F :=
  dfa_of_rows (base := b2) (b2 := b2) h.mat.len (own_blk h.mat.arr fun k e => hk k (h.mat.arr.lt k e).1) (fun i h1 h2 => lst_of_row (own_blk (h.mat.row i h1 h2) fun k e => hk k ((h.mat.row i h1 h2).lt k e).1) (Nat.le_refl _)) (own_blk h.fin fun k e => hk k (h.fin.lt k e).1)
end
end Go.Proofs.YtklhjjgnhigbiaaGreatDoor
