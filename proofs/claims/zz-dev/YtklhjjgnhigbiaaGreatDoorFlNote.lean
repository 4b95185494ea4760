/-
  What notes which places follow.
-/
import Derived.Test.YtklhjjgnhigbiaaGreatDoorGJ
import Derived.Deep.RegionLaw
namespace Go.Proofs.YtklhjjgnhigbiaaGreatDoor
open Go.RowKit Go.Shelf
set_option linter.unusedVariables false

/-- Where the marks lie. -/
structure Geo (lo hi m bs bf F : Nat) (G : Nat → Nat) : Prop where
  rs : lo ≤ bs ∧ bs < hi
  rf : lo ≤ bf ∧ bf < hi
  rF : lo ≤ F ∧ F < hi
  g : ∀ i, i < m → lo ≤ G i ∧ G i < hi ∧ G i ≠ bs ∧ G i ≠ bf ∧ G i ≠ F
  inj : ∀ i j, i < m → j < m → G i = G j → i = j
/-- The marks tell R. -/
def NtI (hi m nw bs bf F : Nat) (sa : Option Addr) (sc : Nat) (G : Nat → Nat) (w : World) (R : Nat → Nat → Bool) : Prop :=
  hi ≤ w.heap.size ∧ w.cell? ⟨bs, 0, none⟩ = some (.slice sa m sc) ∧ w.cell? ⟨bf, 0, none⟩ = some (.slice (some ⟨F, 0, none⟩) m m) ∧ ∀ i, i < m → w.cell? ⟨F, i * 2, none⟩ = some (.int .i64 (m : Int)) ∧ w.cell? ⟨F, i * 2 + 1, none⟩ = some (.slice (some ⟨G i, 0, none⟩) nw nw) ∧ ∃ ms, ms.length = nw ∧ Fit ms ∧ MrkAt w (G i) ms ∧ ∀ y, mb ms y = R (i + 1) y
theorem NtI.keep {lo hi m nw bs bf F sc : Nat} {sa : Option Addr} {G : Nat → Nat} (g : Geo lo hi m bs bf F G) {w w' : World} {R : Nat → Nat → Bool} (h : NtI hi m nw bs bf F sa sc G w R) (hq : ∀ k, lo ≤ k → k < hi → w'.heap[k]? = w.heap[k]?) (hs : w.heap.size ≤ w'.heap.size) : NtI hi m nw bs bf F sa sc G w' R := by
  obtain ⟨h0, h1, h2, h3⟩ := h
  have c : ∀ b o, lo ≤ b → b < hi → w'.cell? ⟨b, o, none⟩ = w.cell? ⟨b, o, none⟩ := fun b o a1 a2 => World.cell?_of_block (a := ⟨b, o, none⟩) (hq b a1 a2)
  refine ⟨Nat.le_trans h0 hs, (c _ _ g.rs.1 g.rs.2).trans h1, (c _ _ g.rf.1 g.rf.2).trans h2, fun i hi => ?_⟩
  obtain ⟨a1, a2, ms, a3, a4, a5, a6⟩ := h3 i hi
  exact ⟨(c _ _ g.rF.1 g.rF.2).trans a1, (c _ _ g.rF.1 g.rF.2).trans a2, ms, a3, a4, (hq _ (g.g i hi).1 (g.g i hi).2.1).trans a5, a6⟩
theorem NtI.one {lo hi m nw bs bf F sc : Nat} {sa : Option Addr} {G : Nat → Nat} (g : Geo lo hi m bs bf F G) {w w' : World} {R R' : Nat → Nat → Bool} (h : NtI hi m nw bs bf F sa sc G w R) {i : Nat} (hi' : i < m) (hf : FrI (G i) (G i + 1) w w') {ms : List Nat} (h1 : ms.length = nw) (h2 : Fit ms) (h3 : MrkAt w' (G i) ms) (h4 : ∀ y, mb ms y = R' (i + 1) y) (h5 : ∀ k y, k < m → k ≠ i → R' (k + 1) y = R (k + 1) y) : NtI hi m nw bs bf F sa sc G w' R' := by
  obtain ⟨q0, q1, q2, q3⟩ := h
  have hg := g.g i hi'
  have bl : ∀ b, b ≠ G i → b < w.heap.size → w'.heap[b]? = w.heap[b]? := fun b h1 h2 => hf.block (by omega)
  have c : ∀ b o, b ≠ G i → b < w.heap.size → w'.cell? ⟨b, o, none⟩ = w.cell? ⟨b, o, none⟩ := fun b o a1 a2 => World.cell?_of_block (a := ⟨b, o, none⟩) (bl b a1 a2)
  have s1 := g.rs
  have s2 := g.rf
  have s3 := g.rF
  refine ⟨Nat.le_trans q0 hf.size, (c _ _ (by omega) (by omega)).trans q1, (c _ _ (by omega) (by omega)).trans q2, fun k hk => ?_⟩
  obtain ⟨a1, a2, ms', a3, a4, a5, a6⟩ := q3 k hk
  refine ⟨(c _ _ (by omega) (by omega)).trans a1, (c _ _ (by omega) (by omega)).trans a2, ?_⟩
  by_cases e : k = i
  · subst e
    exact ⟨ms, h1, h2, h3, h4⟩
  · have hne : G k ≠ G i := fun q => e (g.inj k i hk hi' q)
    exact ⟨ms', a3, a4, (bl _ hne (by have := g.g k hk; omega)).trans a5, fun y => by rw [a6, h5 k y hk e]⟩

theorem cont_snoc (l : List Nat) (x i : Nat) : (l ++ [x]).contains i = (l.contains i || decide (i = x)) := by
  rw [Bool.eq_iff_iff]; simp

set_option maxRecDepth 100000 in
set_option maxHeartbeats 16000000 in
theorem note_any {lo hi m nw bs bf F sc : Nat} {sa : Option Addr} {G : Nat → Nat} (g : Geo lo hi m bs bf F G) (hm : m ≤ 300) (hnw : nw = m / 64 + 1) (w : World) (R : Nat → Nat → Bool) (v1 v2 : Value) (a b : List Nat) (hI : NtI hi m nw bs bf F sa sc G w R) (h1 : LstAt hi w v1 a) (h2 : LstAt hi w v2 b) (ha : InR 0 m a) (hb : InR 0 m b) :
    Calls Tryz.prog 16 #[v1, v2, .pointer (some ⟨bs, 0, none⟩), .pointer (some ⟨bf, 0, none⟩)] w fun e w' => e = .returned (.tuple #[]) ∧ NtI hi m nw bs bf F sa sc G w' (fun i y => R i y || (a.contains i && b.contains y)) ∧ FrI lo hi w w' := by
  have hla := ha.len (Nat.zero_le _)
  have hlb := hb.len (Nat.zero_le _)
  have hmk := marked_any m b v2 w 0 hi h2.plc (fun x hx => (hb.2 x hx).2) (by omega) (by omega)
  rw [← hnw] at hmk
  have c0 := hI.2.1
  have hsz := hI.1
  have hbsl : bs < w.heap.size := by have := g.rs; omega
  have HG : Hid (Geo lo hi m bs bf F G) := g
  have HI : Hid (NtI hi m nw bs bf F sa sc G w R) := hI
  have H1 : Hid (LstAt hi w v1 a) := h1
  have HA : Hid (InR 0 m a) := ha
  have HNW : Hid (nw = m / 64 + 1) := hnw
  have hnl : nw ≤ 100 := by omega
  obtain ⟨xa, ca, rfl⟩ := h1.slice
  obtain ⟨ya, yn, yc, rfl⟩ := h2.any
  obtain ⟨len, hle⟩ : ∃ len, len = a.length := ⟨_, rfl⟩
  rw [← hle] at H1 hla ⊢
  have HLE : Hid (len = a.length) := hle
  have hlo : lo ≤ hi := by have := g.rs; omega
  clear h1 h2 ha hb hI hnw hle g
  go_enter Tryz.func16, Tryz.ntmps16
  go_wp2_with fail
  refine hmk.mono ?_
  rintro e w1 ⟨gm, msm, rfl, hgm, hml, hmf, hmb, hmk1, hB1⟩
  unfold mrkV
  obtain ⟨W1, hW1⟩ : ∃ W, W = w1.alloc (.cells #[.int .i64 (m : Int), .slice (some ⟨gm, 0, none⟩) nw nw] 53) := ⟨_, rfl⟩
  have hBW : Below w.heap.size w W1 := by rw [hW1]; exact hB1.alloc hB1.size _
  have hgl : gm < w1.heap.size := hmk1.lt
  have HMM : Hid (MrkAt W1 gm msm) := by rw [hW1]; exact (Below.heap_alloc _ _ _ hgl).trans hmk1
  have HBX : Hid (W1.heap[w1.heap.size]? = some (.cells #[.int .i64 (m : Int), .slice (some ⟨gm, 0, none⟩) nw nw] 53 (0, 0))) := by rw [hW1]; exact heap_new' _ _
  have HML : Hid (msm.length = nw ∧ Fit msm ∧ ∀ y, mb msm y = b.contains y) := ⟨hml, hmf, fun y => by rw [hmb, Bool.eq_iff_iff]; simp⟩
  have HI0 : Hid (NtI hi m nw bs bf F sa sc G W1 (fun i y => R i y || ((a.take 0).contains i && b.contains y))) := by
    have e : (fun i y => R i y || ((a.take 0).contains i && b.contains y)) = R := by
      funext i y; simp
    rw [e]
    exact HI.out.keep HG.out (fun k _ hk => hBW.block k (by omega)) hBW.size
  have HF0 : Hid (FrI lo hi w W1) := FrI.of hBW (by omega)
  have hs1 : w.heap.size ≤ w1.heap.size := hB1.size
  have HW1 : Hid (W1 = _) := hW1
  clear hmk hml hmf hmb hmk1 hB1 hBW hW1 c0
  go_wp2
  rw [← HW1.out]
  go_loopw [15] (fun x15 wr => ∃ (j : Nat), j ≤ len ∧ x15 = .int .i64 (j : Int) ∧ Hid (NtI hi m nw bs bf F sa sc G wr (fun i y => R i y || ((a.take j).contains i && b.contains y))) ∧ Hid (FrI lo hi w wr) ∧ Hid (MrkAt wr gm msm) ∧ Hid (wr.heap[w1.heap.size]? = some (.cells #[.int .i64 (m : Int), .slice (some ⟨gm, 0, none⟩) nw nw] 53 (0, 0)))) (fun x15 _ => len - (intOf x15).toNat)
  case atStart => exact ⟨0, Nat.zero_le _, rfl, HI0, HF0, HMM, HBX⟩
  case round =>
    obtain ⟨j, hj, rfl, HIr, HFr, HMr, HBr⟩ := hrel
    by_cases hjl : j < len
    · have hjn : j < a.length := by rw [← HLE.out]; exact hjl
      obtain ⟨ga, oa, rfl, hga, hgw, d0⟩ := H1.out.plc.at HLE.out hjn
      obtain ⟨i, hi0⟩ : ∃ i, a[j] = i + 1 := ⟨a[j] - 1, by have := HA.out.2 a[j] (List.getElem_mem hjn); omega⟩
      have him : i < m := by have := HA.out.2 a[j] (List.getElem_mem hjn); omega
      have HIA : Hid (a[j] = i + 1) := hi0
      rw [hi0] at d0
      have d1 : wr.cell? ⟨ga, oa + j, none⟩ = some (.int .i64 ((i : Int) + 1)) := by
        rw [World.cell?_of_block (a := ⟨ga, _, none⟩) (HFr.out.block (k := ga) (by omega)), d0]; rfl
      have HTK : Hid (a.take (j + 1) = a.take j ++ [i + 1]) := by
        show _ = _
        rw [List.take_add_one, List.getElem?_eq_getElem hjn, hi0]; rfl
      obtain ⟨q0, q1, q2, q3⟩ := HIr.out
      obtain ⟨q4, q5, ms, q6, q7, q8, q9⟩ := q3 i him
      have hgg := HG.out.g i him
      have hng : G i ≠ gm := by omega
      have hjc := mjoin_any m m (G i) gm nw ms msm wr.drew q8 q7 q6 HMr.out HML.out.2.1 HML.out.1 hng (by omega)
      have HQ6 : Hid (ms.length = nw ∧ Fit ms ∧ MrkAt wr (G i) ms ∧ ∀ y, mb ms y = (R (i + 1) y || ((a.take j).contains (i + 1) && b.contains y))) := ⟨q6, q7, q8, q9⟩
      have m0 : wr.cell? ⟨w1.heap.size, 0, none⟩ = some (.int .i64 (m : Int)) := cell_in HBr.out 0
      have m1 : wr.cell? ⟨w1.heap.size, 1, none⟩ = some (.slice (some ⟨gm, 0, none⟩) nw nw) := cell_in HBr.out 1
      have hlt1 : w1.heap.size < wr.heap.size := lt_of_heap HBr.out
      have hj0 : (0 : Int) ≤ (j : Int) := by omega
      have hj1 : (j : Int) < (len : Int) := by omega
      have hi1 : (0 : Int) ≤ (i : Int) := by omega
      have hi2 : (i : Int) < (m : Int) := by omega
      have hwi : IntKind.i64.wrap (i : Int) = (i : Int) := by rw [IntKind.wrap_i64]; omega
      have hFl : F < wr.heap.size := by have := HG.out.rF; omega
      unfold mrkV at hjc
      have HJC := hjc
      clear hi0 d0 q0 q1 q3 q6 q7 q8 q9 hjc
      go_wp2
      go_region_law (go_simp; (with_reducible refine HJC.mono ?_); rintro e w2 ⟨rfl, ms2, hl2, hf2, hb2, hm2, hfr2⟩; try dsimp only)
      all_goals (
        have hfr2' : FrI (G i) (G i + 1) wr w2 := ((FrI.refl _ _ wr).drew).trans hfr2
        have HI2 : Hid (NtI hi m nw bs bf F sa sc G w2 (fun i y => R i y || ((a.take (j + 1)).contains i && b.contains y))) := HIr.out.one HG.out him hfr2' hl2 hf2 hm2 (fun y => by
          rw [hb2, HQ6.out.2.2.2, HML.out.2.2, HTK.out, cont_snoc, decide_eq_true rfl]
          cases R (i + 1) y <;> cases (a.take j).contains (i + 1) <;> cases b.contains y <;> rfl) (fun k y hk hne => by
          rw [HTK.out, cont_snoc, decide_eq_false (by omega), Bool.or_false])
        have HF2 : Hid (FrI lo hi w w2) := HFr.out.trans (hfr2'.wide (by omega) (by omega))
        have HM2 : Hid (MrkAt w2 gm msm) := (hfr2'.block (k := gm) (by have := HMr.out.lt; omega)).trans HMr.out
        have HB2 : Hid (w2.heap[w1.heap.size]? = some (.cells #[.int .i64 (m : Int), .slice (some ⟨gm, 0, none⟩) nw nw] 53 (0, 0))) := (hfr2'.block (k := w1.heap.size) (by omega)).trans HBr.out
        clear HJC hl2 hf2 hb2 hm2 hfr2 hfr2'
        go_wp2
        go_roundw
        case rel => exact ⟨j + 1, by omega, by go_num, HI2, HF2, HM2, HB2⟩
        case measure => simp [intOf]; omega)
    · obtain rfl : j = len := by omega
      have HEQ : Hid (a.take j = a) := List.take_of_length_le (by rw [← HLE.out]; exact Nat.le_refl _)
      go_wp2
      go_end0
      refine ⟨rfl, ?_, HFr.out⟩
      have := HIr.out
      rw [HEQ.out] at this
      exact this
theorem note_ent : ∀ args w, (callFunc 16 args).run Tryz.prog w = .ok (.enter 16 args) w := enters_of Tryz.func16 (by kernel_rfl) rfl
theorem note_T {lo hi m nw bs bf F sc : Nat} {sa : Option Addr} {G : Nat → Nat} (g : Geo lo hi m bs bf F G) (hm : m ≤ 300) (hnw : nw = m / 64 + 1) : NoteT 16 #[.pointer (some ⟨bs, 0, none⟩), .pointer (some ⟨bf, 0, none⟩)] lo hi m (fun w L => NtI hi m nw bs bf F sa sc G w (fol L)) where
  ent := note_ent
  le := by have := g.rs; omega
  size := fun w L h => h.1
  keep := fun w w' L h hq hs => h.keep g hq hs
  call := fun w L v1 a v2 b h h1 h2 ha hb => (note_any g hm hnw w (fol L) v1 v2 a b h h1 h2 ha hb).mono fun e w' ⟨he, hI, hf⟩ => ⟨he, by
    have : (fun i y => fol L i y || (a.contains i && b.contains y)) = fol (L ++ [(a, b)]) := by
      funext i y; rw [fol_app, fol_one]
    rw [this] at hI
    exact hI, hf⟩
end Go.Proofs.YtklhjjgnhigbiaaGreatDoor
