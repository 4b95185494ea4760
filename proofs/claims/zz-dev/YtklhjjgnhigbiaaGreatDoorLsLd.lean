/-
  least.parting.leading: states in groups, in memory.
-/
import Derived.Test.YtklhjjgnhigbiaaGreatDoorLsNt
import Derived.Test.YtklhjjgnhigbiaaGreatDoorLsLdM
import Derived.Test.YtklhjjgnhigbiaaGreatDoorLsPair
import Derived.Test.YtklhjjgnhigbiaaGreatDoorShelf13
namespace Go.Proofs.YtklhjjgnhigbiaaGreatDoor
open Go.RowKit Go.Shelf
set_option linter.unusedVariables false

theorem Tryz.undStr13 : Tryz.prog.underlying 9 = some .string := by kernel_rfl
theorem Tryz.undMap13 : Tryz.prog.underlying 64 = some (.map 9 3) := by kernel_rfl
theorem Tryz.keyLaw13 : Maps.Keyed Tryz.prog 9 := Maps.string_keyed Tryz.undStr13
theorem Tryz.zeroInt13 (w : World) : (zeroValue 3).run Tryz.prog w = .ok (.int .i64 0) w := Tryz.zeroValue3 w
/-- The map knows the texts. -/
def KnB (D : DataW Unit) (K : List (List UInt8)) : Prop :=
  (∀ t, (Maps.has D (.string t) = true ↔ t ∈ K)) ∧ ∀ t ∈ K, D.atKey (.string t) (.lit (.int .i64 0)) = .lit (.int .i64 (K.idxOf t : Nat))
theorem KnB.put {D : DataW Unit} {K : List (List UInt8)} {t : List UInt8} (hD : Maps.IsMap D) (h : KnB D K) (hn : ¬ t ∈ K) : KnB (D.put (.string t) (.lit (.int .i64 (K.length : Nat)))) (K ++ [t]) := by
  have hkl : WideAt.IsKeyLit (.string t) := trivial
  have hne : ∀ x, x ≠ t → (Lit.string x) ≠ .string t := fun x hx e => hx (by injection e)
  constructor
  · intro x
    by_cases e : x = t
    · subst e
      simp [Maps.has_put_same hD hkl]
    · rw [Maps.has_put_other (hne x e), h.1 x]
      simp [e]
  · intro x hx
    by_cases e : x = t
    · subst e
      rw [Maps.atKey_put_same hD hkl, List.idxOf_append, if_neg hn]
      simp
    · rw [Maps.atKey_put_other (hne x e)]
      have hxS : x ∈ K := by
        rcases List.mem_append.1 hx with q | q
        · exact q
        · exact absurd (List.mem_singleton.1 q) e
      rw [h.2 x hxS, List.idxOf_append, if_pos hxS]
theorem cellB13_bytes (l : List Nat) (h : ∀ c ∈ l, c < 256) : cellB13 l = Lib.byteCells (l.map fun c => UInt8.ofNat c) := by
  unfold cellB13 Lib.byteCells
  rw [List.map_map]
  refine List.map_congr_left (fun c hc => ?_)
  have := h c hc
  simp only [Function.comp]
  rw [UInt8.toNat_ofNat', Nat.mod_eq_of_lt this]
theorem own_cut0 {w : World} {base e n m c : Nat} {a : Option Addr} {xs : List Value} (h : w.ownsRow base e 1 (.slice a m c) n xs) (hn : 0 < n) : w.ownsRow base e 1 (.slice a 0 c) 0 [] := by
  rcases h.2 with ⟨_, q⟩ | ⟨g, cap, cur, q, h1, h2, h3, h4, h5, h6⟩
  · omega
  · simp only [Value.slice.injEq] at q
    obtain ⟨rfl, _, rfl⟩ := q
    exact ⟨rfl, .inr ⟨g, c, cur, rfl, h1, h2, Nat.zero_le _, h4, h5, by simp⟩⟩
theorem OnlyB.grown {b : Nat} {w w' : World} (h : OnlyB b w w') : w.grownBy w' (some b) := ⟨h.os, h.tape, h.output, by rw [h.size]; exact Nat.le_refl _, fun k _ hne => h.block k (fun e => hne (by rw [e]))⟩
section
variable {w0 w w2 w3 : World} {base gw n : Nat} {wv0 wv : Nat → Value} {wy : Nat → List Nat} {v : Value} {L : List Nat}
theorem NtI13.step (h : NtI13 w0 base gw n wv0 w wv wy v L) {row : Option Nat} (hg : w.grownBy w2 row) (hne : ∀ k, row = some k → w0.heap.size ≤ k ∧ k ≠ gw ∧ (∀ s, s < n → (wv s).ownBlock ≠ some k) ∧ v.ownBlock ≠ some k) : NtI13 w0 base gw n wv0 w2 wv wy v L := by
  have hk : ∀ k, k < w.heap.size → row ≠ some k → w2.heap[k]? = w.heap[k]? := fun k a b => hg.block k a (fun e => b e.symm)
  refine ⟨h.way.to (hk gw h.way.lt.1 (fun e => (hne gw e).2.1 rfl)) (fun s hs k e => hk k ((h.way.row s hs).lt k e).2 (fun q => (hne k q).2.2.1 s hs e)), own_blk h.row (fun k e => hk k (h.row.lt k e).2 (fun q => (hne k q).2.2.2 e)), hg.os.trans h.os, hg.tape.trans h.tape, hg.output.trans h.output, Nat.le_trans h.size hg.size, fun k a b c => (hk k (Nat.lt_of_lt_of_le a h.size) (fun q => ?_)).trans (h.blk k a b c), h.own⟩
  have := (hne k q).1
  omega
/-- From an earlier world on. -/
theorem NtI13.back {wz : World} (h : NtI13 w0 base gw n wv0 w wv wy v L) (hb : Below wz.heap.size wz w0) : NtI13 wz base gw n wv0 w wv wy v L := ⟨h.way, own_mono13 h.row hb.size, h.os.trans hb.os, h.tape.trans hb.tape, h.output.trans hb.output, Nat.le_trans hb.size h.size, fun k a b c => (h.blk k (Nat.lt_of_lt_of_le a hb.size) b c).trans (hb.block k a), fun s hs k e => (h.own s hs k e).imp id (fun q => Nat.le_trans hb.size q)⟩
/-- A state's classes are put aside. -/
theorem NtI13.cutW (h : NtI13 w0 base gw n wv0 w wv wy v L) {s sn sc : Nat} {sa : Option Addr} (hs : s < n) (hv : wv s = .slice sa sn sc) (hne : wy s ≠ []) : NtI13 w0 base gw n wv0 (w.setCell ⟨gw, s, none⟩ (.slice sa 0 sc)) (upV wv s (.slice sa 0 sc)) (upL wy s []) v L := by
  obtain ⟨cg, hcg⟩ := own_typed h.way.arr (k := gw) rfl
  have hO : OnlyB gw w (w.setCell ⟨gw, s, none⟩ (.slice sa 0 sc)) := (OnlyB.refl _ _).set _ _
  have hnu : ∀ {u : Value} {nn b2 : Nat} {e : TypeId} {xs : List Value} {k : Nat}, w.ownsRow b2 e 1 u nn xs → e ≠ 42 → u.ownBlock = some k → k ≠ gw := fun {u nn b2 e xs k} hu he ek q => by
    obtain ⟨c1, h1⟩ := own_typed hu ek
    rw [q] at h1
    exact he (typ_ne h1 hcg)
  have hrow := h.way.row s hs
  rw [hv] at hrow
  have hcut := own_cut0 hrow (by
    have : (wy s).length ≠ 0 := fun e => hne (List.length_eq_zero_iff.1 e)
    omega)
  have hblk : (Value.slice sa 0 sc).ownBlock = (wv s).ownBlock := by rw [hv]; cases sa <;> rfl
  refine ⟨⟨?_, fun t ht => ?_, fun a b ha hb k ea eb => ?_⟩, own_blk h.row (fun k e => hO.block k (hnu h.row (by decide) e)), hO.os.trans h.os, hO.tape.trans h.tape, hO.output.trans h.output, by rw [hO.size]; exact h.size, fun k a b c => (hO.block k b).trans (h.blk k a b c), fun t ht k e => ?_⟩
  · have := own_set (i := s) h.way.arr (.slice sa 0 sc)
    rw [map_upV hs] at this
    exact this
  · by_cases e : t = s
    · subst e
      have e1 : upV wv t (.slice sa 0 sc) t = .slice sa 0 sc := by unfold upV; rw [if_pos rfl]
      have e2 : upL wy t [] t = [] := by unfold upL; rw [if_pos rfl]
      rw [e1, e2]
      exact own_blk hcut (fun k ek => hO.block k (hnu hrow (by decide) (by rw [← hv, ← hblk]; exact ek)))
    · have e1 : upV wv s (.slice sa 0 sc) t = wv t := by unfold upV; rw [if_neg e]
      have e2 : upL wy s [] t = wy t := by unfold upL; rw [if_neg e]
      rw [e1, e2]
      exact own_blk (h.way.row t ht) (fun k ek => hO.block k (hnu (h.way.row t ht) (by decide) ek))
  · have hb2 : ∀ t, (upV wv s (.slice sa 0 sc) t).ownBlock = (wv t).ownBlock := fun t => by
      unfold upV
      by_cases e : t = s
      · rw [if_pos e, e, hblk]
      · rw [if_neg e]
    rw [hb2] at ea eb
    exact h.way.inj a b ha hb k ea eb
  · have hb2 : (upV wv s (.slice sa 0 sc) t).ownBlock = (wv t).ownBlock := by
      unfold upV
      by_cases e : t = s
      · rw [if_pos e, e, hblk]
      · rw [if_neg e]
    rw [hb2] at e
    exact h.own t ht k e
theorem MbI.step {mv : Value} {rows : List Value} {B : List (List Nat)} {b2 : Nat} (h : MbI w b2 mv rows B) {row : Option Nat} (hg : w.grownBy w2 row) (hne : ∀ k, row = some k → mv.ownBlock ≠ some k ∧ ∀ u ∈ rows, u.ownBlock ≠ some k) : MbI w2 b2 mv rows B :=
  h.to (fun k e => hg.block k (h.arr.lt k e).2 (fun q => (hne k q.symm).1 e)) (fun u hu k e => by
    obtain ⟨i, hi, rfl⟩ := List.mem_iff_getElem.1 hu
    exact hg.block k ((h.row i hi (by rw [← h.len]; exact hi)).lt k e).2 (fun q => (hne k q.symm).2 _ hu e))
/-- The groups while they are made. -/
structure LdI (w0 : World) (base gw n : Nat) (wv0 : Nat → Value) (gm : Nat) (w : World) (wv : Nat → Value) (wy : Nat → List Nat) (v : Value) (L : List Nat) (gv : Value) (rows : List Value) (K : List (List UInt8)) (G : List (List Nat)) : Prop where
  nt : NtI13 w0 base gw n wv0 w wv wy v L
  mb : MbI w w0.heap.size gv rows G
  ne : ∀ u ∈ rows, ∀ k, u.ownBlock = some k → v.ownBlock ≠ some k
  lg : w0.heap.size ≤ gm
  mp : ∃ D, w.ownsMap Tryz.prog 9 (plainElem Tryz.prog 3) gm K.length D ∧ KnB D K
variable {gm : Nat} {gv : Value} {rows : List Value} {K : List (List UInt8)} {G : List (List Nat)}
theorem map_ne {D : DataW Unit} {m k : Nat} (h : w.ownsMap Tryz.prog 9 (plainElem Tryz.prog 3) gm m D) {cs : Array Value} {t : TypeId} {fr : Nat × Nat} (hk : w.heap[k]? = some (.cells cs t fr)) : k ≠ gm := fun e => by
  subst e
  obtain ⟨es, clock, hb, _⟩ := h
  rw [hk] at hb
  cases hb
theorem LdI.below (h : LdI w0 base gw n wv0 gm w wv wy v L gv rows K G) (hb : Below w.heap.size w w2) : LdI w0 base gw n wv0 gm w2 wv wy v L gv rows K G := by
  obtain ⟨D, h1, h2⟩ := h.mp
  exact ⟨h.nt.below hb, h.mb.below hb, h.ne, h.lg, D, h1.kept (row := none) ⟨hb.os, hb.tape, hb.output, hb.size, fun k hk _ => hb.block k hk⟩ (by simp), h2⟩
theorem LdI.cut (h : LdI w0 base gw n wv0 gm w wv wy v L gv rows K G) {s sn sc : Nat} {sa : Option Addr} (hs : s < n) (hv : wv s = .slice sa sn sc) (hne : wy s ≠ []) : LdI w0 base gw n wv0 gm (w.setCell ⟨gw, s, none⟩ (.slice sa 0 sc)) (upV wv s (.slice sa 0 sc)) (upL wy s []) v L gv rows K G := by
  obtain ⟨cg, hcg⟩ := own_typed h.nt.way.arr (k := gw) rfl
  have hO : OnlyB gw w (w.setCell ⟨gw, s, none⟩ (.slice sa 0 sc)) := (OnlyB.refl _ _).set _ _
  obtain ⟨D, h1, h2⟩ := h.mp
  refine ⟨h.nt.cutW hs hv hne, h.mb.step hO.grown (fun k e => ?_), h.ne, h.lg, D, h1.kept hO.grown (fun e => map_ne h1 hcg (Option.some.inj e).symm), h2⟩
  have e : gw = k := by injection e
  subst e
  refine ⟨fun e => ?_, fun u hu e => ?_⟩
  · obtain ⟨c, hc⟩ := own_typed h.mb.arr e
    exact absurd (typ_ne hc hcg) (by decide)
  · obtain ⟨i, hi, rfl⟩ := List.mem_iff_getElem.1 hu
    obtain ⟨c, hc⟩ := own_typed (h.mb.row i hi (by rw [← h.mb.len]; exact hi)) e
    exact absurd (typ_ne hc hcg) (by decide)
/-- A text more. -/
theorem LdI.upd {t : List UInt8} {D : DataW Unit} (h : LdI w0 base gw n wv0 gm w wv wy v L gv rows K G) (hn : ¬ t ∈ K) (hD : w.ownsMap Tryz.prog 9 (plainElem Tryz.prog 3) gm K.length D) (hK : KnB D K) (hg : w.grownBy w2 (some gm)) (hm : w2.ownsMap Tryz.prog 9 (plainElem Tryz.prog 3) gm (K.length + 1) (D.put (.string t) (.lit (.int .i64 (K.length : Nat))))) :
    LdI w0 base gw n wv0 gm w2 wv wy v L gv rows (K ++ [t]) G := by
  have hty : ∀ {u : Value} {e : TypeId} {b2 nn : Nat} {xs : List Value}, w.ownsRow b2 e 1 u nn xs → u.ownBlock ≠ some gm := fun {u e b2 nn xs} hu ek => by
    obtain ⟨c1, h1⟩ := own_typed hu ek
    exact map_ne hD h1 rfl
  refine ⟨h.nt.step hg (fun k e => ?_), h.mb.step hg (fun k e => ?_), h.ne, h.lg, _, by rw [List.length_append, List.length_singleton]; exact hm, hK.put hD.isMap hn⟩
  · have e : gm = k := by injection e
    subst e
    exact ⟨h.lg, fun e => hty h.nt.way.arr (by rw [e]; rfl), fun s hs => hty (h.nt.way.row s hs), hty h.nt.row⟩
  · have e : gm = k := by injection e
    subst e
    refine ⟨hty h.mb.arr, fun u hu => ?_⟩
    obtain ⟨i, hi, rfl⟩ := List.mem_iff_getElem.1 hu
    exact hty (h.mb.row i hi (by rw [← h.mb.len]; exact hi))
/-- A group more, empty. -/
theorem LdI.addG (h : LdI w0 base gw n wv0 gm w wv wy v L gv rows K G) {o : Obj} {gv' : Value} (hg : (w.alloc o).grownBy w2 gv.ownBlock) (ho : w2.ownsRow w0.heap.size 26 1 gv' (G.length + 1) (rows ++ [.slice none 0 0])) : LdI w0 base gw n wv0 gm w2 wv wy v L gv' (rows ++ [.slice none 0 0]) K (G ++ [[]]) := by
  have ha : LdI w0 base gw n wv0 gm (w.alloc o) wv wy v L gv rows K G := h.below (below_alloc w o)
  obtain ⟨D, h1, h2⟩ := ha.mp
  have hty : ∀ {u : Value} {e : TypeId} {b2 nn : Nat} {xs : List Value} {k : Nat}, (w.alloc o).ownsRow b2 e 1 u nn xs → e ≠ 26 → gv.ownBlock = some k → u.ownBlock ≠ some k := fun {u e b2 nn xs k} hu he eg ek => by
    obtain ⟨c1, h1⟩ := own_typed hu ek
    obtain ⟨c2, h2⟩ := own_typed ha.mb.arr eg
    exact he (typ_ne h1 h2)
  have hlen := h.mb.len
  refine ⟨ha.nt.step hg (fun k e => ⟨(ha.mb.arr.lt k e).1, fun q => ?_, fun s hs => hty (ha.nt.way.row s hs) (by decide) e, hty ha.nt.row (by decide) e⟩), ⟨by rw [List.length_append, List.length_singleton]; exact ho, fun i a b => ?_, fun i j hi hj k ei ej => ?_⟩, fun u hu k e => ?_, h.lg, D, h1.kept hg (fun e => ?_), h2⟩
  · exact hty ha.nt.way.arr (by decide) e (by rw [q]; rfl)
  · by_cases q : i < rows.length
    · have q2 : i < G.length := by omega
      rw [List.getElem_append_left q, List.getElem_append_left q2]
      exact own_blk (ha.mb.row i q q2) (fun k e => hg.block k ((ha.mb.row i q q2).lt k e).2 (fun z => hty (ha.mb.row i q q2) (by decide) z.symm e))
    · have e : i = rows.length := by simp at a; omega
      subst e
      rw [List.getElem_append_right (Nat.le_refl _), List.getElem_append_right (by omega)]
      simp only [Nat.sub_self, List.getElem_cons_zero, hlen]
      exact World.ownsRow_nil _ _ _ _
  · have hq : ∀ i, (a : i < (rows ++ [Value.slice none 0 0]).length) → (rows ++ [Value.slice none 0 0])[i].ownBlock = some k → ∃ q : i < rows.length, rows[i].ownBlock = some k := fun i a e => by
      by_cases q : i < rows.length
      · rw [List.getElem_append_left q] at e
        exact ⟨q, e⟩
      · rw [List.getElem_append_right (by omega)] at e
        simp [Value.ownBlock] at e
    obtain ⟨qi, ei⟩ := hq i hi ei
    obtain ⟨qj, ej⟩ := hq j hj ej
    exact h.mb.inj i j qi qj k ei ej
  · rcases List.mem_append.1 hu with q | q
    · exact h.ne u q k e
    · rw [List.mem_singleton.1 q] at e
      cases e
  · obtain ⟨c2, h2⟩ := own_typed ha.mb.arr e.symm
    exact map_ne h1 h2 rfl
/-- A state more of a group's. -/
theorem LdI.pushG {GG gc : Nat} (h : LdI w0 base gw n wv0 gm w wv wy v L (.slice (some ⟨GG, 0, none⟩) G.length gc) rows K G) {j s : Nat} (hj : j < G.length) (hjr : j < rows.length) {u v' : Value} {l : List Nat} (hl : G.getD j [] = l) (hu : rows[j] = u) {o : Obj} (hg : (w.alloc o).grownBy w2 u.ownBlock) (ho : w2.ownsRow w0.heap.size 3 1 v' (l.length + 1) (cellP l ++ [.int .i64 (s : Int)])) (hat : ∀ k, v'.ownBlock = some k → u.ownBlock = some k ∨ w.heap.size ≤ k) :
    (w2.cell? ⟨GG, j, none⟩ = some u ∧ w2.frozen? ⟨GG, j, none⟩ = false ∧ GG < w2.heap.size) ∧ LdI w0 base gw n wv0 gm (w2.setCell ⟨GG, j, none⟩ v') wv wy v L (.slice (some ⟨GG, 0, none⟩) G.length gc) (rows.set j v') K (G.set j (l ++ [s])) := by
  have ha : LdI w0 base gw n wv0 gm (w.alloc o) wv wy v L (.slice (some ⟨GG, 0, none⟩) G.length gc) rows K G := h.below (below_alloc w o)
  obtain ⟨D, h1, h2⟩ := ha.mp
  have hlen := h.mb.len
  have hrow := ha.mb.row j hjr hj
  rw [hu] at hrow
  have hGj : G[j] = l := by rw [← hl]; simp [hj]
  rw [hGj] at hrow
  have hty : ∀ {x : Value} {e : TypeId} {b2 nn : Nat} {xs : List Value} {k : Nat}, (w.alloc o).ownsRow b2 e 1 x nn xs → e ≠ 3 → u.ownBlock = some k → x.ownBlock ≠ some k := fun {x e b2 nn xs k} hx he eg ek => by
    obtain ⟨c1, h1⟩ := own_typed hx ek
    obtain ⟨c2, h2⟩ := own_typed hrow eg
    exact he (typ_ne h1 h2)
  have hoth : ∀ i, (q : i < rows.length) → i ≠ j → ∀ k, u.ownBlock = some k → rows[i].ownBlock ≠ some k := fun i q hne k e1 e2 => hne (h.mb.inj i j q hjr k e2 (by rw [hu]; exact e1))
  have hum : u ∈ rows := by rw [← hu]; exact List.getElem_mem hjr
  -- at the grown world
  have hn2 : NtI13 w0 base gw n wv0 w2 wv wy v L := ha.nt.step hg (fun k e => ⟨(hrow.lt k e).1, fun q => hty ha.nt.way.arr (by decide) e (by rw [q]; rfl), fun s hs => hty (ha.nt.way.row s hs) (by decide) e, fun q => h.ne u hum k e q⟩)
  have harr2 : w2.ownsRow w0.heap.size 26 1 (.slice (some ⟨GG, 0, none⟩) G.length gc) G.length rows := own_blk ha.mb.arr (fun k e => hg.block k (ha.mb.arr.lt k e).2 (fun q => hty ha.mb.arr (by decide) q.symm e))
  have hoth2 : ∀ i, (q : i < rows.length) → (q2 : i < G.length) → i ≠ j → w2.ownsRow w0.heap.size 3 1 rows[i] G[i].length (cellP G[i]) := fun i q q2 hne => own_blk (ha.mb.row i q q2) (fun k e => hg.block k ((ha.mb.row i q q2).lt k e).2 (fun z => hoth i q hne k z.symm e))
  have hD2 := h1.kept hg (fun e => by
    obtain ⟨c2, h2⟩ := own_typed hrow e.symm
    exact map_ne h1 h2 rfl)
  obtain ⟨cg, hcg⟩ := own_typed harr2 (k := GG) rfl
  have hcell : w2.cell? ⟨GG, j, none⟩ = some u := by
    have := harr2.cells (g := GG) rfl j u (by rw [← hu]; simp [hjr])
    rw [add_lit', Nat.zero_add] at this
    exact this
  have hO : OnlyB GG w2 (w2.setCell ⟨GG, j, none⟩ v') := (OnlyB.refl _ _).set _ _
  have hnu : ∀ {x : Value} {nn b2 : Nat} {e : TypeId} {xs : List Value} {k : Nat}, w2.ownsRow b2 e 1 x nn xs → e ≠ 26 → x.ownBlock = some k → k ≠ GG := fun {x nn b2 e xs k} hx he ek q => by
    obtain ⟨c1, h1⟩ := own_typed hx ek
    rw [q] at h1
    exact he (typ_ne h1 hcg)
  have hsz := (below_alloc w o).size
  have hval : ∀ i, (a : i < (rows.set j v').length) → (i = j ∧ (rows.set j v')[i] = v') ∨ (i ≠ j ∧ ∃ q : i < rows.length, (rows.set j v')[i] = rows[i]) := fun i a => by
    have q : i < rows.length := by simpa using a
    by_cases e : i = j
    · subst e
      exact .inl ⟨rfl, by simp⟩
    · have e' : ¬ j = i := fun x => e x.symm
      exact .inr ⟨e, q, by simp [e']⟩
  have hnew : ∀ i, (q : i < rows.length) → i ≠ j → ∀ k, rows[i].ownBlock = some k → v'.ownBlock ≠ some k := fun i q hne k e1 e2 => by
    rcases hat k e2 with z | z
    · exact hoth i q hne k z e1
    · have := ((h.mb.row i q (by omega)).lt k e1).2
      omega
  refine ⟨⟨hcell, by simp [World.frozen?, hcg], lt_of_heap hcg⟩, hn2.step hO.grown (fun k e => ?_), ⟨?_, fun i a b => ?_, fun a b hi hj2 k ea eb => ?_⟩, fun x hx k e q => ?_, h.lg, D, hD2.kept hO.grown (fun e => map_ne hD2 hcg (Option.some.inj e).symm), h2⟩
  · have e := Option.some.inj e
    subst e
    exact ⟨(harr2.lt GG rfl).1, fun q => hnu hn2.way.arr (by decide) (k := gw) rfl q.symm, fun s hs e => hnu (hn2.way.row s hs) (by decide) e rfl, fun e => hnu hn2.row (by decide) e rfl⟩
  · have := own_set (i := j) harr2 v'
    rw [List.length_set]
    exact this
  · rcases hval i a with ⟨e1, e2⟩ | ⟨e1, q, e2⟩
    · subst e1
      rw [e2]
      have e3 : (G.set i (l ++ [s]))[i] = l ++ [s] := by simp
      rw [e3, List.length_append, List.length_singleton, cellP_snoc]
      exact own_blk ho (fun k ek => hO.block k (hnu ho (by decide) ek))
    · have q2 : i < G.length := by omega
      have e' : ¬ j = i := fun x => e1 x.symm
      have e3 : (G.set j (l ++ [s]))[i] = G[i] := by simp [e']
      rw [e2, e3]
      exact own_blk (hoth2 i q q2 e1) (fun k ek => hO.block k (hnu (hoth2 i q q2 e1) (by decide) ek))
  · rcases hval a hi with ⟨p1, p2⟩ | ⟨p1, pq, p2⟩ <;> rcases hval b hj2 with ⟨q1, q2⟩ | ⟨q1, qq, q2⟩ <;> rw [p2] at ea <;> rw [q2] at eb
    · rw [p1, q1]
    · exact absurd ea (hnew b qq q1 k eb)
    · exact absurd eb (hnew a pq p1 k ea)
    · exact h.mb.inj a b pq qq k ea eb
  · obtain ⟨i, hi, rfl⟩ := List.mem_iff_getElem.1 hx
    rcases hval i hi with ⟨e1, e2⟩ | ⟨e1, q1, e2⟩
    · rw [e2] at e
      rcases hat k e with z | z
      · exact h.ne u hum k z q
      · have := (h.nt.row.lt k q).2
        omega
    · rw [e2] at e
      exact h.ne _ (List.getElem_mem q1) k e q
end
end Go.Proofs.YtklhjjgnhigbiaaGreatDoor
