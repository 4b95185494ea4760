/-
  least.parting.leading, walked.
-/
import Derived.Test.YtklhjjgnhigbiaaGreatDoorLsLd
import Derived.Test.YtklhjjgnhigbiaaGreatDoorLsLv
import Derived.Deep.CutRange
namespace Go.Proofs.YtklhjjgnhigbiaaGreatDoor
open Go.RowKit Go.Shelf
set_option linter.unusedVariables false

theorem WyI.same {w : World} {base gw n : Nat} {wv : Nat → Value} {wy wy' : Nat → List Nat} (h : WyI w base gw n wv wy) (e : ∀ s, s < n → wy s = wy' s) : WyI w base gw n wv wy' := ⟨h.arr, fun s hs => by rw [← e s hs]; exact h.row s hs, h.inj⟩
theorem NtI13.same {w0 w : World} {base gw n : Nat} {wv0 wv : Nat → Value} {wy wy' : Nat → List Nat} {v : Value} {L : List Nat} (h : NtI13 w0 base gw n wv0 w wv wy v L) (e : ∀ s, s < n → wy s = wy' s) : NtI13 w0 base gw n wv0 w wv wy' v L := ⟨h.way.same e, h.row, h.os, h.tape, h.output, h.size, h.blk, h.own⟩
theorem NtI13.from {w0 w : World} {base gw n : Nat} {wv0 wv : Nat → Value} {wy wy0 : Nat → List Nat} {v : Value} {L : List Nat} (h : NtI13 w0 base gw n wv0 w wv wy v L) (h0 : WyI w0 base gw n wv0 wy0) (hb : base ≤ w0.heap.size) : Below base w0 w := ⟨h.os, h.tape, h.output, h.size, fun k hk => h.blk k (by omega) (by have := h0.lt.2; omega) (fun s hs e => by have := ((h0.row s hs).lt k e).1; omega)⟩
/-- The text as bytes. -/
def keyA (x : Nat) (l : List Nat) : ByteArray := ⟨(keyB x l).toArray⟩
theorem keyA_app (x : Nat) (l : List Nat) : (⟨(Lib.decDigits x).toArray⟩ : ByteArray) ++ ⟨#[32]⟩ ++ ⟨(l.map fun c => UInt8.ofNat c).toArray⟩ = keyA x l := by
  rw [ByteArray.mk_append_mk, ByteArray.mk_append_mk]
  unfold keyA keyB
  simp

theorem kysF_few (key : Nat → List UInt8) (l : List Nat) : (kysF key l).length ≤ l.length := by
  refine snoc_rec (P := fun l => (kysF key l).length ≤ l.length) (by simp [kysF]) ?_ l
  intro l s ih
  rw [kysF_snoc, List.length_append, List.length_singleton]
  by_cases q : key s ∈ kysF key l
  · rw [if_pos q]; omega
  · rw [if_neg q, List.length_append, List.length_singleton]; omega
theorem grpF_few (key : Nat → List UInt8) (l : List Nat) : ∀ g ∈ grpF key l, g.length ≤ l.length := fun g hg => by
  obtain ⟨k, _, rfl⟩ := List.mem_map.1 hg
  exact List.length_filter_le _ _
/-- Behind the append to a group. -/
theorem ld_push {w0 w : World} {base gw n gm : Nat} {wv0 wv : Nat → Value} {wy : Nat → List Nat} {v : Value} {L : List Nat} {GG gc N j s un uc : Nat} {ua : Option Addr} {rows : List Value} {K K' : List (List UInt8)} {G G' : List (List Nat)} {l : List Nat} (h : LdI w0 base gw n wv0 gm w wv wy v L (.slice (some ⟨GG, 0, none⟩) N gc) rows K G) (hN : N = G.length) (hj : j < G.length) (hjr : j < rows.length) (hl : G.getD j [] = l) (hu : rows[j] = .slice ua un uc) (hun : un = l.length) (hK : K' = K) (hG : G' = G.set j (l ++ [s])) :
    ∀ w8 g8 c8, (w.alloc (.cells #[.int .i64 (s : Int)] 3)).grownBy w8 (Value.slice ua un uc).ownBlock → w8.ownsRow w0.heap.size 3 1 (.slice (some ⟨g8, 0, none⟩) (un + 1) c8) (un + 1) (cellP l ++ [.int .i64 (s : Int)]) → ((Value.slice ua un uc).ownBlock = some g8 ∨ g8 = (w.alloc (.cells #[.int .i64 (s : Int)] 3)).heap.size) → (w8.cell? ⟨GG, j, none⟩ = some (.slice ua un uc) ∧ w8.frozen? ⟨GG, j, none⟩ = false ∧ GG < w8.heap.size) ∧ Hid (LdI w0 base gw n wv0 gm (w8.setCell ⟨GG, j, none⟩ (.slice (some ⟨g8, 0, none⟩) (un + 1) c8)) wv wy v L (.slice (some ⟨GG, 0, none⟩) N gc) (rows.set j (.slice (some ⟨g8, 0, none⟩) (un + 1) c8)) K' G') := by
  intro w8 g8 c8 hg ho hat
  subst hN hK hG hun
  exact h.pushG (j := j) (s := s) (u := .slice ua l.length uc) (l := l) (v' := .slice (some ⟨g8, 0, none⟩) (l.length + 1) c8) hj hjr hl hu hg ho (fun k e => by
    have e2 : g8 = k := by injection e
    rw [← e2]
    rcases hat with z | z
    · exact .inl z
    · exact .inr (by rw [z]; simp))
set_option maxRecDepth 100000 in
set_option maxHeartbeats 16000000 in
theorem leading_any (PB gp gw n base lo k pt : Nat) (mv iv : Value) (rows : List Value) (B : List (List Nat)) (M : Mach) (T : List Nat) (p : Nat → Nat) (gf gn : Nat → Nat) (wv0 : Nat → Value) (w : World) (hPT : ∀ W, Below base w W → PowT W)
    (hs : PStr w PB gp n mv iv gw) (hp : RowN w base gp n p) (hm : MbI w base mv rows B) (hi : InI w lo iv k n M gf gn) (hw : WyI w base gw n wv0 (fun _ => [])) (hpt : pt < B.length) (hT : B.getD pt [] = T) (hTn : T.Nodup) (hTl : ∀ t ∈ T, t < n) (hpl : ∀ s, s < n → p s ≤ 5000) (hMn : M.n = n) (hMk : M.k = k) (hn5 : n ≤ 5000) (hk2 : k ≤ 200) (hB5 : B.length ≤ 5000) :
    Calls Tryz.prog 53 #[.pointer (some ⟨PB, 0, none⟩), .int .i64 (pt : Int)] w fun e w' => ∃ gv rowsG G wv wy, e = .returned gv ∧ GrpOk M p T G ∧ MbI w' w.heap.size gv rowsG G ∧ NtI13 w base gw n wv0 w' wv wy (.slice none 0 0) [] ∧ ∀ s, s < n → wy s = [] := by
  obtain ⟨iI, hiI, hzI0, hzI1, hzI2⟩ := info_parts Tryz.infoInt
  obtain ⟨iR, hiR, hzR0, hzR1, hzR2⟩ := info_parts Tryz.infoRow13
  have hbw : base ≤ w.heap.size := Nat.le_of_lt (Nat.lt_of_le_of_lt hw.lt.2 hw.lt.1)
  obtain ⟨W1, hW1⟩ : ∃ W, W = w.alloc (.map #[] 0) := ⟨_, rfl⟩
  have hb1 : Below w.heap.size w W1 := by rw [hW1]; exact below_alloc _ _
  have hmap := World.ownsMap_made (H := Unit) w Tryz.prog 9 (plainElem Tryz.prog 3)
  rw [← hW1] at hmap
  obtain ⟨gm, hgm⟩ : ∃ x, x = w.heap.size := ⟨_, rfl⟩
  have hmk := run_makeMap (P := Tryz.prog) 64 w
  rw [← hgm, ← hW1] at hmk
  rw [← hgm] at hmap
  have HNW : Hid (Calls Tryz.prog 72 #[.pointer (some ⟨PB, 0, none⟩), .int .i64 (pt : Int)] W1 fun e w' => ∃ v L wv wy, e = .returned v ∧ NtI13 w base gw n wv0 w' wv wy v L ∧ w'.ownsMap Tryz.prog 9 (plainElem Tryz.prog 3) gm 0 (.map [] : DataW Unit) ∧ L.Nodup ∧ (∀ s, s ∈ L ↔ s < n ∧ sgT M T s ≠ []) ∧ ∀ s, s < n → wy s = sgT M T s) := by
    refine (noteWays_any PB gp gw n base lo k pt mv iv rows B M T gf gn wv0 W1 (hs.below hb1) (hm.below hb1) (hi.below hb1) (hw.below hb1) hpt hT hTn hTl hMn hMk hn5 hk2 hB5).mono ?_
    rintro e w2 ⟨v, L, wv, wy, h1, h2, h3, h4, h5⟩
    obtain ⟨es, clock, q1, q2, q3⟩ := hmap
    refine ⟨v, L, wv, wy, h1, h2.back hb1, ⟨es, clock, (h2.blk gm (by rw [hW1, hgm]; simp) (fun e => ?_) (fun s hs e => ?_)).trans q1, q2, q3⟩, h3, h4, h5⟩
    · have := hw.lt.1
      omega
    · have := ((hw.row s hs).lt gm e).2
      omega
  have HK : Hid (∀ w2 wv wy v L, NtI13 w base gw n wv0 w2 wv wy v L → PStr w2 PB gp n mv iv gw ∧ RowN w2 base gp n p) := fun w2 wv wy v L h => by
    refine ⟨h.keep hw hs (by decide) (by decide), hp.blk ?_⟩
    obtain ⟨cs, hc⟩ := hp.typed
    exact (h.keep hw hc (by decide) (by decide)).trans hc.symm
  have HP : Hid (∀ w2 wv wy v L, NtI13 w base gw n wv0 w2 wv wy v L → ∀ s, s < n → ∀ W, Below w2.heap.size w2 W → Calls Tryz.prog 73 #[.int .i64 ((p s : Nat) : Int)] W fun e w' => e = .returned (.string ⟨(Lib.decDigits (p s)).toArray⟩) ∧ Below W.heap.size W w') := fun w2 wv wy v L h s hs W hb => itoa_any13 (p s) (by have := hpl s hs; omega) W (hPT W (Below.trans (h.from hw hbw) (hb.mono (by have := h.size; omega))))
  have HPL : Hid (∀ s, s < n → p s ≤ 5000) := hpl
  have HGM : Hid (gm = w.heap.size) := hgm
  have HMM : Hid (M.n = n ∧ M.k = k) := ⟨hMn, hMk⟩
  have HSG : Hid (∀ s, (sgT M T s).length ≤ k ∧ ∀ c ∈ sgT M T s, c < 256) := fun s => by
    have h1 := List.length_filter_le (fun c => decide (M.d s c ∈ T)) (List.range M.k)
    rw [List.length_range] at h1
    refine ⟨by rw [← hMk]; exact h1, fun c hc => ?_⟩
    have := List.mem_range.1 (List.mem_filter.1 hc).1
    omega
  clear hPT hs hp hm hi hw hpt hT hTn hTl hpl hMn hMk hB5 hW1 hmap hgm
  go_enter Tryz.func53, Tryz.ntmps53
  go_upto_region 3 with fail
  clear hmk
  go_wp2_with (go_at_call 72; refine HNW.out.mono ?_; rintro e w2 ⟨v, L, wv, wy, rfl, hn2, hm2, hnd, hml, hwy⟩; obtain ⟨va, vn, vc, rfl⟩ := own_any hn2.row; have HL : Hid (vn = L.length) := own_len13 hn2.row)
  obtain ⟨key, hkey⟩ : ∃ f : Nat → List UInt8, f = fun s => keyB (p s) (sgT M T s) := ⟨_, rfl⟩
  have HKEY : Hid (∀ s, key s = keyB (p s) (sgT M T s)) := fun s => by rw [hkey]
  have HLL : Hid (L.Nodup ∧ ∀ s, s ∈ L ↔ s < n ∧ sgT M T s ≠ []) := ⟨hnd, hml⟩
  have hv5 : vn ≤ 5000 := by
    have := nodup_len hnd (fun s hs => ((hml s).1 hs).1)
    have := HL.out
    omega
  have HSTT : Hid (LdI w base gw n wv0 gm w2 wv wy (.slice va vn vc) L (.slice none 0 0) [] [] []) := ⟨hn2, ⟨World.ownsRow_nil _ _ _ _, fun i a => absurd a (by simp), fun i j a => absurd a (by simp)⟩, by simp, by rw [HGM.out]; exact Nat.le_refl _, _, hm2, ⟨fun t => by simp [Maps.has], fun t ht => absurd ht (by simp)⟩⟩
  have HWY0 : Hid (∀ s, s < n → wy s = if s ∈ L.drop 0 then sgT M T s else []) := fun s hs => by
    rw [hwy s hs, List.drop_zero]
    by_cases q : s ∈ L
    · rw [if_pos q]
    · rw [if_neg q]
      by_cases z : sgT M T s = []
      · exact z
      · exact absurd ((hml s).2 ⟨hs, z⟩) q
  clear hkey hnd hml hwy hn2 hm2
  go_loopw [5, 17] (fun x5 x17 wr => ∃ (i : Nat) (wv : Nat → Value) (wy : Nat → List Nat) (rows : List Value), i ≤ vn ∧ x17 = .int .i64 (i : Int) ∧ Hid (LdI w base gw n wv0 gm wr wv wy (.slice va vn vc) L x5 rows (kysF key (L.take i)) (grpF key (L.take i))) ∧ Hid (∀ s, s < n → wy s = if s ∈ L.drop i then sgT M T s else [])) (fun _ x17 _ => vn - (intOf x17).toNat)
  case atStart => exact ⟨0, wv, wy, [], Nat.zero_le _, rfl, HSTT.out, HWY0.out⟩
  case round =>
    obtain ⟨i, wv, wy, rowsG, hi, rfl, HI, HWY⟩ := hrel
    by_cases hil : i < vn
    · have hin : i < L.length := by have := HL.out; omega
      obtain ⟨s, hsL⟩ : ∃ s, s = L[i] := ⟨_, rfl⟩
      have hmem : s ∈ L := by rw [hsL]; exact List.getElem_mem hin
      obtain ⟨hsn, hsg⟩ := (HLL.out.2 s).1 hmem
      have HTK : Hid (L.take (i + 1) = L.take i ++ [s]) := by
        show _ = _
        rw [List.take_add_one, List.getElem?_eq_getElem hin, hsL]
        rfl
      have hws : wy s = sgT M T s := by
        rw [HWY.out s hsn, if_pos]
        rw [hsL]
        exact List.mem_drop_iff_getElem.2 ⟨0, by omega, by simp⟩
      have HWY2 : Hid (∀ x, x < n → upL wy s [] x = if x ∈ L.drop (i + 1) then sgT M T x else []) := fun x hx => by
        have e : L.drop i = s :: L.drop (i + 1) := by rw [hsL]; exact List.drop_eq_getElem_cons hin
        have h1 := HWY.out x hx
        rw [e] at h1
        have hnot : s ∉ L.drop (i + 1) := by
          have hnd := (List.drop_sublist i L).nodup HLL.out.1
          rw [e, List.nodup_cons] at hnd
          exact hnd.1
        unfold upL
        by_cases q : x = s
        · rw [if_pos q, q, if_neg hnot]
        · rw [if_neg q, h1]
          simp [q]
      have hI := HI.out
      obtain ⟨hps, hpp⟩ := HK.out _ _ _ _ _ hI.nt
      obtain ⟨sa, sn, sc, hwv⟩ := own_any (hI.nt.way.row s hsn)
      have hrow := hI.nt.way.row s hsn
      rw [hwv, hws] at hrow
      have hsl : sn = (sgT M T s).length := own_len13 hrow
      have hs1 : 0 < (sgT M T s).length := by
        have : (sgT M T s).length ≠ 0 := fun e => hsg (List.length_eq_zero_iff.1 e)
        omega
      obtain ⟨GS, hGS⟩ := own_addr13 hrow hs1
      subst hGS
      obtain ⟨GL, hGL⟩ := own_addr13 hI.nt.row (by omega)
      subst hGL
      have l0 := hI.nt.row.cells (g := GL) rfl i (.int .i64 (s : Int)) (by simp [cellP, hin, hsL])
      rw [add_lit', Nat.zero_add] at l0
      have ll := (hI.nt.row.lt GL rfl).2
      obtain ⟨WS, hWS⟩ : ∃ x : ByteArray, x = ⟨((sgT M T s).map fun c => UInt8.ofNat c).toArray⟩ := ⟨_, rfl⟩
      obtain ⟨DS, hDS⟩ : ∃ x : ByteArray, x = ⟨(Lib.decDigits (p s)).toArray⟩ := ⟨_, rfl⟩
      have hp5 := HPL.out s hsn
      have hdz : DS.size ≤ 21 := by
        rw [hDS]
        show (Lib.decDigits (p s)).toArray.size ≤ 21
        have := dec_len (u := p s) (by omega)
        simpa using this
      have hwz : WS.size ≤ 200 := by
        rw [hWS]
        show ((sgT M T s).map fun c => UInt8.ofNat c).toArray.size ≤ 200
        have := (HSG.out s).1
        simp
        omega
      have hz1 : ¬ (9223372036854775807 < DS.size + 1) := by omega
      have hz2 : ¬ (9223372036854775807 < DS.size + 1 + WS.size) := by omega
      have hks : (keyA (p s) (sgT M T s)).size ≤ 300 := by
        have e := keyA_app (p s) (sgT M T s)
        rw [← hDS, ← hWS] at e
        rw [← e]
        simp [ByteArray.size_append]
        have : (ByteArray.mk #[32]).size = 1 := rfl
        omega
      have HKA : Hid (DS ++ ⟨#[32]⟩ ++ WS = keyA (p s) (sgT M T s)) := by rw [hDS, hWS]; exact keyA_app _ _
      have HFA : Hid (∀ W, Below wr.heap.size wr W → (W.cell? ⟨PB, 3, none⟩ = some (.slice (some ⟨gw, 0, none⟩) n n) ∧ PB < W.heap.size) ∧ (W.cell? ⟨gw, s, none⟩ = some (.slice (some ⟨GS, 0, none⟩) sn sc) ∧ gw < W.heap.size) ∧ (convert 42 9 (.slice (some ⟨GS, 0, none⟩) sn sc)).run Tryz.prog W = .ok (.string WS) W) := fun W hb => by
        have h1 := hps.below hb
        have h2 := hI.nt.way.below hb
        have h3 := ownsRow_below hrow hb
        have c1 := h2.cell hsn
        rw [hwv] at c1
        refine ⟨⟨cell_in h1 3, lt_of_heap h1⟩, ⟨c1, h2.lt.1⟩, ?_⟩
        rw [hWS]
        have hz : sn = ((sgT M T s).map fun c => UInt8.ofNat c).length := by simp [hsl]
        rw [hz]
        rw [cellB13_bytes _ (HSG.out s).2] at h3
        exact run_convert_bytes_back (P := Tryz.prog) W 42 9 5 ⟨GS, 0, none⟩ sc _ Tryz.underlying42 Tryz.underlying5 Tryz.underlying9 (fun j hj => h3.cells (g := GS) rfl j _ (by
          have : j < (sgT M T s).length := by simpa using hj
          simp [Lib.byteCells, this]))
      obtain ⟨ps, hpsv⟩ : ∃ x, x = p s := ⟨_, rfl⟩
      have HPS : Hid (ps = p s) := hpsv
      have HIT : Hid (∀ W, Below wr.heap.size wr W → Calls Tryz.prog 73 #[.int .i64 (ps : Int)] W fun e w' => e = .returned (.string DS) ∧ Below W.heap.size W w') := fun W hb => by rw [hDS, hpsv]; exact HP.out _ _ _ _ _ hI.nt s hsn W hb
      have p0 := cell_in hps 0
      have pl := lt_of_heap hps
      simp at p0
      have q0 := hpp.at hsn
      have ql := hpp.lt.1
      rw [← hpsv] at q0
      have hs0 : (0 : Int) ≤ (s : Int) := by omega
      have hs2 : (s : Int) < (n : Int) := by omega
      have hi0 : (0 : Int) ≤ (i : Int) := by omega
      have hi1 : (i : Int) < (vn : Int) := by omega
      have hps5 : ps ≤ 5000 := by omega
      obtain ⟨⟨f0, f1⟩, ⟨f2, f3⟩, f4⟩ := HFA.out wr.drew (Below.refl _ _).drew
      have HCT : Hid (wv s = .slice (some ⟨GS, 0, none⟩) sn sc ∧ wy s ≠ []) := ⟨hwv, by rw [hws]; exact hsg⟩
      have hbd : Below wr.heap.size wr wr.drew := (Below.refl _ _).drew
      have HBD : Hid (Below wr.heap.size wr wr.drew) := hbd
      clear hsL hmem hsg hws hI hps hpp hrow hwv hsl hs1 hWS hDS hp5 hpsv hin hbd
      go_upto_region 6 with fail
      clear l0 ll
      go_cut [9] from 21 to 38 (fun s9 wx => s9 = .string (DS ++ ⟨#[32]⟩ ++ WS) ∧ Hid (Below wr.heap.size wr wx))
      case first =>
        go_region_law (first | (go_simp; (with_reducible refine (HIT.out _ HBD.out).mono ?_); rintro e w4 ⟨rfl, hb4⟩; have hb4' : Below wr.heap.size wr w4 := below_after HBD.out hb4; obtain ⟨⟨g0, g1⟩, ⟨g2, g3⟩, g4⟩ := HFA.out w4 hb4'; have HB4 : Hid (Below wr.heap.size wr w4) := hb4'; clear hb4 hb4'; try dsimp only))
        all_goals (
          go_wp2
          go_meet
          exact ⟨rfl, HB4.out⟩)
      case rest =>
        obtain ⟨rfl, HB⟩ := hcut
        rw [HKA.out]
        obtain ⟨KS, hKS⟩ : ∃ x, x = keyA (p s) (sgT M T s) := ⟨_, rfl⟩
        have HKS : Hid (KS = ⟨(key s).toArray⟩) := by
          rw [hKS, HKEY.out]
          rfl
        rw [← hKS] at hks ⊢
        obtain ⟨w1, hw1⟩ : ∃ W, W = wc := ⟨_, rfl⟩
        rw [← hw1] at HB ⊢
        clear hw1 hKS p0 pl q0 ql f0 f1 f2 f3 f4 hdz hwz hz1 hz2 HIT
        obtain ⟨⟨f0, f1⟩, ⟨f2, f3⟩, _⟩ := HFA.out w1 HB.out
        have HI1 : Hid (LdI w base gw n wv0 gm w1 wv wy (.slice (some ⟨GL, 0, none⟩) vn vc) L u5 rowsG (kysF key (L.take i)) (grpF key (L.take i))) := HI.out.below HB.out
        have HI2 : Hid (LdI w base gw n wv0 gm (w1.drew.setCell ⟨gw, s, none⟩ (.slice (some ⟨GS, 0, none⟩) 0 sc)) (upV wv s (.slice (some ⟨GS, 0, none⟩) 0 sc)) (upL wy s []) (.slice (some ⟨GL, 0, none⟩) vn vc) L u5 rowsG (kysF key (L.take i)) (grpF key (L.take i))) := (HI1.out.below (Below.refl _ _).drew).cut hsn HCT.out.1 HCT.out.2
        have f4 : w1.frozen? ⟨gw, s, none⟩ = false := nf_own HI1.out.nt.way.arr s
        go_upto_region 7 with fail
        go_cut [] from 39 to 52 (fun wx => Hid (LdI w base gw n wv0 gm wx (upV wv s (.slice (some ⟨GS, 0, none⟩) 0 sc)) (upL wy s []) (.slice (some ⟨GL, 0, none⟩) vn vc) L u5 rowsG (kysF key (L.take i)) (grpF key (L.take i))))
        case first =>
          go_region
          all_goals (
            go_wp2
            go_meet
            exact HI2.out)
        case rest =>
          have HC := hcut
          obtain ⟨w2, hw2⟩ : ∃ W, W = wc := ⟨_, rfl⟩
          rw [← hw2] at HC ⊢
          clear hcut hw2 f0 f1 f2 f3 f4 HI HI1 HI2 HFA HCT HB HBD HWY
          obtain ⟨K, hK⟩ : ∃ x, x = kysF key (L.take i) := ⟨_, rfl⟩
          obtain ⟨G, hG⟩ : ∃ x, x = grpF key (L.take i) := ⟨_, rfl⟩
          have HKG : Hid (K = kysF key (L.take i) ∧ G = grpF key (L.take i) ∧ K.length = G.length ∧ ∀ j, (G.getD j []).length ≤ 5000) := ⟨hK, hG, by rw [hK, hG]; exact (grpF_len key _).symm, fun j => by
            by_cases q : j < G.length
            · have h1 : G.getD j [] ∈ G := by simp [q]
              have h2 := grpF_few key (L.take i) (G.getD j []) (by rw [← hG]; exact h1)
              rw [List.length_take] at h2
              omega
            · have e : G.getD j [] = [] := by simp [List.getD, List.getElem?_eq_none (Nat.le_of_not_lt q)]
              rw [e]
              simp⟩
          have hK5 : K.length ≤ 5000 := by
            have h1 := kysF_few key (L.take i)
            rw [← hK, List.length_take] at h1
            omega
          rw [← hK, ← hG] at HC
          obtain ⟨D, hD, hKn⟩ := HC.out.mp
          obtain ⟨N, hN⟩ : ∃ x, x = K.length := ⟨_, rfl⟩
          have HN : Hid (N = K.length ∧ N = G.length) := ⟨hN, by rw [hN]; exact HKG.out.2.2.1⟩
          have HD : Hid (w2.ownsMap Tryz.prog 9 (plainElem Tryz.prog 3) gm N D) := by rw [hN]; exact hD
          have HKN : Hid (KnB D K) := hKn
          obtain ⟨ga, gl, gc, rfl⟩ := own_any HC.out.mb.arr
          have hgl : gl = N := by rw [HN.out.2]; exact own_len13 HC.out.mb.arr
          subst hgl
          have hN5 : gl ≤ 5000 := by omega
          have hkey : keyOf Tryz.prog 9 (.string KS) = some (.string (key s)) := by
            rw [WideMaps.keyOf_string_mk Tryz.undStr13 (by unfold maxLen; omega), HKS.out]
          have HRL : Hid (rowsG.length = gl) := by rw [HN.out.2]; exact HC.out.mb.len
          clear hK hG hD hKn hN hK5 hks
          by_cases q : key s ∈ K
          · have hh : Maps.has D (.string (key s)) = true := (HKN.out.1 _).2 q
            obtain ⟨j, hj⟩ : ∃ j, j = K.idxOf (key s) := ⟨_, rfl⟩
            have HAT : Hid (D.atKey (.string (key s)) (.lit (.int .i64 0)) = .lit (.int .i64 (j : Nat))) := by rw [hj]; exact HKN.out.2 _ q
            have hin2 := grpF_in key (l := L.take i) (s := s) (by rw [← HKG.out.1]; exact q)
            rw [← HKG.out.1, ← HKG.out.2.1, ← hj, ← HTK.out] at hin2
            obtain ⟨hj2, hk3, hg3⟩ := hin2
            have hjr : j < rowsG.length := by have := HRL.out; have := HN.out.2; omega
            obtain ⟨GG, hGG⟩ := own_addr13 HC.out.mb.arr (by omega)
            subst hGG
            obtain ⟨u, hu⟩ : ∃ u, u = rowsG[j] := ⟨_, rfl⟩
            obtain ⟨l, hl⟩ : ∃ l, l = G.getD j [] := ⟨_, rfl⟩
            have hGj : G[j] = l := by rw [hl]; simp [hj2]
            have hru := HC.out.mb.row j hjr hj2
            rw [← hu, hGj] at hru
            obtain ⟨ua, un, uc, rfl⟩ := own_any hru
            have hunl := own_len13 hru
            have hru2 : w2.ownsRow w.heap.size 3 1 (.slice ua un uc) un (cellP l) := by rw [hunl]; rw [hunl] at hru; exact hru
            have HRU : Hid ((w2.alloc (.cells #[.int .i64 (s : Int)] 3)).ownsRow w.heap.size 3 1 (.slice ua un uc) un (cellP l)) := hru2.alloc _
            have hxc := HC.out.mb.arr.cells (g := GG) rfl j (.slice ua un uc) (by rw [hu]; simp [hjr])
            rw [add_lit', Nat.zero_add] at hxc
            have xl := (HC.out.mb.arr.lt GG rfl).2
            have hws := HC.out.nt.size
            have hun5 : un ≤ 5000 := by rw [hunl, hl]; exact HKG.out.2.2.2 j
            have hj0 : (0 : Int) ≤ (j : Int) := by omega
            have hj1 : (j : Int) < (gl : Int) := by have := HN.out.2; omega
            have HFN : Hid _ := ld_push (s := s) (K' := kysF key (L.take (i + 1))) (G' := grpF key (L.take (i + 1))) HC.out HN.out.2 hj2 hjr hl.symm hu.symm hunl hk3 (by rw [hl]; exact hg3)
            clear q hj hk3 hg3 hj2 hjr hu hl hGj hru hru2 hunl
            go_wp2_with (first | (refine wpList_lookup_own_ok_int _ rfl _ _ 64 rfl 9 3 .i64 Tryz.keyLaw13 Tryz.undMap13 Tryz.undInt13 (Tryz.zeroInt13 _) gm gl D rfl HD.out _ (.string (key s)) rfl hkey ?_; intro c hat hwc; obtain rfl : (j : Int) = c := (by rw [HAT.out] at hat; simpa using hat); clear hat hwc) | (at_builtin; go_must (refine wpList_append_lies _ rfl _ _ 26 rfl w.heap.size 3 iI (.int .i64 0) 1 8 Tryz.underlying26 hiI hzI0 hzI1 hzI2 rfl (by decide) _ _ _ rfl HRU.out ⟨w2.heap.size, 0, none⟩ 1 1 [.int .i64 (s : Int)] rfl rfl (World.news_of_block (by exact heap_new' _ _)) (by simp [Value.oneCell']) (by omega) (by unfold maxLen; omega) (by omega) (by simp; omega) _ rfl ?_); intro g8 c8 w8 ho8 hg8 hat8 _; obtain ⟨⟨z0, z1, z2⟩, HZ⟩ := HFN.out w8 g8 c8 hg8 ho8 hat8; clear ho8 hg8 hat8))
            go_roundw
            case rel => exact ⟨i + 1, _, _, _, by omega, by go_num, HZ, HWY2⟩
            case measure => simp [intOf]; omega
          · have hh : Maps.has D (.string (key s)) = false := by
              cases z : Maps.has D (.string (key s)) with
              | false => rfl
              | true => exact absurd ((HKN.out.1 _).1 z) q
            have hout := grpF_out key (l := L.take i) (s := s) (by rw [← HKG.out.1]; exact q)
            rw [← HKG.out.1, ← HKG.out.2.1, ← HTK.out, ← HN.out.2] at hout
            have HOUT : Hid _ := hout
            have HUP : Hid (∀ w3, w2.grownBy w3 (some gm) → w3.ownsMap Tryz.prog 9 (plainElem Tryz.prog 3) gm (gl + 1) (D.put (.string (key s)) (.lit (.int .i64 (gl : Int)))) → Hid (LdI w base gw n wv0 gm w3 (upV wv s (.slice (some ⟨GS, 0, none⟩) 0 sc)) (upL wy s []) (.slice (some ⟨GL, 0, none⟩) vn vc) L (.slice ga gl gc) rowsG (K ++ [key s]) G)) := fun w3 hg hm => by
              have hD := HD.out
              have hm2 := hm
              rw [HN.out.1] at hD hm2
              exact HC.out.upd q hD HKN.out hg hm2
            have hN5b : (gl : Int) ≤ 5000 := by omega
            clear q hout
            go_upto_region 12 with (first | (refine wpList_lookup_own_ok_int _ rfl _ _ 64 rfl 9 3 .i64 Tryz.keyLaw13 Tryz.undMap13 Tryz.undInt13 (Tryz.zeroInt13 _) gm gl D rfl HD.out _ (.string (key s)) rfl hkey ?_; intro c hat hwc; clear hat hwc) | (at_mapUpdate; refine wpList_mapUpdate_own _ rfl _ _ _ 64 rfl 9 3 Tryz.keyLaw13 Tryz.undMap13 _ gm gl D rfl HD.out (by unfold maxLen; omega) _ _ (.string (key s)) rfl rfl hkey (.lit (.int .i64 (gl : Int))) [] (plainElem_int Tryz.undInt13 (WalkArith.wf_i64 (by omega))) ?_; intro w3 hm3 hg3))
            have HI3 := HUP.out w3 hg3 hm3
            clear hm3 hg3 HUP HD HC hkey hh
            have HADD : Hid (∀ w4 g4 c4, (w3.alloc (.cells #[.slice none 0 0] 26)).grownBy w4 (Value.slice ga gl gc).ownBlock → w4.ownsRow w.heap.size 26 1 (.slice (some ⟨g4, 0, none⟩) (gl + 1) c4) (gl + 1) (rowsG ++ [.slice none 0 0]) → Hid (LdI w base gw n wv0 gm w4 (upV wv s (.slice (some ⟨GS, 0, none⟩) 0 sc)) (upL wy s []) (.slice (some ⟨GL, 0, none⟩) vn vc) L (.slice (some ⟨g4, 0, none⟩) (gl + 1) c4) (rowsG ++ [.slice none 0 0]) (K ++ [key s]) (G ++ [[]]))) := fun w4 g4 c4 hg ho => by
              have ho2 := ho
              rw [HN.out.2] at ho2 ⊢
              rw [HN.out.2] at hg
              have hI := HI3.out
              rw [HN.out.2] at hI
              exact hI.addG hg ho2
            have HAR : Hid ((w3.alloc (.cells #[.slice none 0 0] 26)).ownsRow w.heap.size 26 1 (.slice ga gl gc) gl rowsG) := by
              have := HI3.out.mb.arr.alloc (.cells #[.slice none 0 0] 26)
              rw [← HN.out.2] at this
              exact this
            have hws3 := HI3.out.nt.size
            go_upto_region 13 with (at_builtin; go_must (refine wpList_append_lies _ rfl _ _ 27 rfl w.heap.size 26 iR (.slice none 0 0) 1 24 Tryz.underlying27 hiR hzR0 hzR1 hzR2 rfl (by decide) _ _ _ rfl HAR.out ⟨w3.heap.size, 0, none⟩ 1 1 [.slice none 0 0] rfl rfl (World.news_of_block (by exact heap_new' _ _)) (by simp [Value.oneCell']) (by omega) (by unfold maxLen; omega) (by omega) (by simp; omega) _ rfl ?_); intro g4 c4 w4 ho4 hg4 hat4 _; have HI4 := HADD.out w4 g4 c4 hg4 ho4; clear ho4 hg4 hat4)
            obtain ⟨uc, huc⟩ : ∃ x : Nat, x = 0 := ⟨_, rfl⟩
            have hnil : (Value.slice none 0 0) = .slice none uc uc := by rw [huc]
            have HUC : Hid (uc = 0) := huc
            have hug : (rowsG ++ [Value.slice none 0 0])[gl]'(by rw [List.length_append, HRL.out]; simp) = .slice none uc uc := by
              rw [List.getElem_append_right (by rw [HRL.out]; exact Nat.le_refl _), ← hnil]
              simp
            have hxc := HI4.out.mb.arr.cells (g := g4) rfl gl (.slice none uc uc) (by rw [← hug]; exact List.getElem?_eq_getElem _)
            rw [add_lit', Nat.zero_add] at hxc
            have xl := (HI4.out.mb.arr.lt g4 rfl).2
            have hws := HI4.out.nt.size
            have hun5 : uc ≤ 5000 := by omega
            have hj0 : (0 : Int) ≤ (gl : Int) := by omega
            have hj1 : (gl : Int) < ((gl + 1 : Nat) : Int) := by omega
            have HRU : Hid ((w4.alloc (.cells #[.int .i64 (s : Int)] 3)).ownsRow w.heap.size 3 1 (.slice none uc uc) uc (cellP [])) := by rw [huc]; exact World.ownsRow_nil _ _ _ _
            have HFN : Hid _ := ld_push (s := s) (K' := kysF key (L.take (i + 1))) (G' := grpF key (L.take (i + 1))) (j := gl) (l := []) HI4.out (by rw [List.length_append, ← HN.out.2]; simp) (by rw [List.length_append, ← HN.out.2]; simp) (by rw [List.length_append, HRL.out]; simp) (by simp [HN.out.2]) hug huc HOUT.out.1 (by
              have := HOUT.out.2
              have e5 : (G ++ [([] : List Nat)]).getD gl ([] : List Nat) = [] := by simp [HN.out.2]
              rw [e5] at this
              exact this)
            clear huc hnil hug HI4 HI3 HADD HAR
            go_wp2_with (at_builtin; go_must (refine wpList_append_lies _ rfl _ _ 26 rfl w.heap.size 3 iI (.int .i64 0) 1 8 Tryz.underlying26 hiI hzI0 hzI1 hzI2 rfl (by decide) _ _ _ rfl HRU.out ⟨w4.heap.size, 0, none⟩ 1 1 [.int .i64 (s : Int)] rfl rfl (World.news_of_block (by exact heap_new' _ _)) (by simp [Value.oneCell']) (by omega) (by unfold maxLen; omega) (by omega) (by simp; omega) _ rfl ?_); intro g8 c8 w8 ho8 hg8 hat8 _; obtain ⟨⟨z0, z1, z2⟩, HZ⟩ := HFN.out w8 g8 c8 hg8 ho8 hat8; clear ho8 hg8 hat8)
            go_roundw
            case rel => exact ⟨i + 1, _, _, _, by omega, by go_num, HZ, HWY2⟩
            case measure => simp [intOf]; omega
    · obtain rfl : i = vn := by omega
      go_wp2
      go_ret
      have hI := HI.out
      have e1 : L.take i = L := List.take_of_length_le (by rw [HL.out]; exact Nat.le_refl _)
      have e2 : L.drop i = [] := List.drop_eq_nil_of_le (by rw [HL.out]; exact Nat.le_refl _)
      rw [e1] at hI
      refine ⟨_, rowsG, grpF key L, wv, wy, rfl, grp_ok HLL.out.1 (fun s => by rw [HMM.out.1]; exact HLL.out.2 s) (fun s _ => HKEY.out s) (by rw [HMM.out.2]; omega), hI.mb, ⟨hI.nt.way, World.ownsRow_nil _ _ _ _, hI.nt.os, hI.nt.tape, hI.nt.output, hI.nt.size, hI.nt.blk, hI.nt.own⟩, fun s hs => ?_⟩
      rw [HWY.out s hs, e2]
      simp
end Go.Proofs.YtklhjjgnhigbiaaGreatDoor
