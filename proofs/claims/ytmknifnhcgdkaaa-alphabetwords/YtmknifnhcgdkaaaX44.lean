/-
  alphabet.draft.finish.
-/
import Derived.Test.YtmknifnhcgdkaaaX43
namespace Go.Proofs.Ytmknifnhcgdkaaa
open Go.RowKit Go.Shelf
set_option linter.unusedVariables false

theorem errB_ents {S : List (List Rg)} (hS : AllS S) : S3.errB (entsS S) = 0 ∨ S3.errB (entsS S) = 3 := by
  have hall : ¬ ((entsS S).all S3.good1 = false) := by
    rw [Bool.not_eq_false]
    exact List.all_eq_true.2 (fun p hp => S3.good1_iff.2 (ents_good hS p hp))
  unfold S3.errB
  rw [if_neg hall]
  split
  · exact .inr rfl
  · split
    · exact .inr rfl
    · exact .inl rfl
set_option maxRecDepth 100000 in
set_option maxHeartbeats 4000000 in
theorem finish9_any (n gd : Nat) (S R : List (List Rg)) (w : World) (hS : AllS S) (hc : (clsS S).length ≤ 200) (hd : DrfAt n w gd R (clsS S) ((clsS S).map (fstS S)) (entsS S)) :
    Calls Try.prog 29 #[.pointer (some ⟨gd, 0, none⟩)] w fun e w' => ∃ pv, e = .returned (.tuple #[pv, .int .i64 (S3.errB (entsS S))]) ∧ (S3.errB (entsS S) ≠ 0 → pv = .pointer none) ∧ (S3.errB (entsS S) = 0 → AlpAt w' pv S) ∧ Below w.heap.size w w' := by
  obtain ⟨gm, vr, vm, vl, ve, D, hdv, hkn⟩ := hd
  have HB := S3.build_any (entsS S) ve w (S3.props_of_row hdv.ents) (ents_bytes (Nat.le_refl _) hc)
  have HDV : Hid (DrfV n w gd gm vr vm vl ve R (clsS S) ((clsS S).map (fstS S)) (entsS S) (clsS S).length D) := hdv
  have herr := errB_ents hS
  have hc4 : w.cell? ⟨gd, 4, none⟩ = some ve := S3.cell_row hdv.heap rfl
  have hgl := hdv.lt
  obtain ⟨er, her⟩ : ∃ er, er = S3.errB (entsS S) := ⟨_, rfl⟩
  rw [← her] at HB herr ⊢
  clear her hkn
  obtain ⟨ae, ce, rfl⟩ := S3.slice_of_row hdv.ents
  obtain ⟨am, cm, rfl⟩ := S3.slice_of_row hdv.masks
  obtain ⟨al, cl, rfl⟩ := S3.slice_of_row hdv.least
  clear hdv
  go_enter Try.func29, Try.ntmps29
  go_wp2_with fail
  refine HB.mono ?_
  rintro e w1 ⟨pv, rfl, hp1, hp2, hB1⟩
  clear HB
  have hs1 := hB1.size
  rcases herr with rfl | rfl
  · have ht := hp2 rfl
    obtain ⟨gt, rfl⟩ := S3.TrieAt.ptr ht
    have HT : Hid (S3.TrieAt w1.heap.size w1 (.pointer (some ⟨gt, 0, none⟩)) (S3.likeB (entsS S)) (S3.firstB (entsS S))) := ht
    have HD1 : Hid (DrfV n w1 gd gm vr (.slice am (clsS S).length cm) (.slice al ((clsS S).map (fstS S)).length cl) (.slice ae (entsS S).length ce) R (clsS S) ((clsS S).map (fstS S)) (entsS S) (clsS S).length D) := HDV.out.below hB1
    have HB1 : Hid (Below w.heap.size w w1) := hB1
    obtain ⟨L, hL⟩ : ∃ L, L = (clsS S).map (fstS S) := ⟨_, rfl⟩
    rw [← hL] at HD1
    have HL : Hid (L = (clsS S).map (fstS S)) := hL
    have hd2 : w1.cell? ⟨gd, 2, none⟩ = some (.slice am (clsS S).length cm) := S3.cell_row HD1.out.heap rfl
    have hd3 : w1.cell? ⟨gd, 3, none⟩ = some (.slice al L.length cl) := S3.cell_row HD1.out.heap rfl
    clear hp1 hp2 ht hc4 hB1 hL HDV
    go_wp2
    go_region
    go_wp2
    go_ret2
    have hBa : Below w1.heap.size w1 ((w1.alloc (.cells #[.slice am (clsS S).length cm, .slice al L.length cl, .pointer (some ⟨gt, 0, none⟩)] 72)).drew) := ((Below.refl _ _).alloc (Nat.le_refl _) _).drew
    refine ⟨.pointer (some ⟨w1.heap.size, 0, none⟩), rfl, ?_, HB1.out.trans (hBa.mono hs1)⟩
    have hd := HD1.out.below hBa
    refine ⟨w1.heap.size, _, _, _, rfl, heap_new' w1 _, u64_of_row hd.masks, ?_, (HT.out.below hBa).mono hBa.size⟩
    rw [← HL.out]
    exact ints_of_row hd.least
  · obtain rfl := hp1 (by omega)
    have HB1 : Hid (Below w.heap.size w w1) := hB1
    clear hp1 hp2 hB1
    go_wp2
    go_ret2
    exact ⟨_, rfl, (fun _ => rfl), (fun h => absurd h (by omega)), HB1.out⟩

/-- What New answers. -/
def errN (S : List (List Rg)) : Int := if 60 < S.length then 3 else if S.all isSB = false then 1 else if 200 < (clsS S).length then 3 else S3.errB (entsS S)
/-- What New tells. -/
def NewT (S : List (List Rg)) (w : World) (e : Ending) (w' : World) : Prop :=
  ∃ pv, e = .returned (.tuple #[pv, .int .i64 (errN S)]) ∧ (errN S ≠ 0 → pv = .pointer none) ∧ (errN S = 0 → AlpAt w' pv S) ∧ Below w.heap.size w w'
theorem errN_ok {S : List (List Rg)} (h : errN S = 0) : OkA S ∧ S.length ≤ 60 := by
  unfold errN at h
  split at h
  · omega
  · split at h
    · omega
    · split at h
      · omega
      · rename_i h1 h2 h3
        exact ⟨⟨allS_iff.1 (by simpa using h2), by omega, h⟩, by omega⟩
/-- The number that is gone on from, behind k edges. -/
def lowK (S : List (List Rg)) (k : Nat) : Int := ((edgS S)[k]?).getD 1114112
theorem lowK_next {S : List (List Rg)} (hS : AllS S) {k : Nat} (hk : k < (edgS S).length) : nxtE (edgS S) k + 1 = lowK S (k + 1) := by
  unfold nxtE lowK
  cases (edgS S)[k + 1]? with
  | none => rfl
  | some e => show e - 1 + 1 = e; omega
theorem lowK_at {S : List (List Rg)} {k : Nat} (hk : k < (edgS S).length) : lowK S k = (edgS S)[k] := by
  unfold lowK
  rw [List.getElem?_eq_getElem hk]
  rfl

set_option maxRecDepth 100000 in
set_option maxHeartbeats 8000000 in
theorem new9_any (S : List (List Rg)) (v : Value) (w : World) (hlen : S.flatten.length ≤ 5000000) (hl1 : ∀ s ∈ S, s.length ≤ 600000) (hbig : S.length ≤ 1000000) (hv : StsIn w v S) :
    Calls Try.prog 10 #[v] w fun e w' => NewT S w e w' := by
  have HV : Hid (StsIn w v S) := hv
  obtain ⟨a, cap, rfl, hc, hcell⟩ := hv
  unfold NewT
  obtain ⟨er, her⟩ : ∃ er, er = errN S := ⟨_, rfl⟩
  rw [← her]
  have HER : Hid (er = errN S) := her
  clear her hcell
  by_cases h60 : 60 < S.length
  · have e0 : er = 3 := by rw [HER.out]; unfold errN; rw [if_pos h60]
    subst e0
    have h60' : (60 : Int) < (S.length : Int) := by omega
    go_enter Try.func10, Try.ntmps10
    go_wp2
    go_ret2
    exact ⟨_, rfl, (fun _ => rfl), (fun h => absurd h (by omega)), Below.refl _ _⟩
  have h60' : ¬ ((60 : Int) < (S.length : Int)) := by omega
  have HEL : Hid ((edgS S).length ≤ 10000001) := by
    have := edges_length S.flatten [0]
    show (edgesL S.flatten).length ≤ _
    unfold edgesL
    simp at this hlen ⊢
    omega
  go_enter Try.func10, Try.ntmps10
  go_wp2
  go_loopw [14] (fun x wr => ∃ k : Nat, k ≤ S.length ∧ x = .int .i64 k ∧ (∀ i, (h : i < S.length) → i < k → isSB S[i] = true) ∧ Below w.heap.size w wr) (fun x _ => S.length - (intOf x).toNat)
  case atStart => exact ⟨0, Nat.zero_le _, rfl, (fun i h q => by omega), Below.refl _ _⟩
  case round =>
    obtain ⟨k, hk, rfl, hgd, hB⟩ := hrel
    obtain ⟨HGD, HB⟩ : Hid (∀ i, (h : i < S.length) → i < k → isSB S[i] = true) ∧ Hid (Below w.heap.size w wr) := ⟨hgd, hB⟩
    have hbs := hB.size
    clear hgd
    by_cases hlt : k < S.length
    · obtain ⟨a', cap', e, _, hcell⟩ := HV.out
      obtain ⟨rfl, rfl⟩ : a = a' ∧ cap = cap' := by simpa using e
      obtain ⟨g, off, x, rfl, hg, hcx, hrx⟩ := hcell k hlt
      have hcx2 : wr.cell? ⟨g, off + k, none⟩ = some x := (hB.cell (p := ⟨g, _, none⟩) hg).trans hcx
      have HI := isSet9_any S[k] (hl1 _ (List.getElem_mem hlt)) x wr (hrx.1.below hB)
      obtain ⟨ax, cx, rfl, _, _⟩ := hrx.1
      have hlt' : (k : Int) < (S.length : Int) := by omega
      clear hcell hcx hrx hB e
      cases hb : isSB S[k] with
      | true =>
        rw [hb] at HI
        have HB' : Hid (isSB S[k] = true) := hb
        clear hb
        go_wp2_with fail
        refine HI.mono ?_
        rintro e w1 ⟨rfl, hB1⟩
        clear HI
        go_wp2
        go_roundw
        case rel =>
          refine ⟨k + 1, by omega, by go_num, (fun i h q => ?_), HB.out.trans (hB1.mono hbs)⟩
          by_cases e : i = k
          · subst e; exact HB'.out
          · exact HGD.out i h (by omega)
        case measure => simp [intOf]; omega
      | false =>
        rw [hb] at HI
        have e1 : er = 1 := by
          rw [HER.out]; unfold errN; rw [if_neg h60, if_pos]
          rw [← Bool.not_eq_true]
          intro h
          have := List.all_eq_true.1 h _ (List.getElem_mem hlt)
          rw [hb] at this
          cases this
        subst e1
        clear hb
        go_wp2_with fail
        refine HI.mono ?_
        rintro e w1 ⟨rfl, hB1⟩
        clear HI
        go_wp2
        go_ret2
        exact ⟨_, rfl, (fun _ => rfl), (fun h => absurd h (by omega)), HB.out.trans (hB1.mono hbs)⟩
    · have hlt' : ¬ ((k : Int) < (S.length : Int)) := by omega
      have hall : S.all isSB = true := List.all_eq_true.2 (fun s hs => by
        obtain ⟨i, hi, rfl⟩ := List.getElem_of_mem hs
        exact HGD.out i hi (by omega))
      have HS : Hid (AllS S) := allS_iff.1 hall
      have HER2 : Hid (er = if 200 < (clsS S).length then 3 else S3.errB (entsS S)) := by
        show _ = _
        rw [HER.out]; unfold errN; rw [if_neg h60, if_neg (by rw [hall]; simp)]
      have HND := newDraft9_any S _ wr hbig (HV.out.below hB)
      clear hall HGD
      obtain ⟨w0, rfl⟩ : ∃ w0, w0 = wr := ⟨_, rfl⟩
      clear hB
      go_wp2_with fail
      refine HND.mono ?_
      rintro e w1 ⟨gd, rfl, hd1, hB1⟩
      have hs1 := hB1.size
      obtain ⟨HD1, HB1⟩ : Hid (DrfAt w0.heap.size w1 gd S [] [] []) ∧ Hid (Below w.heap.size w w1) := ⟨hd1, HB.out.trans (hB1.mono hbs)⟩
      clear hd1 hB1 HND HB
      go_wp2
      go_loopw [6] (fun x wr => ∃ k : Nat, k ≤ (edgS S).length ∧ x = .int .i64 (lowK S k) ∧ (clsK S k).length ≤ 200 ∧ (∃ R, ∃ hR : R.length = S.length, (∀ i, (h : i < S.length) → RestOk S[i] (R[i]'(by omega)) (lowK S k)) ∧ DrfAt w0.heap.size wr gd R (clsK S k) ((clsK S k).map (fstS S)) (entsK S k)) ∧ Below w.heap.size w wr ∧ w0.heap.size ≤ wr.heap.size) (fun x _ => (1114112 - intOf x).toNat)
      case atStart =>
        have hz : lowK S 0 = 0 := by rw [lowK_at (edg_pos S)]; exact edg_zero HS.out
        refine ⟨0, Nat.zero_le _, by rw [hz], Nat.zero_le _, ⟨S, rfl, (fun i h => ?_), HD1.out⟩, HB1.out, hs1⟩
        rw [hz]
        exact RestOk.start (HS.out S[i] (List.getElem_mem h)).1 (Int.le_refl _)
      case round =>
        obtain ⟨k, hk, rfl, hcl, ⟨R, hR, hok, hd⟩, hB, hsz⟩ := hrel
        clear HD1 HB1
        by_cases hke : k < (edgS S).length
        · have hlow := lowK_at hke
          have hlb := edg_bounds HS.out _ (List.getElem_mem hke)
          have hnx := lowK_next HS.out hke
          have hng := nxt_ge HS.out hke
          have hnl := nxt_le HS.out (k := k)
          have hgo : ∀ i, (h : i < S.length) → RestOk S[i] (restF S[i] (lowK S k)) (lowK S (k + 1)) := fun i h => by
            rw [← hnx]
            have hh := high_next HS.out hke
            rw [← hlow] at hh
            refine RestOk.go (HS.out S[i] (List.getElem_mem h)).1 (by rw [hlow]; exact hng) ?_
            rw [← hh]
            exact (high_facts (lowK S k) S 1114111).2.1 S[i] (List.getElem_mem h)
          have HT := take9_any w0.heap.size gd S R k (lowK S k) wr hke hlow HS.out (by omega) (by have := HEL.out; omega) hcl hR hok hd
          obtain ⟨low, hl0⟩ : ∃ low, low = lowK S k := ⟨_, rfl⟩
          obtain ⟨low', hl1'⟩ : ∃ low', low' = lowK S (k + 1) := ⟨_, rfl⟩
          rw [← hlow, ← hl0] at hlb hng
          rw [← hl0] at HT hgo ⊢
          rw [← hl1'] at hgo
          have hnx' : nxtE (edgS S) k = low' - 1 := by omega
          unfold TakeT at HT
          rw [hnx'] at HT hng hnl
          have HLO : Hid (low' = lowK S (k + 1)) := hl1'
          have HGO : Hid (∀ i, (h : i < S.length) → RestOk S[i] (restF S[i] low) low') := hgo
          have hle : low ≤ 1114111 := hlb.2
          have hB' : Hid (Below w.heap.size w wr) := hB
          have hle2 : low' ≤ 1114112 := by omega
          have hle3 : low < low' := by omega
          clear hlow hnx hnx' hl0 hl1' hgo hok hd hB hR hng hnl
          go_wp2_with fail
          refine HT.mono ?_
          rintro e w2 ⟨⟨rfl, hd2, hc2⟩ | ⟨rfl, hc2⟩, hB2⟩
          · clear HT
            have hsz2 := hB2.size
            obtain ⟨HD2, HB2⟩ : Hid (DrfAt w0.heap.size w2 gd (S.map (fun s => restF s low)) (clsK S (k + 1)) ((clsK S (k + 1)).map (fstS S)) (entsK S (k + 1))) ∧ Hid (Below w.heap.size w w2) := ⟨hd2, hB'.out.trans (hB2.mono hbs)⟩
            clear hd2 hB2
            go_wp2
            go_roundw
            case rel =>
              refine ⟨k + 1, by omega, ?_, hc2, ⟨S.map (fun s => restF s low), List.length_map _, (fun i h => ?_), HD2.out⟩, HB2.out, by omega⟩
              · rw [← HLO.out]
              · rw [← HLO.out, List.getElem_map]
                exact HGO.out i h
            case measure => simp [intOf]; omega
          · have e3 : er = 3 := by
              rw [HER2.out, if_pos]
              have := clsK_le S (k + 1)
              omega
            subst e3
            clear HT
            go_wp2
            go_ret2
            exact ⟨_, rfl, (fun _ => rfl), (fun h => absurd h (by omega)), hB'.out.trans (hB2.mono hbs)⟩
        · obtain rfl : k = (edgS S).length := by omega
          have hlow : lowK S (edgS S).length = 1114112 := by unfold lowK; rw [List.getElem?_eq_none (Nat.le_refl _)]; rfl
          rw [cls_all] at hcl hd
          have HF := finish9_any w0.heap.size gd S R wr HS.out hcl hd
          have e3 : er = S3.errB (entsS S) := by rw [HER2.out, if_neg (by omega)]
          rw [← e3] at HF
          rw [hlow]
          have HB' : Hid (Below w.heap.size w wr) := hB
          have hbs' := hB.size
          clear hlow hcl hd hok hR hB HER2 e3
          go_wp2_with fail
          refine HF.mono ?_
          rintro e w2 ⟨pv, rfl, hp1, hp2, hB2⟩
          clear HF
          obtain ⟨HP1, HP2⟩ : Hid (er ≠ 0 → pv = .pointer none) ∧ Hid (er = 0 → AlpAt w2 pv S) := ⟨hp1, hp2⟩
          clear hp1 hp2
          go_wp2
          go_ret2
          exact ⟨pv, rfl, HP1.out, HP2.out, HB'.out.trans (hB2.mono hbs')⟩
end Go.Proofs.Ytmknifnhcgdkaaa
