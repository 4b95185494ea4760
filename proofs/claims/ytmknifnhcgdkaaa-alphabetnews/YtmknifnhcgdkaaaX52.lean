/-
  scansionlaw09.AlphabetNews walked: the alphabet of any lists, and the class of any numbers, are the document's.
-/
import Derived.Test.YtmknifnhcgdkaaaX50
import Derived.Test.YtmknifnhcgdkaaaX51
import Derived.Deep.RegionHeld3
namespace Go.Proofs.Ytmknifnhcgdkaaa
open Go.RowKit Go.Shelf
set_option linter.unusedVariables false

theorem StsIn.drewN {w : World} {v : Value} {S : List (List Rg)} (h : StsIn w v S) (n : Nat) : StsIn (w.drewN n) v S := h.below (below_drewN' (Below.refl _ _) n)
theorem AlpAt.drewN {w : World} {v : Value} {S : List (List Rg)} (h : AlpAt w v S) (n : Nat) : AlpAt (w.drewN n) v S := h.below (below_drewN' (Below.refl _ _) n)
theorem RAlS.drewN {w : World} {v : Value} {S : List (List Rg)} (h : RAlS w v S) (n : Nat) : RAlS (w.drewN n) v S := h.below (below_drewN' (Below.refl _ _) n)

set_option maxRecDepth 100000 in
set_option maxHeartbeats 16000000 in
theorem news_any (l : List (List Rg)) (v : Value) (r : List Int) (vr : Value) (w : World) (hv : StsIn w v l) (hr : IntsIn w vr r) :
    Calls Try.prog 3 #[v, vr] w fun e w' => e = .returned (.bool true) ∧ Below w.heap.size w w' := by
  have HV : Hid (StsIn w v l) := hv
  have HR : Hid (IntsIn w vr r) := hr
  obtain ⟨a, cap, rfl, _, _⟩ := hv
  obtain ⟨ar, capr, rfl, _, _⟩ := hr
  go_enter Try.func3, Try.ntmps3
  go_wp2_with fail
  refine (awake9_any w).mono ?_
  rintro e w1 ⟨rfl, hB1⟩
  have HB1 : Hid (Below w.heap.size w w1) := hB1
  have hs1 := hB1.size
  clear hB1
  go_wp2_with fail
  refine (few9_any l _ w1 (HV.out.below HB1.out)).mono ?_
  rintro e w2 ⟨b, rfl, hfew, rfl⟩
  cases b with
  | false =>
    clear hfew
    go_wp2
    go_ret
    exact ⟨rfl, HB1.out⟩
  | true =>
    have HF : Hid (FewS l) := hfew rfl
    clear hfew
    have hfl := HF.out
    have HN := new9_any l _ w2 (by have := hfl.2.2; omega) (fun s hs => by have := hfl.2.1 s hs; omega) (by have := hfl.1; omega) (HV.out.below HB1.out)
    unfold NewT at HN
    clear hfl
    go_wp2_with fail
    refine HN.mono ?_
    rintro e w3 ⟨pa, rfl, ha1, ha2, hB3⟩
    clear HN
    have hB3' : Below w.heap.size w w3 := HB1.out.trans (hB3.mono hs1)
    have HB3 : Hid (Below w.heap.size w w3) := hB3'
    have hs3 := hB3'.size
    have hfl := HF.out
    have HM := rnew_any l _ w3 (by have := hfl.2.2; omega) (fun s hs => by have := hfl.2.1 s hs; omega) (by have := hfl.1; omega) (HV.out.below hB3')
    unfold RNewT at HM
    clear hfl hB3 hB3'
    go_wp2_with fail
    refine HM.mono ?_
    rintro e w4 ⟨pb, rfl, hb1, hb2, hB4⟩
    clear HM
    have hB4' : Below w.heap.size w w4 := HB3.out.trans (hB4.mono hs3)
    have HB4 : Hid (Below w.heap.size w w4) := hB4'
    have hs4 := hB4'.size
    by_cases h0 : errN l = 0
    · have hal := (ha2 h0).below hB4
      obtain ⟨gb, vm, vl, rfl, hra⟩ := hb2 h0
      have hrs : RAlS w4 (.pointer (some ⟨gb, 0, none⟩)) l := ⟨gb, _, vm, vl, rfl, hra, HV.out.below hB4'⟩
      obtain ⟨ga, rfl⟩ := hal.ptr
      have hok := errN_ok h0
      rw [h0]
      have HRm : Hid (∃ am cm, vm = .slice am (clsS l).length cm) := by
        obtain ⟨am, cm, e, _⟩ := hra.2.1
        exact ⟨am, cm, e⟩
      obtain ⟨HA, HRS, HOK, HRA⟩ : Hid (AlpAt w4 (.pointer (some ⟨ga, 0, none⟩)) l) ∧ Hid (RAlS w4 (.pointer (some ⟨gb, 0, none⟩)) l) ∧ Hid (OkA l) ∧ Hid (RAlp w4 gb (.slice a l.length cap) vm vl (clsS l) ((clsS l).map (fstS l))) := ⟨hal, hrs, hok.1, hra⟩
      have HL60 : Hid (l.length ≤ 60 ∧ ∀ s ∈ l, s.length ≤ 600000) := ⟨hok.2, fun s hs => by have := HF.out.2.1 s hs; omega⟩
      have HR4 : Hid (IntsIn w4 (.slice ar r.length capr) r) := HR.out.below hB4'
      clear ha1 ha2 hb1 hb2 hB4 hB4' hal hrs hok hra h0
      go_wp2
      go_loopw [11] (fun i wr => ∃ k : Nat, k ≤ r.length ∧ k ≤ 100 ∧ i = .int .i64 k ∧ ∃ nd, wr = w4.drewN nd) (fun i _ => r.length - (intOf i).toNat)
      case atStart => exact ⟨0, Nat.zero_le _, by omega, rfl, 0, rfl⟩
      case round =>
        obtain ⟨k, hk, hk100, rfl, nd, rfl⟩ := hrel
        by_cases hlt : k < r.length ∧ k < 100
        · have hlt' : (k : Int) < (r.length : Int) := by omega
          have hlt2 : (k : Int) < 100 := by omega
          obtain ⟨a', c', e, _, hcell⟩ := HR4.out
          obtain ⟨rfl, rfl⟩ : ar = a' ∧ capr = c' := by simpa using e
          obtain ⟨gx, ox, rfl, hg, hck⟩ := hcell k hlt.1
          obtain ⟨x, hx⟩ : ∃ x, x = r[k]'hlt.1 := ⟨_, rfl⟩
          rw [← hx] at hck
          have h12 : ∀ n, Calls Try.prog 12 #[.pointer (some ⟨ga, 0, none⟩), .int .i64 x] (w4.drewN (nd + n)) fun e w' => e = .returned (.int .i64 (ofC l x)) ∧ ∃ m, w' = w4.drewN (nd + m) := fun n => (of9_quiet l _ x _ HOK.out (HA.out.drewN _)).mono fun e w'' ⟨he, m, hm⟩ => ⟨he, n + m, by rw [hm, World.drewN_drewN, Nat.add_assoc]⟩
          have h13 : ∀ n, Calls Try.prog 13 #[.pointer (some ⟨gb, 0, none⟩), .int .i64 x] (w4.drewN (nd + n)) fun e w' => e = .returned (.int .i64 (ofC l x)) ∧ ∃ m, w' = w4.drewN (nd + m) := fun n => (rof_any l _ x _ HOK.out HL60.out.1 HL60.out.2 (HRS.out.drewN _)).mono fun e w'' ⟨he, hm⟩ => ⟨he, n, hm⟩
          have h14 : ∀ n, Calls Try.prog 14 #[.pointer (some ⟨ga, 0, none⟩), .int .i64 x] (w4.drewN (nd + n)) fun e w' => e = .returned (.int .u64 (mskC l x : Nat)) ∧ ∃ m, w' = w4.drewN (nd + m) := fun n => (mask9_any l _ x _ (HA.out.drewN _)).mono fun e w'' ⟨he, hm⟩ => ⟨he, n, hm⟩
          have h15 : ∀ n, Calls Try.prog 15 #[.pointer (some ⟨gb, 0, none⟩), .int .i64 x] (w4.drewN (nd + n)) fun e w' => e = .returned (.int .u64 (mskC l x : Nat)) ∧ ∃ m, w' = w4.drewN (nd + m) := fun n => (rmaskc_any l _ x _ (HRS.out.drewN _)).mono fun e w'' ⟨he, hm⟩ => ⟨he, n, hm⟩
          have h16 : ∀ n, Calls Try.prog 16 #[.pointer (some ⟨ga, 0, none⟩), .int .i64 x] (w4.drewN (nd + n)) fun e w' => e = .returned (.int .i64 (anyC l x)) ∧ ∃ m, w' = w4.drewN (nd + m) := fun n => (any9_any l _ x _ (HA.out.drewN _)).mono fun e w'' ⟨he, hm⟩ => ⟨he, n, hm⟩
          have h17 : ∀ n, Calls Try.prog 17 #[.pointer (some ⟨gb, 0, none⟩), .int .i64 x] (w4.drewN (nd + n)) fun e w' => e = .returned (.int .i64 (anyC l x)) ∧ ∃ m, w' = w4.drewN (nd + m) := fun n => (rany_any l _ x _ (HRS.out.drewN _)).mono fun e w'' ⟨he, hm⟩ => ⟨he, n, hm⟩
          obtain ⟨c1, hc1⟩ : ∃ c, c = ofC l x := ⟨_, rfl⟩
          obtain ⟨c2, hc2⟩ : ∃ c, c = mskC l x := ⟨_, rfl⟩
          obtain ⟨c3, hc3⟩ : ∃ c, c = anyC l x := ⟨_, rfl⟩
          rw [← hc1] at h12 h13
          rw [← hc2] at h14 h15
          rw [← hc3] at h16 h17
          have b1 : (c1 != c1) = false := by simp
          have b2 : ((c2 : Int) != (c2 : Int)) = false := by simp
          have b3 : (c3 != c3) = false := by simp
          clear hx hc1 hc2 hc3 hcell e
          go_wp2
          go_quiet (first | (go_at_call 12; exact h12 _) | (go_at_call 13; exact h13 _) | (go_at_call 14; exact h14 _) | (go_at_call 15; exact h15 _) | (go_at_call 16; exact h16 _) | (go_at_call 17; exact h17 _))
          go_wp2
          go_roundw
          case rel => exact ⟨k + 1, by omega, by omega, by go_num, _, rfl⟩
          case measure => simp [intOf]; omega
        · obtain ⟨am, cm, hvm⟩ := HRm.out
          obtain ⟨wr, hwr⟩ : ∃ wr, wr = w4.drewN nd := ⟨_, rfl⟩
          have hBr : Below w4.heap.size w4 wr := by rw [hwr]; exact below_drewN' (Below.refl _ _) nd
          rw [← hwr]
          subst hvm
          obtain ⟨n, hn⟩ : ∃ n, n = (clsS l).length := ⟨_, rfl⟩
          have HBW : Hid (Below w.heap.size w wr) := HB4.out.trans (hBr.mono hs4)
          have hsW := HBW.out.size
          have HRAr := HRA.out.below hBr
          have HC1 : Hid (∀ W, Below wr.heap.size wr W → Calls Try.prog 18 #[.pointer (some ⟨ga, 0, none⟩)] W fun e w' => e = .returned (.int .i64 (n : Int)) ∧ w' = W) := fun W hW => by rw [hn]; exact count9_any l _ W ((HA.out.below hBr).below hW)
          have HC2 : Hid (∀ W, Below wr.heap.size wr W → Calls Try.prog 19 #[.pointer (some ⟨gb, 0, none⟩)] W fun e w' => e = .returned (.int .i64 (n : Int)) ∧ w' = W) := fun W hW => by rw [hn]; exact rcount_any l _ W ((HRS.out.below hBr).below hW)
          have HC3 : Hid (∀ W, Below wr.heap.size wr W → Calls Try.prog 21 #[.pointer (some ⟨ga, 0, none⟩)] W fun e w' => ∃ aM cM, e = .returned (.slice aM n cM) ∧ U64In w' (.slice aM n cM) (clsS l) ∧ Below wr.heap.size wr w') := fun W hW => (masks9_any l _ W HOK.out.2.1 ((HA.out.below hBr).below hW)).mono fun e w' h => by
            obtain ⟨v', he, hu, hB⟩ := h
            obtain ⟨aM, cM, rfl, h1, h2⟩ := hu
            rw [hn]
            exact ⟨aM, cM, he, ⟨aM, cM, rfl, h1, h2⟩, hW.trans (hB.mono hW.size)⟩
          have HC4 : Hid (∀ W v, Below wr.heap.size wr W → U64In W v (clsS l) → Calls Try.prog 20 #[v, .slice am n cm] W fun e w' => e = .returned (.bool true) ∧ Below wr.heap.size wr w') := fun W v hW hu => (same64_any (clsS l) (by have := HOK.out.2.1; omega) v _ W hu (by rw [hn]; exact (HRAr.below hW).2.1)).mono fun e w' h => by
            obtain ⟨he, m, rfl⟩ := h
            exact ⟨he, hW.trans (below_drewN' (Below.refl _ _) m)⟩
          have HKEEP : Hid (∀ W, Below wr.heap.size wr W → W.cell? ⟨gb, 1, none⟩ = some (.slice am n cm)) := fun W hW => by rw [hn]; exact S3.cell_row (HRAr.below hW).1 rfl
          have hc1 := HKEEP.out wr (Below.refl _ _)
          clear hwr hBr HRAr hn
          by_cases h1 : k < r.length
          · have h1' : (k : Int) < (r.length : Int) := by omega
            have h2' : ¬ ((k : Int) < 100) := by omega
            go_wp2
            go_region_held3 (fun w' => w'.cell? ⟨gb, 1, none⟩ = some (.slice am n cm)) (first | exact HKEEP.out _ hBs | exact HKEEP.out _ hBw | go_keep) ((first | (go_at_call 18; refine (HC1.out _ (by exact below_drewN' (Below.refl _ _) 1)).mono ?_; rintro e wA ⟨rfl, rfl⟩) | (go_at_call 19; refine (HC2.out _ (by exact below_drewN' (Below.refl _ _) 1)).mono ?_; rintro e wA ⟨rfl, rfl⟩) | (go_at_call 21; refine (HC3.out _ (by exact below_drewN' (Below.refl _ _) 1)).mono ?_; rintro e wM ⟨aM, cM, rfl, hu, hBw⟩) | (go_at_call 20; refine (HC4.out _ _ hBw hu).mono ?_; rintro e wS ⟨rfl, hBs⟩)))
            go_wp2
            go_ret
            exact ⟨rfl, HBW.out.trans (hBs.mono (by omega))⟩
          · have h1' : ¬ ((k : Int) < (r.length : Int)) := by omega
            have h1d : decide ((k : Int) < (r.length : Int)) = false := decide_eq_false h1'
            go_wp2
            go_region_held3 (fun w' => w'.cell? ⟨gb, 1, none⟩ = some (.slice am n cm)) (first | exact HKEEP.out _ hBs | exact HKEEP.out _ hBw | go_keep) ((first | (go_at_call 18; refine (HC1.out _ (by exact below_drewN' (Below.refl _ _) 1)).mono ?_; rintro e wA ⟨rfl, rfl⟩) | (go_at_call 19; refine (HC2.out _ (by exact below_drewN' (Below.refl _ _) 1)).mono ?_; rintro e wA ⟨rfl, rfl⟩) | (go_at_call 21; refine (HC3.out _ (by exact below_drewN' (Below.refl _ _) 1)).mono ?_; rintro e wM ⟨aM, cM, rfl, hu, hBw⟩) | (go_at_call 20; refine (HC4.out _ _ hBw hu).mono ?_; rintro e wS ⟨rfl, hBs⟩)))
            go_wp2
            go_ret
            exact ⟨rfl, HBW.out.trans (hBs.mono (by omega))⟩
    · obtain rfl := ha1 h0
      obtain rfl := hb1 h0
      obtain ⟨er, her⟩ : ∃ er, er = errN l := ⟨_, rfl⟩
      rw [← her]
      have hne : (er != er) = false := by simp
      clear ha1 ha2 hb1 hb2 hB4 hB4' h0 her
      go_wp2
      go_loopw [11] (fun i wr => i = .int .i64 0 ∧ wr = w4) (fun i _ => 0)
      case atStart => exact ⟨rfl, rfl⟩
      case round =>
        obtain ⟨rfl, rfl⟩ := hrel
        by_cases h1 : 0 < r.length
        · have h1' : (0 : Int) < (r.length : Int) := by omega
          go_wp2
          go_quiet (fail)
          go_wp2
          go_ret
          exact ⟨rfl, HB4.out.trans (below_drewN' (Below.refl _ _) _ |>.mono hs4)⟩
        · have h1' : ¬ ((0 : Int) < (r.length : Int)) := by omega
          have h1d : decide ((0 : Int) < (r.length : Int)) = false := decide_eq_false h1'
          go_wp2
          go_quiet (fail)
          go_wp2
          go_ret
          exact ⟨rfl, HB4.out.trans (below_drewN' (Below.refl _ _) _ |>.mono hs4)⟩
end Go.Proofs.Ytmknifnhcgdkaaa
