/-
  scansionref03.All, Same: the document's ranges of a trie.
-/
import Derived.Test.YtpnkljfgdbkffaaRefOf
import Derived.Test.YtpnkljfgdbkffaaAll
namespace Go.Proofs.Ytpnkljfgdbkffaa
open Go.RowKit
set_option linter.unusedVariables false

theorem all_any2 (like : List Int) (F : List (List Int)) (pv : Value) (w : World) (ht : TrieAt w.heap.size w pv like F) (hfi : Fine like F) :
    Calls Try.prog 9 #[pv] w fun e W' => ∃ v, e = .returned v ∧ W'.ownsRow w.heap.size 40 3 v (runsL (valsTo like F 1114112)).length (cellsPs (runsL (valsTo like F 1114112))) ∧ Below w.heap.size w W' :=
  callsIn_wide.1 (all_in 3 (Nat.le_refl _) like F pv w ht hfi)
/-- What the document's ranges up to k are. -/
structure RefRuns (f : Int → Int) (k : Nat) (R : List Pp) : Prop where
  ok : RunsOk f k R
  len : R.length ≤ k
  turn : k = 0 ∨ 1114112 ≤ k ∨ f (k : Int) ≠ f ((k : Int) - 1)
theorem refRuns_zero (f : Int → Int) : RefRuns f 0 [] := ⟨⟨trivial, fun p hp => (by cases hp), fun r => (by rw [if_neg (by omega)]; rfl)⟩, Nat.le_refl _, .inl rfl⟩
theorem refRuns_step {f : Int → Int} {k h : Nat} {R : List Pp} (hr : RefRuns f k R) (hkh : k ≤ h) (hk : k < 1114112) (hv : ∀ j : Nat, k ≤ j → j ≤ h → f (j : Int) = f (k : Int)) (ht : 1114111 ≤ h ∨ f ((h : Int) + 1) ≠ f (k : Int)) : RefRuns f (h + 1) (if f (k : Int) = 0 then R else R ++ [⟨(k : Int), (h : Int), f (k : Int)⟩]) := by
  obtain ⟨⟨h1, h2, h3⟩, h4, h5⟩ := hr
  have hturn : h + 1 = 0 ∨ 1114112 ≤ h + 1 ∨ f ((h + 1 : Nat) : Int) ≠ f (((h + 1 : Nat) : Int) - 1) := by
    rcases ht with z | z
    · exact .inr (.inl (by omega))
    · refine .inr (.inr ?_)
      have e1 : ((h + 1 : Nat) : Int) = (h : Int) + 1 := by omega
      have e2 : ((h + 1 : Nat) : Int) - 1 = (h : Int) := by omega
      rw [e2, e1, hv h hkh (Nat.le_refl _)]
      exact z
  have hin : ∀ r : Int, (k : Int) ≤ r → r < ((h + 1 : Nat) : Int) → f r = f (k : Int) := fun r a b => by
    have := hv r.toNat (by omega) (by omega)
    rwa [Int.toNat_of_nonneg (by omega)] at this
  by_cases h0 : f (k : Int) = 0
  · rw [if_pos h0]
    refine ⟨⟨h1, fun p hp => by have := h2 p hp; omega, fun r => ?_⟩, by omega, hturn⟩
    rw [h3 r]
    by_cases q : 0 ≤ r ∧ r < (k : Int)
    · rw [if_pos q, if_pos (by omega)]
    · rw [if_neg q]
      by_cases q2 : 0 ≤ r ∧ r < ((h + 1 : Nat) : Int)
      · rw [if_pos q2, hin r (by omega) q2.2, h0]
      · rw [if_neg q2]
  · rw [if_neg h0]
    refine ⟨⟨h1.snoc (by show (0 : Int) ≤ (k : Int); omega) (by show (k : Int) ≤ (h : Int); omega) h0 (fun q hq => h2 q hq) (fun q hq e => ?_), fun p hp => ?_, fun r => ?_⟩, by rw [List.length_append]; simp; omega, hturn⟩
    · have e' : (k : Int) = q.hi + 1 := e
      intro hvq
      have hvq' : f (k : Int) = q.v := hvq
      have hq1 := h1.ge q hq
      have h6 := h1.val hq (r := q.hi) ⟨hq1.2.1, Int.le_refl _⟩
      rw [h3 q.hi, if_pos (by omega)] at h6
      rcases h5 with z | z | z
      · omega
      · omega
      · have : (k : Int) - 1 = q.hi := by omega
        rw [this, h6] at z
        exact z hvq'
    · rcases List.mem_append.1 hp with z | z
      · have := h2 p z; omega
      · rw [List.mem_singleton.1 z]; show (h : Int) < ((h + 1 : Nat) : Int); omega
    · rw [val_snoc]
      by_cases q : (k : Int) ≤ r ∧ r ≤ (h : Int)
      · rw [if_pos (hasP_iff.2 q), if_pos (by omega), hin r q.1 (by omega)]
      · rw [if_neg (fun z => q (hasP_iff.1 z)), h3 r]
        by_cases q2 : 0 ≤ r ∧ r < (k : Int)
        · rw [if_pos q2, if_pos (by omega)]
        · rw [if_neg q2, if_neg (by omega)]
theorem refRuns_end {like : List Int} {F : List (List Int)} {N : Nat} (hN : N = 1114112) {R : List Pp} (h : RunsOk (ofT like F) N R) : R = runsL (valsTo like F N) := by
  have h2 : RunsOk (ofT like F) N (runsL (valsTo like F N)) := runs_ok (ofT like F) N (by omega)
  exact RunsFrom.unique h.runs h2.runs (fun r => by rw [h.val r, h2.val r])

set_option maxRecDepth 100000 in
set_option maxHeartbeats 8000000 in
theorem refAll_anyN (N : Nat) (hN : N = 1114112) (n : Nat) (F : List (List Int)) (L : List Nat) (g : Nat) (w : World) (ht : RefAt n w g F L) (hF : F.length ≤ 4352) (hL : L.length = 4352) (hlt : ∀ x ∈ L, x < F.length) :
    Calls Try.prog 10 #[.pointer (some ⟨g, 0, none⟩)] w fun e w' => ∃ v R, e = .returned v ∧ RunsOk (ofT (L.map (fun k : Nat => (k : Int))) F) N R ∧ w'.ownsRow w.heap.size 40 3 v R.length (cellsPs R) ∧ Below w.heap.size w w' := by
  have HN : Hid (N = 1114112) := hN
  clear hN
  obtain ⟨iP, hiP, hzP0, hzP1, hzP2⟩ := info_parts Try.infoProp
  obtain ⟨f, hf⟩ : ∃ f, f = ofT (L.map (fun k : Nat => (k : Int))) F := ⟨_, rfl⟩
  have HOF : Hid (∀ (r : Int) (w' : World), Below w.heap.size w w' → Calls Try.prog 24 #[.pointer (some ⟨g, 0, none⟩), .int .i64 r] w' fun e w'' => e = .returned (.int .u8 (f r)) ∧ Below w'.heap.size w' w'') := fun r w' hB => by
    rw [hf]; exact refOf_any n F L g r w' (ht.below hB) hF hL hlt
  rw [← hf]
  clear hf ht hF hL hlt
  go_enter Try.func10, Try.ntmps10
  go_wp2_with fail
  go_loopw [3, 4] (fun y x wr => ∃ (k : Nat) (R : List Pp), k ≤ N ∧ x = .int .i64 k ∧ RefRuns f k R ∧ wr.ownsRow w.heap.size 40 3 y R.length (cellsPs R) ∧ Below w.heap.size w wr) (fun _ x _ => N - (intOf x).toNat)
  case atStart => exact ⟨0, [], Nat.zero_le _, rfl, refRuns_zero f, World.ownsRow_nil _ _ _ _, Below.refl _ _⟩
  case round =>
    obtain ⟨k, R, hk, rfl, hR, ho, hB⟩ := hrel
    have hbs := hB.size
    obtain ⟨HO, HB, HR⟩ : Hid (wr.ownsRow w.heap.size 40 3 u3 R.length (cellsPs R)) ∧ Hid (Below w.heap.size w wr) ∧ Hid (RefRuns f k R) := ⟨ho, hB, hR⟩
    obtain ⟨wk, hwk⟩ : ∃ wk, wk = wr := ⟨_, rfl⟩
    clear hR ho hB
    by_cases hle : k < N
    · have hle' : (k : Int) ≤ 1114111 := by have := HN.out; omega
      go_wp2_with fail
      refine (HOF.out _ wr HB.out).mono ?_
      rintro e w1 ⟨rfl, hB1⟩
      obtain ⟨v, hv⟩ : ∃ v, v = f (k : Int) := ⟨_, rfl⟩
      have HV : Hid (v = f (k : Int)) := hv
      rw [← hv]
      have HOW : Hid (wk.ownsRow w.heap.size 40 3 u3 R.length (cellsPs R)) := by rw [hwk]; exact HO.out
      have HBW : Hid (Below w.heap.size w wk) := by rw [hwk]; exact HB.out
      have HB1 : Hid (Below wk.heap.size wk w1) := by rw [hwk]; exact hB1
      obtain ⟨y, hy⟩ : ∃ y, y = u3 := ⟨_, rfl⟩
      rw [← hy] at HOW
      have hks : w.heap.size ≤ wk.heap.size := HBW.out.size
      clear hv hB1 HO HB hwk
      go_wp2_with fail
      go_loopw [6] (fun x wi => ∃ h : Nat, k ≤ h ∧ h < N ∧ x = .int .i64 h ∧ (∀ j : Nat, k ≤ j → j ≤ h → f (j : Int) = v) ∧ Below wk.heap.size wk wi) (fun x _ => N - (intOf x).toNat)
      case atStart => exact ⟨k, Nat.le_refl _, hle, rfl, fun j h1 h2 => by rw [HV.out]; congr 2; omega, HB1.out⟩
      case round =>
        obtain ⟨h, hkh, hhN, rfl, hall, hBi⟩ := hrel
        obtain ⟨HALL, HBI⟩ : Hid (∀ j : Nat, k ≤ j → j ≤ h → f (j : Int) = v) ∧ Hid (Below wk.heap.size wk wr) := ⟨hall, hBi⟩
        have hsi := hBi.size
        clear hall hBi
        have hw1 : IntKind.i64.wrap ((h : Int) + 1) = (h : Int) + 1 := IntWalk.i64_in _ (by have := HN.out; omega)
        have HKH : Hid (k ≤ h ∧ h < N) := ⟨hkh, hhN⟩
        clear hkh hhN
        by_cases hlt : h < 1114111
        · have hlt' : (h : Int) < 1114111 := by omega
          go_wp2_with fail
          refine (HOF.out _ wr (HBW.out.trans (HBI.out.mono hks))).mono ?_
          rintro e w2 ⟨rfl, hB2⟩
          have HB2 : Hid (Below wk.heap.size wk w2) := HBI.out.trans (hB2.mono hsi)
          clear hB2
          by_cases hfe : f ((h : Int) + 1) = v
          · rw [hfe]
            have HFE : Hid (f ((h : Int) + 1) = v) := hfe
            clear hfe
            go_wp2_with fail
            go_roundw
            case rel => exact ⟨h + 1, by have := HKH.out; omega, by have := HN.out; omega, by go_num, fun j h1 h2 => by
              by_cases e : j ≤ h
              · exact HALL.out j h1 e
              · have : (j : Int) = (h : Int) + 1 := by omega
                rw [this]; exact HFE.out, HB2.out⟩
            case measure => have := HKH.out; simp [intOf]; omega
          · obtain ⟨z, hz⟩ : ∃ z, z = f ((h : Int) + 1) := ⟨_, rfl⟩
            have HNE : Hid (f ((h : Int) + 1) ≠ v) := hfe
            rw [← hz]
            have hzv : (z == v) = false := by rw [hz]; simpa using hfe
            clear hfe hz
            have HSTEP : Hid (RefRuns f (h + 1) (if v = 0 then R else R ++ [⟨(k : Int), (h : Int), v⟩])) := by
              have := refRuns_step HR.out HKH.out.1 (by have := HN.out; have := HKH.out; omega) (fun j h1 h2 => (HALL.out j h1 h2).trans HV.out) (.inr (by rw [← HV.out]; exact HNE.out))
              rw [← HV.out] at this
              exact this
            have HOX : Hid (w2.ownsRow w.heap.size 40 3 y R.length (cellsPs R)) := ownsRow_below HOW.out HB2.out
            have hsx : w.heap.size ≤ w2.heap.size := Nat.le_trans hks (HB2.out).size
            have HLX : Hid (R.length ≤ 1114112) := by show _ ≤ _; have := HR.out.len; have := HN.out; have := HKH.out; omega
            have HBX : Hid (Below w.heap.size w w2) := HBW.out.trans ((HB2.out).mono hks)
            subst hy
            skip
            by_cases hv0 : v = 0
            · have HS2 : Hid (RefRuns f (h + 1) R) := by have := HSTEP.out; rw [if_pos hv0] at this; exact this
              subst hv0
              clear HSTEP
              go_wp2_with fail
              go_roundw
              case rel => exact ⟨h + 1, R, by have := HKH.out; omega, by go_num, HS2.out, HOX.out, HBX.out⟩
              case measure => have := HKH.out; simp [intOf]; omega
            · have HS2 : Hid (RefRuns f (h + 1) (R ++ [(⟨(k : Int), (h : Int), v⟩ : Pp)])) := by have := HSTEP.out; rw [if_neg hv0] at this; exact this
              have hv1 : (v != 0) = true := by simpa using hv0
              clear hv0
              have HOA : Hid ((w2.alloc (.cells #[.int .i64 (k : Int), .int .i64 (h : Int), .int .u8 v] 40)).ownsRow w.heap.size 40 3 y R.length (cellsPs R)) := HOX.out.alloc _
              have HNA : Hid ((w2.alloc (.cells #[.int .i64 (k : Int), .int .i64 (h : Int), .int .u8 v] 40)).heap[w2.heap.size]? = some (.cells #[.int .i64 (k : Int), .int .i64 (h : Int), .int .u8 v] 40 (0, 0))) := heap_new' w2 _
              clear HSTEP
              go_wp2_with (first | (at_builtin; go_must (refine wpList_append_own _ rfl _ _ 22 rfl w.heap.size 40 iP (.agg #[.int .i64 0, .int .i64 0, .int .u8 0]) 3 24 Try.undPs hiP hzP0 hzP1 hzP2 rfl (by decide) _ _ _ rfl HOA.out ⟨w2.heap.size, 0, none⟩ 1 1 (cellsP ⟨(k : Int), (h : Int), v⟩) rfl rfl (World.news_of_block HNA.out) (by simp [cellsP, Value.oneCell']) (by unfold maxLen; have := HLX.out; omega) (by have := HLX.out; omega) (by simp; omega) ?_; intro v2 w2' ho2 hg2 _; have HO2 : Hid (w2'.ownsRow w.heap.size 40 3 v2 (R ++ [(⟨(k : Int), (h : Int), v⟩ : Pp)]).length (cellsPs (R ++ [(⟨(k : Int), (h : Int), v⟩ : Pp)]))) := (by rw [cellsPs_snoc, List.length_append]; exact ho2); have HG2 : Hid (Below w.heap.size w w2') := (HBX.out.alloc hsx _).grown hg2 (by simp; omega) (fun j e => (HOA.out.lt j e).1); clear ho2 hg2)) | fail)
              go_roundw
              case rel => exact ⟨h + 1, _, by have := HKH.out; omega, by go_num, HS2.out, HO2.out, HG2.out⟩
              case measure => have := HKH.out; simp [intOf]; omega
        · have hlt' : ¬ ((h : Int) < 1114111) := by have := HN.out; omega
          have HSTEP : Hid (RefRuns f (h + 1) (if v = 0 then R else R ++ [⟨(k : Int), (h : Int), v⟩])) := by
            have := refRuns_step HR.out HKH.out.1 (by have := HN.out; have := HKH.out; omega) (fun j h1 h2 => (HALL.out j h1 h2).trans HV.out) (.inl (by have := HN.out; have := HKH.out; omega))
            rw [← HV.out] at this
            exact this
          have HOX : Hid (wr.ownsRow w.heap.size 40 3 y R.length (cellsPs R)) := ownsRow_below HOW.out HBI.out
          have hsx : w.heap.size ≤ wr.heap.size := Nat.le_trans hks (HBI.out).size
          have HLX : Hid (R.length ≤ 1114112) := by show _ ≤ _; have := HR.out.len; have := HN.out; have := HKH.out; omega
          have HBX : Hid (Below w.heap.size w wr) := HBW.out.trans ((HBI.out).mono hks)
          subst hy
          skip
          by_cases hv0 : v = 0
          · have HS2 : Hid (RefRuns f (h + 1) R) := by have := HSTEP.out; rw [if_pos hv0] at this; exact this
            subst hv0
            clear HSTEP
            go_wp2_with fail
            go_roundw
            case rel => exact ⟨h + 1, R, by have := HKH.out; omega, by go_num, HS2.out, HOX.out, HBX.out⟩
            case measure => have := HKH.out; simp [intOf]; omega
          · have HS2 : Hid (RefRuns f (h + 1) (R ++ [(⟨(k : Int), (h : Int), v⟩ : Pp)])) := by have := HSTEP.out; rw [if_neg hv0] at this; exact this
            have hv1 : (v != 0) = true := by simpa using hv0
            clear hv0
            have HOA : Hid ((wr.alloc (.cells #[.int .i64 (k : Int), .int .i64 (h : Int), .int .u8 v] 40)).ownsRow w.heap.size 40 3 y R.length (cellsPs R)) := HOX.out.alloc _
            have HNA : Hid ((wr.alloc (.cells #[.int .i64 (k : Int), .int .i64 (h : Int), .int .u8 v] 40)).heap[wr.heap.size]? = some (.cells #[.int .i64 (k : Int), .int .i64 (h : Int), .int .u8 v] 40 (0, 0))) := heap_new' wr _
            clear HSTEP
            go_wp2_with (first | (at_builtin; go_must (refine wpList_append_own _ rfl _ _ 22 rfl w.heap.size 40 iP (.agg #[.int .i64 0, .int .i64 0, .int .u8 0]) 3 24 Try.undPs hiP hzP0 hzP1 hzP2 rfl (by decide) _ _ _ rfl HOA.out ⟨wr.heap.size, 0, none⟩ 1 1 (cellsP ⟨(k : Int), (h : Int), v⟩) rfl rfl (World.news_of_block HNA.out) (by simp [cellsP, Value.oneCell']) (by unfold maxLen; have := HLX.out; omega) (by have := HLX.out; omega) (by simp; omega) ?_; intro v2 w2' ho2 hg2 _; have HO2 : Hid (w2'.ownsRow w.heap.size 40 3 v2 (R ++ [(⟨(k : Int), (h : Int), v⟩ : Pp)]).length (cellsPs (R ++ [(⟨(k : Int), (h : Int), v⟩ : Pp)]))) := (by rw [cellsPs_snoc, List.length_append]; exact ho2); have HG2 : Hid (Below w.heap.size w w2') := (HBX.out.alloc hsx _).grown hg2 (by simp; omega) (fun j e => (HOA.out.lt j e).1); clear ho2 hg2)) | fail)
            go_roundw
            case rel => exact ⟨h + 1, _, by have := HKH.out; omega, by go_num, HS2.out, HO2.out, HG2.out⟩
            case measure => have := HKH.out; simp [intOf]; omega
    · have hle' : ¬ ((k : Int) ≤ 1114111) := by have := HN.out; omega
      have HKN : Hid (RunsOk f N R) := by have e : k = N := by omega
                                          rw [← e]; exact HR.out.ok
      subst hwk
      go_wp2
      go_ret
      exact ⟨_, rfl, R, HKN.out, HO.out, HB.out⟩
theorem refAll_any (n : Nat) (F : List (List Int)) (L : List Nat) (g : Nat) (w : World) (ht : RefAt n w g F L) (hF : F.length ≤ 4352) (hL : L.length = 4352) (hlt : ∀ x ∈ L, x < F.length) :
    Calls Try.prog 10 #[.pointer (some ⟨g, 0, none⟩)] w fun e w' => ∃ v, e = .returned v ∧ w'.ownsRow w.heap.size 40 3 v (runsL (valsTo (L.map (fun k : Nat => (k : Int))) F 1114112)).length (cellsPs (runsL (valsTo (L.map (fun k : Nat => (k : Int))) F 1114112))) ∧ Below w.heap.size w w' := by
  obtain ⟨N, hN⟩ : ∃ N : Nat, N = 1114112 := ⟨_, rfl⟩
  rw [← hN]
  refine (refAll_anyN N hN n F L g w ht hF hL hlt).mono ?_
  rintro e w' ⟨v, R, rfl, hR, ho, hB⟩
  have := refRuns_end hN hR
  rw [← this]
  exact ⟨v, rfl, ho, hB⟩

theorem meas_int {M k : Nat} (h : k < M) : M - (intOf (.int .i64 ((k : Int) + 1))).toNat < M - (intOf (.int .i64 (k : Int))).toNat := by
  simp [intOf]; omega

set_option maxRecDepth 100000 in
set_option maxHeartbeats 8000000 in
theorem refSame_any (l : List Pp) (v1 v2 : Value) (w : World) (h1 : PropsIn w v1 l) (h2 : PropsIn w v2 l) (hl : l.length ≤ 1114112) :
    Calls Try.prog 8 #[v1, v2] w fun e w' => e = .returned (.bool true) ∧ Below w.heap.size w w' := by
  obtain ⟨a, cap, rfl, _, hc1⟩ := h1
  obtain ⟨b, cap2, rfl, _, hc2⟩ := h2
  have HC1 : Hid (∀ i, (h : i < l.length) → ∃ g off, a = some ⟨g, off, none⟩ ∧ g < w.heap.size ∧ w.cell? ⟨g, off + i * 3, none⟩ = some (.int .i64 l[i].lo) ∧ w.cell? ⟨g, off + i * 3 + 1, none⟩ = some (.int .i64 l[i].hi) ∧ w.cell? ⟨g, off + i * 3 + 2, none⟩ = some (.int .u8 l[i].v)) := hc1
  have HC2 : Hid (∀ i, (h : i < l.length) → ∃ g off, b = some ⟨g, off, none⟩ ∧ g < w.heap.size ∧ w.cell? ⟨g, off + i * 3, none⟩ = some (.int .i64 l[i].lo) ∧ w.cell? ⟨g, off + i * 3 + 1, none⟩ = some (.int .i64 l[i].hi) ∧ w.cell? ⟨g, off + i * 3 + 2, none⟩ = some (.int .u8 l[i].v)) := hc2
  obtain ⟨M, hM⟩ : ∃ M, M = l.length := ⟨_, rfl⟩
  have HM : Hid (M = l.length) := hM
  have HML : Hid (M ≤ 1114112) := by show _ ≤ _; omega
  rw [← hM]
  clear hc1 hc2 hl hM
  go_enter Try.func8, Try.ntmps8
  go_wp2_with fail
  go_loopw [5] (fun x wr => ∃ k : Nat, k ≤ M ∧ x = .int .i64 k ∧ Below w.heap.size w wr) (fun x _ => M - (intOf x).toNat)
  case atStart => exact ⟨0, Nat.zero_le _, rfl, Below.refl _ _⟩
  case round =>
    obtain ⟨k, hk, rfl, hB⟩ := hrel
    have HB : Hid (Below w.heap.size w wr) := hB
    by_cases hlt : k < M
    · have hlt' : (k : Int) < (M : Int) := by omega
      have hkl : k < l.length := by rw [← HM.out]; exact hlt
      obtain ⟨g, off, rfl, hg, c0, c1, c2⟩ := HC1.out k hkl
      obtain ⟨g2, off2, rfl, hg2, d0, d1, d2⟩ := HC2.out k hkl
      obtain ⟨p, hp⟩ : ∃ p, p = l[k] := ⟨_, rfl⟩
      rw [← hp] at c0 c1 c2 d0 d1 d2
      have q0 : wr.cell? ⟨g, off + k * 3, none⟩ = some (.int .i64 p.lo) := (hB.cell (p := ⟨g, _, none⟩) hg).trans c0
      have q1 : wr.cell? ⟨g, off + k * 3 + 1, none⟩ = some (.int .i64 p.hi) := (hB.cell (p := ⟨g, _, none⟩) hg).trans c1
      have q2 : wr.cell? ⟨g, off + k * 3 + 2, none⟩ = some (.int .u8 p.v) := (hB.cell (p := ⟨g, _, none⟩) hg).trans c2
      have r0 : wr.cell? ⟨g2, off2 + k * 3, none⟩ = some (.int .i64 p.lo) := (hB.cell (p := ⟨g2, _, none⟩) hg2).trans d0
      have r1 : wr.cell? ⟨g2, off2 + k * 3 + 1, none⟩ = some (.int .i64 p.hi) := (hB.cell (p := ⟨g2, _, none⟩) hg2).trans d1
      have r2 : wr.cell? ⟨g2, off2 + k * 3 + 2, none⟩ = some (.int .u8 p.v) := (hB.cell (p := ⟨g2, _, none⟩) hg2).trans d2
      clear hp c0 c1 c2 d0 d1 d2 hB
      go_wp2_with fail
      have hw1 : wrap64 ((k : Int) + 1) = (k : Int) + 1 := by rw [← IntWalk.i64_left]; exact IntWalk.i64_in _ (by have := HML.out; omega)
      go_quiet (fail)
      go_wp2_with fail
      go_roundw
      case rel => exact ⟨k + 1, Nat.succ_le_of_lt hlt, by go_num, below_drewN' HB.out _⟩
      case measure => first | exact meas_int hlt | (rw [hw1]; exact meas_int hlt)
    · have hlt' : ¬ ((k : Int) < (M : Int)) := by omega
      clear hB
      go_wp2
      go_ret
      exact ⟨rfl, HB.out⟩
end Go.Proofs.Ytpnkljfgdbkffaa
