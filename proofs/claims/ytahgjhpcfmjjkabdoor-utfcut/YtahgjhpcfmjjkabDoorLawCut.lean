/-
  The law UtfCut: true, for all bytes and every int.
-/
import Derived.Test.YtahgjhpcfmjjkabDoorHelp2
import Derived.Test.YtahgjhpcfmjjkabDoorCutMath
namespace Go.Proofs.YtahgjhpcfmjjkabDoor
open Go.RowKit
set_option linter.unusedVariables false

theorem bytes_cut {w : World} {a : Option Addr} {len cap : Nat} {l : List Int} (hl : l.length = len) (h : BytesAt w.heap.size w (.slice a len cap) l) (n : Nat) (hn : n ≤ len) : BytesAt w.heap.size w (.slice a n cap) (l.take n) := by
  rcases h with ⟨a', cap', h, rfl⟩ | ⟨b, off, cap', h, h2, h3, h4⟩
  · have : n = 0 := by simp at hl; omega
    subst this
    exact .inl ⟨a, cap, rfl, rfl⟩
  · simp only [Value.slice.injEq] at h
    obtain ⟨rfl, _, rfl⟩ := h
    have hlen : (l.take n).length = n := by rw [List.length_take]; omega
    refine .inr ⟨b, off, cap, by rw [hlen], by omega, h3, fun j hj => ?_⟩
    rw [hlen] at hj
    rw [h4 j (by omega), List.getElem?_take, if_pos hj]

set_option maxRecDepth 100000 in
set_option maxHeartbeats 2000000 in
theorem utfCut_core (a : Option Addr) (len cap : Nat) (l : List Int) (n : Nat) (w : World) (hl : l.length = len) (hby : Byt l) (hcap : len ≤ cap) (ha : a = none → cap = 0) (hI : BytesAt w.heap.size w (.slice a len cap) l) (hlen : len ≤ 3000) (hn : n ≤ len) (hm : Marks w) (h1 : 1 ≤ w.heap.size) :
    Calls Tryd.prog 4 #[.slice a len cap, .int .i64 (n : Int)] w fun e w' => e = .returned (.bool true) ∧ Below w.heap.size w w' := by
  have h5 : (len : Int) ≤ 3000 := by omega
  have h6 : (0 : Int) ≤ (n : Int) := by omega
  have h7 : (n : Int) ≤ (len : Int) := by omega
  have h8 : (n : Int) ≤ (cap : Int) := by omega
  have HA : Hid (a = none → cap = 0) := ha
  clear ha
  go_enter Tryd.func4, Tryd.ntmps4
  go_wp2_with fail
  refine (awake_any w hm h1).mono ?_
  rintro e w1 ⟨rfl, hB1⟩
  have hs1 := hB1.size
  have hI1 := hI.later hB1
  go_wp2_with fail
  refine (decode_any l hby (by omega) a len cap w1 hI1).mono ?_
  rintro e w2 ⟨v2, us, rfl, hr2, ho2, hB2⟩
  have hs2 := hB2.size
  have hI2 := bytes_cut hl (hI1.later hB2) n hn
  have hB12 : Below w.heap.size w w2 := hB1.trans (hB2.mono hs1)
  have HI2 : Hid (BytesAt w2.heap.size w2 (.slice a n cap) (l.take n)) := hI2
  clear hI hI1 hI2 hm
  go_wp2_with fail
  refine (decode_any (l.take n) (byt_take hby n) (by rw [List.length_take]; omega) a n cap w2 HI2.out).mono ?_
  rintro e w3 ⟨v3, vs, rfl, hr3, ho3, hB3⟩
  have hs3 := hB3.size
  have hB13 : Below w.heap.size w w3 := hB12.trans (hB3.mono (by omega))
  have hlt3 : (l.take n).length = n := by rw [List.length_take]; omega
  rw [hlt3] at hr3
  obtain ⟨au, cu, rfl, hcu, hiu⟩ := (units_of_row ho2).below hB3
  obtain ⟨av, cv, rfl, hcv, hiv⟩ := units_of_row ho3
  have hle := Run.le hr2 (Nat.zero_le _)
  have hle3 := Run.le hr3 (Nat.zero_le _)
  have HU : Hid (∀ i, (h : i < us.length) → ∃ g off, au = some ⟨g, off, none⟩ ∧ g < w3.heap.size ∧ ∀ j, j < 4 → w3.cell? ⟨g, off + i * 4 + j, none⟩ = (cellsU us[i])[j]?) := hiu
  have HV : Hid (∀ i, (h : i < vs.length) → ∃ g off, av = some ⟨g, off, none⟩ ∧ g < w3.heap.size ∧ ∀ j, j < 4 → w3.cell? ⟨g, off + i * 4 + j, none⟩ = (cellsU vs[i])[j]?) := hiv
  have HR2 : Hid (Run l 0 us l.length) := hr2
  have HR3 : Hid (Run (l.take n) 0 vs n) := hr3
  have hbd : ∀ u ∈ us, u.p ≤ 3000 ∧ u.w ≤ 4 := by
    have key : ∀ {us : List U} {p q : Nat}, Run l p us q → ∀ u ∈ us, u.p ≤ 3000 ∧ u.w ≤ 4 := by
      intro us
      induction us with
      | nil => intro p q _ x hx; cases hx
      | cons y ys ih =>
        intro p q h x hx
        rcases List.mem_cons.1 hx with e | e
        · have := unitAt_w h.1
          have hp := h.1
          rw [e, h.2.1]
          exact ⟨by show p ≤ 3000; omega, this.2.1⟩
        · exact ih h.2.2 x e
    exact key hr2
  have HBD : Hid (∀ u ∈ us, u.p ≤ 3000 ∧ u.w ≤ 4) := hbd
  clear hiu hiv ho2 ho3 hr2 hr3 hB1 hB2 hB3 hB12 hbd
  go_wp2
  go_loopw [8] (fun x wr => ∃ k : Nat, k ≤ us.length ∧ x = .int .i64 k ∧ (∀ i, (h : i < us.length) → i < k → us[i].p + us[i].w ≤ n) ∧ ∃ nd, wr = w3.drewN nd) (fun x _ => us.length - (intOf x).toNat)
  case atStart => exact ⟨0, Nat.zero_le _, rfl, fun i h q => by omega, 0, rfl⟩
  case round =>
    obtain ⟨k, hk, rfl, hall, nd, rfl⟩ := hrel
    have HALL : Hid (∀ i, (h : i < us.length) → i < k → us[i].p + us[i].w ≤ n) := hall
    clear hall
    by_cases hlt : k < us.length
    · obtain ⟨gu, ou, rfl, hgu, hju⟩ := HU.out k hlt
      obtain ⟨u, hu⟩ : ∃ u, u = us[k] := ⟨_, rfl⟩
      rw [← hu] at hju
      have hb := HBD.out u (by rw [hu]; exact List.getElem_mem hlt)
      have a0 : w3.cell? ⟨gu, ou + k * 4, none⟩ = some (.int .i64 u.r) := hju 0 (by omega)
      have a1 : w3.cell? ⟨gu, ou + k * 4 + 1, none⟩ = some (.int .i64 (u.p : Int)) := hju 1 (by omega)
      have a2 : w3.cell? ⟨gu, ou + k * 4 + 2, none⟩ = some (.int .i64 (u.w : Int)) := hju 2 (by omega)
      have a3 : w3.cell? ⟨gu, ou + k * 4 + 3, none⟩ = some (.bool u.bad) := hju 3 (by omega)
      have HUd : Hid (u = us[k]) := hu
      clear hju hu
      have hk0 : (0 : Int) ≤ (k : Int) := by omega
      have hk1 : (k : Int) < (us.length : Int) := by omega
      by_cases hin : u.p + u.w ≤ n
      · have hin' : (u.p : Int) + (u.w : Int) ≤ (n : Int) := by omega
        obtain ⟨hkv, hev⟩ := Run.cut (by omega) HR2.out HR3.out (Nat.zero_le _) k hlt (by rw [← HUd.out]; exact hin)
        obtain ⟨gv, ov, rfl, hgv, hjv⟩ := HV.out k hkv
        rw [hev, ← HUd.out] at hjv
        have b0 : w3.cell? ⟨gv, ov + k * 4, none⟩ = some (.int .i64 u.r) := hjv 0 (by omega)
        have b1 : w3.cell? ⟨gv, ov + k * 4 + 1, none⟩ = some (.int .i64 (u.p : Int)) := hjv 1 (by omega)
        have b2 : w3.cell? ⟨gv, ov + k * 4 + 2, none⟩ = some (.int .i64 (u.w : Int)) := hjv 2 (by omega)
        have b3 : w3.cell? ⟨gv, ov + k * 4 + 3, none⟩ = some (.bool u.bad) := hjv 3 (by omega)
        have hk2 : (k : Int) < (vs.length : Int) := by omega
        have hk3 : decide ((vs.length : Int) ≤ (k : Int)) = false := by simp; omega
        clear hjv hev
        go_wp2
        go_quiet (fail)
        go_wp2
        go_quiet (fail)
        go_wp2
        go_roundw
        case rel => exact ⟨k + 1, by omega, by go_num, fun i h q => by
          by_cases e : i = k
          · subst e; rw [← HUd.out]; exact hin
          · exact HALL.out i h (by omega), _, rfl⟩
        case measure => simp [intOf]; omega
      · have hin' : ¬ (u.p : Int) + (u.w : Int) ≤ (n : Int) := by omega
        have hcl := Run.cut_len (by omega) HR2.out HR3.out (Nat.zero_le _) k hk HALL.out (fun h => by rw [← HUd.out]; omega)
        obtain ⟨hc1, hc2⟩ := hcl
        have hc1' : (k : Int) ≤ (vs.length : Int) := by omega
        have hc2' : (vs.length : Int) ≤ (k : Int) + 3 := by omega
        go_wp2
        go_quiet (fail)
        go_wp2
        go_ret
        exact ⟨rfl, hB13.trans (below_drewN' (Below.refl _ _) _)⟩
    · obtain rfl : k = us.length := by omega
      have hcl := Run.cut_len (by omega) HR2.out HR3.out (Nat.zero_le _) us.length hk HALL.out (fun h => by omega)
      obtain ⟨hc1, hc2⟩ := hcl
      have hc1' : (us.length : Int) ≤ (vs.length : Int) := by omega
      have hc2' : (vs.length : Int) ≤ (us.length : Int) + 3 := by omega
      have hd : decide ((us.length : Int) < (us.length : Int)) = false := by simp
      go_wp2
      go_quiet (fail)
      go_wp2
      go_ret
      exact ⟨rfl, hB13.trans (below_drewN' (Below.refl _ _) _)⟩

set_option maxHeartbeats 1000000 in
theorem utfCut_any (a : Option Addr) (len cap : Nat) (zs : List Int) (y : Int) (w : World) (hz : IsRow .u8 w a len cap zs) (hm : Marks w) (h1 : 1 ≤ w.heap.size) :
    Calls Tryd.prog 4 #[.slice a len cap, .int .i64 y] w fun e w' => e = .returned (.bool true) ∧ Below w.heap.size w w' := by
  obtain ⟨l, hl, hby, hI⟩ := hz.bytes
  have hcap : len ≤ cap ∧ (a = none → cap = 0) := by
    rcases hz with ⟨rfl, rfl, rfl, rfl⟩ | ⟨x, rfl, hlc, _⟩
    · exact ⟨Nat.le_refl _, fun _ => rfl⟩
    · exact ⟨hlc, fun h => by cases h⟩
  have out : (h : ¬ (len ≤ 3000 ∧ 0 ≤ y ∧ y ≤ (len : Int))) → Calls Tryd.prog 4 #[.slice a len cap, .int .i64 y] w fun e w' => e = .returned (.bool true) ∧ Below w.heap.size w w' := by
    intro h
    clear hI hby
    by_cases h5 : (len : Int) ≤ 3000
    · by_cases h6 : 0 ≤ y
      · have h7 : ¬ y ≤ (len : Int) := by omega
        go_enter Tryd.func4, Tryd.ntmps4
        go_wp2_with fail
        refine (awake_any w hm h1).mono ?_
        rintro e w1 ⟨rfl, hB1⟩
        go_wp2
        go_ret
        exact ⟨rfl, hB1⟩
      · go_enter Tryd.func4, Tryd.ntmps4
        go_wp2_with fail
        refine (awake_any w hm h1).mono ?_
        rintro e w1 ⟨rfl, hB1⟩
        go_wp2
        go_ret
        exact ⟨rfl, hB1⟩
    · go_enter Tryd.func4, Tryd.ntmps4
      go_wp2_with fail
      refine (awake_any w hm h1).mono ?_
      rintro e w1 ⟨rfl, hB1⟩
      go_wp2
      go_ret
      exact ⟨rfl, hB1⟩
  by_cases h : len ≤ 3000 ∧ 0 ≤ y ∧ y ≤ (len : Int)
  · obtain ⟨n, rfl⟩ := Int.eq_ofNat_of_zero_le h.2.1
    exact utfCut_core a len cap l n w hl hby hcap.1 hcap.2 hI h.1 (by omega) hm h1
  · exact out h
end Go.Proofs.YtahgjhpcfmjjkabDoor
