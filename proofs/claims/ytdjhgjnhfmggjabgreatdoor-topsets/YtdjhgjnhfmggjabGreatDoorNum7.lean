/-
  What since, atMost and number answer.
-/
import Derived.Test.YtdjhgjnhfmggjabGreatDoorParse16
import Derived.Test.YtdjhgjnhfmggjabGreatDoorBlanks
namespace Go.Proofs.YtdjhgjnhfmggjabGreatDoor
open Go.RowKit Go.Shelf S1
set_option linter.unusedVariables false

/-- A piece of the text. -/
def cutZ (zs : List Int) (p q : Nat) : List Int := (zs.drop p).take (q - p)

theorem cutZ_length {zs : List Int} {p q : Nat} (h : q ≤ zs.length) : (cutZ zs p q).length = q - p := by
  unfold cutZ; rw [List.length_take, List.length_drop]; omega

theorem TxtAt.conv {R : Nat} {w : World} {v : Value} {l : List Int} (h : TxtAt R w v l) : (convert 32 9 v).run Tryz.prog w = .ok (.string (strOfNums l)) w := by
  obtain ⟨a, cap, rfl, hc, hi⟩ := h
  by_cases h0 : l.length = 0
  · obtain rfl : l = [] := List.length_eq_zero_iff.1 h0
    cases a with
    | none =>
      rw [run_convert_bytes_nil w 32 5 Tryz.underlying32 Tryz.underlying5 _ _ 9 Tryz.underlying9]
      rfl
    | some ad =>
      have hl : (loadCells ad 0).run Tryz.prog w = .ok (([] : List Int).map (Value.int .u8)).toArray w := by
        simpa using run_loadCells_list (P := Tryz.prog) w ad [] (fun j v hj => by simp at hj)
      show (convert 32 9 (.slice (some ad) 0 cap)).run Tryz.prog w = _
      rw [run_convert_bytes_string w 32 9 5 _ 0 cap Tryz.underlying32 Tryz.underlying5 Tryz.underlying9, run_bytesToString w _ 0 cap [] hl, foldl_push_bytes]
      simp [strOfNums, ByteArray.empty, ByteArray.emptyWithCapacity]
      rfl
  · obtain ⟨g, off, rfl, _, _⟩ := hi 0 (by omega)
    refine run_convert_bytes_arg w 32 5 Tryz.underlying32 Tryz.underlying5 g off l.length cap l rfl (fun i hlt => ?_) 9 Tryz.underlying9
    obtain ⟨g', off', e, _, hcc⟩ := hi i hlt
    obtain ⟨rfl, rfl⟩ : g = g' ∧ off = off' := by simpa using e
    rw [hcc]
    simp [hlt]
theorem TxtAt.drew {R : Nat} {w : World} {v : Value} {l : List Int} (h : TxtAt R w v l) : TxtAt R w.drew v l := h
theorem TxtAt.cut {R : Nat} {w : World} {g off cap n : Nat} {zs : List Int} (h : TxtAt R w (.slice (some ⟨g, off, none⟩) n cap) zs) {p q : Nat} (hq : q ≤ zs.length) (a' : Option Addr) (c' : Nat) (hc : q - p ≤ c') (ha : p < q → a' = some ⟨g, off + p, none⟩) : TxtAt R w (.slice a' (q - p) c') (cutZ zs p q) := by
  obtain ⟨a, c, e, hcap, hi⟩ := h
  obtain ⟨rfl, rfl, rfl⟩ : some ⟨g, off, none⟩ = a ∧ n = zs.length ∧ cap = c := by simpa using e
  refine ⟨a', c', by rw [cutZ_length hq], by rw [cutZ_length hq]; exact hc, fun i hlt => ?_⟩
  rw [cutZ_length hq] at hlt
  obtain ⟨g', off', e2, hg, h0⟩ := hi (p + i) (by omega)
  obtain ⟨rfl, rfl⟩ : g = g' ∧ off = off' := by simpa using e2
  refine ⟨g, off + p, ha (by omega), hg, ?_⟩
  rw [Nat.add_assoc, h0]
  simp [cutZ]

set_option maxRecDepth 100000 in
set_option maxHeartbeats 2000000 in
theorem since_any (zs : List Int) (us : List U) (R from_ : Nat) (g off cap : Nat) (w : World) (hrd : Rd w R (.slice (some ⟨g, off, none⟩) zs.length cap) us) (htx : TxtAt R w (.slice (some ⟨g, off, none⟩) zs.length cap) zs) (hz : zs.length ≤ 10000)
    (h1 : from_ ≤ atL zs.length us) (h2 : atL zs.length us ≤ zs.length) :
    Calls Tryz.prog 42 #[.pointer (some ⟨R, 0, none⟩), .int .i64 (from_ : Int)] w fun e w' => e = .returned (.string (strOfNums (cutZ zs from_ (atL zs.length us)))) ∧ w.grownBy w' none := by
  have ha : ∀ n, Calls Tryz.prog 39 #[.pointer (some ⟨R, 0, none⟩)] (w.drewN n) fun e w' => e = .returned (.int .i64 (atL zs.length us : Int)) ∧ w' = w.drewN n := fun n =>
    (at_any us R _ zs.length cap (w.drewN n) (hrd.kept (grownR_drewN (World.grownBy.refl _ _) n))).mono fun e w' h => ⟨h.1, h.2.symm⟩
  obtain ⟨h0, hl⟩ := hrd.text
  obtain ⟨q, hq⟩ : ∃ q, q = atL zs.length us := ⟨_, rfl⟩
  rw [← hq] at h1 h2 ha
  rw [← hq]
  have hcap : zs.length ≤ cap := by obtain ⟨_, _, e, hc, _⟩ := htx; simp at e; omega
  have HG : Hid (∀ n, w.grownBy (w.drewN n) none) := fun n => grownR_drewN (World.grownBy.refl _ _) n
  have HT : Hid (∀ n, TxtAt R (w.drewN n) (.slice (some ⟨g, off, none⟩) zs.length cap) zs) := fun n => htx.grown ((HG.out n).but _)
  clear hq htx hrd
  have hh1 : (from_ : Int) ≤ (q : Int) := by omega
  have hh2 : (q : Int) ≤ (zs.length : Int) := by omega
  have hh3 : (q : Int) ≤ (cap : Int) := by omega
  have hh0 : (0 : Int) ≤ (from_ : Int) := by omega
  by_cases hfq : from_ < q
  · have hcv : ∀ n, (convert 32 9 (.slice (some ⟨g, off + from_, none⟩) (q - from_) (cap - from_))).run Tryz.prog (w.drewN n) = .ok (.string (strOfNums (cutZ zs from_ q))) (w.drewN n) := fun n =>
      ((HT.out n).cut h2 _ _ (by omega) (fun _ => rfl)).conv
    have hne : ¬ (cap = from_) := by omega
    have hne2 : ¬ (cap - from_ = 0) := by omega
    obtain ⟨s, hs⟩ : ∃ s, s = strOfNums (cutZ zs from_ q) := ⟨_, rfl⟩
    rw [← hs] at hcv ⊢
    clear hs
    go_enter Tryz.func42, Tryz.ntmps42
    go_wp2
    go_quiet ((go_at_call 39; exact Calls.quiet_of_same (ha _)))
    go_wp2
    go_ret
    exact ⟨rfl, HG.out _⟩
  · obtain rfl : from_ = q := by omega
    have hcv : ∀ n a' c', (convert 32 9 (.slice a' 0 c')).run Tryz.prog (w.drewN n) = .ok (.string (strOfNums [])) (w.drewN n) := fun n a' c' =>
      TxtAt.conv (R := R) ⟨a', c', rfl, Nat.zero_le _, fun i hi => by cases hi⟩
    have e0 : cutZ zs from_ from_ = [] := by simp [cutZ]
    rw [e0]
    obtain ⟨s, hs⟩ : ∃ s, s = strOfNums [] := ⟨_, rfl⟩
    rw [← hs] at hcv ⊢
    clear hs
    go_enter Tryz.func42, Tryz.ntmps42
    go_wp2
    go_quiet ((go_at_call 39; exact Calls.quiet_of_same (ha _)))
    all_goals go_wp2
    all_goals
      go_ret
      exact ⟨rfl, HG.out _⟩

set_option maxHeartbeats 1000000 in
theorem atMost_any (c : Int) (w : World) : Calls Tryz.prog 103 #[.int .i64 c, .func (.func 104) #[] #[]] w fun e w' => e = .returned (.func (.func 111) #[] #[.pointer (some ⟨w.heap.size, 0, none⟩), .pointer (some ⟨w.heap.size + 1, 0, none⟩)]) ∧ (w.alloc (.cells #[.int .i64 c] 3)).alloc (.cells #[.func (.func 104) #[] #[]] 91) = w' := by
  go_enter Tryz.func103, Tryz.ntmps103
  go_wp2
  go_ret
  exact ⟨rfl, rfl⟩

/-- The closure's boxes: how many may still be asked about, and the rule. -/
def AM (w : World) (B C R : Nat) (n : Int) : Prop :=
  w.cell? ⟨B, 0, none⟩ = some (.int .i64 n) ∧ w.frozen? ⟨B, 0, none⟩ = false ∧ w.cell? ⟨C, 0, none⟩ = some (.func (.func 104) #[] #[]) ∧ R < B ∧ R < C ∧ B ≠ C ∧ B < w.heap.size ∧ C < w.heap.size
theorem AM.grown {w w' : World} {B C R : Nat} {n : Int} (h : AM w B C R n) (hg : w.grownBy w' (some R)) : AM w' B C R n := by
  obtain ⟨h0, h1, h2, h3, h4, h5, h6, h7⟩ := h
  refine ⟨hg.cell h0 (by simp; omega), ?_, hg.cell h2 (by simp; omega), h3, h4, h5, Nat.lt_of_lt_of_le h6 hg.size, Nat.lt_of_lt_of_le h7 hg.size⟩
  rw [← h1]
  exact World.frozen?_of_block (a := ⟨B, 0, none⟩) (hg.block B h6 (by simp; omega))
theorem AM.set {w : World} {B C R : Nat} {n : Int} (h : AM w B C R n) (m : Int) : AM (w.setCell ⟨B, 0, none⟩ (.int .i64 m)) B C R m := by
  obtain ⟨h0, h1, h2, h3, h4, h5, h6, h7⟩ := h
  refine ⟨World.cell?_setCell_same' w ⟨B, 0, none⟩ _ (by rw [h0]; rfl), by rw [World.frozen?_setCell]; exact h1, ?_, h3, h4, h5, by simpa [World.setCell] using h6, by simpa [World.setCell] using h7⟩
  exact (World.cell?_setCell_other w ⟨B, 0, none⟩ ⟨C, 0, none⟩ _ (by simp)).trans h2

set_option maxRecDepth 100000 in
set_option maxHeartbeats 2000000 in
theorem atMost1_any (n : Nat) (r : Int) (B C R : Nat) (w : World) (h : AM w B C R n) (hn : n ≤ 6) :
    Calls Tryz.prog 111 #[.int .i64 r, .pointer (some ⟨B, 0, none⟩), .pointer (some ⟨C, 0, none⟩)] w fun e w' => e = .returned (.bool (decide (1 ≤ n) && figR r)) ∧ w.setCell ⟨B, 0, none⟩ (.int .i64 ((n : Int) - 1)) = w' := by
  have h' := h.set ((n : Int) - 1)
  obtain ⟨h0, h1, h2, h3, h4, h5, h6, h7⟩ := h
  obtain ⟨k0, k1, k2, _⟩ := h'
  have c1 := isFigure_any r (w.setCell ⟨B, 0, none⟩ (.int .i64 ((n : Int) - 1)))
  by_cases q : 1 ≤ n
  · have e : (decide (1 ≤ n) && figR r) = figR r := by simp [q]
    rw [e]
    have q1 : (0 : Int) ≤ (n : Int) - 1 := by omega
    go_enter Tryz.func111, Tryz.ntmps111
    go_wp2_with (go_at_call 104; refine c1.mono ?_; rintro e w' ⟨rfl, rfl⟩)
    go_ret
    exact ⟨rfl, rfl⟩
  · have e : (decide (1 ≤ n) && figR r) = false := by simp [q]
    rw [e]
    obtain rfl : n = 0 := by omega
    go_enter Tryz.func111, Tryz.ntmps111
    go_wp2
    go_ret
    exact ⟨rfl, rfl⟩
end Go.Proofs.YtdjhgjnhfmggjabGreatDoor
