/-
  Sets and alphabets in memory; what an alphabet's Count, has, Mask, Any, Of answer.
-/
import Derived.Test.YtmknifnhcgdkaaaX10
import Derived.Test.YtmknifnhcgdkaaaX12
import Derived.Test.YtmknifnhcgdkaaaX16
import Derived.Test.YtmknifnhcgdkaaaX36
namespace Go.Proofs.Ytmknifnhcgdkaaa
open Go.RowKit
set_option linter.unusedVariables false

theorem Try.infoAlph : (Try.prog.info? 72).map (fun i => (i.zero, i.size, i.bytes)) = some (some (.agg #[.slice none 0 0, .slice none 0 0, .pointer none]), 3, 56) := by kernel_rfl
theorem Try.infoDraft9 : (Try.prog.info? 78).map (fun i => (i.zero, i.size, i.bytes)) = some (some (.agg #[.slice none 0 0, .map none, .slice none 0 0, .slice none 0 0, .slice none 0 0]), 5, 104) := by kernel_rfl
theorem Try.infoRs : (Try.prog.info? 46).map (fun i => (i.zero, i.size, i.bytes)) = some (some (.slice none 0 0), 1, 24) := by kernel_rfl
theorem Try.infoU64 : (Try.prog.info? 34).map (fun i => (i.zero, i.size, i.bytes)) = some (some (.int .u64 0), 1, 8) := by kernel_rfl
theorem Try.undU64 : Try.prog.underlying 34 = some (.int .u64) := by kernel_rfl
theorem Try.undM9 : Try.prog.underlying 76 = some (.map 34 3) := by kernel_rfl
theorem Try.keyLaw9 : Maps.Keyed Try.prog 34 := Maps.int_keyed Try.undU64

/-- The slice value v holds the slices of the sets S, each fit to be appended. -/
def StsIn (w : World) (v : Value) (S : List (List Rg)) : Prop :=
  ∃ a cap, v = .slice a S.length cap ∧ S.length ≤ cap ∧ ∀ i, (h : i < S.length) → ∃ g off x, a = some ⟨g, off, none⟩ ∧ g < w.heap.size ∧ w.cell? ⟨g, off + i, none⟩ = some x ∧ RngSrc w x S[i]
theorem StsIn.below {w w' : World} {v : Value} {S : List (List Rg)} (h : StsIn w v S) (hb : Below w.heap.size w w') : StsIn w' v S := by
  obtain ⟨a, cap, rfl, hc, hi⟩ := h
  refine ⟨a, cap, rfl, hc, fun i hlt => ?_⟩
  obtain ⟨g, off, x, rfl, hg, h0, h1⟩ := hi i hlt
  exact ⟨g, off, x, rfl, Nat.lt_of_lt_of_le hg hb.size, (hb.cell (p := ⟨g, _, none⟩) hg).trans h0, h1.below hb⟩

def u64s (l : List Nat) : List Value := l.map (fun m : Nat => Value.int .u64 (m : Int))
theorem u64s_length (l : List Nat) : (u64s l).length = l.length := by simp [u64s]
theorem u64s_one (l : List Nat) : ∀ u ∈ u64s l, u.oneCell' = true := fun u hu => by
  obtain ⟨n, _, rfl⟩ := List.mem_map.1 hu
  rfl
/-- The slice value v holds the masks l. -/
def U64In (w : World) (v : Value) (l : List Nat) : Prop :=
  ∃ a cap, v = .slice a l.length cap ∧ l.length ≤ cap ∧ ∀ i, (h : i < l.length) → ∃ g off, a = some ⟨g, off, none⟩ ∧ g < w.heap.size ∧ w.cell? ⟨g, off + i, none⟩ = some (.int .u64 (l[i] : Nat))
theorem u64_of_row {w : World} {base : Nat} {v : Value} {l : List Nat} (h : w.ownsRow base 34 1 v l.length (u64s l)) : U64In w v l := by
  rcases h.2 with ⟨rfl, h0⟩ | ⟨g, cap, cur, rfl, hb, hg, hc, hm, hs, ht⟩
  · exact ⟨none, 0, by rw [h0], by omega, fun i hi => by omega⟩
  · refine ⟨_, cap, rfl, hc, fun i hi => ⟨g, 0, rfl, (Array.getElem?_eq_some_iff.1 hg).1, ?_⟩⟩
    have := h.cells (g := g) rfl i (.int .u64 (l[i] : Nat)) (by simp [u64s, hi])
    rw [add_lit'] at this
    exact this
theorem U64In.below {w w' : World} {v : Value} {l : List Nat} (h : U64In w v l) (hb : Below w.heap.size w w') : U64In w' v l := by
  obtain ⟨a, cap, rfl, hc, hi⟩ := h
  refine ⟨a, cap, rfl, hc, fun i hlt => ?_⟩
  obtain ⟨g, off, rfl, hg, hj⟩ := hi i hlt
  exact ⟨g, off, rfl, Nat.lt_of_lt_of_le hg hb.size, (hb.cell (p := ⟨g, off + i, none⟩) hg).trans hj⟩

/-- An alphabet may be: not too many classes, and a trie takes them. -/
def OkA (S : List (List Rg)) : Prop := AllS S ∧ (clsS S).length ≤ 200 ∧ S3.errB (entsS S) = 0
theorem OkA.fine {S : List (List Rg)} (h : OkA S) : S3.Fine (S3.likeB (entsS S)) (S3.firstB (entsS S)) :=
  S3.fineB (ents_bytes (Nat.le_refl _) h.2.1) (S3.errB_zero h.2.2).2.2
/-- The alphabet of the sets S, in memory. -/
def AlpAt (w : World) (pv : Value) (S : List (List Rg)) : Prop :=
  ∃ g vm vl pt, pv = .pointer (some ⟨g, 0, none⟩) ∧ w.heap[g]? = some (.cells #[vm, vl, pt] 72 (0, 0)) ∧ U64In w vm (clsS S) ∧ IntsIn w vl ((clsS S).map (fstS S)) ∧ S3.TrieAt w.heap.size w pt (S3.likeB (entsS S)) (S3.firstB (entsS S))
theorem AlpAt.below {w w' : World} {pv : Value} {S : List (List Rg)} (h : AlpAt w pv S) (hb : Below w.heap.size w w') : AlpAt w' pv S := by
  obtain ⟨g, vm, vl, pt, rfl, hg, h1, h2, h3⟩ := h
  exact ⟨g, vm, vl, pt, rfl, (hb.block g (S3.heap_lt hg)).trans hg, h1.below hb, h2.below hb, (h3.below hb).mono hb.size⟩
theorem AlpAt.ptr {w : World} {pv : Value} {S : List (List Rg)} (h : AlpAt w pv S) : ∃ g, pv = .pointer (some ⟨g, 0, none⟩) := by
  obtain ⟨g, vm, vl, pt, rfl, _⟩ := h
  exact ⟨g, rfl⟩

theorem count9_any (S : List (List Rg)) (pv : Value) (w : World) (h : AlpAt w pv S) :
    Calls Try.prog 18 #[pv] w fun e w' => e = .returned (.int .i64 ((clsS S).length : Int)) ∧ w' = w := by
  obtain ⟨g, vm, vl, pt, rfl, hg, ⟨a, cap, rfl, _, _⟩, h2, h3⟩ := h
  have hc : w.cell? ⟨g, 0, none⟩ = some (.slice a (clsS S).length cap) := cell_of_row _ _ 0 _ _ _ hg
  clear h2 h3 hg
  go_enter Try.func18, Try.ntmps18
  go_wp2
  go_ret
  exact ⟨rfl, rfl⟩
theorem has9_any (S : List (List Rg)) (pv : Value) (c : Int) (w : World) (h : AlpAt w pv S) :
    Calls Try.prog 37 #[pv, .int .i64 c] w fun e w' => e = .returned (.bool (decide (0 ≤ c ∧ c < ((clsS S).length : Int)))) ∧ w' = w := by
  obtain ⟨g, vm, vl, pt, rfl, hg, ⟨a, cap, rfl, _, _⟩, h2, h3⟩ := h
  have hc : w.cell? ⟨g, 0, none⟩ = some (.slice a (clsS S).length cap) := cell_of_row _ _ 0 _ _ _ hg
  clear h2 h3 hg
  obtain ⟨n, hn⟩ : ∃ n, n = (clsS S).length := ⟨_, rfl⟩
  rw [← hn] at hc ⊢
  clear hn
  by_cases q : 0 ≤ c
  · by_cases q2 : c < (n : Int)
    · have e : decide (0 ≤ c ∧ c < (n : Int)) = true := decide_eq_true ⟨q, q2⟩
      rw [e]
      clear e
      go_enter Try.func37, Try.ntmps37
      go_wp2
      go_ret
      exact ⟨rfl, rfl⟩
    · have e : decide (0 ≤ c ∧ c < (n : Int)) = false := decide_eq_false (fun z => q2 z.2)
      rw [e]
      clear e
      go_enter Try.func37, Try.ntmps37
      go_wp2
      go_ret
      exact ⟨rfl, rfl⟩
  · have e : decide (0 ≤ c ∧ c < (n : Int)) = false := decide_eq_false (fun z => q z.1)
    rw [e]
    clear e
    go_enter Try.func37, Try.ntmps37
    go_wp2
    go_ret
    exact ⟨rfl, rfl⟩

/-- What Mask tells of a class. -/
def mskC (S : List (List Rg)) (c : Int) : Nat := if 0 ≤ c then ((clsS S)[c.toNat]?).getD 0 else 0
/-- What Any tells of a class. -/
def anyC (S : List (List Rg)) (c : Int) : Int := if 0 ≤ c then (((clsS S).map (fstS S))[c.toNat]?).getD (-1) else -1
/-- What Of tells of a number. -/
def ofC (S : List (List Rg)) (r : Int) : Int := if 0 ≤ r ∧ r ≤ 1114111 then (((clsS S).idxOf (maskN S r) : Nat) : Int) else -1

theorem mask9_any (S : List (List Rg)) (pv : Value) (c : Int) (w : World) (h : AlpAt w pv S) :
    Calls Try.prog 14 #[pv, .int .i64 c] w fun e w' => e = .returned (.int .u64 (mskC S c : Nat)) ∧ w' = w := by
  have HH := has9_any S pv c w h
  obtain ⟨g, vm, vl, pt, rfl, hg, ⟨a, cap, rfl, hcap, hi⟩, h2, h3⟩ := h
  have hc : w.cell? ⟨g, 0, none⟩ = some (.slice a (clsS S).length cap) := cell_of_row _ _ 0 _ _ _ hg
  by_cases q : 0 ≤ c ∧ c < ((clsS S).length : Int)
  · rw [decide_eq_true q] at HH
    obtain ⟨k, rfl⟩ : ∃ k : Nat, c = (k : Int) := ⟨c.toNat, by omega⟩
    have hk : k < (clsS S).length := by omega
    obtain ⟨g2, off, rfl, hg2, hck⟩ := hi k (by simpa using hk)
    have e : mskC S (k : Int) = (clsS S)[k] := by unfold mskC; rw [if_pos q.1, Int.toNat_natCast, List.getElem?_eq_getElem hk]; rfl
    rw [e]
    obtain ⟨x, hx⟩ : ∃ x, x = (clsS S)[k] := ⟨_, rfl⟩
    rw [← hx] at hck ⊢
    have hk' : (k : Int) < ((clsS S).length : Int) := q.2
    clear hx e h2 h3 hg hi q
    go_enter Try.func14, Try.ntmps14
    go_wp2_with fail
    refine HH.mono ?_
    rintro e w1 ⟨rfl, rfl⟩
    clear HH
    go_wp2
    go_ret
    exact ⟨rfl, rfl⟩
  · rw [decide_eq_false q] at HH
    have e : mskC S c = 0 := by
      unfold mskC
      split
      · rw [List.getElem?_eq_none (by omega)]; rfl
      · rfl
    rw [e]
    clear e h2 h3 hg hi q
    go_enter Try.func14, Try.ntmps14
    go_wp2_with fail
    refine HH.mono ?_
    rintro e w1 ⟨rfl, rfl⟩
    clear HH
    go_wp2
    go_ret
    exact ⟨rfl, rfl⟩
theorem any9_any (S : List (List Rg)) (pv : Value) (c : Int) (w : World) (h : AlpAt w pv S) :
    Calls Try.prog 16 #[pv, .int .i64 c] w fun e w' => e = .returned (.int .i64 (anyC S c)) ∧ w' = w := by
  have HH := has9_any S pv c w h
  obtain ⟨g, vm, vl, pt, rfl, hg, h1, ⟨a, cap, rfl, hcap, hi⟩, h3⟩ := h
  rw [List.length_map] at hcap hg
  have hc : w.cell? ⟨g, 1, none⟩ = some (.slice a (clsS S).length cap) := cell_of_row _ _ 1 _ _ _ hg
  by_cases q : 0 ≤ c ∧ c < ((clsS S).length : Int)
  · rw [decide_eq_true q] at HH
    obtain ⟨k, rfl⟩ : ∃ k : Nat, c = (k : Int) := ⟨c.toNat, by omega⟩
    have hk : k < (clsS S).length := by omega
    obtain ⟨g2, off, rfl, hg2, hck⟩ := hi k (by simpa using hk)
    have e : anyC S (k : Int) = ((clsS S).map (fstS S))[k]'(by simpa using hk) := by unfold anyC; rw [if_pos q.1, Int.toNat_natCast, List.getElem?_eq_getElem (by simpa using hk)]; rfl
    rw [e]
    obtain ⟨x, hx⟩ : ∃ x, x = ((clsS S).map (fstS S))[k]'(by simpa using hk) := ⟨_, rfl⟩
    rw [← hx] at hck ⊢
    have hk' : (k : Int) < ((clsS S).length : Int) := q.2
    clear hx e h1 h3 hg hi q
    go_enter Try.func16, Try.ntmps16
    go_wp2_with fail
    refine HH.mono ?_
    rintro e w1 ⟨rfl, rfl⟩
    clear HH
    go_wp2
    go_ret
    exact ⟨rfl, rfl⟩
  · rw [decide_eq_false q] at HH
    have e : anyC S c = -1 := by
      unfold anyC
      split
      · rw [List.getElem?_eq_none (by simp; omega)]; rfl
      · rfl
    rw [e]
    clear e h1 h3 hg hi q
    go_enter Try.func16, Try.ntmps16
    go_wp2_with fail
    refine HH.mono ?_
    rintro e w1 ⟨rfl, rfl⟩
    clear HH
    go_wp2
    go_ret
    exact ⟨rfl, rfl⟩
theorem of9_any (S : List (List Rg)) (pv : Value) (r : Int) (w : World) (hok : OkA S) (h : AlpAt w pv S) :
    Calls Try.prog 12 #[pv, .int .i64 r] w fun e w' => e = .returned (.int .i64 (ofC S r)) ∧ Below w.heap.size w w' := by
  obtain ⟨g, vm, vl, pt, rfl, hg, h1, h2, h3⟩ := h
  by_cases q0 : r < 0
  · have e : ofC S r = -1 := by unfold ofC; rw [if_neg (by omega)]
    rw [e]
    clear e h1 h2 h3 hg
    go_enter Try.func12, Try.ntmps12
    go_wp2
    go_ret
    exact ⟨rfl, Below.refl _ _⟩
  by_cases q1 : 1114111 < r
  · have e : ofC S r = -1 := by unfold ofC; rw [if_neg (by omega)]
    rw [e]
    clear e h1 h2 h3 hg
    go_enter Try.func12, Try.ntmps12
    go_wp2
    go_ret
    exact ⟨rfl, Below.refl _ _⟩
  have hc : w.cell? ⟨g, 2, none⟩ = some pt := cell_of_row _ _ 2 _ _ _ hg
  have HO := S3.of_any _ _ pt r w h3 hok.fine
  rw [S3.of_val (by omega) (by omega), val_ents hok.1 (by omega) (by omega)] at HO
  have e : ofC S r = (((clsS S).idxOf (maskN S r) : Nat) : Int) := by unfold ofC; rw [if_pos (by omega)]
  have hlt : (clsS S).idxOf (maskN S r) < (clsS S).length := List.idxOf_lt_length_of_mem (mask_met hok.1 (by omega) (by omega))
  have hlt2 := hok.2.1
  rw [e]
  obtain ⟨x, hx⟩ : ∃ x, x = (clsS S).idxOf (maskN S r) := ⟨_, rfl⟩
  rw [← hx] at HO hlt ⊢
  have hx2 : (x : Int) ≤ 200 := by omega
  obtain ⟨gt, rfl⟩ := S3.TrieAt.ptr h3
  clear hx e h1 h2 h3 hg hok hlt hlt2
  have HX : Hid (x ≤ 200) := by show x ≤ 200; omega
  go_enter Try.func12, Try.ntmps12
  go_wp2_with fail
  refine HO.mono ?_
  rintro e w1 ⟨rfl, hB⟩
  clear HO
  go_wp2
  go_ret
  exact ⟨rfl, hB⟩
end Go.Proofs.Ytmknifnhcgdkaaa
