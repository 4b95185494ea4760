/-
  trie.Build: the trie of any entries.
-/
import Derived.Test.YtmknifnhcgdkaaaX26
namespace Go.Proofs.Ytmknifnhcgdkaaa.S3
open Go.RowKit
set_option linter.unusedVariables false

/-- The slice value v holds the entries l, in a block below n. -/
def PropsAt (n : Nat) (w : World) (v : Value) (l : List Pp) : Prop :=
  ∃ a cap, v = .slice a l.length cap ∧ l.length ≤ cap ∧ ∀ i, (h : i < l.length) → ∃ g off, a = some ⟨g, off, none⟩ ∧ g < n ∧ w.cell? ⟨g, off + i * 3, none⟩ = some (.int .i64 l[i].lo) ∧ w.cell? ⟨g, off + i * 3 + 1, none⟩ = some (.int .i64 l[i].hi) ∧ w.cell? ⟨g, off + i * 3 + 2, none⟩ = some (.int .u8 l[i].v)
abbrev PropsIn (w : World) (v : Value) (l : List Pp) : Prop := PropsAt w.heap.size w v l
theorem PropsAt.below {n : Nat} {w w' : World} {v : Value} {l : List Pp} (h : PropsAt n w v l) (hb : Below n w w') : PropsAt n w' v l := by
  obtain ⟨a, cap, rfl, hc, hi⟩ := h
  refine ⟨a, cap, rfl, hc, fun i hlt => ?_⟩
  obtain ⟨g, off, rfl, hg, h0, h1, h2⟩ := hi i hlt
  exact ⟨g, off, rfl, hg, (hb.cell (p := ⟨g, _, none⟩) hg).trans h0, (hb.cell (p := ⟨g, _, none⟩) hg).trans h1, (hb.cell (p := ⟨g, _, none⟩) hg).trans h2⟩
theorem PropsAt.mono {n m : Nat} {w : World} {v : Value} {l : List Pp} (h : PropsAt n w v l) (hm : n ≤ m) : PropsAt m w v l := by
  obtain ⟨a, cap, rfl, hc, hi⟩ := h
  refine ⟨a, cap, rfl, hc, fun i hlt => ?_⟩
  obtain ⟨g, off, rfl, hg, h0⟩ := hi i hlt
  exact ⟨g, off, rfl, by omega, h0⟩
/-- Values are bytes. -/
def Bytes (l : List Pp) : Prop := ∀ p ∈ l, 0 ≤ p.v ∧ p.v ≤ 255
def good1 (p : Pp) : Bool := decide (0 ≤ p.lo ∧ p.hi ≤ 1114111 ∧ p.lo ≤ p.hi)
theorem good1_iff {p : Pp} : good1 p = true ↔ 0 ≤ p.lo ∧ p.hi ≤ 1114111 ∧ p.lo ≤ p.hi := by simp [good1]
def firstB (l : List Pp) : List (List Int) := firstsOf (blocksF (valP l))
def likeB (l : List Pp) : List Int := (likeOf (blocksF (valP l))).map (fun k : Nat => (k : Int))
/-- What Build answers. -/
def errB (l : List Pp) : Int := if 4096 < l.length then 3 else if l.all good1 = false then 1 else if 256 < (firstB l).length then 3 else 0

theorem val_bytes {l : List Pp} (h : Bytes l) (r : Int) : 0 ≤ valP l r ∧ valP l r ≤ 255 := by
  rcases val_cases l r with e | ⟨p, hp, _, e⟩
  · rw [e]; omega
  · rw [e]; exact h p hp
theorem firstB_isB {l : List Pp} (h : Bytes l) : ∀ b ∈ firstB l, IsB b := fun b hb => by
  have hm := firsts_mem.1 hb
  obtain ⟨k, _, rfl⟩ := List.mem_map.1 hm
  refine ⟨blkF_length _ _, fun x hx => ?_⟩
  obtain ⟨i, _, rfl⟩ := List.mem_map.1 hx
  exact val_bytes h _
theorem blocksF_ne (f : Int → Int) : blocksF f ≠ [] := fun e => by
  have := blocksF_length f
  rw [e] at this
  simp at this
theorem like_bounds (bs : List (List Int)) : ∀ x ∈ (likeOf bs).map (fun k : Nat => (k : Int)), 0 ≤ x ∧ x < ((firstsOf bs).length : Int) := fun x hx => by
  obtain ⟨k, hk, rfl⟩ := List.mem_map.1 hx
  obtain ⟨i, hi, rfl⟩ := List.getElem_of_mem hk
  have h3 := like_lt (bs := bs) (k := i) (by rw [like_length] at hi; exact hi)
  exact ⟨Int.natCast_nonneg _, Int.ofNat_lt.2 h3⟩
theorem fineB {l : List Pp} (h : Bytes l) (h2 : (firstB l).length ≤ 256) : Fine (likeB l) (firstB l) where
  len := by unfold likeB; rw [List.length_map, like_length, blocksF_length]
  lt := like_bounds _
  isB := firstB_isB h
  pos := firsts_pos (blocksF_ne _)
  le := h2
theorem withP_val (l : List Pp) (p : Pp) : withP (valP l) p = valP (l ++ [p]) := by
  funext r
  rw [val_snoc]
  rfl
set_option maxRecDepth 10000 in
theorem says_zero : Says (valP []) zeros [zeroB] := by
  refine ⟨zeros_length, fun i hi => ⟨0, ?_, ?_⟩⟩
  · unfold zeros
    rw [List.getElem?_replicate, if_pos hi]
  · have : blkF (valP []) i = zeroB := by
      unfold blkF zeroB
      rw [List.eq_replicate_iff]
      refine ⟨by rw [List.length_map, List.length_range], fun y hy => ?_⟩
      obtain ⟨j, _, rfl⟩ := List.mem_map.1 hy
      rfl
    rw [this]
    rfl

set_option maxRecDepth 100000 in
set_option maxHeartbeats 4000000 in
theorem build_any (l : List Pp) (v : Value) (w : World) (hv : PropsIn w v l) (hby : Bytes l) :
    Calls Try.prog 43 #[v] w fun e w' => ∃ pv, e = .returned (.tuple #[pv, .int .i64 (errB l)]) ∧ (errB l ≠ 0 → pv = .pointer none) ∧ (errB l = 0 → TrieAt w'.heap.size w' pv (likeB l) (firstB l)) ∧ Below w.heap.size w w' := by
  have HV : Hid (PropsIn w v l) := hv
  obtain ⟨a, cap, rfl, hc, hcell⟩ := hv
  have HC : Hid (∀ i, (h : i < l.length) → ∃ g off, a = some ⟨g, off, none⟩ ∧ g < w.heap.size ∧ w.cell? ⟨g, off + i * 3, none⟩ = some (.int .i64 l[i].lo) ∧ w.cell? ⟨g, off + i * 3 + 1, none⟩ = some (.int .i64 l[i].hi) ∧ w.cell? ⟨g, off + i * 3 + 2, none⟩ = some (.int .u8 l[i].v)) := hcell
  clear hcell
  obtain ⟨er, her⟩ : ∃ er, er = errB l := ⟨_, rfl⟩
  rw [← her]
  have HER : Hid (er = errB l) := her
  clear her
  by_cases h4 : 4096 < l.length
  · have h4' : (4096 : Int) < (l.length : Int) := by omega
    have e3 : er = 3 := by rw [HER.out]; unfold errB; rw [if_pos h4]
    subst e3
    go_enter Try.func43, Try.ntmps43
    go_wp2
    go_ret2
    exact ⟨_, rfl, fun _ => rfl, fun h => by omega, Below.refl _ _⟩
  · have h4' : ¬ ((4096 : Int) < (l.length : Int)) := by omega
    go_enter Try.func43, Try.ntmps43
    go_wp2
    go_loopw [14] (fun x wr => ∃ k : Nat, k ≤ l.length ∧ x = .int .i64 k ∧ (∀ i, (h : i < l.length) → i < k → good1 l[i] = true) ∧ Below w.heap.size w wr) (fun x _ => l.length - (intOf x).toNat)
    case atStart => exact ⟨0, Nat.zero_le _, rfl, fun i h q => by omega, Below.refl _ _⟩
    case round =>
      obtain ⟨k, hk, rfl, hgd, hB⟩ := hrel
      have HGD : Hid (∀ i, (h : i < l.length) → i < k → good1 l[i] = true) := hgd
      have hbs := hB.size
      clear hgd
      by_cases hlt : k < l.length
      · obtain ⟨g, off, rfl, hg, c0, c1, c2⟩ := HC.out k hlt
        obtain ⟨p, hp⟩ : ∃ p, p = l[k] := ⟨_, rfl⟩
        rw [← hp] at c0 c1 c2
        have HP : Hid (p = l[k]) := hp
        have q0 : wr.cell? ⟨g, off + k * 3, none⟩ = some (.int .i64 p.lo) := (hB.cell (p := ⟨g, _, none⟩) hg).trans c0
        have q1 : wr.cell? ⟨g, off + k * 3 + 1, none⟩ = some (.int .i64 p.hi) := (hB.cell (p := ⟨g, _, none⟩) hg).trans c1
        have q2 : wr.cell? ⟨g, off + k * 3 + 2, none⟩ = some (.int .u8 p.v) := (hB.cell (p := ⟨g, _, none⟩) hg).trans c2
        have HB : Hid (Below w.heap.size w wr) := hB
        have hlt' : (k : Int) < (l.length : Int) := by omega
        clear c0 c1 c2 hp hB
        by_cases hgood : good1 p = true
        · obtain ⟨g1, g2, g3⟩ := good1_iff.1 hgood
          have n1 : ¬ (p.lo < 0) := by omega
          have n2 : ¬ (1114111 < p.hi) := by omega
          have n3 : ¬ (p.hi < p.lo) := by omega
          have HGO : Hid (good1 p = true) := hgood
          clear hgood
          go_wp2
          go_roundw
          case rel =>
            refine ⟨k + 1, by omega, by go_num, fun i h q => ?_, ?_⟩
            · by_cases e : i = k
              · subst e; rw [← HP.out]; exact HGO.out
              · exact HGD.out i h (by omega)
            · exact HB.out.alloc (by omega) _
          case measure => simp [intOf]; omega
        · have e1 : er = 1 := by
            have hall : l.all good1 = false := by
              rw [← Bool.not_eq_true]
              intro h
              exact hgood (by rw [HP.out]; exact List.all_eq_true.1 h _ (List.getElem_mem hlt))
            rw [HER.out]; unfold errB; rw [if_neg h4, if_pos hall]
          subst e1
          have hor : p.lo < 0 ∨ ¬ (p.lo < 0) ∧ 1114111 < p.hi ∨ ¬ (p.lo < 0) ∧ ¬ (1114111 < p.hi) ∧ p.hi < p.lo := by
            rw [good1_iff] at hgood
            omega
          clear hgood
          rcases hor with n1 | ⟨n1, n2⟩ | ⟨n1, n2, n3⟩
          · go_wp2
            go_ret2
            first | exact ⟨_, rfl, fun _ => rfl, fun h => by omega, HB.out.alloc (by omega) _⟩ | exact ⟨_, rfl, rfl, HB.out.alloc (by omega) _⟩
          · go_wp2
            go_ret2
            first | exact ⟨_, rfl, fun _ => rfl, fun h => by omega, HB.out.alloc (by omega) _⟩ | exact ⟨_, rfl, rfl, HB.out.alloc (by omega) _⟩
          · go_wp2
            go_ret2
            first | exact ⟨_, rfl, fun _ => rfl, fun h => by omega, HB.out.alloc (by omega) _⟩ | exact ⟨_, rfl, rfl, HB.out.alloc (by omega) _⟩
      · have hlt' : ¬ ((k : Int) < (l.length : Int)) := by omega
        have HALL : Hid (∀ p ∈ l, 0 ≤ p.lo ∧ p.hi ≤ 1114111 ∧ p.lo ≤ p.hi) := fun p hp => by
          obtain ⟨i, hi, rfl⟩ := List.getElem_of_mem hp
          exact good1_iff.1 (HGD.out i hi (by omega))
        have HB : Hid (Below w.heap.size w wr) := hB
        clear hB
        obtain ⟨w0, rfl⟩ : ∃ w0, w0 = wr := ⟨_, rfl⟩
        go_wp2_with fail
        refine (newDraft_any w0).mono ?_
        rintro e w1 ⟨gd, rfl, hd1, hB1⟩
        have hs1 := hB1.size
        obtain ⟨HD1, HB1⟩ : Hid (DrAt w0.heap.size w1 gd zeros [zeroB]) ∧ Hid (Below w.heap.size w w1) := ⟨hd1, HB.out.trans (hB1.mono hbs)⟩
        clear hd1 hB1 HB
        go_wp2
        go_loopw [37] (fun x wr => ∃ k : Nat, k ≤ l.length ∧ x = .int .i64 k ∧ ∃ like bl, DrAt w0.heap.size wr gd like bl ∧ Says (valP (l.take k)) like bl ∧ bl.length ≤ 1 + 5000 * k ∧ Below w.heap.size w wr ∧ w0.heap.size ≤ wr.heap.size) (fun x _ => l.length - (intOf x).toNat)
        case atStart => exact ⟨0, Nat.zero_le _, rfl, zeros, [zeroB], HD1.out, says_zero, by simp, HB1.out, by omega⟩
        case round =>
          obtain ⟨j, hj, rfl, like, bl, hd, hsy, hbl, hB, hsz⟩ := hrel
          obtain ⟨HD, HSY, HB⟩ : Hid (DrAt w0.heap.size wr gd like bl) ∧ Hid (Says (valP (l.take j)) like bl) ∧ Hid (Below w.heap.size w wr) := ⟨hd, hsy, hB⟩
          clear hd hsy HD1 HB1
          by_cases hjl : j < l.length
          · obtain ⟨g, off, rfl, hg, c0, c1, c2⟩ := HC.out j hjl
            obtain ⟨p, hp⟩ : ∃ p, p = l[j] := ⟨_, rfl⟩
            rw [← hp] at c0 c1 c2
            have HP : Hid (p = l[j]) := hp
            have q0 : wr.cell? ⟨g, off + j * 3, none⟩ = some (.int .i64 p.lo) := (hB.cell (p := ⟨g, _, none⟩) hg).trans c0
            have q1 : wr.cell? ⟨g, off + j * 3 + 1, none⟩ = some (.int .i64 p.hi) := (hB.cell (p := ⟨g, _, none⟩) hg).trans c1
            have q2 : wr.cell? ⟨g, off + j * 3 + 2, none⟩ = some (.int .u8 p.v) := (hB.cell (p := ⟨g, _, none⟩) hg).trans c2
            have hjl' : (j : Int) < (l.length : Int) := by omega
            have hpm : p ∈ l := by rw [hp]; exact List.getElem_mem hjl
            obtain ⟨g1, g2, g3⟩ := HALL.out p hpm
            have hpv := hby p hpm
            clear c0 c1 c2 hp hB
            go_wp2_with fail
            have hBa : Below wr.heap.size wr (wr.alloc (.cells #[.int .i64 p.lo, .int .i64 p.hi, .int .u8 p.v] 66)) := (Below.refl _ _).alloc (Nat.le_refl _) _
            refine (put_any w0.heap.size gd like bl (valP (l.take j)) p _ (HD.out.below hBa) HSY.out g1 g3 g2 hpv (by omega) (by simp; omega)).mono ?_
            rintro e w3 ⟨rfl, like3, bl3, hd3, hs3, hl3, hB3⟩
            have hsz3 := hB3.size
            obtain ⟨HD3, HS3, HB3⟩ : Hid (DrAt w0.heap.size w3 gd like3 bl3) ∧ Hid (Says (valP (l.take (j + 1))) like3 bl3) ∧ Hid (Below w.heap.size w w3) := by
              refine ⟨hd3, ?_, ?_⟩
              · show Says _ _ _
                rw [List.take_succ_eq_append_getElem hjl, ← HP.out, ← withP_val]
                exact hs3
              · exact (HB.out.alloc (by omega) _).trans (hB3.mono hbs)
            clear hd3 hs3 hB3 hBa
            go_wp2
            go_roundw
            case rel => exact ⟨j + 1, by omega, by go_num, like3, bl3, HD3.out, HS3.out, by omega, HB3.out, by simp at hsz3; omega⟩
            case measure => simp [intOf]; omega
          · have hjl' : ¬ ((j : Int) < (l.length : Int)) := by omega
            have ej : l.take j = l := List.take_of_length_le (by omega)
            go_wp2_with fail
            refine (finish_any w0.heap.size gd like bl (valP l) wr HD.out (by have := HSY.out; rwa [ej] at this) (by omega)).mono ?_
            have hall : ¬ (l.all good1 = false) := by
              rw [Bool.not_eq_false]
              exact List.all_eq_true.2 (fun p hp => good1_iff.2 (HALL.out p hp))
            rintro e w3 ⟨⟨pv, rfl, h256, htr⟩ | ⟨rfl, h256⟩, hB3⟩
            · have e0 : er = 0 := by
                rw [HER.out]; unfold errB firstB; rw [if_neg h4, if_neg hall, if_neg (by omega)]
              subst e0
              clear hall
              go_wp2
              go_ret2
              first | exact ⟨pv, rfl, fun h => absurd rfl h, fun _ => htr, HB.out.trans (hB3.mono (by omega))⟩ | exact ⟨pv, rfl, htr, HB.out.trans (hB3.mono (by omega))⟩
            · have e0 : er = 3 := by
                rw [HER.out]; unfold errB firstB; rw [if_neg h4, if_neg hall, if_pos h256]
              subst e0
              clear hall
              go_wp2
              go_ret2
              exact ⟨_, rfl, fun _ => rfl, fun h => by omega, HB.out.trans (hB3.mono (by omega))⟩
end Go.Proofs.Ytmknifnhcgdkaaa.S3
