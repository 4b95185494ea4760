/-
  The document's rising lists: a number put to one, and two put together.
-/
import Derived.Test.YtehkaiohmcenbaaDoorGC
namespace Go.Proofs.YtehkaiohmcenbaaDoor
open Go.RowKit Go.Shelf
set_option linter.unusedVariables false
set_option linter.unusedSimpArgs false

/-- A rising list is its members. -/
theorem ris_same : ∀ (a b : List Nat), a.Pairwise (· < ·) → b.Pairwise (· < ·) → (∀ x, x ∈ a ↔ x ∈ b) → a = b
  | [], [], _, _, _ => rfl
  | [], y :: b, _, _, h => absurd ((h y).2 (by simp)) (by simp)
  | x :: a, [], _, _, h => absurd ((h x).1 (by simp)) (by simp)
  | x :: a, y :: b, ha, hb, h => by
    obtain ⟨a1, a2⟩ := List.pairwise_cons.1 ha
    obtain ⟨b1, b2⟩ := List.pairwise_cons.1 hb
    have e : x = y := by
      have h1 := (h x).1 (by simp)
      have h2 := (h y).2 (by simp)
      rcases List.mem_cons.1 h1 with h1 | h1
      · exact h1
      · rcases List.mem_cons.1 h2 with h2 | h2
        · exact h2.symm
        · have := b1 _ h1; have := a1 _ h2; omega
    subst e
    rw [ris_same a b a2 b2 (fun z => ?_)]
    have := h z
    simp only [List.mem_cons] at this
    constructor
    · intro hz
      rcases this.1 (.inr hz) with q | q
      · have := a1 z hz; omega
      · exact q
    · intro hz
      rcases this.2 (.inr hz) with q | q
      · have := b1 z hz; omega
      · exact q
theorem risN_len {l : List Nat} (h : l.Pairwise (· < ·)) {N : Nat} (hN : ∀ x ∈ l, x < N) : l.length ≤ N := by
  have e : l = rgF (fun x => l.contains x) N := ris_same _ _ h (rgF_ris _ _) (fun x => by
    rw [rgF_mem]; simp
    exact fun hx => hN x hx)
  rw [e]; exact rgF_len _ _
/-- The list l' is l with p, rising. -/
def PutR (l : List Nat) (p : Nat) (l' : List Nat) : Prop := l'.Pairwise (· < ·) ∧ ∀ x, x ∈ l' ↔ (x ∈ l ∨ x = p)
theorem put_in {l : List Nat} {p : Nat} (hr : l.Pairwise (· < ·)) (hp : p ∈ l) : PutR l p l := ⟨hr, fun x => ⟨fun h => .inl h, fun h => by rcases h with h | rfl; exact h; exact hp⟩⟩
theorem put_mid {l : List Nat} {p j : Nat} (hr : l.Pairwise (· < ·)) (hlo : ∀ x ∈ l.take j, x < p) (hhi : ∀ x ∈ l.drop j, p < x) : PutR l p (l.take j ++ [p] ++ l.drop j) := by
  refine ⟨?_, fun x => ?_⟩
  · rw [List.append_assoc, List.pairwise_append]
    refine ⟨hr.sublist (List.take_sublist _ _), ?_, fun a ha b hb => ?_⟩
    · rw [List.singleton_append, List.pairwise_cons]
      exact ⟨hhi, hr.sublist (List.drop_sublist _ _)⟩
    · have h1 := hlo a ha
      rcases List.mem_cons.1 hb with rfl | hb
      · exact h1
      · have := hhi b hb; omega
  · have e : x ∈ l ↔ (x ∈ l.take j ∨ x ∈ l.drop j) := by rw [← List.mem_append, List.take_append_drop]
    rw [e]
    simp only [List.mem_append, List.mem_singleton]
    constructor
    · rintro ((h | h) | h)
      · exact .inl (.inl h)
      · exact .inr h
      · exact .inl (.inr h)
    · rintro ((h | h) | h)
      · exact .inl (.inl h)
      · exact .inr h
      · exact .inl (.inr h)
theorem drop_hi {l : List Nat} {p j : Nat} (hr : l.Pairwise (· < ·)) (hj : j < l.length) (h : p < l[j]) : ∀ x ∈ l.drop j, p < x := fun x hx => by
  obtain ⟨i, hi, rfl⟩ := List.getElem_of_mem hx
  rw [List.getElem_drop]
  by_cases q : i = 0
  · subst q; exact h
  · have hi2 : j + i < l.length := by rw [List.length_drop] at hi; omega
    have := (List.pairwise_iff_getElem.1 hr) j (j + i) hj hi2 (by omega)
    omega
theorem src_take {w : World} {B : Nat} {ad : Addr} {len cap : Nat} {l : List Nat} (h : LstAt B w (.slice (some ad) len cap) l) (hl : len = l.length) {j : Nat} (hj : j ≤ len) : SrcIs w (.slice (some ad) j cap) j 1 (cellP (l.take j)) := by
  have hp := h.plc.src
  rw [← hl] at hp
  rcases hp with ⟨e, _⟩ | ⟨ad', c, e, h1, h2, h3⟩
  · cases e
  · obtain ⟨rfl, rfl⟩ : ad = ad' ∧ cap = c := by simpa using e
    have hle : (l.take j).length = j := by rw [List.length_take]; omega
    refine .inr ⟨ad, cap, rfl, by simp [cellP]; omega, fun i u hu => ?_, fun u hu => ?_⟩
    · refine h2 i u ?_
      have hi : i < j := by
        have := (List.getElem?_eq_some_iff.1 hu).1
        simp [cellP] at this; omega
      simp only [cellP, List.getElem?_map, List.getElem?_take, if_pos hi] at hu ⊢
      exact hu
    · simp only [cellP, List.mem_map] at hu
      obtain ⟨x, _, rfl⟩ := hu
      rfl
theorem src_drop {w : World} {B : Nat} {ad : Addr} {len cap : Nat} {l : List Nat} (h : LstAt B w (.slice (some ad) len cap) l) (hl : len = l.length) {j : Nat} (hj : j ≤ len) : SrcIs w (.slice (if cap = j then some ad else some (ad.add j)) (len - j) (cap - j)) (len - j) 1 (cellP (l.drop j)) := by
  have hp := h.plc.src
  have hcap : len ≤ cap := by
    obtain ⟨a, c, e, hc, _⟩ := h
    obtain ⟨_, _, rfl⟩ : some ad = a ∧ len = l.length ∧ cap = c := by simpa using e
    omega
  rw [← hl] at hp
  rcases hp with ⟨e, _⟩ | ⟨ad', c, e, h1, h2, h3⟩
  · cases e
  · obtain ⟨rfl, rfl⟩ : ad = ad' ∧ cap = c := by simpa using e
    have hle : (l.drop j).length = len - j := by rw [List.length_drop]; omega
    have ex : (if cap = j then some ad else some (ad.add j)) = some (if cap = j then ad else ad.add j) := by split <;> rfl
    rw [ex]
    refine .inr ⟨_, cap - j, rfl, by simp [cellP]; omega, fun i u hu => ?_, fun u hu => ?_⟩
    · have hi : i < len - j := by
        have := (List.getElem?_eq_some_iff.1 hu).1
        simp [cellP] at this; omega
      rw [if_neg (by omega)]
      have := h2 (j + i) u (by
        simp only [cellP, List.getElem?_map, List.getElem?_drop] at hu ⊢
        exact hu)
      have ea : (ad.add j).add i = ad.add (j + i) := by
        obtain ⟨g, off, cs, fr, e2, _⟩ := (show ∃ g off cs fr, some ad = some ⟨g, off, none⟩ ∧ B ≤ g ∧ w.heap[g]? = some (.cells cs 3 fr) ∧ True from by
          obtain ⟨a, c, e, hc, hn, hx⟩ := h
          obtain ⟨rfl, _, rfl⟩ : some ad = a ∧ len = l.length ∧ cap = c := by simpa using e
          obtain ⟨g, off, cs, fr, r1, r2, r3, _⟩ := hx (by omega)
          exact ⟨g, off, cs, fr, r1, r2, r3, trivial⟩)
        injection e2 with e2
        subst e2
        simp [addr_add, Nat.add_assoc]
      rw [ea]
      exact this
    · simp only [cellP, List.mem_map] at hu
      obtain ⟨x, _, rfl⟩ := hu
      rfl

theorem src_as {w : World} {x y : Value} {m s : Nat} {l : List Value} (h : SrcIs w x m s l) (e : y = x) : SrcIs w y m s l := e ▸ h
theorem put_o2 {w w2 : World} {v2 : Value} {i : Nat} {xs : List Value} (h : w2.ownsRow w.heap.size 3 1 v2 (0 + i) ([] ++ xs)) : w2.ownsRow w.heap.size 3 1 v2 i xs := by simpa using h
theorem put_b2 {w w2 : World} {o : Obj} {n : Nat} (h : (w.alloc o).grownBy w2 (Value.slice (some ⟨w.heap.size, 0, none⟩) n n).ownBlock) : Below w.heap.size w w2 := (below_alloc w _).grown h (by simp) (fun q e => by
  have e2 : some w.heap.size = some q := e
  injection e2 with e2
  omega)
theorem put_b3 {w w2 w3 : World} {v2 : Value} {n : Nat} {xs : List Value} {o : Obj} (hB : Below w.heap.size w w2) (ho : w2.ownsRow w.heap.size 3 1 v2 n xs) (h : (w2.alloc o).grownBy w3 v2.ownBlock) : Below w.heap.size w w3 := (hB.alloc hB.size _).grown h (by have := hB.size; simp; omega) (fun q e => (ho.lt q e).1)

/-- The slice's block is one that Q takes. -/
def InQ (Q : Nat → Prop) (v : Value) : Prop := ∀ g off n c, v = .slice (some ⟨g, off, none⟩) n c → Q g
/-- The list l' (at v') lies where l (at v) lies, or in new memory. -/
def Kin (b : Nat) (v : Value) (l : List Nat) (v' : Value) (l' : List Nat) : Prop := ∀ Q : Nat → Prop, (∀ g, b ≤ g → Q g) → (l ≠ [] → InQ Q v) → l' ≠ [] → InQ Q v'
theorem Kin.refl (b : Nat) (v : Value) (l : List Nat) : Kin b v l v l := fun _ _ h => h
theorem Kin.trans {b b' : Nat} {v v' v'' : Value} {l l' l'' : List Nat} (h : Kin b v l v' l') (k : Kin b' v' l' v'' l'') (hb : b ≤ b') : Kin b v l v'' l'' := fun Q hQ hv => k Q (fun g hg => hQ g (by omega)) (h Q hQ hv)
theorem kin_row {w : World} {base n : Nat} {v v' : Value} {l l' : List Nat} {xs : List Value} (h : w.ownsRow base 3 1 v' n xs) : Kin base v l v' l' := fun Q hQ _ _ g off m c e => by
  rcases h.2 with ⟨rfl, _⟩ | ⟨g', cap, cur, e2, hb, _⟩
  · cases e
  · rw [e2] at e
    obtain ⟨⟨rfl, _⟩, _⟩ : (g' = g ∧ 0 = off) ∧ _ := by simpa using e
    exact hQ _ hb

set_option maxRecDepth 100000 in
set_option maxHeartbeats 4000000 in
theorem put_any (v : Value) (l : List Nat) (p B : Nat) (w : World) (hv : LstAt B w v l) (hB : B ≤ w.heap.size) (hr : l.Pairwise (· < ·)) (hl : l.length ≤ 2000) :
    Calls Tryd.prog 79 #[v, .int .i64 (p : Int)] w fun e w' => ∃ v', e = .returned v' ∧ ∃ l', LstAt B w' v' l' ∧ PutR l p l' ∧ Kin w.heap.size v l v' l' ∧ Below w.heap.size w w' := by
  obtain ⟨i0, hi0, hz0, hz1, hz2⟩ := info_parts Tryd.infoInt
  have HV : Hid (LstAt B w v l) := hv
  have HR : Hid (l.Pairwise (· < ·)) := hr
  obtain ⟨a, c, hev⟩ := hv.slice
  subst hev
  obtain ⟨len, hle⟩ : ∃ n, n = l.length := ⟨_, rfl⟩
  have HLE : Hid (len = l.length) := hle
  rw [← hle] at hl HV ⊢
  clear hle hv hr
  have hcap : len ≤ c := by
    obtain ⟨a', c', e, hc, _⟩ := HV.out
    obtain ⟨_, _, rfl⟩ : a = a' ∧ len = l.length ∧ c = c' := by simpa using e
    rw [HLE.out]; exact hc
  go_enter Tryd.func79, Tryd.ntmps79
  go_wp2
  go_loopw [5] (fun x5 wr => ∃ (i : Nat), i ≤ len ∧ x5 = .int .i64 (i : Int) ∧ Hid (∀ x ∈ l.take i, x < p) ∧ wr = w) (fun x5 _ => len - (intOf x5).toNat)
  case atStart => exact ⟨0, Nat.zero_le _, rfl, (fun x hx => by simp at hx), rfl⟩
  case round =>
    obtain ⟨i, hi, rfl, HNI, hwr⟩ := hrel
    have hwr' := hwr.symm
    subst hwr'
    by_cases hil : i < len
    · have hin : i < l.length := by rw [← HLE.out]; exact hil
      obtain ⟨ga, oa, rfl, _, hga, e1⟩ := HV.out.plc.at HLE.out hin
      obtain ⟨y, hy⟩ : ∃ y, y = l[i] := ⟨_, rfl⟩
      have HY : Hid (y = l[i]) := hy
      rw [← hy] at e1
      have hii0 : (0 : Int) ≤ (i : Int) := by omega
      have hi1 : (i : Int) < (len : Int) := by omega
      clear hy
      by_cases hyp : y < p
      · have HN2 : Hid (∀ x ∈ l.take (i + 1), x < p) := fun x hx => by
          rw [List.take_add_one, List.getElem?_eq_getElem hin, ← HY.out] at hx
          simp only [Option.toList_some, List.mem_append, List.mem_singleton] at hx
          rcases hx with hx | rfl
          · exact HNI.out x hx
          · exact hyp
        go_wp2
        go_roundw
        case rel => exact ⟨i + 1, by omega, by go_num, HN2, by first | exact rfl | trivial⟩
        case measure => simp [intOf]; omega
      · by_cases hpe : y = p
        · subst hpe
          have HM : Hid (y ∈ l) := by show _ ∈ _; rw [HY.out]; exact List.getElem_mem hin
          go_wp2
          go_ret
          exact ⟨_, rfl, l, HV.out, put_in HR.out HM.out, Kin.refl _ _ _, Below.refl _ _⟩
        · have HPR : Hid (PutR l p (l.take i ++ [p] ++ l.drop i)) := put_mid HR.out HNI.out (drop_hi HR.out hin (by rw [← HY.out]; omega))
          have hne : ((y : Int) == (p : Int)) = false := beq_eq_false_iff_ne.2 (by omega)
          have HS1 : Hid (∀ o, SrcIs (w.alloc o) (.slice (some ⟨ga, oa, none⟩) i c) i 1 (cellP (l.take i))) := fun o => src_take (HV.out.below (below_alloc w o)) HLE.out (by omega)
          have HS3 : Hid (∀ W, Below w.heap.size w W → SrcIs W (.slice (if c = i then some ⟨ga, oa, none⟩ else some ((⟨ga, oa, none⟩ : Addr).add i)) (len - i) (c - i)) (len - i) 1 (cellP (l.drop i))) := fun W hW => src_drop (HV.out.below hW) HLE.out (by omega)
          have hic : (i : Int) ≤ (c : Int) := by omega
          have hil2 : (i : Int) ≤ (len : Int) := by omega
          have hin0 : (0 : Int) ≤ (i : Int) := by omega
          go_wp2_with (first
            | (at_builtin; have HQ := HO3.out; go_must (refine wpList_append_src _ rfl _ _ 27 rfl w.heap.size 3 i0 (.int .i64 0) 1 8 Tryd.underlying27 hi0 hz0 hz1 hz2 rfl (by decide) _ _ _ rfl HQ _ rfl (len - i) (cellP (l.drop i)) (src_as (HS3.out _ HB3.out) (by first | rfl | (show Value.slice _ _ _ = Value.slice _ _ _; first | rfl | (simp [addr_add]; done) | (simp [addr_add]; omega) | (simp; done)))) (by unfold maxLen; omega) (by omega) hws3 ?_); intro v4 w4 ho4 hg4)
            | (at_builtin; have HQ := HO2.out.alloc (.cells #[.int .i64 (p : Int)] 3); go_must (refine wpList_append_own _ rfl _ _ 27 rfl w.heap.size 3 i0 (.int .i64 0) 1 8 Tryd.underlying27 hi0 hz0 hz1 hz2 rfl (by decide) _ _ _ rfl HQ ⟨w2.heap.size, 0, none⟩ 1 1 [.int .i64 (p : Int)] rfl rfl (World.news_of_block (by exact heap_new' _ _)) (by simp [Value.oneCell']) (by unfold maxLen; omega) (by omega) (by simp; omega) ?_); intro v3 w3 ho3 hg3 _; have HO3 : Hid (w3.ownsRow w.heap.size 3 1 v3 (i + 1) (cellP (l.take i) ++ [.int .i64 (p : Int)])) := ho3; have HB3 : Hid (Below w.heap.size w w3) := put_b3 HB2.out HO2.out hg3; have hws3 : w.heap.size ≤ w3.heap.size := HB3.out.size; clear ho3 hg3)
            | (at_builtin; go_must (refine wpList_append_src _ rfl _ _ 27 rfl w.heap.size 3 i0 (.int .i64 0) 1 8 Tryd.underlying27 hi0 hz0 hz1 hz2 rfl (by decide) _ _ _ rfl (World.ownsRow_made w #[] 0 (Nat.le_refl _) (Nat.zero_le _) (by simp)) _ rfl i (cellP (l.take i)) (HS1.out _) (by unfold maxLen; omega) (by omega) (by simp) ?_); intro v2 w2 ho2 hg2; have HO2 : Hid (w2.ownsRow w.heap.size 3 1 v2 i (cellP (l.take i))) := put_o2 ho2; have HB2 : Hid (Below w.heap.size w w2) := put_b2 hg2; have hws2 : w.heap.size ≤ w2.heap.size := HB2.out.size; clear ho2 hg2))
          have HO4 : Hid (w4.ownsRow w.heap.size 3 1 v4 (l.take i ++ [p] ++ l.drop i).length (cellP (l.take i ++ [p] ++ l.drop i))) := by
            show w4.ownsRow _ _ _ _ _ _
            rw [cellP_append, cellP_append]
            have e : (l.take i ++ [p] ++ l.drop i).length = i + 1 + (len - i) := by
              have := HLE.out
              simp only [List.length_append, List.length_take, List.length_drop, List.length_cons, List.length_nil]
              omega
            rw [e]
            exact ho4
          have HB4 : Hid (Below w.heap.size w w4) := HB3.out.grown hg4 hws3 (fun q e => (HO3.out.lt q e).1)
          clear ho4 hg4
          go_wp2
          go_ret
          exact ⟨_, rfl, _, lst_of_row HO4.out hB, HPR.out, kin_row HO4.out, HB4.out⟩
    · have HEL : Hid (i = len) := by show _ = _; omega
      have HPR : Hid (PutR l p (l.take i ++ [p] ++ l.drop i)) := put_mid HR.out HNI.out (fun x hx => by
        rw [List.drop_of_length_le (by rw [← HLE.out, HEL.out]; exact Nat.le_refl _)] at hx
        cases hx)
      cases a with
      | some ad =>
        by_cases hci : c = i
        · have hci' := hci.symm
          subst hci'
          have HS1 : Hid (∀ o, SrcIs (w.alloc o) (.slice (some ad) i i) i 1 (cellP (l.take i))) := fun o => src_take (HV.out.below (below_alloc w o)) HLE.out (by omega)
          have HS3 : Hid (∀ W, Below w.heap.size w W → SrcIs W (.slice (some ad) (len - i) (i - i)) (len - i) 1 (cellP (l.drop i))) := fun W hW => by
            have := src_drop (HV.out.below hW) HLE.out (j := i) (by omega)
            rw [if_pos rfl] at this
            exact this
          have hic : (i : Int) ≤ (i : Int) := by omega
          have hil2 : (i : Int) ≤ (len : Int) := by omega
          have hin0 : (0 : Int) ≤ (i : Int) := by omega
          go_wp2_with (first
            | (at_builtin; have HQ := HO3.out; go_must (refine wpList_append_src _ rfl _ _ 27 rfl w.heap.size 3 i0 (.int .i64 0) 1 8 Tryd.underlying27 hi0 hz0 hz1 hz2 rfl (by decide) _ _ _ rfl HQ _ rfl (len - i) (cellP (l.drop i)) (src_as (HS3.out _ HB3.out) (by first | rfl | (show Value.slice _ _ _ = Value.slice _ _ _; first | rfl | (simp [addr_add]; done) | (simp [addr_add]; omega) | (simp; done)))) (by unfold maxLen; omega) (by omega) hws3 ?_); intro v4 w4 ho4 hg4)
            | (at_builtin; have HQ := HO2.out.alloc (.cells #[.int .i64 (p : Int)] 3); go_must (refine wpList_append_own _ rfl _ _ 27 rfl w.heap.size 3 i0 (.int .i64 0) 1 8 Tryd.underlying27 hi0 hz0 hz1 hz2 rfl (by decide) _ _ _ rfl HQ ⟨w2.heap.size, 0, none⟩ 1 1 [.int .i64 (p : Int)] rfl rfl (World.news_of_block (by exact heap_new' _ _)) (by simp [Value.oneCell']) (by unfold maxLen; omega) (by omega) (by simp; omega) ?_); intro v3 w3 ho3 hg3 _; have HO3 : Hid (w3.ownsRow w.heap.size 3 1 v3 (i + 1) (cellP (l.take i) ++ [.int .i64 (p : Int)])) := ho3; have HB3 : Hid (Below w.heap.size w w3) := put_b3 HB2.out HO2.out hg3; have hws3 : w.heap.size ≤ w3.heap.size := HB3.out.size; clear ho3 hg3)
            | (at_builtin; go_must (refine wpList_append_src _ rfl _ _ 27 rfl w.heap.size 3 i0 (.int .i64 0) 1 8 Tryd.underlying27 hi0 hz0 hz1 hz2 rfl (by decide) _ _ _ rfl (World.ownsRow_made w #[] 0 (Nat.le_refl _) (Nat.zero_le _) (by simp)) _ rfl i (cellP (l.take i)) (HS1.out _) (by unfold maxLen; omega) (by omega) (by simp) ?_); intro v2 w2 ho2 hg2; have HO2 : Hid (w2.ownsRow w.heap.size 3 1 v2 i (cellP (l.take i))) := put_o2 ho2; have HB2 : Hid (Below w.heap.size w w2) := put_b2 hg2; have hws2 : w.heap.size ≤ w2.heap.size := HB2.out.size; clear ho2 hg2))
          have HO4 : Hid (w4.ownsRow w.heap.size 3 1 v4 (l.take i ++ [p] ++ l.drop i).length (cellP (l.take i ++ [p] ++ l.drop i))) := by
            show w4.ownsRow _ _ _ _ _ _
            rw [cellP_append, cellP_append]
            have e : (l.take i ++ [p] ++ l.drop i).length = i + 1 + (len - i) := by
              have := HLE.out
              simp only [List.length_append, List.length_take, List.length_drop, List.length_cons, List.length_nil]
              omega
            rw [e]
            exact ho4
          have HB4 : Hid (Below w.heap.size w w4) := HB3.out.grown hg4 hws3 (fun q e => (HO3.out.lt q e).1)
          clear ho4 hg4
          go_wp2
          go_ret
          exact ⟨_, rfl, _, lst_of_row HO4.out hB, HPR.out, kin_row HO4.out, HB4.out⟩
        · skip
          have HS1 : Hid (∀ o, SrcIs (w.alloc o) (.slice (some ad) i c) i 1 (cellP (l.take i))) := fun o => src_take (HV.out.below (below_alloc w o)) HLE.out (by omega)
          have HS3 : Hid (∀ W, Below w.heap.size w W → SrcIs W (.slice (some (ad.add i)) (len - i) (c - i)) (len - i) 1 (cellP (l.drop i))) := fun W hW => by
            have := src_drop (HV.out.below hW) HLE.out (j := i) (by omega)
            rw [if_neg hci] at this
            exact this
          have hic : (i : Int) ≤ (c : Int) := by omega
          have hil2 : (i : Int) ≤ (len : Int) := by omega
          have hin0 : (0 : Int) ≤ (i : Int) := by omega
          go_wp2_with (first
            | (at_builtin; have HQ := HO3.out; go_must (refine wpList_append_src _ rfl _ _ 27 rfl w.heap.size 3 i0 (.int .i64 0) 1 8 Tryd.underlying27 hi0 hz0 hz1 hz2 rfl (by decide) _ _ _ rfl HQ _ rfl (len - i) (cellP (l.drop i)) (src_as (HS3.out _ HB3.out) (by first | rfl | (show Value.slice _ _ _ = Value.slice _ _ _; first | rfl | (simp [addr_add]; done) | (simp [addr_add]; omega) | (simp; done)))) (by unfold maxLen; omega) (by omega) hws3 ?_); intro v4 w4 ho4 hg4)
            | (at_builtin; have HQ := HO2.out.alloc (.cells #[.int .i64 (p : Int)] 3); go_must (refine wpList_append_own _ rfl _ _ 27 rfl w.heap.size 3 i0 (.int .i64 0) 1 8 Tryd.underlying27 hi0 hz0 hz1 hz2 rfl (by decide) _ _ _ rfl HQ ⟨w2.heap.size, 0, none⟩ 1 1 [.int .i64 (p : Int)] rfl rfl (World.news_of_block (by exact heap_new' _ _)) (by simp [Value.oneCell']) (by unfold maxLen; omega) (by omega) (by simp; omega) ?_); intro v3 w3 ho3 hg3 _; have HO3 : Hid (w3.ownsRow w.heap.size 3 1 v3 (i + 1) (cellP (l.take i) ++ [.int .i64 (p : Int)])) := ho3; have HB3 : Hid (Below w.heap.size w w3) := put_b3 HB2.out HO2.out hg3; have hws3 : w.heap.size ≤ w3.heap.size := HB3.out.size; clear ho3 hg3)
            | (at_builtin; go_must (refine wpList_append_src _ rfl _ _ 27 rfl w.heap.size 3 i0 (.int .i64 0) 1 8 Tryd.underlying27 hi0 hz0 hz1 hz2 rfl (by decide) _ _ _ rfl (World.ownsRow_made w #[] 0 (Nat.le_refl _) (Nat.zero_le _) (by simp)) _ rfl i (cellP (l.take i)) (HS1.out _) (by unfold maxLen; omega) (by omega) (by simp) ?_); intro v2 w2 ho2 hg2; have HO2 : Hid (w2.ownsRow w.heap.size 3 1 v2 i (cellP (l.take i))) := put_o2 ho2; have HB2 : Hid (Below w.heap.size w w2) := put_b2 hg2; have hws2 : w.heap.size ≤ w2.heap.size := HB2.out.size; clear ho2 hg2))
          have HO4 : Hid (w4.ownsRow w.heap.size 3 1 v4 (l.take i ++ [p] ++ l.drop i).length (cellP (l.take i ++ [p] ++ l.drop i))) := by
            show w4.ownsRow _ _ _ _ _ _
            rw [cellP_append, cellP_append]
            have e : (l.take i ++ [p] ++ l.drop i).length = i + 1 + (len - i) := by
              have := HLE.out
              simp only [List.length_append, List.length_take, List.length_drop, List.length_cons, List.length_nil]
              omega
            rw [e]
            exact ho4
          have HB4 : Hid (Below w.heap.size w w4) := HB3.out.grown hg4 hws3 (fun q e => (HO3.out.lt q e).1)
          clear ho4 hg4
          go_wp2
          go_ret
          exact ⟨_, rfl, _, lst_of_row HO4.out hB, HPR.out, kin_row HO4.out, HB4.out⟩
      | none =>
        have hc0 : c = 0 := by
          obtain ⟨a', c', e, hc, hn, _⟩ := HV.out
          obtain ⟨rfl, _, rfl⟩ : none = a' ∧ len = l.length ∧ c = c' := by simpa using e
          exact hn rfl
        have hl0 : len = 0 := by omega
        have hie : i = 0 := by omega
        subst hc0 hl0 hie
        have HLN : Hid (l = []) := List.length_eq_zero_iff.1 HLE.out.symm
        have HS1 : Hid (∀ W, SrcIs W (.slice none 0 0) 0 1 []) := fun W => .inl ⟨rfl, rfl, rfl⟩
        go_wp2_with (first
          | (at_builtin; have HQ := HO3.out; go_must (refine wpList_append_src _ rfl _ _ 27 rfl w.heap.size 3 i0 (.int .i64 0) 1 8 Tryd.underlying27 hi0 hz0 hz1 hz2 rfl (by decide) _ _ _ rfl HQ _ rfl 0 [] (src_as (HS1.out _) (by first | rfl | (show Value.slice _ _ _ = Value.slice _ _ _; simp))) (by unfold maxLen; omega) (by omega) hws3 ?_); intro v4 w4 ho4 hg4)
          | (at_builtin; have HQ := HO2.out.alloc (.cells #[.int .i64 (p : Int)] 3); go_must (refine wpList_append_own _ rfl _ _ 27 rfl w.heap.size 3 i0 (.int .i64 0) 1 8 Tryd.underlying27 hi0 hz0 hz1 hz2 rfl (by decide) _ _ _ rfl HQ ⟨w2.heap.size, 0, none⟩ 1 1 [.int .i64 (p : Int)] rfl rfl (World.news_of_block (by exact heap_new' _ _)) (by simp [Value.oneCell']) (by unfold maxLen; omega) (by omega) (by simp; omega) ?_); intro v3 w3 ho3 hg3 _; have HO3 : Hid (w3.ownsRow w.heap.size 3 1 v3 (0 + 1) ([] ++ [.int .i64 (p : Int)])) := ho3; have HB3 : Hid (Below w.heap.size w w3) := put_b3 HB2.out HO2.out hg3; have hws3 : w.heap.size ≤ w3.heap.size := HB3.out.size; clear ho3 hg3)
          | (at_builtin; go_must (refine wpList_append_src _ rfl _ _ 27 rfl w.heap.size 3 i0 (.int .i64 0) 1 8 Tryd.underlying27 hi0 hz0 hz1 hz2 rfl (by decide) _ _ _ rfl (World.ownsRow_made w #[] 0 (Nat.le_refl _) (Nat.zero_le _) (by simp)) _ rfl 0 [] (src_as (HS1.out _) (by first | rfl | (show Value.slice _ _ _ = Value.slice _ _ _; simp))) (by unfold maxLen; omega) (by omega) (by simp) ?_); intro v2 w2 ho2 hg2; have HO2 : Hid (w2.ownsRow w.heap.size 3 1 v2 0 []) := put_o2 ho2; have HB2 : Hid (Below w.heap.size w w2) := put_b2 hg2; have hws2 : w.heap.size ≤ w2.heap.size := HB2.out.size; clear ho2 hg2))
        have HO4 : Hid (w4.ownsRow w.heap.size 3 1 v4 (l.take 0 ++ [p] ++ l.drop 0).length (cellP (l.take 0 ++ [p] ++ l.drop 0))) := by
          show w4.ownsRow _ _ _ _ _ _
          rw [HLN.out]
          exact ho4
        have HB4 : Hid (Below w.heap.size w w4) := HB3.out.grown hg4 hws3 (fun q e => (HO3.out.lt q e).1)
        clear ho4 hg4
        go_wp2
        go_ret
        exact ⟨_, rfl, _, lst_of_row HO4.out hB, HPR.out, kin_row HO4.out, HB4.out⟩

/-- The list c has what is in a and what is in b, rising. -/
def BothR (a b c : List Nat) : Prop := c.Pairwise (· < ·) ∧ ∀ x, x ∈ c ↔ (x ∈ a ∨ x ∈ b)
set_option maxRecDepth 100000 in
set_option maxHeartbeats 4000000 in
theorem both_any (va vb : Value) (a b : List Nat) (B : Nat) (w : World) (ha : LstAt B w va a) (hb : LstAt B w vb b) (hB : B ≤ w.heap.size) (hr : a.Pairwise (· < ·)) (h1 : ∀ x ∈ a, x < 1000) (h2 : ∀ x ∈ b, x < 1000) (hbl : b.length ≤ 2000) :
    Calls Tryd.prog 70 #[va, vb] w fun e w' => ∃ v', e = .returned v' ∧ ∃ c, LstAt B w' v' c ∧ BothR a b c ∧ Kin w.heap.size va a v' c ∧ Below w.heap.size w w' := by
  have HA : Hid (LstAt B w va a) := ha
  have HV : Hid (LstAt B w vb b) := hb
  have HR : Hid (a.Pairwise (· < ·)) := hr
  have H1 : Hid (∀ x ∈ a, x < 1000) := h1
  have H2 : Hid (∀ x ∈ b, x < 1000) := h2
  obtain ⟨xb, cb, hev⟩ := hb.slice
  subst hev
  obtain ⟨len, hle⟩ : ∃ n, n = b.length := ⟨_, rfl⟩
  have HLE : Hid (len = b.length) := hle
  rw [← hle] at hbl HV ⊢
  clear hle ha hb hr h1 h2
  go_enter Tryd.func70, Tryd.ntmps70
  go_wp2
  go_loopw [0, 5] (fun x0 x5 wr => ∃ (i : Nat), i ≤ len ∧ x5 = .int .i64 (i : Int) ∧ Hid (∃ c, LstAt B wr x0 c ∧ BothR a (b.take i) c ∧ Kin w.heap.size va a x0 c) ∧ Hid (Below w.heap.size w wr)) (fun _ x5 _ => len - (intOf x5).toNat)
  case atStart => exact ⟨0, Nat.zero_le _, rfl, ⟨a, HA.out, ⟨HR.out, fun x => by simp⟩, Kin.refl _ _ _⟩, Below.refl _ _⟩
  case round =>
    obtain ⟨i, hi, rfl, HC, HBw⟩ := hrel
    by_cases hil : i < len
    · have hin : i < b.length := by rw [← HLE.out]; exact hil
      obtain ⟨ga, oa, rfl, _, hga, e0⟩ := HV.out.plc.at HLE.out hin
      obtain ⟨y, hy⟩ : ∃ y, y = b[i] := ⟨_, rfl⟩
      have HY : Hid (y = b[i]) := hy
      have e1 : wr.cell? ⟨ga, oa + i, none⟩ = some (.int .i64 (y : Int)) := by rw [hy]; exact (HBw.out.cell (p := ⟨ga, _, none⟩) hga).trans e0
      have hga' : ga < wr.heap.size := by have := HBw.out.size; omega
      obtain ⟨c, hcl, hcr, hck⟩ := HC.out
      have hpc := put_any u0 c y B wr hcl (by have := HBw.out.size; omega) hcr.1 (by
        refine Nat.le_trans (risN_len hcr.1 (N := 1000) (fun x hx => ?_)) (by omega)
        rcases (hcr.2 x).1 hx with h | h
        · exact H1.out x h
        · exact H2.out x (List.mem_of_mem_take h))
      have HC2 : Hid (∀ c', PutR c y c' → BothR a (b.take (i + 1)) c') := fun c' hp => ⟨hp.1, fun x => by
        rw [hp.2, hcr.2, List.take_add_one, List.getElem?_eq_getElem hin, ← HY.out]
        simp only [Option.toList_some, List.mem_append, List.mem_singleton]
        rw [or_assoc]⟩
      have hi0 : (0 : Int) ≤ (i : Int) := by omega
      have hi1 : (i : Int) < (len : Int) := by omega
      have HCK : Hid (Kin w.heap.size va a u0 c) := hck
      clear hy hcl hcr HC e0 hck
      go_wp2_with fail
      refine hpc.mono ?_
      rintro e w1 ⟨v1, rfl, c', hc1, hc2, hk1, hB1⟩
      have HC3 : Hid (∃ c, LstAt B w1 v1 c ∧ BothR a (b.take (i + 1)) c ∧ Kin w.heap.size va a v1 c) := ⟨c', hc1, HC2.out c' hc2, HCK.out.trans hk1 HBw.out.size⟩
      have HB1 : Hid (Below w.heap.size w w1) := below_after HBw.out hB1
      clear hpc hc1 hc2 hB1 hk1
      go_wp2
      go_roundw
      case rel => exact ⟨i + 1, by omega, by go_num, HC3, HB1⟩
      case measure => simp [intOf]; omega
    · obtain rfl : i = len := by omega
      have HEQ : Hid (b.take i = b) := List.take_of_length_le (by rw [← HLE.out]; exact Nat.le_refl _)
      go_wp2
      go_ret
      obtain ⟨c, c1, c2, c3⟩ := HC.out
      rw [HEQ.out] at c2
      exact ⟨_, rfl, c, c1, c2, c3, HBw.out⟩
end Go.Proofs.YtehkaiohmcenbaaDoor
