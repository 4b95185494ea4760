/-
  trie.Trie.Of, Blocks. scansionlaw03.awake: true. Slices of entries that a call made. Entries that came in: what the walks are told of them. More of regions that draw their order: two operations that may come up; what stands behind them said once; append from whatever slice.
-/
import Derived.Test.YtpknmpgbaccffaaDoorM3
import Derived.WalkKit
import Derived.ProofKit
import Derived.OpenShut
import Derived.ChangeOld
import Derived.Below
import Derived.SizedLaws
import Derived.Deep.SlicePairs
import Derived.Deep.Strs
namespace Go.Proofs.YtpknmpgbaccffaaDoor
open Go.RowKit
set_option linter.unusedVariables false

/-- The value of a number by a trie's parts. -/
def ofT (like : List Int) (F : List (List Int)) (r : Int) : Int := if 0 ≤ r ∧ r ≤ 1114111 then F.flatten[(like[(r / 256).toNat]?.getD 0).toNat * 256 + (r % 256).toNat]?.getD 0 else 0

theorem flat_at {F : List (List Int)} (h : Even F) {i : Nat} (hi : i < F.length) {j : Nat} (hj : j < 256) : F.flatten[i * 256 + j]? = F[i][j]? := by
  have e := flat_block h i hi
  rw [← e, List.getElem?_take, if_pos hj, List.getElem?_drop, Nat.mul_comm]
theorem blkF_getD (f : Int → Int) (k j : Nat) (h : j < 256) : (blkF f k)[j]? = some (f ((k * 256 + j : Nat) : Int)) := blkF_get f k j h
set_option maxRecDepth 10000 in
theorem blocks_get' {cs : List (List Int)} {f : Int → Int} (e : cs = blocksF f) {i : Nat} (h : i < cs.length) : cs[i] = blkF f i := by
  subst e
  exact blocks_get f h
theorem of_val {l : List Pp} {r : Int} (h0 : 0 ≤ r) (h1 : r ≤ 1114111) : ofT (likeB l) (firstB l) r = valP l r := by
  unfold ofT
  rw [if_pos ⟨h0, h1⟩]
  obtain ⟨bs, hbs⟩ : ∃ bs, bs = blocksF (valP l) := ⟨_, rfl⟩
  have hbl : bs.length = 4352 := by rw [hbs]; exact blocksF_length _
  have hev : Even bs := by rw [hbs]; exact even_blocks _
  have hk : (r / 256).toNat < bs.length := by omega
  have hget : bs[(r / 256).toNat] = blkF (valP l) (r / 256).toNat := blocks_get' hbs hk
  have hF : firstB l = firstsOf bs := by unfold firstB; rw [hbs]
  have hL : likeB l = (likeOf bs).map (fun k : Nat => (k : Int)) := by unfold likeB; rw [hbs]
  have he2 : Even (firstsOf bs) := fun x hx => hev x (firsts_mem.1 hx)
  have hx : ((likeOf bs).map (fun k : Nat => (k : Int)))[(r / 256).toNat]? = some ((((likeOf bs)[(r / 256).toNat]'(by rw [like_length]; exact hk)) : Nat) : Int) := by
    rw [List.getElem?_map, List.getElem?_eq_getElem (by rw [like_length]; exact hk)]
    rfl
  rw [hF, hL, hx]
  simp only [Option.getD_some, Int.toNat_natCast]
  rw [flat_at he2 (like_lt hk) (by omega), firsts_like hk, hget, blkF_get _ _ _ (by omega)]
  have hrr : (((r / 256).toNat * 256 + (r % 256).toNat : Nat) : Int) = r := by clear hbs hev hget he2 hF hL hx; omega
  rw [hrr]
  rfl
theorem val_out {l : List Pp} (h : ∀ p ∈ l, 0 ≤ p.lo ∧ p.hi ≤ 1114111 ∧ p.lo ≤ p.hi) {r : Int} (hr : r < 0 ∨ 1114111 < r) : valP l r = 0 :=
  val_none (fun p hp => by
    have := h p hp
    cases z : hasP p r with
    | false => rfl
    | true => have := hasP_iff.1 z; omega)
theorem of_val' {l : List Pp} (h : ∀ p ∈ l, 0 ≤ p.lo ∧ p.hi ≤ 1114111 ∧ p.lo ≤ p.hi) (r : Int) : ofT (likeB l) (firstB l) r = valP l r := by
  by_cases q : 0 ≤ r ∧ r ≤ 1114111
  · exact of_val q.1 q.2
  · rw [val_out h (by omega)]
    unfold ofT
    rw [if_neg q]

set_option maxRecDepth 100000 in
set_option maxHeartbeats 4000000 in
theorem of_any (like : List Int) (F : List (List Int)) (pv : Value) (r : Int) (w : World) (ht : TrieAt w.heap.size w pv like F) (hf : Fine like F) :
    Calls Tryd.prog 46 #[pv, .int .i64 r] w fun e w' => e = .returned (.int .u8 (ofT like F r)) ∧ Below w.heap.size w w' := by
  obtain ⟨g, gb, cap, rfl, hg, hgb, hgc, hrg, hcap⟩ := ht
  obtain ⟨u, hu⟩ : ∃ u, u = ofT like F r := ⟨_, rfl⟩
  rw [← hu]
  have HU : Hid (u = ofT like F r) := hu
  clear hu
  by_cases n1 : r < 0
  · have e0 : u = 0 := by rw [HU.out]; unfold ofT; rw [if_neg (by omega)]
    subst e0
    go_enter Tryd.func46, Tryd.ntmps46
    go_wp2
    go_ret
    exact ⟨rfl, Below.refl _ _⟩
  by_cases n2 : 1114111 < r
  · have e0 : u = 0 := by rw [HU.out]; unfold ofT; rw [if_neg (by omega)]
    subst e0
    go_enter Tryd.func46, Tryd.ntmps46
    go_wp2
    go_ret
    exact ⟨rfl, Below.refl _ _⟩
  · obtain ⟨r, rfl⟩ : ∃ r' : Nat, r = (r' : Int) := ⟨r.toNat, by omega⟩
    obtain ⟨k, hk⟩ : ∃ k, k = r / 256 := ⟨_, rfl⟩
    obtain ⟨j, hj⟩ : ∃ j, j = r % 256 := ⟨_, rfl⟩
    have hkl : k < like.length := by rw [hf.len]; omega
    have hm0 := hf.lt like[k] (List.getElem_mem hkl)
    obtain ⟨m, hm⟩ : ∃ m : Nat, (m : Int) = like[k] := ⟨like[k].toNat, by omega⟩
    have hmF : m < F.length := by omega
    have hcl := trCells_like (v := .slice (some ⟨gb, 0, none⟩) F.length cap) hkl
    rw [← hm] at hcl
    have hfl : F.flatten[m * 256 + j]? = some u := by
      have hb := hf.isB F[m] (List.getElem_mem hmF)
      have hjb : j < (F[m]).length := by rw [hb.1]; omega
      rw [flat_at (isB_even hf.isB) hmF (by omega), List.getElem?_eq_getElem hjb]
      congr 1
      rw [HU.out]
      unfold ofT
      rw [if_pos (by omega)]
      have e1 : ((r : Int) / 256).toNat = k := by omega
      have e2 : ((r : Int) % 256).toNat = j := by omega
      rw [e1, e2, List.getElem?_eq_getElem hkl]
      simp only [Option.getD_some]
      rw [← hm, Int.toNat_natCast, flat_at (isB_even hf.isB) hmF (by omega), List.getElem?_eq_getElem hjb]
      rfl
    have HCF : Hid (∀ w', Below w.heap.size w w' → w'.cell? ⟨g, 4352, none⟩ = some (.slice (some ⟨gb, 0, none⟩) F.length cap)) := fun w' hw' => (hw'.cell (p := ⟨g, 4352, none⟩) hg).trans (cell_row hgc (trCells_at hf.len))
    have HCK : Hid (∀ w', Below w.heap.size w w' → w'.cell? ⟨g, k, none⟩ = some (.int .u8 (m : Int))) := fun w' hw' => (hw'.cell (p := ⟨g, k, none⟩) hg).trans (cell_row hgc hcl)
    have HCU : Hid (∀ w', Below w.heap.size w w' → w'.cell? ⟨gb, m * 256 + j, none⟩ = some (.int .u8 u)) := fun w' hw' => (hw'.cell (p := ⟨gb, m * 256 + j, none⟩) hgb).trans (by
      have := hrg (m * 256 + j) (.int .u8 u) (by unfold cellsBl i8; rw [List.getElem?_map, hfl]; rfl)
      rwa [Nat.zero_add] at this)
    have hq : (r : Int).tdiv 256 = (k : Int) := by rw [Int.tdiv_eq_ediv_of_nonneg (by omega)]; omega
    have hr : (r : Int).tmod 256 = (j : Int) := by rw [Int.tmod_eq_emod_of_nonneg (by omega)]; omega
    have hk4 : (k : Int) < 4352 := by omega
    have hwk : IntKind.i64.wrap (k : Int) = (k : Int) := IntWalk.i64_in _ (by omega)
    have hwj : IntKind.i64.wrap (j : Int) = (j : Int) := IntWalk.i64_in _ (by omega)
    have hj2 : (j : Int) < 256 := by omega
    have hmi : (m : Int) < (F.length : Int) := by omega
    have hm256 : (m : Int) < 256 := by have := hf.le; omega
    clear hk hj hkl hm hcl hfl hrg hgc hm0
    go_enter Tryd.func46, Tryd.ntmps46
    go_wp2_with fail
    refine wp_region_bad (fun w' => Below w.heap.size w w') [] (by kernel_rfl) ((Below.refl _ _).drew) (fun hS => ?_)
    have hCF := HCF.out
    have hCK := HCK.out
    have hCU := HCU.out
    refine wpAnyB_pure (i := 0) (v := .pointer (some ⟨g, 0, none⟩)) rfl (by kernel_rfl) (fun _ _ _ h => h) (Or.inl ⟨by rfl, fun w _ => by go_simp⟩) hS ?_
    simp only [List.getElem_toArray, List.getElem_cons_zero, Act.put, List.setIfInBounds_toArray, List.set_cons_zero, List.set_cons_succ]
    refine wpAnyB_pure (i := 1) (v := .pointer (some ⟨g, 0, none⟩)) rfl (by kernel_rfl) (fun _ _ _ h => h) (Or.inl ⟨by rfl, fun w _ => by go_simp⟩) hS ?_
    simp only [List.getElem_toArray, List.getElem_cons_succ, List.getElem_cons_zero, Act.put, List.setIfInBounds_toArray, List.set_cons_zero, List.set_cons_succ]
    refine wpAnyB_pure (i := 2) (v := .pointer (some ⟨g, 4352, none⟩)) rfl (by kernel_rfl) (fun _ _ _ h => h) (Or.inl ⟨by rfl, fun w _ => by go_simp⟩) hS ?_
    simp only [List.getElem_toArray, List.getElem_cons_succ, List.getElem_cons_zero, Act.put, List.setIfInBounds_toArray, List.set_cons_zero, List.set_cons_succ]
    refine wpAnyB_take [] (i := 3) (v := .slice (some ⟨gb, 0, none⟩) F.length cap) rfl (by kernel_rfl) (fun _ _ _ h => h) (Or.inl ⟨by rfl, fun w hSw => by have := hCF w hSw; go_simp⟩) hS ?_
    simp only [List.getElem_toArray, List.getElem_cons_succ, List.getElem_cons_zero, Act.put, List.setIfInBounds_toArray, List.set_cons_zero, List.set_cons_succ]
    refine wpAnyB_pure (i := 4) (v := .pointer (some ⟨g, 0, none⟩)) rfl (by kernel_rfl) (fun _ _ _ h => h) (Or.inl ⟨by rfl, fun w _ => by go_simp⟩) hS ?_
    simp only [List.getElem_toArray, List.getElem_cons_succ, List.getElem_cons_zero, Act.put, List.setIfInBounds_toArray, List.set_cons_zero, List.set_cons_succ]
    refine wpAnyB_pure (i := 5) (v := .int .i64 (r : Int)) rfl (by kernel_rfl) (fun _ _ _ h => h) (Or.inl ⟨by rfl, fun w _ => by go_simp⟩) hS ?_
    simp only [List.getElem_toArray, List.getElem_cons_succ, List.getElem_cons_zero, Act.put, List.setIfInBounds_toArray, List.set_cons_zero, List.set_cons_succ]
    refine wpAnyB_pure (i := 6) (v := .int .i64 (k : Int)) rfl (by kernel_rfl) (fun _ _ _ h => h) (Or.inl ⟨by rfl, fun w _ => by go_simp⟩) hS ?_
    simp only [List.getElem_toArray, List.getElem_cons_succ, List.getElem_cons_zero, Act.put, List.setIfInBounds_toArray, List.set_cons_zero, List.set_cons_succ]
    refine wpAnyB_pure (i := 7) (v := .pointer (some ⟨g, 0, none⟩)) rfl (by kernel_rfl) (fun _ _ _ h => h) (Or.inl ⟨by rfl, fun w _ => by go_simp⟩) hS ?_
    simp only [List.getElem_toArray, List.getElem_cons_succ, List.getElem_cons_zero, Act.put, List.setIfInBounds_toArray, List.set_cons_zero, List.set_cons_succ]
    refine wpAnyB_pure (i := 8) (v := .pointer (some ⟨g, 0, none⟩)) rfl (by kernel_rfl) (fun _ _ _ h => h) (Or.inl ⟨by rfl, fun w _ => by go_simp⟩) hS ?_
    simp only [List.getElem_toArray, List.getElem_cons_succ, List.getElem_cons_zero, Act.put, List.setIfInBounds_toArray, List.set_cons_zero, List.set_cons_succ]
    refine wpAnyB_pure (i := 9) (v := .pointer (some ⟨g, k, none⟩)) rfl (by kernel_rfl) (fun _ _ _ h => h) (Or.inl ⟨by rfl, fun w _ => by go_simp⟩) hS ?_
    simp only [List.getElem_toArray, List.getElem_cons_succ, List.getElem_cons_zero, Act.put, List.setIfInBounds_toArray, List.set_cons_zero, List.set_cons_succ]
    refine wpAnyB_take [] (i := 10) (v := .int .u8 (m : Int)) rfl (by kernel_rfl) (fun _ _ _ h => h) (Or.inl ⟨by rfl, fun w hSw => by have := hCK w hSw; go_simp⟩) hS ?_
    simp only [List.getElem_toArray, List.getElem_cons_succ, List.getElem_cons_zero, Act.put, List.setIfInBounds_toArray, List.set_cons_zero, List.set_cons_succ]
    refine wpAnyB_pure (i := 11) (v := .int .i64 (r : Int)) rfl (by kernel_rfl) (fun _ _ _ h => h) (Or.inl ⟨by rfl, fun w _ => by go_simp⟩) hS ?_
    simp only [List.getElem_toArray, List.getElem_cons_succ, List.getElem_cons_zero, Act.put, List.setIfInBounds_toArray, List.set_cons_zero, List.set_cons_succ]
    refine wpAnyB_pure (i := 12) (v := .int .i64 (j : Int)) rfl (by kernel_rfl) (fun _ _ _ h => h) (Or.inl ⟨by rfl, fun w _ => by go_simp⟩) hS ?_
    simp only [List.getElem_toArray, List.getElem_cons_succ, List.getElem_cons_zero, Act.put, List.setIfInBounds_toArray, List.set_cons_zero, List.set_cons_succ]
    refine wpAnyB_pure (i := 13) (v := .pointer (some ⟨gb, m * 256, none⟩)) rfl (by kernel_rfl) (fun _ _ _ h => h) (Or.inl ⟨by rfl, fun w _ => by go_simp⟩) hS ?_
    simp only [List.getElem_toArray, List.getElem_cons_succ, List.getElem_cons_zero, Act.put, List.setIfInBounds_toArray, List.set_cons_zero, List.set_cons_succ]
    refine wpAnyB_pure (i := 14) (v := .pointer (some ⟨gb, m * 256 + j, none⟩)) rfl (by kernel_rfl) (fun _ _ _ h => h) (Or.inl ⟨by rfl, fun w _ => by go_simp⟩) hS ?_
    simp only [List.getElem_toArray, List.getElem_cons_succ, List.getElem_cons_zero, Act.put, List.setIfInBounds_toArray, List.set_cons_zero, List.set_cons_succ]
    refine wpAnyB_take [] (i := 15) (v := .int .u8 u) rfl (by kernel_rfl) (fun _ _ _ h => h) (Or.inl ⟨by rfl, fun w hSw => by have := hCU w hSw; go_simp⟩) hS ?_
    simp only [List.getElem_toArray, List.getElem_cons_succ, List.getElem_cons_zero, Act.put, List.setIfInBounds_toArray, List.set_cons_zero, List.set_cons_succ]
    refine wpAnyB_pure (i := 16) (v := .int .u8 u) rfl (by kernel_rfl) (fun _ _ _ h => h) (Or.inl ⟨by rfl, fun w _ => by go_simp⟩) hS ?_
    simp only [List.getElem_toArray, List.getElem_cons_succ, List.getElem_cons_zero, Act.put, List.setIfInBounds_toArray, List.set_cons_zero, List.set_cons_succ]
    refine wpAnyB_done (by kernel_rfl) ?_ _
    refine NoPanic.normal ?_
    clear hCF hCK hCU
    go_wp2
    go_ret
    exact ⟨rfl, hS⟩

end Go.Proofs.YtpknmpgbaccffaaDoor

namespace Go.Proofs.YtpknmpgbaccffaaDoor
open Go.RowKit
set_option linter.unusedVariables false

theorem TrieAt.ptr {n : Nat} {w : World} {pv : Value} {like : List Int} {F : List (List Int)} (h : TrieAt n w pv like F) : ∃ g, pv = .pointer (some ⟨g, 0, none⟩) := by
  obtain ⟨g, _, _, h, _⟩ := h
  exact ⟨g, h⟩
theorem errB_zero {l : List Pp} (h : errB l = 0) : l.length ≤ 4096 ∧ (∀ p ∈ l, 0 ≤ p.lo ∧ p.hi ≤ 1114111 ∧ p.lo ≤ p.hi) ∧ (firstB l).length ≤ 256 := by
  unfold errB at h
  by_cases h1 : 4096 < l.length
  · rw [if_pos h1] at h; cases h
  · rw [if_neg h1] at h
    by_cases h2 : l.all good1 = false
    · rw [if_pos h2] at h; cases h
    · rw [if_neg h2] at h
      by_cases h3 : 256 < (firstB l).length
      · rw [if_pos h3] at h; cases h
      · rw [Bool.not_eq_false] at h2
        exact ⟨by omega, fun p hp => good1_iff.1 (List.all_eq_true.1 h2 p hp), by omega⟩
theorem errB_mk {l : List Pp} (h1 : l.length ≤ 4096) (h2 : ∀ p ∈ l, 0 ≤ p.lo ∧ p.hi ≤ 1114111 ∧ p.lo ≤ p.hi) (h3 : (firstB l).length ≤ 256) : errB l = 0 := by
  unfold errB
  rw [if_neg (by omega), if_neg, if_neg (by omega)]
  rw [Bool.not_eq_false]
  exact List.all_eq_true.2 (fun p hp => good1_iff.2 (h2 p hp))
/-- The entry that awake builds. -/
def l65 : List Pp := [⟨65, 66, 3⟩]
theorem val_l65 (r : Int) : valP l65 r = if 65 ≤ r ∧ r ≤ 66 then 3 else 0 := by
  unfold l65 valP stepV hasP
  simp
theorem first_l65 : (firstB l65).length = 2 := by
  have e1 : ∀ k, k ≠ 0 → blkF (valP l65) k = zeroB := fun k hk => by
    unfold blkF zeroB
    rw [List.eq_replicate_iff]
    refine ⟨by rw [List.length_map, List.length_range], fun y hy => ?_⟩
    obtain ⟨j, hj, rfl⟩ := List.mem_map.1 hy
    have := List.mem_range.1 hj
    rw [val_l65, if_neg (by omega)]
  have e2 : blkF (valP l65) 0 ≠ zeroB := fun e => by
    have h1 := blkF_get (valP l65) 0 65 (by omega)
    rw [e] at h1
    unfold zeroB at h1
    rw [List.getElem?_replicate, if_pos (by omega), val_l65, if_pos (by omega)] at h1
    cases h1
  have hm : ∀ k, k < 4352 → blkF (valP l65) k ∈ blocksF (valP l65) := fun k hk => List.mem_map.2 ⟨k, List.mem_range.2 hk, rfl⟩
  have h2 : (firstB l65).length ≤ 2 := by
    have := firsts_le (bs := blocksF (valP l65)) (m := [blkF (valP l65) 0, zeroB]) (fun x hx => by
      obtain ⟨k, hk, rfl⟩ := List.mem_map.1 hx
      by_cases q : k = 0
      · subst q; exact List.mem_cons.2 (.inl rfl)
      · rw [e1 k q]; exact List.mem_cons.2 (.inr (List.mem_cons.2 (.inl rfl))))
    exact this
  have h3 : 2 ≤ (firstB l65).length := by
    have := nodup_le (l := [blkF (valP l65) 0, zeroB]) (m := firstB l65) (by
      rw [List.nodup_cons]
      refine ⟨fun q => e2 (List.mem_singleton.1 q), by simp⟩) (fun x hx => by
      rcases List.mem_cons.1 hx with q | q
      · rw [q]; exact firsts_mem.2 (hm 0 (by omega))
      · rw [List.mem_singleton.1 q, ← e1 1 (by omega)]; exact firsts_mem.2 (hm 1 (by omega)))
    exact this
  omega
theorem err_l65 : errB l65 = 0 := errB_mk (by simp [l65]) (fun p hp => by
  rw [List.mem_singleton.1 hp]; simp) (by rw [first_l65]; omega)
theorem bytes_l65 : Bytes l65 := fun p hp => by rw [List.mem_singleton.1 hp]; simp

end Go.Proofs.YtpknmpgbaccffaaDoor

namespace Go.Proofs.YtpknmpgbaccffaaDoor
open Go.RowKit
set_option linter.unusedVariables false

theorem Tryd.undPs : Tryd.prog.underlying 48 = some (.slice 51) := by kernel_rfl
/-- The cells of entries. -/
def cellsP (p : Pp) : List Value := [.int .i64 p.lo, .int .i64 p.hi, .int .u8 p.v]
def cellsPs (l : List Pp) : List Value := l.flatMap cellsP
theorem cellsPs_snoc (l : List Pp) (p : Pp) : cellsPs (l ++ [p]) = cellsPs l ++ cellsP p := by simp [cellsPs]
theorem cellsPs_length : ∀ (l : List Pp), (cellsPs l).length = l.length * 3
  | [] => rfl
  | r :: l => by
    have e : cellsPs (r :: l) = cellsP r ++ cellsPs l := rfl
    rw [e, List.length_append, cellsPs_length l]
    simp [cellsP]; omega
theorem cellsPs_at : ∀ (l : List Pp) (i j : Nat) (h : i < l.length), j < 3 → (cellsPs l)[i * 3 + j]? = (cellsP l[i])[j]?
  | u :: us, 0, j, h, hj => by
    have e : cellsPs (u :: us) = cellsP u ++ cellsPs us := rfl
    rw [e, Nat.zero_mul, Nat.zero_add, List.getElem?_append_left (by simpa [cellsP] using hj)]
    rfl
  | u :: us, i + 1, j, h, hj => by
    have e : cellsPs (u :: us) = cellsP u ++ cellsPs us := rfl
    rw [e, List.getElem?_append_right (by simp [cellsP]; omega)]
    have e2 : (i + 1) * 3 + j - (cellsP u).length = i * 3 + j := by simp [cellsP]; omega
    rw [e2, cellsPs_at us i j (by simpa using h) hj]
    rfl
theorem cellsPs_one (l : List Pp) : ∀ u ∈ cellsPs l, u.oneCell' = true := fun u hu => by
  obtain ⟨r, _, h⟩ := List.mem_flatMap.1 hu
  simp [cellsP] at h
  rcases h with rfl | rfl | rfl <;> rfl
theorem props_of_row {w : World} {base : Nat} {v : Value} {l : List Pp} (h : w.ownsRow base 51 3 v l.length (cellsPs l)) : PropsIn w v l := by
  rcases h.2 with ⟨rfl, h0⟩ | ⟨g, cap, cur, rfl, hb, hg, hc, hm, hs, ht⟩
  · exact ⟨none, 0, by rw [h0], by omega, fun i hi => by omega⟩
  · refine ⟨_, cap, rfl, hc, fun i hi => ⟨g, 0, rfl, heap_lt hg, ?_, ?_, ?_⟩⟩
    · have := h.cells (g := g) rfl (i * 3 + 0) (.int .i64 l[i].lo) (by rw [cellsPs_at l i 0 hi (by omega)]; rfl)
      rw [Addr.add_mid] at this
      exact this
    · have := h.cells (g := g) rfl (i * 3 + 1) (.int .i64 l[i].hi) (by rw [cellsPs_at l i 1 hi (by omega)]; rfl)
      rw [Addr.add_mid] at this
      exact this
    · have := h.cells (g := g) rfl (i * 3 + 2) (.int .u8 l[i].v) (by rw [cellsPs_at l i 2 hi (by omega)]; rfl)
      rw [Addr.add_mid] at this
      exact this

theorem below_drewN' {B : Nat} {a w : World} (h : Below B a w) : ∀ k, Below B a (w.drewN k)
  | 0 => h
  | k + 1 => (below_drewN' h k).drew
theorem size_drewN (w : World) : ∀ k, (w.drewN k).heap.size = w.heap.size
  | 0 => rfl
  | k + 1 => by
    show ((w.drewN k).drew).heap.size = _
    exact size_drewN w k
end Go.Proofs.YtpknmpgbaccffaaDoor

namespace Go.Proofs.YtpknmpgbaccffaaDoor
open Go.ChangeShapes Go.WideShapes Go.ChangeAt Go.RowKit Go.Deep
set_option linter.unusedVariables false

theorem own : ownKnob Tryd.prog.godebug = none := by kernel_rfl
theorem laidOut : laidOutB Tryd.prog = true := by kernel_rfl
theorem cell_some_lt {w : World} {a : Addr} {v : Value} (h : w.cell? a = some v) : a.block < w.heap.size := by
  rcases Nat.lt_or_ge a.block w.heap.size with q | q
  · exact q
  · simp [World.cell?, Array.getElem?_eq_none q] at h
/-- What is appended: nothing, of a nil slice; or the cells news. -/
def SrcIs (w : World) (x : Value) (m size : Nat) (news : List Value) : Prop :=
  (x = .slice none 0 0 ∧ m = 0 ∧ news = []) ∨ ∃ ad c, x = .slice (some ad) m c ∧ news.length = m * size ∧ (∀ j u, news[j]? = some u → w.cell? (ad.add j) = some u) ∧ ∀ u ∈ news, u.oneCell' = true
theorem SrcIs.below {w w' : World} {x : Value} {m size : Nat} {news : List Value} (h : SrcIs w x m size news) (hb : Below w.heap.size w w') : SrcIs w' x m size news := by
  rcases h with h | ⟨ad, c, e, hl, hc, h1⟩
  · exact .inl h
  · refine .inr ⟨ad, c, e, hl, fun j u hj => ?_, h1⟩
    have := hc j u hj
    rw [hb.cell (cell_some_lt this)]
    exact this
theorem addr_add (g off j : Nat) : (⟨g, off, none⟩ : Addr).add j = ⟨g, off + j, none⟩ := by unfold Addr.add; split <;> simp_all
theorem byte_of_wf {x : Int} (h : (Lit.int .u8 x).wf = true) : 0 ≤ x ∧ x ≤ 255 := by
  have e1 : IntKind.u8.min = 0 := by decide
  have e2 : IntKind.u8.max = 255 := by decide
  simp [Lit.wf, e1, e2] at h
  omega
theorem Tryd.cellsProp : Tryd.prog.cellsOf 51 = 3 := by kernel_rfl

/- A struct of an int, an int and a byte is an entry. -/
set_option maxRecDepth 100000 in
theorem open_cells {H : Type} {enc : TypeId × Value → H} {W : World} {base : Nat} {sp : Nat → Bool} {held : Bool} {n : Nat} {cs : List Value} {x : DataW H × List MemPlace}
    (h : DataW.trod enc Tryd.prog W base sp held n 51 cs = some x) : ∃ p : Pp, cs = cellsP p ∧ (Lit.int .i64 p.lo).wf = true ∧ (Lit.int .i64 p.hi).wf = true ∧ (Lit.int .u8 p.v).wf = true ∧ x = (.agg [.lit (.int .i64 p.lo), .lit (.int .i64 p.hi), .lit (.int .u8 p.v)], []) := by
  obtain ⟨y0, y1, y2, m, rfl, hlen, t0, t1, t2⟩ := trod_struct3 Tryd.underlying51 h
  rw [Tryd.cellsProp] at hlen
  match cs, hlen with
  | [v0, v1, v2], _ =>
    have c1 : Tryd.prog.cellsOf 3 = 1 := by kernel_rfl
    have c5 : Tryd.prog.cellsOf 5 = 1 := by kernel_rfl
    simp only [c1, c5, List.drop_zero, List.drop_succ_cons, List.take_succ_cons, List.take_zero] at t0 t1 t2
    obtain ⟨n0, e0, f0, w0⟩ := DataW.trod_int Tryd.underlying3 t0
    obtain ⟨n1, e1, f1, w1⟩ := DataW.trod_int Tryd.underlying3 t1
    obtain ⟨n2, e2, f2, w2⟩ := DataW.trod_int Tryd.underlying5 t2
    obtain rfl : v0 = .int .i64 n0 := by simpa using e0
    obtain rfl : v1 = .int .i64 n1 := by simpa using e1
    obtain rfl : v2 = .int .u8 n2 := by simpa using e2
    exact ⟨⟨n0, n1, n2⟩, rfl, w0, w1, w2, by rw [f0, f1, f2]; rfl⟩

theorem open_props {H : Type} {enc : TypeId × Value → H} {W : World} {a : Option Addr} {len cap : Nat} {d : DataW H} {p : List MemPlace}
    (h : DataW.Trod enc Tryd.prog W 0 (fun _ => true) true 48 (.slice a len cap) d p) :
    ∃ l : List Pp, l.length = len ∧ PropsIn W (.slice a len cap) l ∧ Bytes l ∧ SrcIs W (.slice a len cap) l.length 3 (cellsPs l) ∧ ((d = .nil ∧ len = 0) ∨ ∃ es sp, d = .slice es sp ∧ es.length = len) := by
  obtain ⟨fuel, hf⟩ := h
  rcases open_slice Tryd.underlying48 hf with ⟨hcs, hx⟩ | ⟨x, l, c, m, n, D, Pl, hcs, _, hl, hm, hmm, hx, hcell⟩
  · simp [Value.cells] at hcs
    obtain ⟨rfl, rfl, rfl⟩ := hcs
    exact ⟨[], rfl, ⟨none, 0, rfl, Nat.le_refl _, (fun i hi => by cases hi)⟩, (fun p hp => by cases hp), .inl ⟨rfl, rfl, rfl⟩, .inl ⟨(Prod.mk.inj hx).1, rfl⟩⟩
  · simp [Value.cells] at hcs
    obtain ⟨rfl, rfl, rfl⟩ := hcs
    have hmc : m = cap := by simpa using hmm
    subst hmc
    rw [Tryd.cellsProp] at hcell
    have hz : ∀ i, i < m → ∃ q : Int × Int × Int, (W.cell? (x.add (i * 3)) = some (.int .i64 q.1) ∧ W.cell? (x.add (i * 3 + 1)) = some (.int .i64 q.2.1) ∧ W.cell? (x.add (i * 3 + 2)) = some (.int .u8 q.2.2)) ∧ 0 ≤ q.2.2 ∧ q.2.2 ≤ 255 := fun i hi => by
      obtain ⟨cs', h1, h2⟩ := hcell i hi
      obtain ⟨p, rfl, w0, w1, w2, _⟩ := open_cells h2
      obtain ⟨_, hlen, hc⟩ := World.cells?_some h1
      have e0 := hc 0 (by omega)
      have e1 := hc 1 (by omega)
      have e2 := hc 2 (by omega)
      rw [Deep.add_add] at e0 e1 e2
      exact ⟨(p.lo, p.hi, p.v), ⟨by simpa [cellsP] using e0, by simpa [cellsP] using e1, by simpa [cellsP] using e2⟩, byte_of_wf w2⟩
    obtain ⟨q, hq⟩ := choose_lt hz
    obtain ⟨b, off, spot⟩ := x
    have hlen : ((List.range len).map fun i => (⟨(q i).1, (q i).2.1, (q i).2.2⟩ : Pp)).length = len := by simp
    have hget : ∀ i, (h : i < ((List.range len).map fun i => (⟨(q i).1, (q i).2.1, (q i).2.2⟩ : Pp)).length) → ((List.range len).map fun i => (⟨(q i).1, (q i).2.1, (q i).2.2⟩ : Pp))[i] = ⟨(q i).1, (q i).2.1, (q i).2.2⟩ := fun i h => by simp
    have hsp : 0 < len → spot = none := fun h0 => by
      have hc0 := (hq 0 (by omega)).1.1
      simpa [Addr.add] using World.cell?_spot hc0
    have hps : PropsIn W (.slice (some ⟨b, off, spot⟩) len m) ((List.range len).map fun i => (⟨(q i).1, (q i).2.1, (q i).2.2⟩ : Pp)) := by
      refine ⟨_, m, by rw [hlen], by rw [hlen]; exact hl, fun i hi => ?_⟩
      rw [hlen] at hi
      obtain rfl := hsp (by omega)
      obtain ⟨⟨c0, c1, c2⟩, _⟩ := hq i (by omega)
      rw [addr_add] at c0 c1 c2
      rw [hget i (by rw [hlen]; exact hi)]
      exact ⟨b, off, rfl, cell_some_lt c0, c0, by rw [Nat.add_assoc]; exact c1, by rw [Nat.add_assoc]; exact c2⟩
    refine ⟨_, hlen, hps, fun p hp => ?_, .inr ⟨_, m, by rw [hlen], by rw [cellsPs_length], fun j u hj => ?_, cellsPs_one _⟩, .inr ⟨_, _, (Prod.mk.inj hx).1, by simp⟩⟩
    · obtain ⟨i, hi, rfl⟩ := List.mem_map.1 hp
      exact (hq i (by have := List.mem_range.1 hi; omega)).2
    · have hjl : j < len * 3 := by
        have := (List.getElem?_eq_some_iff.1 hj).1
        rwa [cellsPs_length, hlen] at this
      have hlt : j / 3 < len := by omega
      have hxx := cellsPs_at ((List.range len).map fun i => (⟨(q i).1, (q i).2.1, (q i).2.2⟩ : Pp)) (j / 3) (j % 3) (by rw [hlen]; exact hlt) (by omega)
      have e1 : j / 3 * 3 + j % 3 = j := by omega
      rw [e1, hj, hget _ (by rw [hlen]; exact hlt)] at hxx
      obtain ⟨⟨c0, c1, c2⟩, _⟩ := hq (j / 3) (by omega)
      have hm3 : j % 3 = 0 ∨ j % 3 = 1 ∨ j % 3 = 2 := by omega
      rcases hm3 with z | z | z
      · rw [z] at hxx
        have e : j / 3 * 3 = j := by omega
        rw [e] at c0
        rw [c0]
        simpa [cellsP] using hxx.symm
      · rw [z] at hxx
        have e : j / 3 * 3 + 1 = j := by omega
        rw [e] at c1
        rw [c1]
        simpa [cellsP] using hxx.symm
      · rw [z] at hxx
        have e : j / 3 * 3 + 2 = j := by omega
        rw [e] at c2
        rw [c2]
        simpa [cellsP] using hxx.symm
/-- An entry by value. -/
theorem open_prop {H : Type} {enc : TypeId × Value → H} {W : World} {v : Value} {d : DataW H} {p : List MemPlace} (hv : ∃ cs, v = .agg cs)
    (h : DataW.Trod enc Tryd.prog W 0 (fun _ => true) true 51 v d p) : ∃ q : Pp, v = .agg #[.int .i64 q.lo, .int .i64 q.hi, .int .u8 q.v] ∧ 0 ≤ q.v ∧ q.v ≤ 255 := by
  obtain ⟨cs, rfl⟩ := hv
  obtain ⟨n, hn⟩ := h
  obtain ⟨q, e, _, _, w2, _⟩ := open_cells hn
  refine ⟨q, ?_, byte_of_wf w2⟩
  have : cs.toList = cellsP q := by simpa [Value.cells] using e
  rw [← Array.toArray_toList (xs := cs), this]
  rfl
theorem bytes_prop : Tryd.prog.bytesOf 51 = 24 := by kernel_rfl
end Go.Proofs.YtpknmpgbaccffaaDoor

namespace Go.Proofs.YtpknmpgbaccffaaDoor
open Go.RowKit
set_option linter.unusedVariables false

section
variable {P : Program} {ops : Array Oper} {Q : Exit → Act → World → Prop} {md : Region.Mode} {S : World → Prop} {bad : List Nat}
theorem abs_region {fuel : Nat} {listed : Array Bool} {a : Act} {w : World} (h : ∀ ops' Q', ops' = ops → Q' = Q → wpAnyB P md ops' Q' S bad fuel listed a w) : wpAnyB P md ops Q S bad fuel listed a w := h ops Q rfl rfl
/-- Numbers i and j may come up. -/
theorem wpAnyB_two {i j : Nat} {o o' : Oper} {fuel : Nat} {listed : Array Bool} {a : Act} {w : World} (ho : ops[i]? = some o) (ho' : ops[j]? = some o') (hr : (Region.ready md ops listed == [i, j]) = true)
    (h : ∀ K' : Act → World → Prop, Shut (∀ a w, S w → wpAnyB P md ops Q S bad fuel (listed.setIfInBounds i true) a w → K' a w) → if Region.wanted o (yielded ops a.tmps) = true then Oper.wp P o a w K' Q else K' (a.put o.dst undef) w)
    (h' : ∀ K' : Act → World → Prop, Shut (∀ a w, S w → wpAnyB P md ops Q S bad fuel (listed.setIfInBounds j true) a w → K' a w) → if Region.wanted o' (yielded ops a.tmps) = true then Oper.wp P o' a w K' Q else K' (a.put o'.dst undef) w) : wpAnyB P md ops Q S bad (fuel + 1) listed a w := by
  have hr' : Region.ready md ops listed = [i, j] := by simpa using hr
  refine ⟨fun h0 => (by rw [hr'] at h0; cases h0), fun k hk => ?_⟩
  rw [hr'] at hk
  rcases List.mem_cons.1 hk with rfl | hk
  · exact wpOp_step ho (fun K' hK => h K' (fun a w hS hW => hK a w ⟨fun _ => hS, hW⟩))
  · obtain rfl := List.mem_singleton.1 hk
    exact wpOp_step ho' (fun K' hK => h' K' (fun a w hS hW => hK a w ⟨fun _ => hS, hW⟩))
end

theorem wp_append_src {P : Program} (w : World) {o : Oper} {a : Act} {K : Act → World → Prop} {Q : Exit → Act → World → Prop} (s x : Operand) (t : TypeId)
    (ho : o.op = .call { callee := .builtin .append, args := #[s, x], argTypes := #[t, t] })
    (base : Nat) (e : TypeId) (i : TypeInfo) (z : Value) (size bytes : Nat) (ht : P.underlying t = some (.slice e)) (hi : P.info? e = some i) (hz : i.zero = some z)
    (hsize : i.size = size) (hby : i.bytes = bytes) (hzs : z.cells.size = size) (hsz : 0 < size)
    (v : Value) (n : Nat) (xs : List Value) (hs : a.eval s = v) (hown : w.ownsRow base e size v n xs) (y : Value) (hx : a.eval x = y)
    (m : Nat) (news : List Value) (hsrc : SrcIs w y m size news) (h63 : n + m ≤ maxLen) (hbytes : (n + m) * bytes ≤ 140737488355328) (hbase : base ≤ w.heap.size)
    (h : ∀ v' w', w'.ownsRow base e size v' (n + m) (xs ++ news) → w.grownBy w' v.ownBlock → K (a.put o.dst v') w') : o.wp P a w K Q := by
  subst hx
  rcases hsrc with ⟨hx, rfl, rfl⟩ | ⟨ad, c, hx, hl, hc, h1⟩
  · have hrun := run_append_owned_none (P := P) (w := w) base t o.type e i size ht hi v n xs hown
    have h2 := h v w (by simpa using hown) ⟨rfl, rfl, rfl, Nat.le_refl _, fun _ _ _ => rfl⟩
    unfold Oper.wp
    simp [execOp, ho, resolve, invoke, builtin, hs, hx, hrun, Result.andThen]
    exact h2
  · exact wp_append_own w s x t ho base e i z size bytes ht hi hz hsize hby hzs hsz v n xs hs hown ad m c news hx hl hc h1 h63 hbytes hbase (fun v' w' h2 h3 _ => h v' w' h2 h3)
/-- An empty slice. -/
theorem run_buildSlice_none {P : Program} (w : World) {t e : TypeId} {i : TypeInfo} (ht : P.underlying t = some (.slice e)) (hi : P.info? e = some i) :
    (Instr.buildSlice t 0 #[]).run P w = .ok (.slice (some ⟨w.heap.size, 0, none⟩) 0 0) (w.alloc (.cells #[] e)) := by
  simp [Instr.buildSlice, run_underlying ht, sizeOf, typeInfo, hi, Instr.fill, newRow, Result.andThen]
  congr 2
  apply Array.ext <;> simp
theorem wp_buildSlice_none {P : Program} {o : Oper} {a : Act} {w w' : World} {K : Act → World → Prop} {Q : Exit → Act → World → Prop} (t : TypeId) (ho : o.op = .buildSlice t 0 #[]) (res : Value)
    (hrun : (Instr.buildSlice t 0 #[]).run P w = .ok res w') (h : K (a.put o.dst res) w') : o.wp P a w K Q := by
  unfold Oper.wp
  simp [execOp, ho, hrun, Result.andThen]
  exact h
theorem owns_empty (w : World) (base e size : Nat) (hb : base ≤ w.heap.size) : (w.alloc (.cells #[] e)).ownsRow base e size (.slice (some ⟨w.heap.size, 0, none⟩) 0 0) 0 [] :=
  ⟨by simp, .inr ⟨w.heap.size, 0, #[], rfl, hb, heap_new' w _, Nat.le_refl _, by unfold maxLen; omega, by simp, by simp⟩⟩
theorem firstB_nil : (firstB []).length ≤ 1 := by
  have h := says_zero
  have := firsts_le (bs := blocksF (valP [])) (m := [zeroB]) (fun x hx => by
    obtain ⟨k, hk, rfl⟩ := List.mem_map.1 hx
    obtain ⟨m, h1, h2⟩ := h.2 k (List.mem_range.1 hk)
    exact List.mem_of_getElem? h2)
  exact this
theorem firstB_le : ∀ (l : List Pp), (firstB l).length ≤ 1 + 3 * l.length := by
  intro l
  refine snoc_ind (P := fun l => (firstB l).length ≤ 1 + 3 * l.length) (by have := firstB_nil; simpa using this) (fun l x ih => ?_) l
  have := blocks_more l x
  rw [List.length_append]
  simp only [List.length_cons, List.length_nil]
  unfold firstB at ih ⊢
  omega
/-- Few entries: Build fails just where one is no entry. -/
theorem errB_small {l : List Pp} (h : l.length ≤ 80) : errB l = if l.all good1 = true then 0 else 1 := by
  have := firstB_le l
  unfold errB
  rw [if_neg (by omega)]
  cases q : l.all good1 with
  | false => simp
  | true => rw [if_neg (by simp), if_neg (by omega)]; simp
end Go.Proofs.YtpknmpgbaccffaaDoor
