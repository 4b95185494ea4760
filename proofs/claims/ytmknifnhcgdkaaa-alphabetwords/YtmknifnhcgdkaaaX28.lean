/-
  trie.Trie.Of, Blocks.
-/
import Derived.Test.YtmknifnhcgdkaaaX27
namespace Go.Proofs.Ytmknifnhcgdkaaa.S3
open Go.RowKit
set_option linter.unusedVariables false

/-- The value of a number by a trie's parts. -/
def ofT (like : List Int) (F : List (List Int)) (r : Int) : Int := if 0 ≤ r ∧ r ≤ 1114111 then F.flatten[(like[(r / 256).toNat]?.getD 0).toNat * 256 + (r % 256).toNat]?.getD 0 else 0

theorem flat_at {F : List (List Int)} (h : Even F) {i : Nat} (hi : i < F.length) {j : Nat} (hj : j < 256) : F.flatten[i * 256 + j]? = F[i][j]? := by
  have e := flat_block h i hi
  rw [← e, List.getElem?_take, if_pos hj, List.getElem?_drop, Nat.mul_comm]
theorem blkF_getD (f : Int → Int) (k j : Nat) (h : j < 256) : (blkF f k)[j]? = some (f ((k * 256 + j : Nat) : Int)) := blkF_get f k j h
set_option maxRecDepth 10000 in
theorem blocks_get' {cs : List (List Int)} {f : Int → Int} (e : cs = blocksF f) {i : Nat} (h : i < cs.length) : cs[i] = blkF f i := by
  subst e
  exact blocks_get f h
theorem of_val {l : List Pp} {r : Int} (h0 : 0 ≤ r) (h1 : r ≤ 1114111) : ofT (likeB l) (firstB l) r = valP l r := by
  unfold ofT
  rw [if_pos ⟨h0, h1⟩]
  obtain ⟨bs, hbs⟩ : ∃ bs, bs = blocksF (valP l) := ⟨_, rfl⟩
  have hbl : bs.length = 4352 := by rw [hbs]; exact blocksF_length _
  have hev : Even bs := by rw [hbs]; exact even_blocks _
  have hk : (r / 256).toNat < bs.length := by omega
  have hget : bs[(r / 256).toNat] = blkF (valP l) (r / 256).toNat := blocks_get' hbs hk
  have hF : firstB l = firstsOf bs := by unfold firstB; rw [hbs]
  have hL : likeB l = (likeOf bs).map (fun k : Nat => (k : Int)) := by unfold likeB; rw [hbs]
  have he2 : Even (firstsOf bs) := fun x hx => hev x (firsts_mem.1 hx)
  have hx : ((likeOf bs).map (fun k : Nat => (k : Int)))[(r / 256).toNat]? = some ((((likeOf bs)[(r / 256).toNat]'(by rw [like_length]; exact hk)) : Nat) : Int) := by
    rw [List.getElem?_map, List.getElem?_eq_getElem (by rw [like_length]; exact hk)]
    rfl
  rw [hF, hL, hx]
  simp only [Option.getD_some, Int.toNat_natCast]
  rw [flat_at he2 (like_lt hk) (by omega), firsts_like hk, hget, blkF_get _ _ _ (by omega)]
  have hrr : (((r / 256).toNat * 256 + (r % 256).toNat : Nat) : Int) = r := by clear hbs hev hget he2 hF hL hx; omega
  rw [hrr]
  rfl
theorem val_out {l : List Pp} (h : ∀ p ∈ l, 0 ≤ p.lo ∧ p.hi ≤ 1114111 ∧ p.lo ≤ p.hi) {r : Int} (hr : r < 0 ∨ 1114111 < r) : valP l r = 0 :=
  val_none (fun p hp => by
    have := h p hp
    cases z : hasP p r with
    | false => rfl
    | true => have := hasP_iff.1 z; omega)
theorem of_val' {l : List Pp} (h : ∀ p ∈ l, 0 ≤ p.lo ∧ p.hi ≤ 1114111 ∧ p.lo ≤ p.hi) (r : Int) : ofT (likeB l) (firstB l) r = valP l r := by
  by_cases q : 0 ≤ r ∧ r ≤ 1114111
  · exact of_val q.1 q.2
  · rw [val_out h (by omega)]
    unfold ofT
    rw [if_neg q]

set_option maxRecDepth 100000 in
set_option maxHeartbeats 4000000 in
theorem of_any (like : List Int) (F : List (List Int)) (pv : Value) (r : Int) (w : World) (ht : TrieAt w.heap.size w pv like F) (hf : Fine like F) :
    Calls Try.prog 36 #[pv, .int .i64 r] w fun e w' => e = .returned (.int .u8 (ofT like F r)) ∧ Below w.heap.size w w' := by
  obtain ⟨g, gb, cap, rfl, hg, hgb, hgc, hrg, hcap⟩ := ht
  obtain ⟨u, hu⟩ : ∃ u, u = ofT like F r := ⟨_, rfl⟩
  rw [← hu]
  have HU : Hid (u = ofT like F r) := hu
  clear hu
  by_cases n1 : r < 0
  · have e0 : u = 0 := by rw [HU.out]; unfold ofT; rw [if_neg (by omega)]
    subst e0
    go_enter Try.func36, Try.ntmps36
    go_wp2
    go_ret
    exact ⟨rfl, Below.refl _ _⟩
  by_cases n2 : 1114111 < r
  · have e0 : u = 0 := by rw [HU.out]; unfold ofT; rw [if_neg (by omega)]
    subst e0
    go_enter Try.func36, Try.ntmps36
    go_wp2
    go_ret
    exact ⟨rfl, Below.refl _ _⟩
  · obtain ⟨r, rfl⟩ : ∃ r' : Nat, r = (r' : Int) := ⟨r.toNat, by omega⟩
    obtain ⟨k, hk⟩ : ∃ k, k = r / 256 := ⟨_, rfl⟩
    obtain ⟨j, hj⟩ : ∃ j, j = r % 256 := ⟨_, rfl⟩
    have hkl : k < like.length := by rw [hf.len]; omega
    have hm0 := hf.lt like[k] (List.getElem_mem hkl)
    obtain ⟨m, hm⟩ : ∃ m : Nat, (m : Int) = like[k] := ⟨like[k].toNat, by omega⟩
    have hmF : m < F.length := by omega
    have hcl := trCells_like (v := .slice (some ⟨gb, 0, none⟩) F.length cap) hkl
    rw [← hm] at hcl
    have hfl : F.flatten[m * 256 + j]? = some u := by
      have hb := hf.isB F[m] (List.getElem_mem hmF)
      have hjb : j < (F[m]).length := by rw [hb.1]; omega
      rw [flat_at (isB_even hf.isB) hmF (by omega), List.getElem?_eq_getElem hjb]
      congr 1
      rw [HU.out]
      unfold ofT
      rw [if_pos (by omega)]
      have e1 : ((r : Int) / 256).toNat = k := by omega
      have e2 : ((r : Int) % 256).toNat = j := by omega
      rw [e1, e2, List.getElem?_eq_getElem hkl]
      simp only [Option.getD_some]
      rw [← hm, Int.toNat_natCast, flat_at (isB_even hf.isB) hmF (by omega), List.getElem?_eq_getElem hjb]
      rfl
    have HCF : Hid (∀ w', Below w.heap.size w w' → w'.cell? ⟨g, 4352, none⟩ = some (.slice (some ⟨gb, 0, none⟩) F.length cap)) := fun w' hw' => (hw'.cell (p := ⟨g, 4352, none⟩) hg).trans (cell_row hgc (trCells_at hf.len))
    have HCK : Hid (∀ w', Below w.heap.size w w' → w'.cell? ⟨g, k, none⟩ = some (.int .u8 (m : Int))) := fun w' hw' => (hw'.cell (p := ⟨g, k, none⟩) hg).trans (cell_row hgc hcl)
    have HCU : Hid (∀ w', Below w.heap.size w w' → w'.cell? ⟨gb, m * 256 + j, none⟩ = some (.int .u8 u)) := fun w' hw' => (hw'.cell (p := ⟨gb, m * 256 + j, none⟩) hgb).trans (by
      have := hrg (m * 256 + j) (.int .u8 u) (by unfold cellsBl i8; rw [List.getElem?_map, hfl]; rfl)
      rwa [Nat.zero_add] at this)
    have hq : (r : Int).tdiv 256 = (k : Int) := by rw [Int.tdiv_eq_ediv_of_nonneg (by omega)]; omega
    have hr : (r : Int).tmod 256 = (j : Int) := by rw [Int.tmod_eq_emod_of_nonneg (by omega)]; omega
    have hk4 : (k : Int) < 4352 := by omega
    have hwk : IntKind.i64.wrap (k : Int) = (k : Int) := IntWalk.i64_in _ (by omega)
    have hwj : IntKind.i64.wrap (j : Int) = (j : Int) := IntWalk.i64_in _ (by omega)
    have hj2 : (j : Int) < 256 := by omega
    have hmi : (m : Int) < (F.length : Int) := by omega
    have hm256 : (m : Int) < 256 := by have := hf.le; omega
    clear hk hj hkl hm hcl hfl hrg hgc hm0
    go_enter Try.func36, Try.ntmps36
    go_wp2_with fail
    refine wp_region_bad (fun w' => Below w.heap.size w w') [] (by kernel_rfl) ((Below.refl _ _).drew) (fun hS => ?_)
    have hCF := HCF.out
    have hCK := HCK.out
    have hCU := HCU.out
    refine wpAnyB_pure (i := 0) (v := .pointer (some ⟨g, 0, none⟩)) rfl (by kernel_rfl) (fun _ _ _ h => h) (Or.inl ⟨by rfl, fun w _ => by go_simp⟩) hS ?_
    simp only [List.getElem_toArray, List.getElem_cons_zero, Act.put, List.setIfInBounds_toArray, List.set_cons_zero, List.set_cons_succ]
    refine wpAnyB_pure (i := 1) (v := .pointer (some ⟨g, 0, none⟩)) rfl (by kernel_rfl) (fun _ _ _ h => h) (Or.inl ⟨by rfl, fun w _ => by go_simp⟩) hS ?_
    simp only [List.getElem_toArray, List.getElem_cons_succ, List.getElem_cons_zero, Act.put, List.setIfInBounds_toArray, List.set_cons_zero, List.set_cons_succ]
    refine wpAnyB_pure (i := 2) (v := .pointer (some ⟨g, 4352, none⟩)) rfl (by kernel_rfl) (fun _ _ _ h => h) (Or.inl ⟨by rfl, fun w _ => by go_simp⟩) hS ?_
    simp only [List.getElem_toArray, List.getElem_cons_succ, List.getElem_cons_zero, Act.put, List.setIfInBounds_toArray, List.set_cons_zero, List.set_cons_succ]
    refine wpAnyB_take [] (i := 3) (v := .slice (some ⟨gb, 0, none⟩) F.length cap) rfl (by kernel_rfl) (fun _ _ _ h => h) (Or.inl ⟨by rfl, fun w hSw => by have := hCF w hSw; go_simp⟩) hS ?_
    simp only [List.getElem_toArray, List.getElem_cons_succ, List.getElem_cons_zero, Act.put, List.setIfInBounds_toArray, List.set_cons_zero, List.set_cons_succ]
    refine wpAnyB_pure (i := 4) (v := .pointer (some ⟨g, 0, none⟩)) rfl (by kernel_rfl) (fun _ _ _ h => h) (Or.inl ⟨by rfl, fun w _ => by go_simp⟩) hS ?_
    simp only [List.getElem_toArray, List.getElem_cons_succ, List.getElem_cons_zero, Act.put, List.setIfInBounds_toArray, List.set_cons_zero, List.set_cons_succ]
    refine wpAnyB_pure (i := 5) (v := .int .i64 (r : Int)) rfl (by kernel_rfl) (fun _ _ _ h => h) (Or.inl ⟨by rfl, fun w _ => by go_simp⟩) hS ?_
    simp only [List.getElem_toArray, List.getElem_cons_succ, List.getElem_cons_zero, Act.put, List.setIfInBounds_toArray, List.set_cons_zero, List.set_cons_succ]
    refine wpAnyB_pure (i := 6) (v := .int .i64 (k : Int)) rfl (by kernel_rfl) (fun _ _ _ h => h) (Or.inl ⟨by rfl, fun w _ => by go_simp⟩) hS ?_
    simp only [List.getElem_toArray, List.getElem_cons_succ, List.getElem_cons_zero, Act.put, List.setIfInBounds_toArray, List.set_cons_zero, List.set_cons_succ]
    refine wpAnyB_pure (i := 7) (v := .pointer (some ⟨g, 0, none⟩)) rfl (by kernel_rfl) (fun _ _ _ h => h) (Or.inl ⟨by rfl, fun w _ => by go_simp⟩) hS ?_
    simp only [List.getElem_toArray, List.getElem_cons_succ, List.getElem_cons_zero, Act.put, List.setIfInBounds_toArray, List.set_cons_zero, List.set_cons_succ]
    refine wpAnyB_pure (i := 8) (v := .pointer (some ⟨g, 0, none⟩)) rfl (by kernel_rfl) (fun _ _ _ h => h) (Or.inl ⟨by rfl, fun w _ => by go_simp⟩) hS ?_
    simp only [List.getElem_toArray, List.getElem_cons_succ, List.getElem_cons_zero, Act.put, List.setIfInBounds_toArray, List.set_cons_zero, List.set_cons_succ]
    refine wpAnyB_pure (i := 9) (v := .pointer (some ⟨g, k, none⟩)) rfl (by kernel_rfl) (fun _ _ _ h => h) (Or.inl ⟨by rfl, fun w _ => by go_simp⟩) hS ?_
    simp only [List.getElem_toArray, List.getElem_cons_succ, List.getElem_cons_zero, Act.put, List.setIfInBounds_toArray, List.set_cons_zero, List.set_cons_succ]
    refine wpAnyB_take [] (i := 10) (v := .int .u8 (m : Int)) rfl (by kernel_rfl) (fun _ _ _ h => h) (Or.inl ⟨by rfl, fun w hSw => by have := hCK w hSw; go_simp⟩) hS ?_
    simp only [List.getElem_toArray, List.getElem_cons_succ, List.getElem_cons_zero, Act.put, List.setIfInBounds_toArray, List.set_cons_zero, List.set_cons_succ]
    refine wpAnyB_pure (i := 11) (v := .int .i64 (r : Int)) rfl (by kernel_rfl) (fun _ _ _ h => h) (Or.inl ⟨by rfl, fun w _ => by go_simp⟩) hS ?_
    simp only [List.getElem_toArray, List.getElem_cons_succ, List.getElem_cons_zero, Act.put, List.setIfInBounds_toArray, List.set_cons_zero, List.set_cons_succ]
    refine wpAnyB_pure (i := 12) (v := .int .i64 (j : Int)) rfl (by kernel_rfl) (fun _ _ _ h => h) (Or.inl ⟨by rfl, fun w _ => by go_simp⟩) hS ?_
    simp only [List.getElem_toArray, List.getElem_cons_succ, List.getElem_cons_zero, Act.put, List.setIfInBounds_toArray, List.set_cons_zero, List.set_cons_succ]
    refine wpAnyB_pure (i := 13) (v := .pointer (some ⟨gb, m * 256, none⟩)) rfl (by kernel_rfl) (fun _ _ _ h => h) (Or.inl ⟨by rfl, fun w _ => by go_simp⟩) hS ?_
    simp only [List.getElem_toArray, List.getElem_cons_succ, List.getElem_cons_zero, Act.put, List.setIfInBounds_toArray, List.set_cons_zero, List.set_cons_succ]
    refine wpAnyB_pure (i := 14) (v := .pointer (some ⟨gb, m * 256 + j, none⟩)) rfl (by kernel_rfl) (fun _ _ _ h => h) (Or.inl ⟨by rfl, fun w _ => by go_simp⟩) hS ?_
    simp only [List.getElem_toArray, List.getElem_cons_succ, List.getElem_cons_zero, Act.put, List.setIfInBounds_toArray, List.set_cons_zero, List.set_cons_succ]
    refine wpAnyB_take [] (i := 15) (v := .int .u8 u) rfl (by kernel_rfl) (fun _ _ _ h => h) (Or.inl ⟨by rfl, fun w hSw => by have := hCU w hSw; go_simp⟩) hS ?_
    simp only [List.getElem_toArray, List.getElem_cons_succ, List.getElem_cons_zero, Act.put, List.setIfInBounds_toArray, List.set_cons_zero, List.set_cons_succ]
    refine wpAnyB_pure (i := 16) (v := .int .u8 u) rfl (by kernel_rfl) (fun _ _ _ h => h) (Or.inl ⟨by rfl, fun w _ => by go_simp⟩) hS ?_
    simp only [List.getElem_toArray, List.getElem_cons_succ, List.getElem_cons_zero, Act.put, List.setIfInBounds_toArray, List.set_cons_zero, List.set_cons_succ]
    refine wpAnyB_done (by kernel_rfl) ?_ _
    refine NoPanic.normal ?_
    clear hCF hCK hCU
    go_wp2
    go_ret
    exact ⟨rfl, hS⟩

end Go.Proofs.Ytmknifnhcgdkaaa.S3
