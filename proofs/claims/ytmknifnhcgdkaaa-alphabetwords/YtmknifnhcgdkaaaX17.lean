/-
  Plain mathematics: the bytes of a trie, and the blocks that bytes tell.
-/
import Derived.Test.YtmknifnhcgdkaaaX14
namespace Go.Proofs.Ytmknifnhcgdkaaa.S3
open Go.RowKit
set_option linter.unusedVariables false

/-- All blocks have 256 values. -/
def Even (F : List (List Int)) : Prop := ∀ x ∈ F, x.length = 256
theorem flat_length : ∀ {F : List (List Int)}, Even F → F.flatten.length = 256 * F.length
  | [], _ => rfl
  | x :: F, h => by
    have h1 := h x (by simp)
    have h2 := flat_length (F := F) (fun y hy => h y (by simp [hy]))
    rw [List.flatten_cons, List.length_append, h1, h2, List.length_cons]
    omega
theorem flat_block : ∀ {F : List (List Int)}, Even F → ∀ (i : Nat) (hi : i < F.length), (F.flatten.drop (256 * i)).take 256 = F[i]
  | [], _, i, hi => by cases hi
  | x :: F, h, 0, hi => by
    have h1 := h x (by simp)
    rw [Nat.mul_zero, List.drop_zero, List.flatten_cons, List.take_append_of_le_length (by omega), List.take_of_length_le (by omega)]
    rfl
  | x :: F, h, i + 1, hi => by
    have h1 := h x (by simp)
    have h2 := flat_block (F := F) (fun y hy => h y (by simp [hy])) i (by simpa using hi)
    have e : 256 * (i + 1) = x.length + 256 * i := by omega
    rw [List.flatten_cons, e, List.drop_append, List.drop_of_length_le (by omega), List.nil_append]
    have e2 : x.length + 256 * i - x.length = 256 * i := by omega
    rw [e2, h2]
    rfl

/-- The bytes of a trie of these blocks. -/
def saveL (bs : List (List Int)) : List Int := (((firstsOf bs).length : Int) - 1) :: ((likeOf bs).map (fun n : Nat => (n : Int)) ++ (firstsOf bs).flatten)
theorem save_length {bs : List (List Int)} (h : Even bs) (hl : bs.length = 4352) : (saveL bs).length = 4353 + 256 * (firstsOf bs).length := by
  have he : Even (firstsOf bs) := fun x hx => h x (firsts_mem.1 hx)
  unfold saveL
  rw [List.length_cons, List.length_append, List.length_map, like_length, hl, flat_length he]
  omega
theorem save_like {bs : List (List Int)} {k : Nat} (hk : k < bs.length) : (saveL bs)[1 + k]? = some (((likeOf bs)[k]'(by rw [like_length]; exact hk) : Nat) : Int) := by
  have hk' : k < (likeOf bs).length := by rw [like_length]; exact hk
  unfold saveL
  rw [Nat.add_comm, List.getElem?_cons_succ, List.getElem?_append_left (by rw [List.length_map]; exact hk'), List.getElem?_map, List.getElem?_eq_getElem hk']
  rfl
/-- The i-th block that bytes tell, and the block of each number. -/
def blkB (b : List Int) (i : Nat) : List Int := (b.drop (4353 + 256 * i)).take 256
def bsB (b : List Int) : List (List Int) := (List.range 4352).map fun k => blkB b (b[1 + k]?.getD 0).toNat
theorem save_block {bs : List (List Int)} (h : Even bs) (hl : bs.length = 4352) {i : Nat} (hi : i < (firstsOf bs).length) : blkB (saveL bs) i = (firstsOf bs)[i] := by
  have he : Even (firstsOf bs) := fun x hx => h x (firsts_mem.1 hx)
  unfold blkB saveL
  have e : 4353 + 256 * i = (4352 + 256 * i) + 1 := by omega
  rw [e, List.drop_succ_cons, List.drop_append, List.length_map, like_length, hl]
  have e2 : 4352 + 256 * i - 4352 = 256 * i := by omega
  rw [e2, List.drop_of_length_le (by rw [List.length_map, like_length, hl]; omega), List.nil_append]
  exact flat_block he i hi
theorem bsB_get (b : List Int) (k : Nat) (h : k < (bsB b).length) : (bsB b)[k] = blkB b (b[1 + k]?.getD 0).toNat := by simp [bsB]
theorem bsB_length (b : List Int) : (bsB b).length = 4352 := by unfold bsB; rw [List.length_map, List.length_range]
/-- What was saved is told as it was. -/
theorem save_back {bs : List (List Int)} (h : Even bs) (hl : bs.length = 4352) : bsB (saveL bs) = bs := by
  apply List.ext_getElem
  · rw [bsB_length, hl]
  · intro k h1 h2
    rw [bsB_get, save_like h2]
    show blkB (saveL bs) ((((likeOf bs)[k]'(by rw [like_length]; exact h2) : Nat) : Int)).toNat = _
    rw [Int.toNat_natCast, save_block h hl (like_lt h2)]
    exact firsts_like h2
/-- Two lists of blocks with the same bytes are one. -/
theorem save_inj {bs cs : List (List Int)} (h : Even bs) (hl : bs.length = 4352) (k : Even cs) (kl : cs.length = 4352) (e : saveL bs = saveL cs) : bs = cs := by
  rw [← save_back h hl, ← save_back k kl, e]
theorem even_blocks (f : Int → Int) : Even (blocksF f) := fun x hx => by
  obtain ⟨k, _, rfl⟩ := List.mem_map.1 hx
  exact blkF_length f k
/-- The blocks that bytes tell are whole, where the bytes are long enough. -/
theorem even_bytes {b : List Int} {n : Nat} (hb : b.length = 4353 + 256 * n) (hk : ∀ k, k < 4352 → (b[1 + k]?.getD 0).toNat < n) : Even (bsB b) := fun x hx => by
  obtain ⟨k, hk', rfl⟩ := List.mem_map.1 hx
  have := hk k (List.mem_range.1 hk')
  unfold blkB
  rw [List.length_take, List.length_drop, hb]
  have h2 : 256 * ((b[1 + k]?.getD 0).toNat + 1) ≤ 256 * n := Nat.mul_le_mul_left 256 this
  omega
end Go.Proofs.Ytmknifnhcgdkaaa.S3
