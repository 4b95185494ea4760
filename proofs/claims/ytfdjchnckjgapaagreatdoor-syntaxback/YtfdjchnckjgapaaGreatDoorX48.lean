/-
  RPriP Lay7s SetMath BkTok
-/
import Derived.Test.YtfdjchnckjgapaaGreatDoorX47
import Derived.Lib.ConvBytes
import Derived.Test.YtfdjchnckjgapaaGreatDoorX35
import Derived.Test.YtfdjchnckjgapaaGreatDoorX36
import Derived.Lib.LaidTab
import GoSem.PinnedTables
import Derived.Test.YtfdjchnckjgapaaGreatDoorX37
import Derived.Lib.LaidCaseMet
import Derived.Lib.LaidIn
import Derived.PinnedBridge
import Derived.Test.YtfdjchnckjgapaaGreatDoorX15
namespace Go.Proofs.YtfdjchnckjgapaaGreatDoor
open Go.RowKit Go.Shelf S1
set_option linter.unusedVariables false
def TxtB (w : World) (v : Value) (l : List Int) : Prop := ∃ a cap, v = .slice a l.length cap ∧ l.length ≤ cap ∧ (a = none → l = [] ∧ cap = 0) ∧ ∀ i, (h : i < l.length) → ∃ g off, a = some ⟨g, off, none⟩ ∧ g < w.heap.size ∧ w.cell? ⟨g, off + i, none⟩ = some (.int .u8 l[i])
theorem txtB_row {w : World} {base : Nat} {v : Value} {l : List Int} (h : w.ownsRow base 5 1 v l.length (l.map (Value.int .u8))) : TxtB w v l := by
  rcases h.2 with ⟨rfl, h0⟩ | ⟨g, cap, cur, rfl, hb, hg, hc, hm, hs, ht⟩
  · obtain rfl : l = [] := List.length_eq_zero_iff.1 h0
    exact ⟨none, 0, rfl, by simp, fun _ => ⟨rfl, rfl⟩, fun i hi => (by cases hi)⟩
  · refine ⟨_, cap, rfl, hc, fun h => (by cases h), fun i hi => ⟨g, 0, rfl, (Array.getElem?_eq_some_iff.1 hg).1, ?_⟩⟩
    have := h.cells (g := g) rfl i (.int .u8 l[i]) (by simp [hi])
    rw [add_lit'] at this
    exact this
end Go.Proofs.YtfdjchnckjgapaaGreatDoor

namespace Go.Proofs.YtfdjchnckjgapaaGreatDoor
open Go.ChangeShapes Go.WideShapes Go.ChangeAt Go.RowKit Go.Shelf Go.Lib
set_option linter.unusedVariables false
theorem gDb : Tryz.prog.globalNamed "math/bits.deBruijn64tab" = some 6 := by kernel_rfl
theorem gDbType : (Tryz.prog.globals[6]?).map (·.type) = some 244 := by kernel_rfl
theorem cellsDb : Tryz.prog.cellsOf 244 = 64 := by kernel_rfl
theorem cellsByteDb : Tryz.prog.cellsOf 5 = 1 := by kernel_rfl
theorem db_of {W : World} {r : List (String × DataW Unit)} (h : laidMet Tryz.prog (("math/bits.deBruijn64tab", Rows.laid_math_bits_deBruijn64tab) :: r) W) : DbV W := by
  have t : Lib.TabIs Tryz.prog W "math/bits.deBruijn64tab" .u8 [0, 1, 56, 2, 57, 49, 28, 3, 61, 58, 42, 50, 38, 29, 17, 4, 62, 47, 59, 36, 45, 43, 51, 22, 53, 39, 33, 30, 24, 18, 12, 5, 63, 55, 48, 27, 60, 41, 37, 16, 46, 35, 44, 21, 52, 32, 23, 11, 54, 26, 40, 15, 34, 20, 31, 10, 25, 14, 19, 9, 13, 8, 7, 6] := Lib.tabIs_of_head (rest := r) gDb gDbType Tryz.underlying244 Tryz.underlying5 cellsByteDb cellsDb h
  have hc := t.cell gDb 15 (by simp)
  refine ⟨hc, ?_⟩
  rcases Nat.lt_or_ge 6 W.heap.size with q | q
  · exact q
  · simp [World.cell?, Array.getElem?_eq_none q] at hc
theorem caseX : CaseExtra Tryz.prog upLay_ren := ⟨by kernel_rfl, by kernel_rfl, by kernel_rfl, by kernel_rfl, by kernel_rfl, by kernel_rfl⟩
set_option maxRecDepth 1000000 in

theorem laidIn_case {w : World} (R : Nat) (t : TypeId) (hgR : upLay_ren.g 13 ≠ R) (hvar : w.heap[upLay_ren.g 13]? = some (.cells #[.slice (some ⟨R, 0, none⟩) caseA.size caseA.size] (upLay_ren.t 162) (0, 0)))
    (hblk : w.heap[R]? = some (.cells caseCells5 t (0, 0))) : LaidIn Tryz.prog w [("unicode.CaseRanges", caseData)] [upLay_ren.g 13, R] := by
  have hT := caseTab_of_block hblk
  have hread := case_slice_reads (ρ := upLay_ren) { upLay with } upLay.t206 caseX hT caseA_wf (by rw [caseA_size]; unfold maxLen; omega) 0
  rw [case_rows_data] at hread
  have hv : w.var? Tryz.prog "unicode.CaseRanges" = some #[.slice (some ⟨R, 0, none⟩) caseA.size caseA.size] := by simp [World.var?, caseX.n13, hvar]
  refine LaidIn.one _ caseX.n13 caseX.y13 hv hread ?_ ?_ ?_
  · refine List.nodup_append.2 ⟨row_nodup _ _, row_nodup _ _, fun a ha b hb e => ?_⟩
    obtain ⟨i, _, rfl⟩ := MemPlace.mem_row.1 ha
    obtain ⟨j, _, rfl⟩ := MemPlace.mem_row.1 hb
    simp at e
    exact hgR e.1
  · intro b off hp
    rcases List.mem_append.1 hp with hp | hp
    · obtain ⟨i, hi, e⟩ := MemPlace.mem_row.1 hp
      cases e
      refine ⟨⟨_, _, hvar⟩, fun u v hc => ?_⟩
      obtain rfl : i = 0 := by simpa using hi
      rw [Lib.cell_of_heap hvar] at hc
      simp at hc
    · obtain ⟨i, hi, e⟩ := MemPlace.mem_row.1 hp
      cases e
      refine ⟨⟨_, _, hblk⟩, fun u v hc => ?_⟩
      obtain ⟨c0, c1, c2, c3, c4⟩ := hT (i / 5) (by omega)
      have hi5 : 0 + i = 0 + i / 5 * 5 + i % 5 := by omega
      simp only at hc
      rw [hi5] at hc
      have hm : i % 5 < 5 := Nat.mod_lt _ (by omega)
      match hk : i % 5, hm with
      | 0, _ => rw [hk, Nat.add_zero, c0] at hc; cases hc
      | 1, _ => rw [hk, c1] at hc; cases hc
      | 2, _ => rw [hk, c2] at hc; cases hc
      | 3, _ => rw [hk, c3] at hc; cases hc
      | 4, _ => rw [hk, c4] at hc; cases hc
  · intro x hx
    rcases List.mem_append.1 hx with hx | hx
    · obtain ⟨i, _, rfl⟩ := MemPlace.mem_row.1 hx
      simp [MemPlace.block]
    · obtain ⟨i, _, rfl⟩ := MemPlace.mem_row.1 hx
      simp [MemPlace.block]
def firstCells : Array Value := (Go.Pinned.utf8FirstZ.map fun (n : Nat) => Value.int .u8 (n : Int)).toArray
def withVars8 (W : World) : World :=
  { W with heap := ((((((((((W.heap.modify 5 fun
      | .cells _ t frozen => .cells #[.int .u8 0, .int .u8 1, .int .u8 28, .int .u8 2, .int .u8 29, .int .u8 14, .int .u8 24, .int .u8 3, .int .u8 30, .int .u8 22, .int .u8 20, .int .u8 15, .int .u8 25, .int .u8 17, .int .u8 4, .int .u8 8, .int .u8 31, .int .u8 27, .int .u8 13, .int .u8 23, .int .u8 21, .int .u8 19, .int .u8 16, .int .u8 7, .int .u8 26, .int .u8 12, .int .u8 18, .int .u8 6, .int .u8 11, .int .u8 5, .int .u8 10, .int .u8 9] t frozen
      | o => o).modify 6 fun
      | .cells _ t frozen => .cells #[.int .u8 0, .int .u8 1, .int .u8 56, .int .u8 2, .int .u8 57, .int .u8 49, .int .u8 28, .int .u8 3, .int .u8 61, .int .u8 58, .int .u8 42, .int .u8 50, .int .u8 38, .int .u8 29, .int .u8 17, .int .u8 4, .int .u8 62, .int .u8 47, .int .u8 59, .int .u8 36, .int .u8 45, .int .u8 43, .int .u8 51, .int .u8 22, .int .u8 53, .int .u8 39, .int .u8 33, .int .u8 30, .int .u8 24, .int .u8 18, .int .u8 12, .int .u8 5, .int .u8 63, .int .u8 55, .int .u8 48, .int .u8 27, .int .u8 60, .int .u8 41, .int .u8 37, .int .u8 16, .int .u8 46, .int .u8 35, .int .u8 44, .int .u8 21, .int .u8 52, .int .u8 32, .int .u8 23, .int .u8 11, .int .u8 54, .int .u8 26, .int .u8 40, .int .u8 15, .int .u8 34, .int .u8 20, .int .u8 31, .int .u8 10, .int .u8 25, .int .u8 14, .int .u8 19, .int .u8 9, .int .u8 13, .int .u8 8, .int .u8 7, .int .u8 6] t frozen
      | o => o).modify 1 fun
      | .cells _ t frozen => .cells #[.int .u64 1, .int .u64 10, .int .u64 100, .int .u64 1000, .int .u64 10000, .int .u64 100000, .int .u64 1000000, .int .u64 10000000, .int .u64 100000000, .int .u64 1000000000, .int .u64 10000000000, .int .u64 100000000000, .int .u64 1000000000000, .int .u64 10000000000000, .int .u64 100000000000000, .int .u64 1000000000000000, .int .u64 10000000000000000, .int .u64 100000000000000000, .int .u64 1000000000000000000, .int .u64 10000000000000000000] t frozen
      | o => o).modify 4 fun
      | .cells _ t frozen => .cells #[.int .u8 128, .int .u8 191, .int .u8 160, .int .u8 191, .int .u8 128, .int .u8 159, .int .u8 144, .int .u8 191, .int .u8 128, .int .u8 143, .int .u8 0, .int .u8 0, .int .u8 0, .int .u8 0, .int .u8 0, .int .u8 0, .int .u8 0, .int .u8 0, .int .u8 0, .int .u8 0, .int .u8 0, .int .u8 0, .int .u8 0, .int .u8 0, .int .u8 0, .int .u8 0, .int .u8 0, .int .u8 0, .int .u8 0, .int .u8 0, .int .u8 0, .int .u8 0] t frozen
      | o => o).modify 8 fun
      | .cells _ t frozen => .cells #[.iface 255 (.pointer (some ⟨W.heap.size, 0, none⟩))] t frozen
      | o => o).modify 7 fun
      | .cells _ t frozen => .cells #[.iface 255 (.pointer (some ⟨W.heap.size + 1, 0, none⟩))] t frozen
      | o => o).modify 0 fun
      | .cells _ t frozen => .cells #[.slice (some ⟨W.heap.size + 2, 0, none⟩) 336 336] t frozen
      | o => o).modify 3 fun
      | .cells _ t frozen => .cells firstCells t frozen
      | o => o).push (.cells #[.string ⟨#[118, 97, 108, 117, 101, 32, 111, 117, 116, 32, 111, 102, 32, 114, 97, 110, 103, 101]⟩] 257)).push (.cells #[.string ⟨#[105, 110, 118, 97, 108, 105, 100, 32, 115, 121, 110, 116, 97, 120]⟩] 257)).push (.cells Lib.caseCells5 242) }
end Go.Proofs.YtfdjchnckjgapaaGreatDoor

namespace Go.Proofs.YtfdjchnckjgapaaGreatDoor
open Go.RowKit Go.Shelf S1
set_option linter.unusedVariables false
theorem ascU_cons (p : Nat) (c : Int) (t : List Int) : ascU p (c :: t) = ⟨c, p, 1, false⟩ :: ascU (p + 1) t := rfl
theorem ascU_len : ∀ (p : Nat) (t : List Int), (ascU p t).length = t.length
  | _, [] => rfl
  | p, c :: t => by rw [ascU_cons, List.length_cons, List.length_cons, ascU_len (p + 1) t]
theorem sgn_asc (q : Int → Bool) (p : Nat) (c : Int) (t : List Int) : sgn q (ascU p (c :: t)) = if q c = true then (some c, ascU (p + 1) t) else (none, ascU p (c :: t)) := by
  rw [ascU_cons, sgn_cons]
  simp [fitU]
theorem upC_fig (d : Nat) (h : d < 16) : figR (upC d) = true ∧ figV (upC d) = (d : Int) := by
  have key : ∀ d : Fin 16, figR (upC d.val) = true ∧ figV (upC d.val) = (d.val : Int) := by decide
  exact key ⟨d, h⟩
theorem figs_asc (rest : List Int) : ∀ (k p : Nat) (ds : List Nat), ds.length ≤ k → (∀ d ∈ ds, d < 16) →
    figsL k (ascU p (ds.map upC ++ 125 :: rest)) = ds.map upC ∧ figsD k (ascU p (ds.map upC ++ 125 :: rest)) = ascU (p + ds.length) (125 :: rest)
  | 0, p, [], _, _ => ⟨rfl, rfl⟩
  | 0, p, d :: ds, h, _ => by simp at h
  | k + 1, p, [], _, _ => by
    have hf : fitU figR ⟨125, p, 1, false⟩ = false := rfl
    constructor
    · show (if fitU figR ⟨125, p, 1, false⟩ = true then _ else _) = _; rw [hf]; rfl
    · show (if fitU figR ⟨125, p, 1, false⟩ = true then _ else _) = _; rw [hf]; rfl
  | k + 1, p, d :: ds, h, hd => by
    have hf : fitU figR ⟨upC d, p, 1, false⟩ = true := by simp [fitU, (upC_fig d (hd d (by simp))).1]
    obtain ⟨i1, i2⟩ := figs_asc rest k (p + 1) ds (by simpa using h) (fun x hx => hd x (by simp [hx]))
    constructor
    · show (if fitU figR ⟨upC d, p, 1, false⟩ = true then _ else _) = _
      rw [if_pos hf]
      exact congrArg (upC d :: ·) i1
    · show (if fitU figR ⟨upC d, p, 1, false⟩ = true then _ else _) = _
      rw [if_pos hf, List.length_cons, show p + (ds.length + 1) = p + 1 + ds.length by omega]
      exact i2
theorem hexV_last (l : List Int) (c : Int) : hexV (l ++ [c]) = hexV l * 16 + figV c := by simp [hexV]
theorem hexV_dig : ∀ (k n : Nat), n < 16 ^ k → hexV ((digF k n).map upC) = (n : Int)
  | 0, n, h => by simp at h; subst h; rfl
  | k + 1, n, h => by
    by_cases q : n < 16
    · rw [digF_small q]
      show (0 : Int) * 16 + figV (upC n) = _
      rw [(upC_fig n q).2]; omega
    · rw [digF_great (by omega), List.map_append]
      show hexV (_ ++ [upC (n % 16)]) = _
      rw [hexV_last, hexV_dig k (n / 16) (by rw [Nat.pow_succ] at h; omega), (upC_fig (n % 16) (by omega)).2]
      omega
theorem digF_ne (k n : Nat) : digF (k + 1) n ≠ [] := by
  by_cases q : n < 16
  · rw [digF_small q]; simp
  · rw [digF_great (by omega)]; simp
theorem letL_br (p n : Nat) (hn : n < 16 ^ 6) (rest : List Int) : letL (ascU p (brL n ++ rest)) = (some (n : Int), ascU (p + (brL n).length) rest) := by
  have e : brL n ++ rest = 92 :: 120 :: 123 :: ((digL n).map upC ++ 125 :: rest) := by simp [brL]
  rw [e]
  have h1 : sgn (isC 92) (ascU p (92 :: 120 :: 123 :: ((digL n).map upC ++ 125 :: rest))) = (some 92, ascU (p + 1) (120 :: 123 :: ((digL n).map upC ++ 125 :: rest))) := by rw [sgn_asc]; rfl
  have h2 : sgn (isC 120) (ascU (p + 1) (120 :: 123 :: ((digL n).map upC ++ 125 :: rest))) = (some 120, ascU (p + 1 + 1) (123 :: ((digL n).map upC ++ 125 :: rest))) := by rw [sgn_asc]; rfl
  have h3 : sgn (isC 123) (ascU (p + 1 + 1) (123 :: ((digL n).map upC ++ 125 :: rest))) = (some 123, ascU (p + 1 + 1 + 1) ((digL n).map upC ++ 125 :: rest)) := by rw [sgn_asc]; rfl
  rw [letL_d h1 h2 h3]
  obtain ⟨f1, f2⟩ := figs_asc rest 6 (p + 1 + 1 + 1) (digL n) (digF_len 6 n) (digL_lt n)
  unfold numL
  rw [f1, f2, if_neg (by
    have := digF_ne 5 n
    cases hq : digL n with
    | nil => exact absurd hq this
    | cons a b => simp), sgn_asc, if_pos (by decide)]
  simp only
  rw [show hexV ((digL n).map upC) = (n : Int) from hexV_dig 6 n hn]
  congr 2
  simp [brL]; omega
theorem entL_rg (p : Nat) (r : Rg) (h0 : 0 ≤ r.lo) (h1 : r.lo ≤ r.hi) (h2 : r.hi ≤ 1114111) (c : Int) (hc : c ≠ 45) (rest : List Int) : entL (ascU p (rgL r ++ c :: rest)) = (some r, ascU (p + (rgL r).length) (c :: rest)) := by
  have h66 : (16 ^ 6 : Nat) = 16777216 := by decide
  have elo : ((r.lo.toNat : Nat) : Int) = r.lo := by omega
  have ehi : ((r.hi.toNat : Nat) : Int) = r.hi := by omega
  by_cases q : r.hi = r.lo
  · have e : rgL r = brL r.lo.toNat := by unfold rgL; rw [if_pos q, List.append_nil]
    rw [e]
    have hl := letL_br p r.lo.toNat (by omega) (c :: rest)
    have hs : sgn (isC 45) (ascU (p + (brL r.lo.toNat).length) (c :: rest)) = (none, ascU (p + (brL r.lo.toNat).length) (c :: rest)) := by
      rw [sgn_asc, if_neg (by simp [isC, hc])]
    rw [entL_b hl hs, elo]
    cases r; simp only at q ⊢; rw [q]
  · have e : rgL r ++ c :: rest = brL r.lo.toNat ++ (45 :: (brL r.hi.toNat ++ c :: rest)) := by unfold rgL; rw [if_neg q]; simp
    have el : (rgL r).length = (brL r.lo.toNat).length + 1 + (brL r.hi.toNat).length := by unfold rgL; rw [if_neg q]; simp; omega
    rw [e]
    have hl := letL_br p r.lo.toNat (by omega) (45 :: (brL r.hi.toNat ++ c :: rest))
    have hs : sgn (isC 45) (ascU (p + (brL r.lo.toNat).length) (45 :: (brL r.hi.toNat ++ c :: rest))) = (some 45, ascU (p + (brL r.lo.toNat).length + 1) (brL r.hi.toNat ++ c :: rest)) := by rw [sgn_asc]; rfl
    have hl2 := letL_br (p + (brL r.lo.toNat).length + 1) r.hi.toNat (by omega) (c :: rest)
    rw [entL_d hl hs hl2, elo, ehi, el]
    congr 2
    omega
end Go.Proofs.YtfdjchnckjgapaaGreatDoor

namespace Go.Proofs.YtfdjchnckjgapaaGreatDoor
open Go.RowKit Go.Shelf S1
set_option linter.unusedVariables false
def shT (t : Tok) : Tok := ⟨t.k, 0, t.t, t.s⟩
abbrev sgK (c : Int) : Tok := ⟨2, 0, [c], []⟩
def Lx (T : List Int) (K : List Tok) : Prop := K.length ≤ T.length ∧ ∀ (n k p : Nat) (r : List Int) (acc : List Tok), ∃ ts, ts.map shT = K ∧ toksF n (k + K.length) (ascU p (T ++ r)) acc = toksF n k (ascU (p + T.length) r) (acc ++ ts)
theorem Lx.nil : Lx [] [] := ⟨Nat.le_refl _, fun n k p r acc => ⟨[], rfl, by simp⟩⟩
theorem Lx.app {A B : List Int} {K M : List Tok} (h : Lx A K) (g : Lx B M) : Lx (A ++ B) (K ++ M) := by
  refine ⟨by have := h.1; have := g.1; simp; omega, fun n k p r acc => ?_⟩
  obtain ⟨t1, e1, h1⟩ := h.2 n (k + M.length) p (B ++ r) acc
  obtain ⟨t2, e2, h2⟩ := g.2 n k (p + A.length) r (acc ++ t1)
  refine ⟨t1 ++ t2, by rw [List.map_append, e1, e2], ?_⟩
  rw [show k + (K ++ M).length = k + M.length + K.length by simp; omega, List.append_assoc, h1, h2, List.append_assoc acc, List.length_append, Nat.add_assoc]
theorem toksF_skip {n k p : Nat} {c : Int} {r : List Int} {acc : List Tok} (h : blankR c = true) : toksF n k (ascU p (c :: r)) acc = toksF n k (ascU (p + 1) r) acc := by
  cases k with
  | zero => rfl
  | succ k =>
    have hb : blankL false (ascU p (c :: r)) = blankL false (ascU (p + 1) r) := by
      rw [ascU_cons]
      have h35 : c ≠ 35 := by rintro rfl; exact absurd h (by decide)
      simp [blankL, h, h35]
    unfold toksF
    rw [hb]
theorem Lx.blank {c : Int} (h : blankR c = true) : Lx [c] [] := ⟨by simp, fun n k p r acc => ⟨[], rfl, by rw [List.append_nil]; exact toksF_skip h⟩⟩
theorem blankL_no {p : Nat} {c : Int} {r : List Int} (h : blankR c = false) (h35 : c ≠ 35) : blankL false (ascU p (c :: r)) = ascU p (c :: r) := by
  rw [ascU_cons]; simp [blankL, h, h35]
theorem Lx.sign {c : Int} (h : tokR c = true) : Lx [c] [sgK c] := by
  have hb : blankR c = false ∧ c ≠ 35 ∧ nameB c = false := by
    simp [tokR, or_assoc] at h
    rcases h with h | h | h | h | h | h | h | h | h | h | h | h | h <;> subst h <;> decide
  refine ⟨Nat.le_refl _, fun n k p r acc => ⟨[⟨2, p, [c], []⟩], rfl, ?_⟩⟩
  refine toksF_on (t := ⟨2, p, [c], []⟩) ?_ (by exact (by decide : (2 : Int) ≠ 4))
  show tokO n (blankL false (ascU p (c :: r))) = _
  rw [blankL_no hb.1 hb.2.1, ascU_cons, tokO_cons, if_neg (by simp [fitU, hb.2.2]), if_pos (by simp [fitU, h])]
  rfl
theorem setF_set2 (n : Nat) (rest : List Int) : ∀ (l : List Rg) (k p : Nat) (acc : List Rg), Fits l → l.length < k → setF n k (ascU p (setLs l ++ 93 :: rest)) acc = SR.good (acc ++ l) (ascU (p + (setLs l).length + 1) rest)
  | [], k, p, acc, _, hk => by
    obtain ⟨j, rfl⟩ : ∃ j, k = j + 1 := ⟨k - 1, by simp at hk; omega⟩
    have hs : sgn (isC 93) (ascU p (setLs [] ++ 93 :: rest)) = (some 93, ascU (p + 1) rest) := rfl
    rw [setF_end hs, List.append_nil]; rfl
  | r :: l, k, p, acc, hf, hk => by
    obtain ⟨j, rfl⟩ : ∃ j, k = j + 1 := ⟨k - 1, by simp at hk; omega⟩
    obtain ⟨h0, h1, h2⟩ := hf r (by simp)
    have e : setLs (r :: l) ++ 93 :: rest = rgL r ++ (setLs l ++ 93 :: rest) := by simp [setLs]
    obtain ⟨t, ht⟩ : ∃ t, rgL r = 92 :: t := ⟨_, by unfold rgL brL; rfl⟩
    have hc : ∃ c rest', setLs l ++ 93 :: rest = c :: rest' ∧ c ≠ 45 := by
      cases l with
      | nil => exact ⟨93, rest, rfl, by decide⟩
      | cons r2 l2 =>
        refine ⟨92, _, by show (rgL r2 ++ setLs l2) ++ 93 :: rest = _; unfold rgL brL; rfl, by decide⟩
    obtain ⟨c, rest', hcr, hc45⟩ := hc
    have hs : sgn (isC 93) (ascU p (setLs (r :: l) ++ 93 :: rest)) = (none, ascU p (setLs (r :: l) ++ 93 :: rest)) := by
      rw [e, ht]
      show sgn (isC 93) (ascU p (92 :: (t ++ _))) = _
      rw [sgn_asc, if_neg (by decide)]
      rfl
    have hen : entL (ascU p (setLs (r :: l) ++ 93 :: rest)) = (some r, ascU (p + (rgL r).length) (setLs l ++ 93 :: rest)) := by
      rw [e, hcr]
      exact entL_rg p r h0 h1 h2 c hc45 rest'
    rw [setF_on hs hen (by simp; omega), setF_set2 n rest l j _ (acc ++ [r]) (fun x hx => hf x (by simp [hx])) (by simpa using hk)]
    simp only [List.append_assoc, List.singleton_append]
    congr 2
    simp [setLs]
    omega
theorem setLs_ge : ∀ l : List Rg, l.length ≤ (setLs l).length
  | [] => Nat.le_refl _
  | r :: l => by
    show _ ≤ (rgL r ++ setLs l).length
    have : 1 ≤ (rgL r).length := by unfold rgL brL; simp
    have := setLs_ge l
    simp; omega
theorem Lx.set {l : List Rg} (hf : Fits l) : Lx (setL l) [⟨3, 0, [], l⟩] := by
  refine ⟨by unfold setL; simp, fun n k p r acc => ⟨[⟨3, p, [], l⟩], rfl, ?_⟩⟩
  refine toksF_on (t := ⟨3, p, [], l⟩) ?_ (by exact (by decide : (3 : Int) ≠ 4))
  have hu : setL l ++ r = 91 :: (setLs l ++ 93 :: r) := by simp [setL]
  have hl := setLs_ge l
  rw [hu, blankL_no (by decide) (by decide), ascU_cons, tokO_cons, if_neg (by simp [fitU, nameB]), if_neg (by simp [fitU, tokR]), if_pos (by simp [fitU, isC]), setF_set2 n r l _ (p + 1) [] hf (by rw [ascU_len]; simp; omega)]
  show OR.good _ _ = _
  congr 2
  simp [setL]; omega
def kwK (b : Bool) : List Tok := [⟨1, 0, if b = true then wBreak else wKeep, []⟩]
theorem Lx.word (b : Bool) : Lx (kwT b) (kwK b) := by
  have h32 : ∀ (p : Nat) (r : List Int), (ascU p (32 :: r)).takeWhile (fitU nameR) = [] ∧ (ascU p (32 :: r)).dropWhile (fitU nameR) = ascU p (32 :: r) := fun p r => by
    rw [ascU_cons]; constructor <;> simp [fitU, nameR, nameB, decB]
  cases b with
  | true =>
    refine ⟨by decide, fun n k p r acc => ⟨[⟨1, p, wBreak, []⟩], rfl, ?_⟩⟩
    have h := h32 (p + 5) r
    refine (toksF_on (t := ⟨1, p, wBreak, []⟩) (r := ascU (p + 5) (32 :: r)) ?_ (by exact (by decide : (1 : Int) ≠ 4))).trans (toksF_skip (by decide))
    show tokO n (blankL false (ascU p (98 :: ([114, 101, 97, 107] ++ 32 :: r)))) = _
    rw [blankL_no (by decide) (by decide), ascU_cons, tokO_cons, if_pos (by simp [fitU, nameB])]
    have e : ascU (p + 1) ([114, 101, 97, 107] ++ 32 :: r) = ⟨114, p + 1, 1, false⟩ :: ⟨101, p + 2, 1, false⟩ :: ⟨97, p + 3, 1, false⟩ :: ⟨107, p + 4, 1, false⟩ :: ascU (p + 5) (32 :: r) := rfl
    rw [e]
    simp [fitU, nameR, nameB, decB] at h ⊢
    rw [h.1, h.2]
    exact ⟨rfl, rfl⟩
  | false =>
    refine ⟨by decide, fun n k p r acc => ⟨[⟨1, p, wKeep, []⟩], rfl, ?_⟩⟩
    have h := h32 (p + 4) r
    refine (toksF_on (t := ⟨1, p, wKeep, []⟩) (r := ascU (p + 4) (32 :: r)) ?_ (by exact (by decide : (1 : Int) ≠ 4))).trans (toksF_skip (by decide))
    show tokO n (blankL false (ascU p (107 :: ([101, 101, 112] ++ 32 :: r)))) = _
    rw [blankL_no (by decide) (by decide), ascU_cons, tokO_cons, if_pos (by simp [fitU, nameB])]
    have e : ascU (p + 1) ([101, 101, 112] ++ 32 :: r) = ⟨101, p + 1, 1, false⟩ :: ⟨101, p + 2, 1, false⟩ :: ⟨112, p + 3, 1, false⟩ :: ascU (p + 4) (32 :: r) := rfl
    rw [e]
    simp [fitU, nameR, nameB, decB] at h ⊢
    rw [h.1, h.2]
    exact ⟨rfl, rfl⟩
def brK (b : Bool) (t : List Tok) : List Tok := if b = true then sgK 40 :: (t ++ [sgK 41]) else t
def barK (fst : Bool) (k : Int) : List Tok := if fst = false ∧ k = 2 then [sgK 124] else []
def tkK (g : Nd → List Tok) (k : Int) : Bool → List Nd → List Tok
  | _, [] => []
  | fst, x :: l => barK fst k ++ (brK (inBr x.k k) (g x) ++ tkK g k false l)
def headK (st : Sts) (n : Nd) : List Tok := if n.k = 1 then [⟨3, 0, [], st.getD n.s.toNat []⟩] else []
def signTk (k : Int) : List Tok := if k = 3 then [sgK 42] else if k = 4 then [sgK 43] else if k = 5 then [sgK 63] else []
def tkN : Nat → Sts → Nd → List Tok
  | 0, st, n => headK st n ++ signTk n.k
  | f + 1, st, n => headK st n ++ (tkK (tkN f st) n.k true n.kids ++ signTk n.k)
theorem lx_sign (k : Int) : Lx (signT k) (signTk k) := by
  unfold signT signTk
  split
  · exact Lx.sign (by decide)
  · split
    · exact Lx.sign (by decide)
    · split
      · exact Lx.sign (by decide)
      · exact Lx.nil
theorem lx_head {st : Sts} (hF : ∀ s ∈ st, Fits s) {n : Nd} (h : n.k = 1 → 0 ≤ n.s ∧ n.s < (st.length : Int)) : Lx (headT (st.map setL) n) (headK st n) := by
  unfold headT headK
  split
  · rename_i q
    obtain ⟨h0, h1⟩ := h q
    have hl : n.s.toNat < st.length := by omega
    have e1 : (st.map setL).getD n.s.toNat [] = setL st[n.s.toNat] := by simp [List.getD, hl]
    have e2 : st.getD n.s.toNat [] = st[n.s.toNat] := by simp [List.getD, hl]
    rw [e1, e2]
    exact Lx.set (hF _ (List.getElem_mem hl))
  · exact Lx.nil
theorem lx_br {b : Bool} {T : List Int} {K : List Tok} (h : Lx T K) : Lx (brT b T) (brK b K) := by
  unfold brT brK
  split
  · exact (Lx.sign (c := 40) (by decide)).app (h.app (Lx.sign (c := 41) (by decide)))
  · exact h
theorem lx_bar (fst : Bool) (k : Int) : Lx (barT fst k) (barK fst k) := by
  unfold barT barK
  split
  · exact Lx.sign (by decide)
  · exact Lx.nil
theorem lx_K {g : Nd → List Int} {g' : Nd → List Tok} {k : Int} : ∀ {l : List Nd} {fst : Bool}, (∀ x ∈ l, Lx (g x) (g' x)) → Lx (txK g k fst l) (tkK g' k fst l)
  | [], _, _ => Lx.nil
  | x :: l, fst, h => (lx_bar fst k).app ((lx_br (h x (by simp))).app (lx_K fun y hy => h y (by simp [hy])))
theorem lx_N {st : Sts} (hF : ∀ s ∈ st, Fits s) : ∀ {f : Nat} {n : Nd}, SIn f st.length n → Lx (txN f (st.map setL) n) (tkN f st n)
  | 0, n, h => (lx_head hF h.here).app (lx_sign _)
  | f + 1, n, h => (lx_head hF h.here).app ((lx_K fun x hx => lx_N hF (h.2 x hx)).app (lx_sign _))
def rlK (st : Sts) (x : Rl) : List Tok := kwK x.b ++ (tkN 120 st x.l ++ (sgK 47 :: (tkN 120 st x.r ++ [sgK 59])))
def progK (st : Sts) (rl : List Rl) : List Tok := rl.flatMap (rlK st)
theorem lx_prog {st : Sts} (hF : ∀ s ∈ st, Fits s) : ∀ {rl : List Rl}, (∀ x ∈ rl, SIn 120 st.length x.l ∧ SIn 120 st.length x.r) → Lx (progT (st.map setL) rl) (progK st rl)
  | [], _ => Lx.nil
  | x :: rl, h => by
    have hx := h x (by simp)
    have h1 : Lx ([59, 10] : List Int) [sgK 59] := (Lx.sign (c := 59) (by decide)).app (Lx.blank (c := 10) (by decide))
    exact ((Lx.word x.b).app ((lx_N hF hx.1).app ((Lx.sign (c := 47) (by decide)).app ((lx_N hF hx.2).app h1)))).app (lx_prog hF fun y hy => h y (by simp [hy]))
theorem Lx.all {T : List Int} {K : List Tok} (h : Lx T K) (n : Nat) : ∃ ts, ts.map shT = K ∧ toksL n (ascU 0 T) = TR.good (ts ++ [⟨4, n, [], []⟩]) := by
  obtain ⟨ts, e, h2⟩ := h.2 n (T.length - K.length + 1) 0 [] []
  refine ⟨ts, e, ?_⟩
  unfold toksL
  have h1 := h.1
  rw [ascU_len, show T.length + 1 = T.length - K.length + 1 + K.length by omega]
  rw [List.append_nil] at h2
  rw [h2]
  exact toksF_end (t := ⟨4, n, [], []⟩) (r := []) rfl rfl
end Go.Proofs.YtfdjchnckjgapaaGreatDoor
