/-
  What lex.inBraces, lex.Set and the document's hexa, Set answer: a set's text. Plain mathematics: where tokens stand, and where an error is told.
-/
import Derived.Test.YtfdjchnckjgapaaGreatDoorY09
import Derived.Test.YtfdjchnckjgapaaGreatDoorY03
import Derived.Test.YtfdjchnckjgapaaGreatDoorY29
namespace Go.Proofs.YtfdjchnckjgapaaGreatDoor
open Go.RowKit Go.Shelf S1
set_option linter.unusedVariables false

/-- A number in braces; a range; a set: their bytes. -/
def brL (n : Nat) : List Int := 92 :: 120 :: 123 :: ((digL n).map upC ++ [125])
def rgL (r : Rg) : List Int := brL r.lo.toNat ++ (if r.hi = r.lo then [] else 45 :: brL r.hi.toNat)
def setLs (l : List Rg) : List Int := l.flatMap rgL
def setL (l : List Rg) : List Int := 91 :: (setLs l ++ [93])

theorem strOf_append (a b : List Int) : strOfNums (a ++ b) = strOfNums a ++ strOfNums b := by
  unfold strOfNums
  apply ByteArray.ext
  simp
theorem strOf_toList (l : List Int) : (strOfNums l).data.toList = l.map fun n => UInt8.ofNat n.toNat := by simp [strOfNums]
theorem strOf_size (l : List Int) : (strOfNums l).size = l.length := by
  show (strOfNums l).data.size = _
  simp [strOfNums]
theorem up_low (l : List Nat) (h : ∀ d ∈ l, d < 16) : (⟨(Lib.toUpperA (strOfNums (l.map lowC)).data.toList).toArray⟩ : ByteArray) = strOfNums (l.map upC) := by
  rw [strOf_toList]
  unfold strOfNums Lib.toUpperA
  congr 2
  rw [List.map_map, List.map_map, List.map_map]
  apply List.map_congr_left
  intro d hd
  have key : ∀ d : Fin 16, Lib.upperB (UInt8.ofNat (lowC d.val).toNat) = UInt8.ofNat (upC d.val).toNat := by decide +kernel
  exact key ⟨d, h d hd⟩
theorem low_ascii (l : List Nat) (h : ∀ d ∈ l, d < 16) (j : Nat) (b : UInt8) (hb : (strOfNums (l.map lowC)).data.toList[j]? = some b) : b.toNat < 128 := by
  rw [strOf_toList] at hb
  have hm := List.mem_of_getElem? hb
  rw [List.map_map] at hm
  obtain ⟨d, hd, rfl⟩ := List.mem_map.1 hm
  have key : ∀ d : Fin 16, (UInt8.ofNat (lowC d.val).toNat).toNat < 128 := by decide +kernel
  exact key ⟨d, h d hd⟩

theorem digL_lt (n : Nat) : ∀ d ∈ digL n, d < 16 := digF_lt 6 n
theorem brL_len (n : Nat) : (brL n).length ≤ 10 := by
  have := digF_len 6 n
  simp [brL, digL]; omega

theorem inBraces_any (n : Nat) (hn : n < 16 ^ 6) (w : World) (hdb : DbV w) :
    Calls Tryz.prog 53 #[.int .i64 n] w fun e w' => e = .returned (.string (strOfNums (brL n))) ∧ Below w.heap.size w w' := by
  have h := fmt_any n hn w hdb
  have hsz : (strOfNums ((digL n).map lowC)).size ≤ 140737488355328 := by
    rw [strOf_size, List.length_map]
    have := digF_len 6 n
    unfold digL; omega
  have hup := fun W => toUpper_any (strOfNums ((digL n).map lowC)) W hsz (low_ascii _ (digL_lt n))
  rw [up_low _ (digL_lt n)] at hup
  have hbr : strOfNums (brL n) = ⟨#[92, 120, 123]⟩ ++ strOfNums ((digL n).map upC) ++ ⟨#[125]⟩ := by
    rw [show (⟨#[92, 120, 123]⟩ : ByteArray) = strOfNums [92, 120, 123] from rfl, show (⟨#[125]⟩ : ByteArray) = strOfNums [125] from rfl, ← strOf_append, ← strOf_append]; rfl
  rw [hbr]
  have h24 : n < 16777216 := by have : (16 ^ 6 : Nat) = 16777216 := by decide
                                omega
  obtain ⟨s1, hs1⟩ : ∃ s1, s1 = strOfNums ((digL n).map lowC) := ⟨_, rfl⟩
  obtain ⟨s2, hs2⟩ : ∃ s2, s2 = strOfNums ((digL n).map upC) := ⟨_, rfl⟩
  rw [← hs1] at h hup
  rw [← hs2] at hup ⊢
  have hz : s2.size ≤ 6 := by
    rw [hs2, strOf_size, List.length_map]
    exact digF_len 6 n
  have hz1 : ¬ 9223372036854775807 < 3 + s2.size := by omega
  have hz2 : ¬ 9223372036854775807 < 3 + s2.size + 1 := by omega
  clear hs1 hs2 hbr hsz hn
  go_enter Tryz.func53, Tryz.ntmps53
  go_wp2_with (first | (go_at_call 96; refine h.mono ?_; rintro e w1 ⟨rfl, hB1⟩; have hs1 := hB1.size) | (go_at_call 95; refine (hup _).mono ?_; rintro e w2 ⟨rfl, hB2⟩))
  go_ret
  exact ⟨rfl, hB1.trans (hB2.mono hs1)⟩

/-- The bytes of a list, as the builder's cells. -/
theorem cells_bytes (l : List Int) (h : Byt l) : Lib.byteCells (l.map fun n => UInt8.ofNat n.toNat) = l.map (Value.int .u8) := by
  unfold Lib.byteCells
  rw [List.map_map]
  apply List.map_congr_left
  intro c hc
  have := h c hc
  simp only [Function.comp]
  congr 1
  rw [UInt8.toNat_ofNat']
  omega
theorem str_cells (l : List Int) (h : Byt l) : Lib.strCells (strOfNums l) = l.map (Value.int .u8) := by
  unfold Lib.strCells
  rw [strOf_toList]
  exact cells_bytes l h
theorem upC_byt (d : Nat) (h : d < 16) : 48 ≤ upC d ∧ upC d ≤ 70 := by
  unfold upC; split <;> omega
theorem brL_byt (n : Nat) : ∀ c ∈ brL n, 45 ≤ c ∧ c ≤ 125 := by
  intro c hc
  unfold brL at hc
  simp only [List.mem_cons, List.mem_append, List.mem_map, List.not_mem_nil, or_false] at hc
  rcases hc with rfl | rfl | rfl | ⟨d, hd, rfl⟩ | rfl
  · omega
  · omega
  · omega
  · have := upC_byt d (digL_lt n d hd); omega
  · omega
theorem rgL_byt (r : Rg) : ∀ c ∈ rgL r, 45 ≤ c ∧ c ≤ 125 := by
  intro c hc
  unfold rgL at hc
  rcases List.mem_append.1 hc with hc | hc
  · exact brL_byt _ c hc
  · split at hc
    · cases hc
    · rcases List.mem_cons.1 hc with rfl | hc
      · omega
      · exact brL_byt _ c hc
theorem setLs_byt (l : List Rg) : ∀ c ∈ setLs l, 45 ≤ c ∧ c ≤ 125 := by
  intro c hc
  obtain ⟨r, _, hr⟩ := List.mem_flatMap.1 hc
  exact rgL_byt r c hr
theorem setL_byt (l : List Rg) : ∀ c ∈ setL l, 45 ≤ c ∧ c ≤ 125 := by
  intro c hc
  unfold setL at hc
  rcases List.mem_cons.1 hc with rfl | hc
  · omega
  · rcases List.mem_append.1 hc with hc | hc
    · exact setLs_byt l c hc
    · obtain rfl : c = 93 := by simpa using hc
      omega
theorem rgL_len (r : Rg) : (rgL r).length ≤ 21 := by
  unfold rgL
  have h1 := brL_len r.lo.toNat
  have h2 := brL_len r.hi.toNat
  split <;> simp <;> omega
theorem setLs_len : ∀ (l : List Rg), (setLs l).length ≤ 21 * l.length
  | [] => by simp [setLs]
  | r :: l => by
    have h1 := rgL_len r
    have h2 := setLs_len l
    show (rgL r ++ setLs l).length ≤ _
    simp; omega
theorem byt_of {l : List Int} (h : ∀ c ∈ l, 45 ≤ c ∧ c ≤ 125) : Byt l := fun c hc => by have := h c hc; omega
theorem setLs_snoc (l : List Rg) (r : Rg) : setLs (l ++ [r]) = setLs l ++ rgL r := by simp [setLs]

theorem BuilderAtF_below {T e : TypeId} {B b : Nat} {p : Value} {bs : List Value} {w w' : World} (h : Lib.BuilderAtF T e B b p bs w) (hb : Below w.heap.size w w') : Lib.BuilderAtF T e B b p bs w' := by
  obtain ⟨h1, v, h2, h3, h4⟩ := h
  exact ⟨h1, v, (hb.block b (Array.getElem?_eq_some_iff.1 h2).1).trans h2, World.ownsRowF.kept h3 (grownR_below hb none) (by cases v.ownBlock <;> simp), h4⟩
theorem bytes_snoc (l : List Int) (c : Int) : l.map (Value.int .u8) ++ [Value.int .u8 c] = (l ++ [c]).map (Value.int .u8) := by simp
theorem bytes_app (l m : List Int) (h : Byt m) : l.map (Value.int .u8) ++ Lib.strCells (strOfNums m) = (l ++ m).map (Value.int .u8) := by rw [str_cells m h, List.map_append]

set_option maxRecDepth 100000 in
set_option maxHeartbeats 4000000 in
theorem lexSet_any (l : List Rg) (hf : Fits l) (hl : l.length ≤ 4000) (v : Value) (w : World) (hdb : DbV w) (hv : RngIn w v l) :
    Calls Tryz.prog 26 #[v] w fun e w' => e = .returned (.string (strOfNums (setL l))) ∧ Below w.heap.size w w' := by
  obtain ⟨a, cap, rfl, hc, hi⟩ := hv
  have HI : Hid (∀ i, (h : i < l.length) → ∃ g off, a = some ⟨g, off, none⟩ ∧ g < w.heap.size ∧ w.cell? ⟨g, off + i * 2, none⟩ = some (.int .i64 l[i].lo) ∧ w.cell? ⟨g, off + i * 2 + 1, none⟩ = some (.int .i64 l[i].hi)) := hi
  have HF : Hid (Fits l) := hf
  have h0 : Lib.IsBuilderF 97 5 w.heap.size w.heap.size [] (w.alloc (.cells #[.pointer none, .slice none 0 0] 97)) := .inl ⟨Nat.le_refl _, .slice none 0 0, heap_new' w _, World.ownsRowF_nil _ _ _ _, by simp [Value.ownBlock]⟩
  have hB0 : Below w.heap.size w (w.alloc (.cells #[.pointer none, .slice none 0 0] 97)) := (Below.refl _ w).alloc (Nat.le_refl _) _
  have hw0 := writeByte_any w.heap.size w.heap.size [] 91 _ h0 (by simp) (by simp)
  have HDB : Hid (∀ W, Below w.heap.size w W → DbV W) := fun W h => hdb.below h hdb.2
  obtain ⟨fin, hfin⟩ : ∃ fin, fin = strOfNums (setL l) := ⟨_, rfl⟩
  rw [← hfin]
  have HFIN : Hid (fin = strOfNums (setL l)) := hfin
  clear hi hf h0 hfin
  go_enter Tryz.func26, Tryz.ntmps26
  go_wp2_with fail
  refine hw0.mono ?_
  rintro e w1 ⟨rfl, hb1, hB1, _⟩
  have hB01 : Below w.heap.size w w1 := hB0.trans hB1
  have HB1 : Hid (Lib.BuilderAtF 97 5 w.heap.size w.heap.size (.pointer (some ⟨w.heap.size, 0, none⟩)) ((91 :: setLs (l.take 0)).map (Value.int .u8)) w1) := hb1
  clear hw0 hb1 hB1 hB0
  go_wp2
  go_loopw [9] (fun xk wr => ∃ k : Nat, k ≤ l.length ∧ xk = .int .i64 k ∧ Hid (Lib.BuilderAtF 97 5 w.heap.size w.heap.size (.pointer (some ⟨w.heap.size, 0, none⟩)) ((91 :: setLs (l.take k)).map (Value.int .u8)) wr) ∧ Below w.heap.size w wr) (fun xk _ => l.length - (intOf xk).toNat)
  case atStart => exact ⟨0, Nat.zero_le _, rfl, HB1, hB01⟩
  case round =>
    obtain ⟨k, hk, rfl, HBr, hB⟩ := hrel
    have hbs := hB.size
    have hln := setLs_len (l.take k)
    have hln2 : (l.take k).length ≤ 4000 := by rw [List.length_take]; omega
    by_cases hlt : k < l.length
    · obtain ⟨g, off, rfl, hg, c0, c1⟩ := HI.out k hlt
      obtain ⟨r, hr⟩ : ∃ r, r = l[k] := ⟨_, rfl⟩
      have hrf := HF.out r (by rw [hr]; exact List.getElem_mem hlt)
      have HST : Hid (setLs (l.take (k + 1)) = setLs (l.take k) ++ rgL r) := by
        show _ = _
        rw [List.take_succ_eq_append_getElem hlt, setLs_snoc, hr]
      rw [← hr] at c0 c1
      clear hr
      obtain ⟨lo, hlo⟩ : ∃ lo : Nat, lo = r.lo.toNat := ⟨_, rfl⟩
      obtain ⟨hi, hhi⟩ : ∃ hi : Nat, hi = r.hi.toNat := ⟨_, rfl⟩
      have elo : r.lo = (lo : Int) := by have := hrf.1; omega
      have ehi : r.hi = (hi : Int) := by have := hrf.1; have := hrf.2.1; omega
      have hlob : lo < 16 ^ 6 := by have : (16 ^ 6 : Nat) = 16777216 := by decide
                                    have := hrf.2.1; have := hrf.2.2; omega
      have hhib : hi < 16 ^ 6 := by have : (16 ^ 6 : Nat) = 16777216 := by decide
                                    have := hrf.2.2; omega
      rw [elo] at c0
      rw [ehi] at c1
      have HRG : Hid (rgL r = brL lo ++ (if (hi : Int) = (lo : Int) then [] else 45 :: brL hi)) := by show _ = _; unfold rgL; rw [← hlo, ← hhi, elo, ehi]
      have hk0 : (0 : Int) ≤ (k : Int) := by omega
      have hk1 : (k : Int) < (l.length : Int) := by omega
      have d0 : wr.cell? ⟨g, off + k * 2, none⟩ = some (.int .i64 (lo : Int)) := (hB.cell (p := ⟨g, _, none⟩) hg).trans c0
      have d1 : wr.cell? ⟨g, off + k * 2 + 1, none⟩ = some (.int .i64 (hi : Int)) := (hB.cell (p := ⟨g, _, none⟩) hg).trans c1
      have hBW : Below w.heap.size w (wr.alloc (.cells #[.int .i64 (lo : Int), .int .i64 (hi : Int)] 94)) := hB.alloc hbs _
      have hin := inBraces_any lo hlob _ (HDB.out _ hBW)
      have HBW : Hid (Lib.BuilderAtF 97 5 w.heap.size w.heap.size (.pointer (some ⟨w.heap.size, 0, none⟩)) ((91 :: setLs (l.take k)).map (Value.int .u8)) (wr.alloc (.cells #[.int .i64 (lo : Int), .int .i64 (hi : Int)] 94))) := HBr.out.alloc _
      have HN : Hid _ := heap_new' wr (.cells #[.int .i64 (lo : Int), .int .i64 (hi : Int)] 94)
      clear c0 c1 elo ehi hlo hhi hrf hlob
      go_wp2_with fail
      refine hin.mono ?_
      rintro e w2 ⟨rfl, hB2⟩
      have hs2 := hB2.size
      have hw2s : wr.heap.size < w2.heap.size := by simp at hs2; omega
      have hB02 : Below w.heap.size w w2 := hBW.trans (hB2.mono (by simp; omega))
      have hbr := brL_len lo
      have hwr := writeString_any w.heap.size w.heap.size _ (strOfNums (brL lo)) w2 (.inr (BuilderAtF_below HBW.out hB2)) (by rw [strOf_size]; simp; omega) (by omega)
      rw [bytes_app _ _ (byt_of (brL_byt lo))] at hwr
      have hR2 : w2.heap[wr.heap.size]? = some (.cells #[.int .i64 (lo : Int), .int .i64 (hi : Int)] 94) := (hB2.block _ (by simp)).trans HN.out
      obtain ⟨s1, hs1⟩ : ∃ s1, s1 = strOfNums (brL lo) := ⟨_, rfl⟩
      rw [← hs1] at hwr ⊢
      clear hin hs1
      go_wp2_with fail
      refine hwr.mono ?_
      rintro e w3 ⟨rfl, hb3, hB3, hk3⟩
      have hbl : w.heap.size < wr.heap.size := HBr.out.lt
      have hR3 : w3.heap[wr.heap.size]? = some (.cells #[.int .i64 (lo : Int), .int .i64 (hi : Int)] 94) := hk3 _ _ hR2 (by simp; omega) (fun c fz h => by injection h with _ h2 _; exact absurd h2 (by decide))
      have hs3 := hB3.size
      have hB03 : Below w.heap.size w w3 := hB02.trans hB3
      have e0 : w3.cell? ⟨wr.heap.size, 0, none⟩ = some (.int .i64 (lo : Int)) := cell_of_row _ _ 0 _ _ _ hR3
      have e1 : w3.cell? ⟨wr.heap.size, 1, none⟩ = some (.int .i64 (hi : Int)) := cell_of_row _ _ 1 _ _ _ hR3
      have HB3 : Hid (Lib.BuilderAtF 97 5 w.heap.size w.heap.size (.pointer (some ⟨w.heap.size, 0, none⟩)) ((91 :: setLs (l.take k) ++ brL lo).map (Value.int .u8)) w3) := hb3
      have HR3 : Hid (w3.heap[wr.heap.size]? = some (.cells #[.int .i64 (lo : Int), .int .i64 (hi : Int)] 94)) := hR3
      clear hwr hb3 hB3 hk3 hR2 hR3 d0 d1 HN HBW hBW hB2
      by_cases hq : (hi : Int) = (lo : Int)
      · have hq' : ((hi : Int) != (lo : Int)) = false := by simpa using hq
        have HB4 : Hid (Lib.BuilderAtF 97 5 w.heap.size w.heap.size (.pointer (some ⟨w.heap.size, 0, none⟩)) ((91 :: setLs (l.take (k + 1))).map (Value.int .u8)) w3) := by
          have h := HB3.out
          show Lib.BuilderAtF _ _ _ _ _ _ _
          rw [HST.out, HRG.out, if_pos hq, List.append_nil]
          exact h
        clear hq
        go_wp2
        go_roundw
        case rel => exact ⟨k + 1, by omega, by go_num, HB4, hB03⟩
        case measure => simp [intOf]; omega
      · have hq' : ((hi : Int) != (lo : Int)) = true := by simpa using hq
        have hln3 : (91 :: setLs (l.take k) ++ brL lo).length ≤ 90000 := by simp; omega
        have hw4 := writeByte_any w.heap.size w.heap.size _ 45 w3 (.inr HB3.out) (by rw [List.length_map]; omega) (by omega)
        rw [bytes_snoc] at hw4
        have HQ : Hid (¬ (hi : Int) = (lo : Int)) := hq
        clear hq
        go_wp2_with fail
        refine hw4.mono ?_
        rintro e w4 ⟨rfl, hb4, hB4, hk4⟩
        have hs4 := hB4.size
        have hB04 : Below w.heap.size w w4 := hB03.trans hB4
        have hR4 : w4.heap[wr.heap.size]? = some (.cells #[.int .i64 (lo : Int), .int .i64 (hi : Int)] 94) := hk4 _ _ HR3.out (by simp; omega) (fun c fz h => by injection h with _ h2 _; exact absurd h2 (by decide))
        have f1 : w4.cell? ⟨wr.heap.size, 1, none⟩ = some (.int .i64 (hi : Int)) := cell_of_row _ _ 1 _ _ _ hR4
        have hin := inBraces_any hi hhib w4 (HDB.out _ hB04)
        have HB4 : Hid (Lib.BuilderAtF 97 5 w.heap.size w.heap.size (.pointer (some ⟨w.heap.size, 0, none⟩)) ((91 :: setLs (l.take k) ++ brL lo ++ [45]).map (Value.int .u8)) w4) := hb4
        clear hw4 hb4 hB4 hk4 hR4 e0 e1
        go_wp2_with fail
        refine hin.mono ?_
        rintro e w5 ⟨rfl, hB5⟩
        have hs5 := hB5.size
        have hB05 : Below w.heap.size w w5 := hB04.trans (hB5.mono (by omega))
        have hbr2 := brL_len hi
        have hw6 := writeString_any w.heap.size w.heap.size _ (strOfNums (brL hi)) w5 (.inr (BuilderAtF_below HB4.out hB5)) (by rw [strOf_size, List.length_map]; simp at hln3 ⊢; omega) (by omega)
        rw [bytes_app _ _ (byt_of (brL_byt hi))] at hw6
        obtain ⟨s2, hs2'⟩ : ∃ s2, s2 = strOfNums (brL hi) := ⟨_, rfl⟩
        rw [← hs2'] at hw6 ⊢
        clear hin hs2'
        go_wp2_with fail
        refine hw6.mono ?_
        rintro e w6 ⟨rfl, hb6, hB6, hk6⟩
        have hB06 : Below w.heap.size w w6 := hB05.trans hB6
        have HB6 : Hid (Lib.BuilderAtF 97 5 w.heap.size w.heap.size (.pointer (some ⟨w.heap.size, 0, none⟩)) ((91 :: setLs (l.take (k + 1))).map (Value.int .u8)) w6) := by
          show Lib.BuilderAtF _ _ _ _ _ _ _
          rw [HST.out, HRG.out, if_neg HQ.out]
          have e : 91 :: (setLs (l.take k) ++ (brL lo ++ 45 :: brL hi)) = 91 :: setLs (l.take k) ++ brL lo ++ [45] ++ brL hi := by simp
          rw [e]
          exact hb6
        clear hw6 hb6 hB6 hk6
        go_wp2
        go_roundw
        case rel => exact ⟨k + 1, by omega, by go_num, HB6, hB06⟩
        case measure => simp [intOf]; omega
    · obtain rfl : k = l.length := by omega
      have hid : decide ((l.length : Int) < (l.length : Int)) = false := by simp
      have hw4 := writeByte_any w.heap.size w.heap.size _ 93 wr (.inr HBr.out) (by rw [List.length_map, List.length_cons]; omega) (by omega)
      rw [bytes_snoc, List.take_length] at hw4
      go_wp2_with fail
      refine hw4.mono ?_
      rintro e w4 ⟨rfl, hb4, hB4, hk4⟩
      have hB04 : Below w.heap.size w w4 := hB.trans hB4
      have hs4 := hB4.size
      have hb5 : Lib.BuilderAtF 97 5 w.heap.size w.heap.size (.pointer (some ⟨w.heap.size, 0, none⟩)) (Lib.byteCells ((setL l).map fun n => UInt8.ofNat n.toNat)) w4 := by
        rw [cells_bytes _ (byt_of (setL_byt l))]
        exact hb4
      have hst := string_any w.heap.size w.heap.size _ w4 (.inr hb5) (by omega)
      have hfn : (⟨((setL l).map fun n => UInt8.ofNat n.toNat).toArray⟩ : ByteArray) = fin := HFIN.out.symm
      rw [hfn] at hst
      clear hw4 hb4 hb5 hk4 hB4 hfn
      go_wp2_with fail
      refine hst.mono ?_
      rintro e w5 ⟨rfl, hB5⟩
      go_wp2
      go_ret
      exact ⟨rfl, hB04.trans hB5⟩
end Go.Proofs.YtfdjchnckjgapaaGreatDoor

namespace Go.Proofs.YtfdjchnckjgapaaGreatDoor
open Go.RowKit S1
set_option linter.unusedVariables false

theorem run_suffix_at {zs : List Int} : ∀ {us r : List U} {p : Nat}, Run zs p us zs.length → r <:+ us → p ≤ atL zs.length r
  | us, r, p, h, hs => by
    rcases List.suffix_cons_iff.1 (show r <:+ (⟨0, 0, 0, false⟩ : U) :: us from hs.trans (List.suffix_cons _ _)) with e | hs'
    · -- r is longer than us: impossible
      have := hs.length_le
      rw [e] at this
      simp at this
      omega
    · match us, h, hs' with
      | [], h, hs' =>
        have e := List.suffix_nil.1 hs'
        rw [e]
        exact Nat.le_of_eq (show p = zs.length from h)
      | u :: t, h, hs' =>
        rcases List.suffix_cons_iff.1 hs' with e | hs2
        · rw [e]; show p ≤ u.p; rw [h.2.1]; exact Nat.le_refl _
        · have := run_suffix_at h.2.2 hs2
          omega
theorem runs_at_mono {zs : List Int} {us r : List U} (h : Runs zs us) (hs : r <:+ us) : atL zs.length us ≤ atL zs.length r := by
  obtain ⟨p, h⟩ := h
  rw [run_at h]
  exact run_suffix_at h hs
theorem runs_at_strict {zs : List Int} {u : U} {t r : List U} (h : Runs zs (u :: t)) (hs : r <:+ t) : u.p + 1 ≤ atL zs.length r ∧ u.p < zs.length := by
  obtain ⟨p, h⟩ := h
  have h1 := run_suffix_at h.2.2 hs
  have hw := unitAt_w h.1
  rw [← h.2.1] at hw
  have hp : u.p = p := by rw [h.2.1]; rfl
  have := h.1
  omega

/-- Where an error may be told. -/
def BadAt (n a : Nat) (x : Int) : Prop := a ≤ n ∧ (x = 7 → a = n) ∧ (x = 6 → a < n) ∧ x ≠ 0
theorem stuck_at {zs : List Int} {us : List U} (h : Runs zs us) : BadAt zs.length (atL zs.length us) (stuckE us) := by
  match us, h with
  | [], h => exact ⟨Nat.le_refl _, fun _ => rfl, fun e => by simp [stuckE] at e, by simp [stuckE]⟩
  | u :: t, h =>
    have := runs_at_strict h (List.suffix_refl t)
    exact ⟨by show u.p ≤ _; omega, fun e => by simp [stuckE] at e, fun _ => this.2, by simp [stuckE]⟩
theorem setF_at {zs : List Int} : ∀ {k : Nat} {us : List U} {acc : List Rg} {a : Nat} {x : Int}, us.length < k → Runs zs us → setF zs.length k us acc = SR.bad a x → BadAt zs.length a x
  | 0, us, acc, a, x, hk, hr, h => by omega
  | k + 1, us, acc, a, x, hk, hr, h => by
    cases h1 : sgn (isC 93) us with
    | mk o s => cases o with
      | some y => rw [setF_end h1] at h; cases h
      | none => cases h2 : entL us with
        | mk o2 r2 =>
          have hsf := entL_suffix us
          rw [h2] at hsf
          cases o2 with
          | none =>
            rw [setF_stuck h1 h2] at h
            obtain ⟨e1, e2⟩ := Prod.mk.inj (Sum.inl.inj h)
            rw [← e1, ← e2]
            exact stuck_at (hr.of_suffix hsf)
          | some e =>
            have hlen := entL_len h2
            cases h3 : (decide (e.hi < e.lo) || decide (1114111 < e.hi)) with
            | true =>
              rw [setF_arg h1 h2 h3] at h
              obtain ⟨e1, e2⟩ := Prod.mk.inj (Sum.inl.inj h)
              rw [← e1, ← e2]
              exact ⟨hr.at_le, fun e => (by cases e), fun e => (by cases e), by decide⟩
            | false => rw [setF_on h1 h2 h3] at h; exact setF_at (us := r2) (by omega) (hr.of_suffix hsf) h
theorem tokO_at {zs : List Int} {us : List U} {a : Nat} {x : Int} (hr : Runs zs us) (h : tokO zs.length us = OR.bad a x) : BadAt zs.length a x := by
  match us, hr, h with
  | [], hr, h => cases h
  | u :: t, hr, h =>
    have hst := runs_at_strict hr (List.suffix_refl t)
    rw [tokO_cons] at h
    split at h
    · cases h
    · split at h
      · cases h
      · split at h
        · cases h1 : setF zs.length (t.length + 1) t [] with
          | inl x =>
            obtain ⟨b, y⟩ := x
            rw [h1] at h
            obtain ⟨e1, e2⟩ := Prod.mk.inj (Sum.inl.inj h)
            rw [← e1, ← e2]
            exact setF_at (by omega) hr.tail h1
          | inr x => rw [h1] at h; cases h
        · obtain ⟨e1, e2⟩ := Prod.mk.inj (Sum.inl.inj h)
          rw [← e1, ← e2]
          exact ⟨by omega, fun e => (by cases e), fun _ => hst.2, by decide⟩
theorem toksF_at {zs : List Int} : ∀ {k : Nat} {us : List U} {acc : List Tok} {a : Nat} {x : Int}, us.length < k → Runs zs us → toksF zs.length k us acc = TR.bad a x → BadAt zs.length a x
  | 0, us, acc, a, x, hk, hr, h => by omega
  | k + 1, us, acc, a, x, hk, hr, h => by
    have hr1 := hr.of_suffix (blankL_suffix false us)
    have hbl := blankL_le false us
    cases h1 : tokO zs.length (blankL false us) with
    | inl x =>
      obtain ⟨b, y⟩ := x
      rw [toksF_bad h1] at h
      obtain ⟨e1, e2⟩ := Prod.mk.inj (Sum.inl.inj h)
      rw [← e1, ← e2]
      exact tokO_at hr1 h1
    | inr x =>
      obtain ⟨t, r⟩ := x
      rcases tokO_len h1 with ⟨h4, _⟩ | ⟨h4, hlt⟩
      · rw [toksF_end h1 h4] at h; cases h
      · rw [toksF_on h1 h4] at h
        exact toksF_at (by omega) (hr1.of_suffix (tokO_suffix h1)) h

/-- Tokens stand where they begin, from the place a on. -/
def Placed (zs : List Int) : Nat → List Tok → Prop
  | _, [] => False
  | a, t :: ts => a ≤ t.p ∧ t.p + t.t.length ≤ zs.length ∧ cutZ zs t.p (t.p + t.t.length) = t.t ∧ (t.k = 3 → zs[t.p]? = some 91) ∧ ((t.k = 4 ∧ ts = [] ∧ t.p = zs.length) ∨ (t.k ≠ 4 ∧ ts ≠ [] ∧ Placed zs (t.p + max t.t.length 1) ts))

/-- Tokens put ahead. -/
def preT (acc : List Tok) : TR → TR
  | .inl x => .inl x
  | .inr l => .inr (acc ++ l)
theorem preT_preT (a b : List Tok) (x : TR) : preT a (preT b x) = preT (a ++ b) x := by
  cases x <;> simp [preT]
theorem toksF_app {n : Nat} : ∀ (k : Nat) (us : List U) (acc : List Tok), toksF n k us acc = preT acc (toksF n k us [])
  | 0, us, acc => rfl
  | k + 1, us, acc => by
    cases h1 : tokO n (blankL false us) with
    | inl x => obtain ⟨b, y⟩ := x; rw [toksF_bad h1, toksF_bad h1]; rfl
    | inr x =>
      obtain ⟨t, r⟩ := x
      by_cases h4 : t.k = 4
      · rw [toksF_end h1 h4, toksF_end h1 h4]; rfl
      · rw [toksF_on h1 h4, toksF_on h1 h4, toksF_app k r (acc ++ [t]), toksF_app k r ([] ++ [t]), preT_preT]
        rfl
/-- The first token, and the others. -/
theorem toksF_cons {n k : Nat} {us : List U} {l : List Tok} (h : toksF n (k + 1) us [] = TR.good l) : ∃ t r, tokO n (blankL false us) = OR.good t r ∧ ((t.k = 4 ∧ l = [t]) ∨ (t.k ≠ 4 ∧ ∃ l', l = t :: l' ∧ toksF n k r [] = TR.good l')) := by
  cases h1 : tokO n (blankL false us) with
  | inl x => obtain ⟨b, y⟩ := x; rw [toksF_bad h1] at h; cases h
  | inr x =>
    obtain ⟨t, r⟩ := x
    refine ⟨t, r, rfl, ?_⟩
    by_cases h4 : t.k = 4
    · rw [toksF_end h1 h4] at h
      have e := Sum.inr.inj h
      exact .inl ⟨h4, e.symm⟩
    · rw [toksF_on h1 h4, toksF_app] at h
      cases h2 : toksF n k r [] with
      | inl x => rw [h2] at h; cases h
      | inr l' =>
        rw [h2] at h
        have h := Sum.inr.inj h
        exact .inr ⟨h4, l', h.symm, rfl⟩
theorem toksF_nonempty {n : Nat} : ∀ {k : Nat} {us : List U} {l : List Tok}, toksF n k us [] = TR.good l → l ≠ []
  | 0, us, l, h => by cases h
  | k + 1, us, l, h => by
    obtain ⟨t, r, _, ⟨_, e⟩ | ⟨_, l', e, _⟩⟩ := toksF_cons h
    · rw [e]; simp
    · rw [e]; simp

/-- A token stands where it begins; what is left begins behind it. -/
theorem tokO_placed {zs : List Int} {us r : List U} {t : Tok} (hr : Runs zs us) (h : tokO zs.length us = OR.good t r) : t.p = atL zs.length us ∧ t.p + t.t.length ≤ zs.length ∧ cutZ zs t.p (t.p + t.t.length) = t.t ∧ (t.k = 3 → zs[t.p]? = some 91) ∧ (t.k = 4 ∧ t.p = zs.length ∨ t.k ≠ 4 ∧ t.p + max t.t.length 1 ≤ atL zs.length r) := by
  match us, hr, h with
  | [], hr, h =>
    obtain ⟨e1, e2⟩ := Prod.mk.inj (Sum.inr.inj h)
    rw [← e1]
    exact ⟨rfl, Nat.le_refl _, by simp [cutZ], fun e => (by cases e), .inl ⟨rfl, rfl⟩⟩
  | u :: t', hr, h =>
    have hst := runs_at_strict hr (List.suffix_refl t')
    rw [tokO_cons] at h
    split at h
    · rename_i q
      obtain ⟨e1, e2⟩ := Prod.mk.inj (Sum.inr.inj h)
      have hsp : u :: t' = (u :: t'.takeWhile (fitU nameR)) ++ t'.dropWhile (fitU nameR) := by rw [List.cons_append, ← take_drop_while]
      have hcut := runs_cut (a := u :: t'.takeWhile (fitU nameR)) (b := t'.dropWhile (fitU nameR)) (by rw [← hsp]; exact hr) (fun v hv => by
        rcases List.mem_cons.1 hv with rfl | hv
        · exact fit_name q
        · exact fit_inName (takeWhile_all _ _ v hv))
      have hln := congrArg List.length hcut.1
      have hle := (hr.of_suffix (show t'.dropWhile (fitU nameR) <:+ u :: t' from (List.dropWhile_suffix _).trans (List.suffix_cons _ _))).at_le
      rw [cutZ_length hle] at hln
      rw [← hsp] at hcut hln
      have hat : atL zs.length (u :: t') = u.p := rfl
      rw [hat] at hcut hln
      rw [← e1, ← e2]
      simp only [List.length_map, List.length_cons, List.map_cons] at hln ⊢
      have hq : u.p + ((t'.takeWhile (fitU nameR)).length + 1) = atL zs.length (t'.dropWhile (fitU nameR)) := by omega
      refine ⟨rfl, by omega, by rw [hq]; simpa using hcut.1, fun e => (by cases e), .inr ⟨by decide, by omega⟩⟩
    · split at h
      · rename_i q
        obtain ⟨e1, e2⟩ := Prod.mk.inj (Sum.inr.inj h)
        have hcut := runs_cut (a := [u]) (b := t') hr (fun v hv => by
          obtain rfl : v = u := by simpa using hv
          exact fit_tok q)
        have hle := hr.tail.at_le
        have hln := congrArg List.length hcut.1
        rw [cutZ_length hle] at hln
        have hat : atL zs.length ([u] ++ t') = u.p := rfl
        rw [hat] at hcut hln
        rw [← e1, ← e2]
        simp only [List.length_map, List.length_singleton] at hln ⊢
        have hq : u.p + 1 = atL zs.length t' := by omega
        refine ⟨rfl, by omega, by rw [hq]; simpa using hcut.1, fun e => (by cases e), .inr ⟨by decide, by omega⟩⟩
      · split at h
        · rename_i q
          cases h1 : setF zs.length (t'.length + 1) t' [] with
          | inl x => rw [h1] at h; cases h
          | inr x =>
            obtain ⟨l, s⟩ := x
            rw [h1] at h
            obtain ⟨e1, e2⟩ := Prod.mk.inj (Sum.inr.inj h)
            rw [← e1, ← e2]
            have hs2 := runs_at_strict hr (setF_suffix h1)
            obtain ⟨p, hr'⟩ := hr
            have hu : u.bad = false ∧ u.r = 91 := by simp [fitU, isC] at q; exact q
            obtain ⟨_, hp, hzz⟩ := unit_ascii hr'.1 hr'.2.1 hu.1 (by omega)
            refine ⟨rfl, by simp; omega, by simp [cutZ], fun _ => ?_,   .inr ⟨(by decide : (3 : Int) ≠ 4), by simpa using hs2.1⟩⟩
            show zs[u.p]? = some 91
            rw [hp, hzz, hu.2]
        · cases h
theorem toksF_placed {zs : List Int} : ∀ {k : Nat} {us : List U} {l : List Tok} {a : Nat}, Runs zs us → a ≤ atL zs.length us → toksF zs.length k us [] = TR.good l → Placed zs a l
  | 0, us, l, a, hr, ha, h => by cases h
  | k + 1, us, l, a, hr, ha, h => by
    obtain ⟨t, r, h1, h2⟩ := toksF_cons h
    have hsf := blankL_suffix false us
    have hr1 := hr.of_suffix hsf
    have hm := runs_at_mono hr hsf
    obtain ⟨p1, p2, p3, p4, p5⟩ := tokO_placed hr1 h1
    rcases h2 with ⟨h4, rfl⟩ | ⟨h4, l', rfl, h5⟩
    · refine ⟨by omega, p2, p3, p4, .inl ⟨h4, rfl, ?_⟩⟩
      rcases p5 with q | q
      · exact q.2
      · exact absurd h4 q.1
    · refine ⟨by omega, p2, p3, p4, .inr ⟨h4, toksF_nonempty h5, ?_⟩⟩
      rcases p5 with q | q
      · exact absurd q.1 h4
      · exact toksF_placed (hr1.of_suffix (tokO_suffix h1)) q.2 h5
theorem Placed.ne {zs : List Int} {a : Nat} {l : List Tok} (h : Placed zs a l) : l ≠ [] := by
  cases l with
  | nil => exact h.elim
  | cons t ts => simp
theorem Placed.last {zs : List Int} : ∀ {l : List Tok} {a : Nat}, Placed zs a l → ∀ (hl : l.length - 1 < l.length), (l[l.length - 1]).p = zs.length
  | [], a, h, hl => h.elim
  | t :: ts, a, h, hl => by
    rcases h.2.2.2.2 with ⟨_, rfl, e⟩ | ⟨_, hne, h2⟩
    · exact e
    · have hp : 0 < ts.length := by cases ts with
        | nil => exact absurd rfl hne
        | cons x y => simp
      have := Placed.last h2 (by omega)
      have e : (t :: ts).length - 1 = (ts.length - 1) + 1 := by simp; omega
      simp only [e, List.getElem_cons_succ]
      exact this
/-- The token at a place, and what is known of the others. -/
theorem Placed.drop {zs : List Int} : ∀ {l : List Tok} {a k : Nat}, Placed zs a l → k < l.length → ∃ b, Placed zs b (l.drop k) ∧ a ≤ b
  | l, a, 0, h, hk => ⟨a, by simpa using h, Nat.le_refl _⟩
  | [], a, k + 1, h, hk => by simp at hk
  | t :: ts, a, k + 1, h, hk => by
    rcases h.2.2.2.2 with ⟨_, rfl, e⟩ | ⟨_, hne, h2⟩
    · simp at hk
    · obtain ⟨b, h3, h4⟩ := Placed.drop h2 (by simpa using hk)
      exact ⟨b, by simpa using h3, by have := h.1; omega⟩
end Go.Proofs.YtfdjchnckjgapaaGreatDoor
