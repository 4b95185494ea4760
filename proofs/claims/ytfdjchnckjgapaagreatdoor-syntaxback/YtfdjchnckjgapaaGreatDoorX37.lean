/-
  Shelf7 SetTxt
-/
import Derived.Shelf.Strings.Builder1
import Derived.Shelf.Strings.Builder2
import Derived.Shelf.Strings.OnBuilder
import Derived.Shelf.Strings.BuilderK
import Derived.Test.YtfdjchnckjgapaaGreatDoorProg
import Derived.Test.YtfdjchnckjgapaaGreatDoorX36
import Derived.Test.YtfdjchnckjgapaaGreatDoorX04
namespace Go.Proofs.YtfdjchnckjgapaaGreatDoor
open Go.Shelf Go.RowKit
def upLay_ren : Go.Shelf.Ren := ⟨fun | 158 => 95 | 165 => 129 | 166 => 52 | 167 => 51 | 169 => 54 | 230 => 130 | 203 => 131 | 240 => 94 | 241 => 153 | 197 => 154 | 118 => 155 | 168 => 156 | 270 => 157 | 262 => 158 | 276 => 128 | 277 => 188 | 260 => 189 | 242 => 190 | 313 => 191 | 278 => 214 | 274 => 215 | 275 => 216 | n => n, fun | 9 => 9 | 4 => 4 | 3 => 3 | 5 => 5 | 72 => 97 | 0 => 0 | 76 => 101 | 75 => 99 | 107 => 163 | 70 => 95 | 20 => 20 | 37 => 22 | 127 => 134 | 21 => 21 | 105 => 182 | 164 => 159 | 162 => 209 | 203 => 207 | 119 => 225 | 46 => 166 | 139 => 228 | 138 => 227 | 51 => 201 | 160 => 229 | 208 => 242 | 206 => 240 | 80 => 104 | n => n, fun | 13 => 0 | 3 => 3 | 4 => 4 | n => n⟩
theorem upLay : Go.Proofs.Lays.n158 Tryz.prog upLay_ren := {
  mixed := by kernel_rfl
  f118 := Tryz.func155.trans (congrArg some (by kernel_rfl))
  f158 := Tryz.func95.trans (congrArg some (by kernel_rfl))
  f165 := Tryz.func129.trans (congrArg some (by kernel_rfl))
  f166 := Tryz.func52.trans (congrArg some (by kernel_rfl))
  f167 := Tryz.func51.trans (congrArg some (by kernel_rfl))
  f168 := Tryz.func156.trans (congrArg some (by kernel_rfl))
  f169 := Tryz.func54.trans (congrArg some (by kernel_rfl))
  f197 := Tryz.func154.trans (congrArg some (by kernel_rfl))
  f203 := Tryz.func131.trans (congrArg some (by kernel_rfl))
  f230 := Tryz.func130.trans (congrArg some (by kernel_rfl))
  f240 := Tryz.func94.trans (congrArg some (by kernel_rfl))
  f241 := Tryz.func153.trans (congrArg some (by kernel_rfl))
  f242 := Tryz.func190.trans (congrArg some (by kernel_rfl))
  f260 := Tryz.func189.trans (congrArg some (by kernel_rfl))
  f262 := Tryz.func158.trans (congrArg some (by kernel_rfl))
  f270 := Tryz.func157.trans (congrArg some (by kernel_rfl))
  f274 := Tryz.func215.trans (congrArg some (by kernel_rfl))
  f275 := Tryz.func216.trans (congrArg some (by kernel_rfl))
  f276 := Tryz.func128.trans (congrArg some (by kernel_rfl))
  f277 := Tryz.func188.trans (congrArg some (by kernel_rfl))
  f278 := Tryz.func214.trans (congrArg some (by kernel_rfl))
  f313 := Tryz.func191.trans (congrArg some (by kernel_rfl))
  t0 := Tryz.underlying0
  a0 := Tryz.isAgg0
  z0 := Tryz.sizeOf0
  v0 := Tryz.zeroValue0
  t3 := Tryz.underlying3
  a3 := Tryz.isAgg3
  z3 := Tryz.sizeOf3
  v3 := Tryz.zeroValue3
  t4 := Tryz.underlying4
  a4 := Tryz.isAgg4
  z4 := Tryz.sizeOf4
  v4 := Tryz.zeroValue4
  t5 := Tryz.underlying5
  a5 := Tryz.isAgg5
  z5 := Tryz.sizeOf5
  v5 := Tryz.zeroValue5
  t9 := Tryz.underlying9
  a9 := Tryz.isAgg9
  z9 := Tryz.sizeOf9
  v9 := Tryz.zeroValue9
  t20 := Tryz.underlying20
  a20 := Tryz.isAgg20
  z20 := Tryz.sizeOf20
  v20 := Tryz.zeroValue20
  t21 := Tryz.underlying21
  a21 := Tryz.isAgg21
  z21 := Tryz.sizeOf21
  v21 := Tryz.zeroValue21
  t37 := Tryz.underlying22
  a37 := Tryz.isAgg22
  z37 := Tryz.sizeOf22
  v37 := Tryz.zeroValue22
  t46 := Tryz.underlying166
  a46 := Tryz.isAgg166
  z46 := Tryz.sizeOf166
  v46 := Tryz.zeroValue166
  t51 := Tryz.underlying201
  a51 := Tryz.isAgg201
  z51 := Tryz.sizeOf201
  v51 := Tryz.zeroValue201
  t70 := Tryz.underlying95
  a70 := Tryz.isAgg95
  z70 := Tryz.sizeOf95
  v70 := Tryz.zeroValue95
  t72 := Tryz.underlying97
  a72 := Tryz.isAgg97
  z72 := Tryz.sizeOf97
  v72 := Tryz.zeroValue97
  t75 := Tryz.underlying99
  a75 := Tryz.isAgg99
  z75 := Tryz.sizeOf99
  v75 := Tryz.zeroValue99
  t76 := Tryz.underlying101
  a76 := Tryz.isAgg101
  z76 := Tryz.sizeOf101
  v76 := Tryz.zeroValue101
  t105 := Tryz.underlying182
  a105 := Tryz.isAgg182
  z105 := Tryz.sizeOf182
  v105 := Tryz.zeroValue182
  t107 := Tryz.underlying163
  a107 := Tryz.isAgg163
  z107 := Tryz.sizeOf163
  v107 := Tryz.zeroValue163
  t119 := Tryz.underlying225
  a119 := Tryz.isAgg225
  z119 := Tryz.sizeOf225
  t127 := Tryz.underlying134
  a127 := Tryz.isAgg134
  z127 := Tryz.sizeOf134
  v127 := Tryz.zeroValue134
  t138 := Tryz.underlying227
  a138 := Tryz.isAgg227
  z138 := Tryz.sizeOf227
  v138 := Tryz.zeroValue227
  t139 := Tryz.underlying228
  a139 := Tryz.isAgg228
  z139 := Tryz.sizeOf228
  v139 := Tryz.zeroValue228
  t160 := Tryz.underlying229
  a160 := Tryz.isAgg229
  z160 := Tryz.sizeOf229
  v160 := Tryz.zeroValue229
  t162 := Tryz.underlying209
  a162 := Tryz.isAgg209
  z162 := Tryz.sizeOf209
  v162 := Tryz.zeroValue209
  t164 := Tryz.underlying159
  a164 := Tryz.isAgg159
  z164 := Tryz.sizeOf159
  v164 := Tryz.zeroValue159
  t203 := Tryz.underlying207
  a203 := Tryz.isAgg207
  z203 := Tryz.sizeOf207
  v203 := Tryz.zeroValue207
  t206 := Tryz.underlying240
  a206 := Tryz.isAgg240
  z206 := Tryz.sizeOf240
  v206 := Tryz.zeroValue240
  t208 := Tryz.underlying242
  a208 := Tryz.isAgg242
  z208 := Tryz.sizeOf242
  v208 := Tryz.zeroValue242
  g3 := by kernel_rfl
  g4 := by kernel_rfl
  g13 := by kernel_rfl }
theorem upExtra : Builder.Extra Tryz.prog upLay_ren := {
  sizeBuilder := by kernel_rfl
  liesBuilder := by kernel_rfl
  t5 := Tryz.underlying5
  a5 := Tryz.isAgg5
  z5 := Tryz.sizeOf5
  v5 := Tryz.zeroValue5
  infoByte := by kernel_rfl
  cellsByte := by kernel_rfl
  sizeByte := by kernel_rfl
  neB5 := by decide }
theorem wsLay : Go.Proofs.Lays.n166 Tryz.prog upLay_ren := {
  mixed := upLay.mixed
  f166 := upLay.f166
  f240 := upLay.f240
  f276 := upLay.f276
  t0 := upLay.t0
  a0 := upLay.a0
  z0 := upLay.z0
  v0 := upLay.v0
  t3 := upLay.t3
  a3 := upLay.a3
  z3 := upLay.z3
  v3 := upLay.v3
  t4 := upLay.t4
  a4 := upLay.a4
  z4 := upLay.z4
  v4 := upLay.v4
  t9 := upLay.t9
  a9 := upLay.a9
  z9 := upLay.z9
  v9 := upLay.v9
  t20 := upLay.t20
  a20 := upLay.a20
  z20 := upLay.z20
  v20 := upLay.v20
  t37 := upLay.t37
  a37 := upLay.a37
  z37 := upLay.z37
  v37 := upLay.v37
  t70 := upLay.t70
  a70 := upLay.a70
  z70 := upLay.z70
  v70 := upLay.v70
  t72 := upLay.t72
  a72 := upLay.a72
  z72 := upLay.z72
  v72 := upLay.v72
  t75 := upLay.t75
  a75 := upLay.a75
  z75 := upLay.z75
  v75 := upLay.v75
  t164 := upLay.t164
  a164 := upLay.a164
  z164 := upLay.z164
  v164 := upLay.v164
}
theorem wbLay : Go.Proofs.Lays.n167 Tryz.prog upLay_ren := {
  mixed := upLay.mixed
  f167 := upLay.f167
  f240 := upLay.f240
  f276 := upLay.f276
  t0 := upLay.t0
  a0 := upLay.a0
  z0 := upLay.z0
  v0 := upLay.v0
  t4 := upLay.t4
  a4 := upLay.a4
  z4 := upLay.z4
  v4 := upLay.v4
  t5 := upLay.t5
  a5 := upLay.a5
  z5 := upLay.z5
  v5 := upLay.v5
  t9 := upLay.t9
  a9 := upLay.a9
  z9 := upLay.z9
  v9 := upLay.v9
  t20 := upLay.t20
  a20 := upLay.a20
  z20 := upLay.z20
  v20 := upLay.v20
  t37 := upLay.t37
  a37 := upLay.a37
  z37 := upLay.z37
  v37 := upLay.v37
  t70 := upLay.t70
  a70 := upLay.a70
  z70 := upLay.z70
  v70 := upLay.v70
  t72 := upLay.t72
  a72 := upLay.a72
  z72 := upLay.z72
  v72 := upLay.v72
  t75 := upLay.t75
  a75 := upLay.a75
  z75 := upLay.z75
  v75 := upLay.v75
  t164 := upLay.t164
  a164 := upLay.a164
  z164 := upLay.z164
  v164 := upLay.v164
}
theorem stLay : Go.Proofs.Lays.n169 Tryz.prog upLay_ren := {
  mixed := upLay.mixed
  f169 := upLay.f169
  t0 := upLay.t0
  a0 := upLay.a0
  z0 := upLay.z0
  v0 := upLay.v0
  t3 := upLay.t3
  a3 := upLay.a3
  z3 := upLay.z3
  v3 := upLay.v3
  t9 := upLay.t9
  a9 := upLay.a9
  z9 := upLay.z9
  v9 := upLay.v9
  t37 := upLay.t37
  a37 := upLay.a37
  z37 := upLay.z37
  v37 := upLay.v37
  t70 := upLay.t70
  a70 := upLay.a70
  z70 := upLay.z70
  v70 := upLay.v70
  t72 := upLay.t72
  a72 := upLay.a72
  z72 := upLay.z72
  v72 := upLay.v72
  t127 := upLay.t127
  a127 := upLay.a127
  z127 := upLay.z127
  v127 := upLay.v127
}
theorem toUpper_any (s : ByteArray) (w : World) (hs : s.size ≤ 140737488355328) (hascii : ∀ (j : Nat) (b : UInt8), s.data.toList[j]? = some b → b.toNat < 128) :
    Calls Tryz.prog 95 #[.string s] w fun e w' => e = .returned (.string ⟨(Lib.toUpperA s.data.toList).toArray⟩) ∧ Below w.heap.size w w' := Any.strings_ToUpper_ascii upLay upExtra s w hs hascii
theorem writeByte_any (B b : Nat) (bs : List Value) (c : Int) (w : World) (h : Lib.IsBuilderF 97 5 B b bs w) (hlen : bs.length + 1 ≤ 140737488355328) (hBw : B ≤ w.heap.size) :
    Calls Tryz.prog 51 #[.pointer (some ⟨b, 0, none⟩), .int .u8 c] w fun e w' => e = .returned .nilIface ∧ (Lib.BuilderAtF 97 5 B b (.pointer (some ⟨b, 0, none⟩)) (bs ++ [.int .u8 c]) w' ∧ Below B w w' ∧ Lib.OthersKept 5 (some b) w w') := Any.Builder_WriteByte_k wbLay upExtra B b bs c w h hlen hBw
theorem writeString_any (B b : Nat) (bs : List Value) (s : ByteArray) (w : World) (h : Lib.IsBuilderF 97 5 B b bs w) (hlen : bs.length + s.size ≤ 140737488355328) (hBw : B ≤ w.heap.size) :
    Calls Tryz.prog 52 #[.pointer (some ⟨b, 0, none⟩), .string s] w fun e w' => e = .returned (.tuple #[.int .i64 s.size, .nilIface]) ∧ (Lib.BuilderAtF 97 5 B b (.pointer (some ⟨b, 0, none⟩)) (bs ++ Lib.strCells s) w' ∧ Below B w w' ∧ Lib.OthersKept 5 (some b) w w') := Any.Builder_WriteString_k wsLay upExtra B b bs s w h hlen hBw
theorem string_any (B b : Nat) (l : List UInt8) (w : World) (h : Lib.IsBuilderF 97 5 B b (Lib.byteCells l) w) (hBw : B ≤ w.heap.size) :
    Calls Tryz.prog 54 #[.pointer (some ⟨b, 0, none⟩)] w fun e w' => e = .returned (.string ⟨l.toArray⟩) ∧ Below B w w' := (Any.Builder_String_any_k stLay upExtra B b l w h hBw).mono fun _ _ h => ⟨h.1, h.2.2.1⟩
end Go.Proofs.YtfdjchnckjgapaaGreatDoor

namespace Go.Proofs.YtfdjchnckjgapaaGreatDoor
open Go.RowKit Go.Shelf S1
set_option linter.unusedVariables false
def brL (n : Nat) : List Int := 92 :: 120 :: 123 :: ((digL n).map upC ++ [125])
def rgL (r : Rg) : List Int := brL r.lo.toNat ++ (if r.hi = r.lo then [] else 45 :: brL r.hi.toNat)
def setLs (l : List Rg) : List Int := l.flatMap rgL
def setL (l : List Rg) : List Int := 91 :: (setLs l ++ [93])
theorem strOf_append (a b : List Int) : strOfNums (a ++ b) = strOfNums a ++ strOfNums b := by
  unfold strOfNums
  apply ByteArray.ext
  simp
theorem strOf_toList (l : List Int) : (strOfNums l).data.toList = l.map fun n => UInt8.ofNat n.toNat := by simp [strOfNums]
theorem strOf_size (l : List Int) : (strOfNums l).size = l.length := by
  show (strOfNums l).data.size = _
  simp [strOfNums]
theorem up_low (l : List Nat) (h : ∀ d ∈ l, d < 16) : (⟨(Lib.toUpperA (strOfNums (l.map lowC)).data.toList).toArray⟩ : ByteArray) = strOfNums (l.map upC) := by
  rw [strOf_toList]
  unfold strOfNums Lib.toUpperA
  congr 2
  rw [List.map_map, List.map_map, List.map_map]
  apply List.map_congr_left
  intro d hd
  have key : ∀ d : Fin 16, Lib.upperB (UInt8.ofNat (lowC d.val).toNat) = UInt8.ofNat (upC d.val).toNat := by decide +kernel
  exact key ⟨d, h d hd⟩
theorem low_ascii (l : List Nat) (h : ∀ d ∈ l, d < 16) (j : Nat) (b : UInt8) (hb : (strOfNums (l.map lowC)).data.toList[j]? = some b) : b.toNat < 128 := by
  rw [strOf_toList] at hb
  have hm := List.mem_of_getElem? hb
  rw [List.map_map] at hm
  obtain ⟨d, hd, rfl⟩ := List.mem_map.1 hm
  have key : ∀ d : Fin 16, (UInt8.ofNat (lowC d.val).toNat).toNat < 128 := by decide +kernel
  exact key ⟨d, h d hd⟩
theorem digL_lt (n : Nat) : ∀ d ∈ digL n, d < 16 := digF_lt 6 n
theorem brL_len (n : Nat) : (brL n).length ≤ 10 := by
  have := digF_len 6 n
  simp [brL, digL]; omega
theorem inBraces_any (n : Nat) (hn : n < 16 ^ 6) (w : World) (hdb : DbV w) :
    Calls Tryz.prog 53 #[.int .i64 n] w fun e w' => e = .returned (.string (strOfNums (brL n))) ∧ Below w.heap.size w w' := by
  have h := fmt_any n hn w hdb
  have hsz : (strOfNums ((digL n).map lowC)).size ≤ 140737488355328 := by
    rw [strOf_size, List.length_map]
    have := digF_len 6 n
    unfold digL; omega
  have hup := fun W => toUpper_any (strOfNums ((digL n).map lowC)) W hsz (low_ascii _ (digL_lt n))
  rw [up_low _ (digL_lt n)] at hup
  have hbr : strOfNums (brL n) = ⟨#[92, 120, 123]⟩ ++ strOfNums ((digL n).map upC) ++ ⟨#[125]⟩ := by
    rw [show (⟨#[92, 120, 123]⟩ : ByteArray) = strOfNums [92, 120, 123] from rfl, show (⟨#[125]⟩ : ByteArray) = strOfNums [125] from rfl, ← strOf_append, ← strOf_append]; rfl
  rw [hbr]
  have h24 : n < 16777216 := by have : (16 ^ 6 : Nat) = 16777216 := by decide
                                omega
  obtain ⟨s1, hs1⟩ : ∃ s1, s1 = strOfNums ((digL n).map lowC) := ⟨_, rfl⟩
  obtain ⟨s2, hs2⟩ : ∃ s2, s2 = strOfNums ((digL n).map upC) := ⟨_, rfl⟩
  rw [← hs1] at h hup
  rw [← hs2] at hup ⊢
  have hz : s2.size ≤ 6 := by
    rw [hs2, strOf_size, List.length_map]
    exact digF_len 6 n
  have hz1 : ¬ 9223372036854775807 < 3 + s2.size := by omega
  have hz2 : ¬ 9223372036854775807 < 3 + s2.size + 1 := by omega
  clear hs1 hs2 hbr hsz hn
  go_enter Tryz.func53, Tryz.ntmps53
  go_wp2_with (first | (go_at_call 96; refine h.mono ?_; rintro e w1 ⟨rfl, hB1⟩; have hs1 := hB1.size) | (go_at_call 95; refine (hup _).mono ?_; rintro e w2 ⟨rfl, hB2⟩))
  go_ret
  exact ⟨rfl, hB1.trans (hB2.mono hs1)⟩
theorem cells_bytes (l : List Int) (h : Byt l) : Lib.byteCells (l.map fun n => UInt8.ofNat n.toNat) = l.map (Value.int .u8) := by
  unfold Lib.byteCells
  rw [List.map_map]
  apply List.map_congr_left
  intro c hc
  have := h c hc
  simp only [Function.comp]
  congr 1
  rw [UInt8.toNat_ofNat']
  omega
theorem str_cells (l : List Int) (h : Byt l) : Lib.strCells (strOfNums l) = l.map (Value.int .u8) := by
  unfold Lib.strCells
  rw [strOf_toList]
  exact cells_bytes l h
theorem upC_byt (d : Nat) (h : d < 16) : 48 ≤ upC d ∧ upC d ≤ 70 := by
  unfold upC; split <;> omega
theorem brL_byt (n : Nat) : ∀ c ∈ brL n, 45 ≤ c ∧ c ≤ 125 := by
  intro c hc
  unfold brL at hc
  simp only [List.mem_cons, List.mem_append, List.mem_map, List.not_mem_nil, or_false] at hc
  rcases hc with rfl | rfl | rfl | ⟨d, hd, rfl⟩ | rfl
  · omega
  · omega
  · omega
  · have := upC_byt d (digL_lt n d hd); omega
  · omega
theorem rgL_byt (r : Rg) : ∀ c ∈ rgL r, 45 ≤ c ∧ c ≤ 125 := by
  intro c hc
  unfold rgL at hc
  rcases List.mem_append.1 hc with hc | hc
  · exact brL_byt _ c hc
  · split at hc
    · cases hc
    · rcases List.mem_cons.1 hc with rfl | hc
      · omega
      · exact brL_byt _ c hc
theorem setLs_byt (l : List Rg) : ∀ c ∈ setLs l, 45 ≤ c ∧ c ≤ 125 := by
  intro c hc
  obtain ⟨r, _, hr⟩ := List.mem_flatMap.1 hc
  exact rgL_byt r c hr
theorem setL_byt (l : List Rg) : ∀ c ∈ setL l, 45 ≤ c ∧ c ≤ 125 := by
  intro c hc
  unfold setL at hc
  rcases List.mem_cons.1 hc with rfl | hc
  · omega
  · rcases List.mem_append.1 hc with hc | hc
    · exact setLs_byt l c hc
    · obtain rfl : c = 93 := by simpa using hc
      omega
theorem rgL_len (r : Rg) : (rgL r).length ≤ 21 := by
  unfold rgL
  have h1 := brL_len r.lo.toNat
  have h2 := brL_len r.hi.toNat
  split <;> simp <;> omega
theorem setLs_len : ∀ (l : List Rg), (setLs l).length ≤ 21 * l.length
  | [] => by simp [setLs]
  | r :: l => by
    have h1 := rgL_len r
    have h2 := setLs_len l
    show (rgL r ++ setLs l).length ≤ _
    simp; omega
theorem byt_of {l : List Int} (h : ∀ c ∈ l, 45 ≤ c ∧ c ≤ 125) : Byt l := fun c hc => by have := h c hc; omega
theorem setLs_snoc (l : List Rg) (r : Rg) : setLs (l ++ [r]) = setLs l ++ rgL r := by simp [setLs]
theorem BuilderAtF_below {T e : TypeId} {B b : Nat} {p : Value} {bs : List Value} {w w' : World} (h : Lib.BuilderAtF T e B b p bs w) (hb : Below w.heap.size w w') : Lib.BuilderAtF T e B b p bs w' := by
  obtain ⟨h1, v, h2, h3, h4⟩ := h
  exact ⟨h1, v, (hb.block b (Array.getElem?_eq_some_iff.1 h2).1).trans h2, World.ownsRowF.kept h3 (grownR_below hb none) (by cases v.ownBlock <;> simp), h4⟩
theorem bytes_snoc (l : List Int) (c : Int) : l.map (Value.int .u8) ++ [Value.int .u8 c] = (l ++ [c]).map (Value.int .u8) := by simp
theorem bytes_app (l m : List Int) (h : Byt m) : l.map (Value.int .u8) ++ Lib.strCells (strOfNums m) = (l ++ m).map (Value.int .u8) := by rw [str_cells m h, List.map_append]
set_option maxRecDepth 100000 in
set_option maxHeartbeats 4000000 in
theorem lexSet_any (l : List Rg) (hf : Fits l) (hl : l.length ≤ 4000) (v : Value) (w : World) (hdb : DbV w) (hv : RngIn w v l) :
    Calls Tryz.prog 26 #[v] w fun e w' => e = .returned (.string (strOfNums (setL l))) ∧ Below w.heap.size w w' := by
  obtain ⟨a, cap, rfl, hc, hi⟩ := hv
  have HI : Hid (∀ i, (h : i < l.length) → ∃ g off, a = some ⟨g, off, none⟩ ∧ g < w.heap.size ∧ w.cell? ⟨g, off + i * 2, none⟩ = some (.int .i64 l[i].lo) ∧ w.cell? ⟨g, off + i * 2 + 1, none⟩ = some (.int .i64 l[i].hi)) := hi
  have HF : Hid (Fits l) := hf
  have h0 : Lib.IsBuilderF 97 5 w.heap.size w.heap.size [] (w.alloc (.cells #[.pointer none, .slice none 0 0] 97)) := .inl ⟨Nat.le_refl _, .slice none 0 0, heap_new' w _, World.ownsRowF_nil _ _ _ _, by simp [Value.ownBlock]⟩
  have hB0 : Below w.heap.size w (w.alloc (.cells #[.pointer none, .slice none 0 0] 97)) := (Below.refl _ w).alloc (Nat.le_refl _) _
  have hw0 := writeByte_any w.heap.size w.heap.size [] 91 _ h0 (by simp) (by simp)
  have HDB : Hid (∀ W, Below w.heap.size w W → DbV W) := fun W h => hdb.below h hdb.2
  obtain ⟨fin, hfin⟩ : ∃ fin, fin = strOfNums (setL l) := ⟨_, rfl⟩
  rw [← hfin]
  have HFIN : Hid (fin = strOfNums (setL l)) := hfin
  clear hi hf h0 hfin
  go_enter Tryz.func26, Tryz.ntmps26
  go_wp2_with fail
  refine hw0.mono ?_
  rintro e w1 ⟨rfl, hb1, hB1, _⟩
  have hB01 : Below w.heap.size w w1 := hB0.trans hB1
  have HB1 : Hid (Lib.BuilderAtF 97 5 w.heap.size w.heap.size (.pointer (some ⟨w.heap.size, 0, none⟩)) ((91 :: setLs (l.take 0)).map (Value.int .u8)) w1) := hb1
  clear hw0 hb1 hB1 hB0
  go_wp2
  go_loopw [9] (fun xk wr => ∃ k : Nat, k ≤ l.length ∧ xk = .int .i64 k ∧ Hid (Lib.BuilderAtF 97 5 w.heap.size w.heap.size (.pointer (some ⟨w.heap.size, 0, none⟩)) ((91 :: setLs (l.take k)).map (Value.int .u8)) wr) ∧ Below w.heap.size w wr) (fun xk _ => l.length - (intOf xk).toNat)
  case atStart => exact ⟨0, Nat.zero_le _, rfl, HB1, hB01⟩
  case round =>
    obtain ⟨k, hk, rfl, HBr, hB⟩ := hrel
    have hbs := hB.size
    have hln := setLs_len (l.take k)
    have hln2 : (l.take k).length ≤ 4000 := by rw [List.length_take]; omega
    by_cases hlt : k < l.length
    · obtain ⟨g, off, rfl, hg, c0, c1⟩ := HI.out k hlt
      obtain ⟨r, hr⟩ : ∃ r, r = l[k] := ⟨_, rfl⟩
      have hrf := HF.out r (by rw [hr]; exact List.getElem_mem hlt)
      have HST : Hid (setLs (l.take (k + 1)) = setLs (l.take k) ++ rgL r) := by
        show _ = _
        rw [List.take_succ_eq_append_getElem hlt, setLs_snoc, hr]
      rw [← hr] at c0 c1
      clear hr
      obtain ⟨lo, hlo⟩ : ∃ lo : Nat, lo = r.lo.toNat := ⟨_, rfl⟩
      obtain ⟨hi, hhi⟩ : ∃ hi : Nat, hi = r.hi.toNat := ⟨_, rfl⟩
      have elo : r.lo = (lo : Int) := by have := hrf.1; omega
      have ehi : r.hi = (hi : Int) := by have := hrf.1; have := hrf.2.1; omega
      have hlob : lo < 16 ^ 6 := by have : (16 ^ 6 : Nat) = 16777216 := by decide
                                    have := hrf.2.1; have := hrf.2.2; omega
      have hhib : hi < 16 ^ 6 := by have : (16 ^ 6 : Nat) = 16777216 := by decide
                                    have := hrf.2.2; omega
      rw [elo] at c0
      rw [ehi] at c1
      have HRG : Hid (rgL r = brL lo ++ (if (hi : Int) = (lo : Int) then [] else 45 :: brL hi)) := by show _ = _; unfold rgL; rw [← hlo, ← hhi, elo, ehi]
      have hk0 : (0 : Int) ≤ (k : Int) := by omega
      have hk1 : (k : Int) < (l.length : Int) := by omega
      have d0 : wr.cell? ⟨g, off + k * 2, none⟩ = some (.int .i64 (lo : Int)) := (hB.cell (p := ⟨g, _, none⟩) hg).trans c0
      have d1 : wr.cell? ⟨g, off + k * 2 + 1, none⟩ = some (.int .i64 (hi : Int)) := (hB.cell (p := ⟨g, _, none⟩) hg).trans c1
      have hBW : Below w.heap.size w (wr.alloc (.cells #[.int .i64 (lo : Int), .int .i64 (hi : Int)] 94)) := hB.alloc hbs _
      have hin := inBraces_any lo hlob _ (HDB.out _ hBW)
      have HBW : Hid (Lib.BuilderAtF 97 5 w.heap.size w.heap.size (.pointer (some ⟨w.heap.size, 0, none⟩)) ((91 :: setLs (l.take k)).map (Value.int .u8)) (wr.alloc (.cells #[.int .i64 (lo : Int), .int .i64 (hi : Int)] 94))) := HBr.out.alloc _
      have HN : Hid _ := heap_new' wr (.cells #[.int .i64 (lo : Int), .int .i64 (hi : Int)] 94)
      clear c0 c1 elo ehi hlo hhi hrf hlob
      go_wp2_with fail
      refine hin.mono ?_
      rintro e w2 ⟨rfl, hB2⟩
      have hs2 := hB2.size
      have hw2s : wr.heap.size < w2.heap.size := by simp at hs2; omega
      have hB02 : Below w.heap.size w w2 := hBW.trans (hB2.mono (by simp; omega))
      have hbr := brL_len lo
      have hwr := writeString_any w.heap.size w.heap.size _ (strOfNums (brL lo)) w2 (.inr (BuilderAtF_below HBW.out hB2)) (by rw [strOf_size]; simp; omega) (by omega)
      rw [bytes_app _ _ (byt_of (brL_byt lo))] at hwr
      have hR2 : w2.heap[wr.heap.size]? = some (.cells #[.int .i64 (lo : Int), .int .i64 (hi : Int)] 94) := (hB2.block _ (by simp)).trans HN.out
      obtain ⟨s1, hs1⟩ : ∃ s1, s1 = strOfNums (brL lo) := ⟨_, rfl⟩
      rw [← hs1] at hwr ⊢
      clear hin hs1
      go_wp2_with fail
      refine hwr.mono ?_
      rintro e w3 ⟨rfl, hb3, hB3, hk3⟩
      have hbl : w.heap.size < wr.heap.size := HBr.out.lt
      have hR3 : w3.heap[wr.heap.size]? = some (.cells #[.int .i64 (lo : Int), .int .i64 (hi : Int)] 94) := hk3 _ _ hR2 (by simp; omega) (fun c fz h => by injection h with _ h2 _; exact absurd h2 (by decide))
      have hs3 := hB3.size
      have hB03 : Below w.heap.size w w3 := hB02.trans hB3
      have e0 : w3.cell? ⟨wr.heap.size, 0, none⟩ = some (.int .i64 (lo : Int)) := cell_of_row _ _ 0 _ _ _ hR3
      have e1 : w3.cell? ⟨wr.heap.size, 1, none⟩ = some (.int .i64 (hi : Int)) := cell_of_row _ _ 1 _ _ _ hR3
      have HB3 : Hid (Lib.BuilderAtF 97 5 w.heap.size w.heap.size (.pointer (some ⟨w.heap.size, 0, none⟩)) ((91 :: setLs (l.take k) ++ brL lo).map (Value.int .u8)) w3) := hb3
      have HR3 : Hid (w3.heap[wr.heap.size]? = some (.cells #[.int .i64 (lo : Int), .int .i64 (hi : Int)] 94)) := hR3
      clear hwr hb3 hB3 hk3 hR2 hR3 d0 d1 HN HBW hBW hB2
      by_cases hq : (hi : Int) = (lo : Int)
      · have hq' : ((hi : Int) != (lo : Int)) = false := by simpa using hq
        have HB4 : Hid (Lib.BuilderAtF 97 5 w.heap.size w.heap.size (.pointer (some ⟨w.heap.size, 0, none⟩)) ((91 :: setLs (l.take (k + 1))).map (Value.int .u8)) w3) := by
          have h := HB3.out
          show Lib.BuilderAtF _ _ _ _ _ _ _
          rw [HST.out, HRG.out, if_pos hq, List.append_nil]
          exact h
        clear hq
        go_wp2
        go_roundw
        case rel => exact ⟨k + 1, by omega, by go_num, HB4, hB03⟩
        case measure => simp [intOf]; omega
      · have hq' : ((hi : Int) != (lo : Int)) = true := by simpa using hq
        have hln3 : (91 :: setLs (l.take k) ++ brL lo).length ≤ 90000 := by simp; omega
        have hw4 := writeByte_any w.heap.size w.heap.size _ 45 w3 (.inr HB3.out) (by rw [List.length_map]; omega) (by omega)
        rw [bytes_snoc] at hw4
        have HQ : Hid (¬ (hi : Int) = (lo : Int)) := hq
        clear hq
        go_wp2_with fail
        refine hw4.mono ?_
        rintro e w4 ⟨rfl, hb4, hB4, hk4⟩
        have hs4 := hB4.size
        have hB04 : Below w.heap.size w w4 := hB03.trans hB4
        have hR4 : w4.heap[wr.heap.size]? = some (.cells #[.int .i64 (lo : Int), .int .i64 (hi : Int)] 94) := hk4 _ _ HR3.out (by simp; omega) (fun c fz h => by injection h with _ h2 _; exact absurd h2 (by decide))
        have f1 : w4.cell? ⟨wr.heap.size, 1, none⟩ = some (.int .i64 (hi : Int)) := cell_of_row _ _ 1 _ _ _ hR4
        have hin := inBraces_any hi hhib w4 (HDB.out _ hB04)
        have HB4 : Hid (Lib.BuilderAtF 97 5 w.heap.size w.heap.size (.pointer (some ⟨w.heap.size, 0, none⟩)) ((91 :: setLs (l.take k) ++ brL lo ++ [45]).map (Value.int .u8)) w4) := hb4
        clear hw4 hb4 hB4 hk4 hR4 e0 e1
        go_wp2_with fail
        refine hin.mono ?_
        rintro e w5 ⟨rfl, hB5⟩
        have hs5 := hB5.size
        have hB05 : Below w.heap.size w w5 := hB04.trans (hB5.mono (by omega))
        have hbr2 := brL_len hi
        have hw6 := writeString_any w.heap.size w.heap.size _ (strOfNums (brL hi)) w5 (.inr (BuilderAtF_below HB4.out hB5)) (by rw [strOf_size, List.length_map]; simp at hln3 ⊢; omega) (by omega)
        rw [bytes_app _ _ (byt_of (brL_byt hi))] at hw6
        obtain ⟨s2, hs2'⟩ : ∃ s2, s2 = strOfNums (brL hi) := ⟨_, rfl⟩
        rw [← hs2'] at hw6 ⊢
        clear hin hs2'
        go_wp2_with fail
        refine hw6.mono ?_
        rintro e w6 ⟨rfl, hb6, hB6, hk6⟩
        have hB06 : Below w.heap.size w w6 := hB05.trans hB6
        have HB6 : Hid (Lib.BuilderAtF 97 5 w.heap.size w.heap.size (.pointer (some ⟨w.heap.size, 0, none⟩)) ((91 :: setLs (l.take (k + 1))).map (Value.int .u8)) w6) := by
          show Lib.BuilderAtF _ _ _ _ _ _ _
          rw [HST.out, HRG.out, if_neg HQ.out]
          have e : 91 :: (setLs (l.take k) ++ (brL lo ++ 45 :: brL hi)) = 91 :: setLs (l.take k) ++ brL lo ++ [45] ++ brL hi := by simp
          rw [e]
          exact hb6
        clear hw6 hb6 hB6 hk6
        go_wp2
        go_roundw
        case rel => exact ⟨k + 1, by omega, by go_num, HB6, hB06⟩
        case measure => simp [intOf]; omega
    · obtain rfl : k = l.length := by omega
      have hid : decide ((l.length : Int) < (l.length : Int)) = false := by simp
      have hw4 := writeByte_any w.heap.size w.heap.size _ 93 wr (.inr HBr.out) (by rw [List.length_map, List.length_cons]; omega) (by omega)
      rw [bytes_snoc, List.take_length] at hw4
      go_wp2_with fail
      refine hw4.mono ?_
      rintro e w4 ⟨rfl, hb4, hB4, hk4⟩
      have hB04 : Below w.heap.size w w4 := hB.trans hB4
      have hs4 := hB4.size
      have hb5 : Lib.BuilderAtF 97 5 w.heap.size w.heap.size (.pointer (some ⟨w.heap.size, 0, none⟩)) (Lib.byteCells ((setL l).map fun n => UInt8.ofNat n.toNat)) w4 := by
        rw [cells_bytes _ (byt_of (setL_byt l))]
        exact hb4
      have hst := string_any w.heap.size w.heap.size _ w4 (.inr hb5) (by omega)
      have hfn : (⟨((setL l).map fun n => UInt8.ofNat n.toNat).toArray⟩ : ByteArray) = fin := HFIN.out.symm
      rw [hfn] at hst
      clear hw4 hb4 hb5 hk4 hB4 hfn
      go_wp2_with fail
      refine hst.mono ?_
      rintro e w5 ⟨rfl, hB5⟩
      go_wp2
      go_ret
      exact ⟨rfl, hB04.trans hB5⟩
end Go.Proofs.YtfdjchnckjgapaaGreatDoor
