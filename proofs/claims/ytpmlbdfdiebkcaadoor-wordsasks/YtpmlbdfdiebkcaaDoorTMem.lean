/-
  Tries in memory: the types' facts; blocks as keys of a map.
-/
import Derived.Test.YtpmlbdfdiebkcaaDoorRows
import Derived.Test.YtpmlbdfdiebkcaaDoorSaves
import Derived.Test.YtpmlbdfdiebkcaaDoorReg
import Derived.WalkKit
import Derived.WalkSpells
import Derived.OwnWalk
import Derived.Outline
import Derived.Maps.AppendAt
import Derived.Maps.OwnSet
import Derived.Maps.Views
import Derived.DeepKeys3
import Derived.Deep.MidRow
import Derived.Deep.WholeRow
import Derived.Deep.AppendLies
import Derived.Laws.Rows
import Derived.Laws.AppendOwnNone
import Derived.Deep.QuietTactic
import Derived.BigRegion
import Derived.RegionTactic
namespace Go.Proofs.YtpmlbdfdiebkcaaDoor
open Go.RowKit
set_option linter.unusedVariables false

def u8 (n : Int) : Value := .int .u8 n
def i8 (l : List Int) : List Value := l.map (Value.int .u8)
set_option maxRecDepth 100000 in
theorem Tryd.infoBlock : (Tryd.prog.info? 102).map (fun i => (i.zero, i.size, i.bytes)) = some (some (.agg (List.replicate 256 (Value.int .u8 0)).toArray), 256, 256) := by kernel_rfl
set_option maxRecDepth 100000 in
theorem Tryd.infoTrie : (Tryd.prog.info? 106).map (fun i => (i.zero, i.size, i.bytes)) = some (some (.agg (List.replicate 4352 (Value.int .u8 0) ++ [Value.slice none 0 0]).toArray), 4353, 4376) := by kernel_rfl
set_option maxRecDepth 100000 in
theorem Tryd.infoDraft : (Tryd.prog.info? 99).map (fun i => (i.zero, i.size, i.bytes)) = some (some (.agg (List.replicate 4352 (Value.int .i64 0) ++ [Value.slice none 0 0, Value.map none]).toArray), 4354, 34848) := by kernel_rfl
theorem Tryd.sizeLike8 : (Tryd.prog.info? 104).map (·.size) = some 4352 := by kernel_rfl
theorem Tryd.sizeLikeI : (Tryd.prog.info? 96).map (·.size) = some 4352 := by kernel_rfl
theorem Tryd.infoProp : (Tryd.prog.info? 70).map (fun i => (i.zero, i.size, i.bytes)) = some (some (.agg #[.int .i64 0, .int .i64 0, .int .u8 0]), 3, 24) := by kernel_rfl
theorem Tryd.infoInt : (Tryd.prog.info? 3).map (fun i => (i.zero, i.size, i.bytes)) = some (some (.int .i64 0), 1, 8) := by kernel_rfl
theorem Tryd.infoByte : (Tryd.prog.info? 5).map (fun i => (i.zero, i.size, i.bytes)) = some (some (.int .u8 0), 1, 1) := by kernel_rfl
theorem Tryd.typesPos : decide (1 ≤ Tryd.prog.types.size) = true := by kernel_rfl
theorem Tryd.keyTypeB : Tryd.prog.keyTypeAt 2 102 = true := by kernel_rfl
theorem Tryd.keyTypeC : Tryd.prog.keyType 102 = true := by kernel_rfl
theorem Tryd.tiledB : Tryd.prog.tiled 2 102 = true := by kernel_rfl
theorem Tryd.cellsB : Tryd.prog.cellsOf 102 = 256 := by kernel_rfl
theorem Tryd.cellsU : Tryd.prog.cellsOf 5 = 1 := by kernel_rfl
theorem Tryd.undB : Tryd.prog.underlying 102 = some (.array 256 5) := by kernel_rfl
theorem Tryd.undBs : Tryd.prog.underlying 97 = some (.slice 102) := by kernel_rfl
theorem Tryd.undU : Tryd.prog.underlying 5 = some (.int .u8) := by kernel_rfl
theorem Tryd.undI : Tryd.prog.underlying 3 = some (.int .i64) := by kernel_rfl
theorem Tryd.undM : Tryd.prog.underlying 95 = some (.map 102 3) := by kernel_rfl
theorem Tryd.undMI : Tryd.prog.underlying 107 = some (.map 3 3) := by kernel_rfl
theorem Tryd.keyLawB : Maps.Keyed Tryd.prog 102 := Maps.Keyed.of_law (deep_law (m := 2) (by omega) Tryd.keyTypeB Tryd.tiledB (by rw [Tryd.undB]))
theorem Tryd.keyLawI : Maps.Keyed Tryd.prog 3 := Maps.int_keyed Tryd.undI
/-- The block of the value 0. -/
def zeroB : List Int := List.replicate 256 0
theorem zeroB_length : zeroB.length = 256 := by unfold zeroB; rw [List.length_replicate]
theorem i8_zeroB : i8 zeroB = List.replicate 256 (Value.int .u8 0) := by unfold i8 zeroB; rw [List.map_replicate]
theorem i8_length (l : List Int) : (i8 l).length = l.length := by simp [i8]
theorem i8_one (l : List Int) : ∀ u ∈ i8 l, u.oneCell' = true := fun u hu => by
  obtain ⟨n, _, rfl⟩ := List.mem_map.1 hu
  rfl
theorem i8_set (l : List Int) (k : Nat) (v : Int) : (i8 l).set k (.int .u8 v) = i8 (l.set k v) := by simp [i8, List.map_set]
theorem i8_get {l : List Int} {k : Nat} (h : k < l.length) : (i8 l)[k]? = some (.int .u8 l[k]) := by simp [i8, h]
theorem Tryd.sizeInt : (Tryd.prog.info? 3).map (·.size) = some 1 := by kernel_rfl
theorem Tryd.sizeByte : (Tryd.prog.info? 5).map (·.size) = some 1 := by kernel_rfl
theorem Tryd.sizeBlock : (Tryd.prog.info? 102).map (·.size) = some 256 := by kernel_rfl
theorem Tryd.zeroBlock (w : World) : (zeroValue 102).run Tryd.prog w = .ok (.agg (i8 zeroB).toArray) w := by
  rw [i8_zeroB]
  refine (zero_of_info (n := 256) ?_).1 w
  have := Tryd.infoBlock
  revert this
  cases Tryd.prog.info? 102 with
  | none => intro h; cases h
  | some i => intro h; simp only [Option.map_some, Option.some.injEq, Prod.mk.injEq] at h ⊢; exact ⟨h.1, h.2.1⟩
end Go.Proofs.YtpmlbdfdiebkcaaDoor
