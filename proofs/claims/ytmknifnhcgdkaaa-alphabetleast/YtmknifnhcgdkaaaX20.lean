/-
  Tries in memory: the types' facts; blocks as keys of a map.
-/
import Derived.Test.YtmknifnhcgdkaaaRows
import Derived.Test.YtmknifnhcgdkaaaX18
import Derived.Test.YtmknifnhcgdkaaaX19
import Derived.WalkKit
import Derived.WalkSpells
import Derived.OwnWalk
import Derived.Outline
import Derived.Maps.AppendAt
import Derived.Maps.OwnSet
import Derived.Maps.Views
import Derived.DeepKeys3
import Derived.Deep.MidRow
import Derived.Deep.WholeRow
import Derived.Deep.AppendLies
import Derived.Laws.Rows
import Derived.Laws.AppendOwnNone
import Derived.Deep.QuietTactic
import Derived.BigRegion
import Derived.RegionTactic
namespace Go.Proofs.Ytmknifnhcgdkaaa.S3
open Go.RowKit
set_option linter.unusedVariables false

def u8 (n : Int) : Value := .int .u8 n
def i8 (l : List Int) : List Value := l.map (Value.int .u8)
set_option maxRecDepth 100000 in
theorem Try.infoBlock : (Try.prog.info? 93).map (fun i => (i.zero, i.size, i.bytes)) = some (some (.agg (List.replicate 256 (Value.int .u8 0)).toArray), 256, 256) := by kernel_rfl
set_option maxRecDepth 100000 in
theorem Try.infoTrie : (Try.prog.info? 97).map (fun i => (i.zero, i.size, i.bytes)) = some (some (.agg (List.replicate 4352 (Value.int .u8 0) ++ [Value.slice none 0 0]).toArray), 4353, 4376) := by kernel_rfl
set_option maxRecDepth 100000 in
theorem Try.infoDraft : (Try.prog.info? 116).map (fun i => (i.zero, i.size, i.bytes)) = some (some (.agg (List.replicate 4352 (Value.int .i64 0) ++ [Value.slice none 0 0, Value.map none]).toArray), 4354, 34848) := by kernel_rfl
theorem Try.sizeLike8 : (Try.prog.info? 94).map (·.size) = some 4352 := by kernel_rfl
theorem Try.sizeLikeI : (Try.prog.info? 114).map (·.size) = some 4352 := by kernel_rfl
theorem Try.infoProp : (Try.prog.info? 66).map (fun i => (i.zero, i.size, i.bytes)) = some (some (.agg #[.int .i64 0, .int .i64 0, .int .u8 0]), 3, 24) := by kernel_rfl
theorem Try.infoInt : (Try.prog.info? 3).map (fun i => (i.zero, i.size, i.bytes)) = some (some (.int .i64 0), 1, 8) := by kernel_rfl
theorem Try.infoByte : (Try.prog.info? 5).map (fun i => (i.zero, i.size, i.bytes)) = some (some (.int .u8 0), 1, 1) := by kernel_rfl
theorem Try.typesPos : decide (1 ≤ Try.prog.types.size) = true := by kernel_rfl
theorem Try.keyTypeB : Try.prog.keyTypeAt 2 93 = true := by kernel_rfl
theorem Try.keyTypeC : Try.prog.keyType 93 = true := by kernel_rfl
theorem Try.tiledB : Try.prog.tiled 2 93 = true := by kernel_rfl
theorem Try.cellsB : Try.prog.cellsOf 93 = 256 := by kernel_rfl
theorem Try.cellsU : Try.prog.cellsOf 5 = 1 := by kernel_rfl
theorem Try.undB : Try.prog.underlying 93 = some (.array 256 5) := by kernel_rfl
theorem Try.undBs : Try.prog.underlying 95 = some (.slice 93) := by kernel_rfl
theorem Try.undU : Try.prog.underlying 5 = some (.int .u8) := by kernel_rfl
theorem Try.undI : Try.prog.underlying 3 = some (.int .i64) := by kernel_rfl
theorem Try.undM : Try.prog.underlying 113 = some (.map 93 3) := by kernel_rfl
theorem Try.undMI : Try.prog.underlying 119 = some (.map 3 3) := by kernel_rfl
theorem Try.keyLawB : Maps.Keyed Try.prog 93 := Maps.Keyed.of_law (deep_law (m := 2) (by omega) Try.keyTypeB Try.tiledB (by rw [Try.undB]))
theorem Try.keyLawI : Maps.Keyed Try.prog 3 := Maps.int_keyed Try.undI
/-- The block of the value 0. -/
def zeroB : List Int := List.replicate 256 0
theorem zeroB_length : zeroB.length = 256 := by unfold zeroB; rw [List.length_replicate]
theorem i8_zeroB : i8 zeroB = List.replicate 256 (Value.int .u8 0) := by unfold i8 zeroB; rw [List.map_replicate]
theorem i8_length (l : List Int) : (i8 l).length = l.length := by simp [i8]
theorem i8_one (l : List Int) : ∀ u ∈ i8 l, u.oneCell' = true := fun u hu => by
  obtain ⟨n, _, rfl⟩ := List.mem_map.1 hu
  rfl
theorem i8_set (l : List Int) (k : Nat) (v : Int) : (i8 l).set k (.int .u8 v) = i8 (l.set k v) := by simp [i8, List.map_set]
theorem i8_get {l : List Int} {k : Nat} (h : k < l.length) : (i8 l)[k]? = some (.int .u8 l[k]) := by simp [i8, h]
theorem Try.sizeInt : (Try.prog.info? 3).map (·.size) = some 1 := by kernel_rfl
theorem Try.sizeByte : (Try.prog.info? 5).map (·.size) = some 1 := by kernel_rfl
theorem Try.sizeBlock : (Try.prog.info? 93).map (·.size) = some 256 := by kernel_rfl
theorem Try.zeroBlock (w : World) : (zeroValue 93).run Try.prog w = .ok (.agg (i8 zeroB).toArray) w := by
  rw [i8_zeroB]
  refine (zero_of_info (n := 256) ?_).1 w
  have := Try.infoBlock
  revert this
  cases Try.prog.info? 93 with
  | none => intro h; cases h
  | some i => intro h; simp only [Option.map_some, Option.some.injEq, Prod.mk.injEq] at h ⊢; exact ⟨h.1, h.2.1⟩
end Go.Proofs.Ytmknifnhcgdkaaa.S3
