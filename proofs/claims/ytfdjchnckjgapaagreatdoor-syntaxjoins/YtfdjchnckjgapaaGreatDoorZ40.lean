/-
  Lay7 Arg7
-/
import Derived.Test.YtfdjchnckjgapaaGreatDoorZ05
import Derived.WalkKit
import Derived.ProofKit
import Derived.OpenShut
import Derived.ChangeOld
import Derived.Below
import Derived.Deep.DeepHandedRow
import Derived.Stop.LaidErr
import Derived.Test.YtfdjchnckjgapaaGreatDoorZ01
import Derived.Deep.SlicePairs
namespace Go.Proofs.YtfdjchnckjgapaaGreatDoor
open Go.ChangeShapes Go.WideShapes Go.ChangeAt Go.RowKit
set_option linter.unusedVariables false
theorem own7:ownKnob Tryz.prog.godebug=none:=by kernel_rfl
theorem laidOut7:laidOutB Tryz.prog=true:=by kernel_rfl
theorem gSyn:Tryz.prog.globalNamed "strconv.ErrSyntax" = some 7:=by kernel_rfl
theorem gSynType:(Tryz.prog.globals[7]?).map (·.type)=some 99:=by kernel_rfl
theorem cellsErr:Tryz.prog.cellsOf 257=1:=by kernel_rfl
theorem cellsStr:Tryz.prog.cellsOf 9=1:=by kernel_rfl
theorem starErr : "*" ++ "errors.errorString" = "*errors.errorString" := by decide
theorem rowErr (u:TypeId) (h:Tryz.prog.typeName? 3 u=some "*errors.errorString"):u=255 :=
 typeName_ptr_named (nm := "errors.errorString") (by rw [starErr];kernel_rfl) (by kernel_rfl) (by decide) u (by rw [starErr];exact h)
theorem syn_of {W:World} {r:List (String×DataW Unit)} (h:laidMet Tryz.prog (("strconv.ErrSyntax", Rows.laid_strconv_ErrSyntax)::r) W):SynV W:=by
 obtain ⟨a,s,hv,_⟩:=laid_sentinel h gSyn gSynType Tryz.underlying99 rowErr Tryz.underlying255 Tryz.underlying257 rfl rfl Tryz.underlying9 cellsErr cellsStr;exact ⟨_,_,World.var?_cell gSyn hv 0⟩
def withVars (W:World):World :=
 { W with heap:=((((((W.heap.modify 5 fun
  | .cells _ t frozen => .cells #[.int .u8 0,.int .u8 1,.int .u8 28,.int .u8 2,.int .u8 29,.int .u8 14,.int .u8 24,.int .u8 3,.int .u8 30,.int .u8 22,.int .u8 20,.int .u8 15,.int .u8 25,.int .u8 17,.int .u8 4,.int .u8 8,.int .u8 31,.int .u8 27,.int .u8 13,.int .u8 23,.int .u8 21,.int .u8 19,.int .u8 16,.int .u8 7,.int .u8 26,.int .u8 12,.int .u8 18,.int .u8 6,.int .u8 11,.int .u8 5,.int .u8 10,.int .u8 9] t frozen
  | o=>o).modify 6 fun
  | .cells _ t frozen => .cells #[.int .u8 0,.int .u8 1,.int .u8 56,.int .u8 2,.int .u8 57,.int .u8 49,.int .u8 28,.int .u8 3,.int .u8 61,.int .u8 58,.int .u8 42,.int .u8 50,.int .u8 38,.int .u8 29,.int .u8 17,.int .u8 4,.int .u8 62,.int .u8 47,.int .u8 59,.int .u8 36,.int .u8 45,.int .u8 43,.int .u8 51,.int .u8 22,.int .u8 53,.int .u8 39,.int .u8 33,.int .u8 30,.int .u8 24,.int .u8 18,.int .u8 12,.int .u8 5,.int .u8 63,.int .u8 55,.int .u8 48,.int .u8 27,.int .u8 60,.int .u8 41,.int .u8 37,.int .u8 16,.int .u8 46,.int .u8 35,.int .u8 44,.int .u8 21,.int .u8 52,.int .u8 32,.int .u8 23,.int .u8 11,.int .u8 54,.int .u8 26,.int .u8 40,.int .u8 15,.int .u8 34,.int .u8 20,.int .u8 31,.int .u8 10,.int .u8 25,.int .u8 14,.int .u8 19,.int .u8 9,.int .u8 13,.int .u8 8,.int .u8 7,.int .u8 6] t frozen
  | o=>o).modify 1 fun
  | .cells _ t frozen => .cells #[.int .u64 1,.int .u64 10,.int .u64 100,.int .u64 1000,.int .u64 10000,.int .u64 100000,.int .u64 1000000,.int .u64 10000000,.int .u64 100000000,.int .u64 1000000000,.int .u64 10000000000,.int .u64 100000000000,.int .u64 1000000000000,.int .u64 10000000000000,.int .u64 100000000000000,.int .u64 1000000000000000,.int .u64 10000000000000000,.int .u64 100000000000000000,.int .u64 1000000000000000000,.int .u64 10000000000000000000] t frozen
  | o=>o).modify 8 fun
  | .cells _ t frozen => .cells #[.iface 255 (.pointer (some ⟨W.heap.size,0,none⟩))] t frozen
  | o=>o).modify 7 fun
  | .cells _ t frozen => .cells #[.iface 255 (.pointer (some ⟨W.heap.size+1,0,none⟩))] t frozen
  | o=>o).push (.cells #[.string ⟨#[118,97,108,117,101,32,111,117,116,32,111,102,32,114,97,110,103,101]⟩] 257)).push (.cells #[.string ⟨#[105,110,118,97,108,105,100,32,115,121,110,116,97,120]⟩] 257) }
end Go.Proofs.YtfdjchnckjgapaaGreatDoor
namespace Go.Proofs.YtfdjchnckjgapaaGreatDoor
open Go.ChangeShapes Go.WideShapes Go.ChangeAt Go.RowKit Go.Deep S1
set_option linter.unusedVariables false
def ArgB (W:World) (v:Value) (l:List Int):Prop:=Byt l/\BytesAt W.heap.size W v l/\∃a cap,v = .slice a l.length cap/\(a=none->cap=0)
theorem addr_add7 (b off j:Nat):(⟨b,off,none⟩:Addr).add j=⟨b,off+j,none⟩:=by unfold Addr.add;split<;>simp_all
theorem cell_lt7 {w:World} {a:Addr} {v:Value} (h:w.cell? a=some v):a.block<w.heap.size:=by
 rcases Nat.lt_or_ge a.block w.heap.size with q | q
 · exact q
 · simp [World.cell?,Array.getElem?_eq_none q] at h
theorem open_bytesS {H:Type} {enc:TypeId×Value->H} {W:World} {a:Option Addr} {len cap:Nat} {d:DataW H} {p:List MemPlace}
 (h:DataW.Trod enc Tryz.prog W 0 (λ_=>true) true 22 (.slice a len cap) d p) :∃l:List Int,l.length=len/\ArgB W (.slice a len cap) l:=by
 obtain ⟨fuel,hf⟩:=h;rcases open_ints Tryz.underlying22 Tryz.underlying5 (by kernel_rfl) hf with ⟨hcs,_⟩ | ⟨x,l,c,zs,hcs,_,hl,hmx,hz,_,hcell,hwz⟩
 · simp [Value.cells] at hcs;obtain ⟨rfl,rfl,rfl⟩:=hcs;exact ⟨[],rfl,(λc hc=>by cases hc),.inl ⟨none,0,rfl,rfl⟩,none,0,rfl,λ_=>rfl⟩
 · simp [Value.cells] at hcs;obtain ⟨rfl,rfl,rfl⟩:=hcs;have hzl:zs.length=cap:=by simpa using hz
   have hlen:(zs.take len).length=len:=by rw [List.length_take];omega
   refine ⟨zs.take len,hlen,λc hc => ?_,?_,some x,cap,by rw [hlen],λh=>by cases h⟩
   · have:=hwz c (List.mem_of_mem_take hc);simpa [Lit.wf,IntKind.min,IntKind.max,IntKind.signed,IntKind.bits] using this
   · by_cases h0:len=0
     · left
       exact ⟨some x,cap,by rw [h0],by rw [h0];rfl⟩
     · right
       obtain ⟨b,off,spot⟩:=x;have hc0:=hcell 0 (by omega);obtain rfl:spot=none:=by simpa [Addr.add] using World.cell?_spot hc0
       refine ⟨b,off,cap,by rw [hlen],by rw [hlen];exact hl,?_,λj hj => ?_⟩
       · have:=cell_lt7 hc0
         rwa [addr_add7] at this
       · have hci:=hcell j (by omega);rw [addr_add7] at hci;rw [hci];have hjz:j<zs.length:=by omega
         have hjl:j<len:=by omega
         simp [hjl]
end Go.Proofs.YtfdjchnckjgapaaGreatDoor
