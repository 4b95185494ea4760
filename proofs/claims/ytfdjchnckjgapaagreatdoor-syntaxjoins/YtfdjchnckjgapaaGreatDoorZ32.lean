/-
  S1Enc
-/
import Derived.Test.YtfdjchnckjgapaaGreatDoorZ31
import Derived.Laws.BytesArg
namespace Go.Proofs.YtfdjchnckjgapaaGreatDoor.S1
open Go.RowKit
set_option linter.unusedVariables false
def encL (r:Int):List Int:=if isR r=true then encR r else []
def errR (r:Int):Int:=if isR r=true then 0 else 1
def Told (w:World) (base:Nat) (v:Value) (l:List Int):Prop:=w.ownsRow base 5 1 v l.length (l.map (Value.int .u8))
theorem Told.nil (w:World) (base:Nat):Told w base (.slice none 0 0) []:=World.ownsRow_nil _ _ _ _
theorem Told.drew {w:World} {base:Nat} {v:Value} {l:List Int} (h:Told w base v l):Told w.drew base v l:=World.ownsRow.drew h
theorem Told.convert {w:World} {base:Nat} {v:Value} {l:List Int} (h:Told w base v l):(convert 22 9 v).run Tryz.prog w = .ok (.string (strOfNums l)) w:=by
 rcases h.2 with ⟨rfl,h0⟩ | ⟨g,cap,cur,rfl,hb,hg,hc,hm,hs,ht⟩
 · obtain rfl:l=[]:=List.length_eq_zero_iff.1 h0;rw [run_convert_bytes_nil w 22 5 Tryz.underlying22 Tryz.underlying5 0 0 9 Tryz.underlying9];rfl
 · refine run_convert_bytes_arg w 22 5 Tryz.underlying22 Tryz.underlying5 g 0 l.length cap l rfl (λi hi => ?_) 9 Tryz.underlying9;have:=World.ownsRow.cells h (g:=g) rfl i (.int .u8 (l.getD i 0)) (by simp [hi]);have hp:(⟨g,0,none⟩:Addr).add i=⟨g,0+i,none⟩:=by unfold Addr.add;split<;>simp_all
   rw [hp] at this;exact this
theorem told_made (w:World) (base:Nat) (l:List Int) (hb:base<=w.heap.size) (hl:l.length<=4) :
 Told (w.alloc (.cells (l.map (Value.int .u8)).toArray 5)) base (.slice (some ⟨w.heap.size,0,none⟩) l.length l.length) l:=by
 refine ⟨by simp,.inr ⟨w.heap.size,l.length,(l.map (Value.int .u8)).toArray,rfl,hb,?_,Nat.le_refl _,by unfold maxLen;omega,by simp,by simp [List.take_of_length_le]⟩⟩;show (w.heap.push _)[w.heap.size]? = _;simp
theorem refEncode_any (r:Int) (w:World) :
 Calls Tryz.prog 121 #[.int .i64 r] w λe w'=>∃v',e = .returned (.tuple #[v',.int .i64 (errR r)])/\Told w' w.heap.size v' (encL r)/\Below w.heap.size w w':=by
 by_cases hr:isR r=true
 · have e1:errR r=0:=by simp [errR,hr]
   have e2:encL r=encR r:=by simp [encL,hr]
   rw [e1,e2];clear e1 e2;have hi:=isRune_any r;rw [hr] at hi;simp only [isR,decide_eq_true_eq] at hr;obtain ⟨h0,h1,_⟩:=hr;by_cases ha:r<128
   · have e:encR r=[r]:=by simp [encR,ha]
     rw [e];clear e;go_enter Tryz.func121,Tryz.ntmps121
     go_wp2_with (first | (go_at_call 148;refine (hi _).mono ?_;rintro e w' ⟨rfl,rfl⟩))
     go_ret2
     exact ⟨_,rfl,told_made _ _ [_] (Nat.le_refl _) (by simp),(Below.refl _ _).alloc (Nat.le_refl _) _⟩
   by_cases hb:r<2048
   · have e:encR r=[192+r / 64,128+r % 64]:=by simp [encR,ha,hb]
     rw [e];clear e;go_enter Tryz.func121,Tryz.ntmps121
     go_wp2_with (first | (go_at_call 148;refine (hi _).mono ?_;rintro e w' ⟨rfl,rfl⟩))
     go_ret2
     exact ⟨_,rfl,told_made _ _ [_,_] (Nat.le_refl _) (by simp),(Below.refl _ _).alloc (Nat.le_refl _) _⟩
   by_cases hc:r<65536
   · have e:encR r=[224+r / 4096,128+r / 64 % 64,128+r % 64]:=by simp [encR,ha,hb,hc]
     rw [e];clear e;go_enter Tryz.func121,Tryz.ntmps121
     go_wp2_with (first | (go_at_call 148;refine (hi _).mono ?_;rintro e w' ⟨rfl,rfl⟩))
     go_ret2
     exact ⟨_,rfl,told_made _ _ [_,_,_] (Nat.le_refl _) (by simp),(Below.refl _ _).alloc (Nat.le_refl _) _⟩
   · have e:encR r=[240+r / 262144,128+r / 4096 % 64,128+r / 64 % 64,128+r % 64]:=by simp [encR,ha,hb,hc]
     rw [e];clear e;go_enter Tryz.func121,Tryz.ntmps121
     go_wp2_with (first | (go_at_call 148;refine (hi _).mono ?_;rintro e w' ⟨rfl,rfl⟩))
     go_ret2
     exact ⟨_,rfl,told_made _ _ [_,_,_,_] (Nat.le_refl _) (by simp),(Below.refl _ _).alloc (Nat.le_refl _) _⟩
 · have e1:errR r=1:=by simp [errR,hr]
   have e2:encL r=[]:=by simp [encL,hr]
   rw [e1,e2];clear e1 e2;have hi:=isRune_any r;rw [show isR r=false by simpa using hr] at hi;clear hr;go_enter Tryz.func121,Tryz.ntmps121
   go_wp2_with (first | (go_at_call 148;refine (hi _).mono ?_;rintro e w' ⟨rfl,rfl⟩))
   go_ret2
   exact ⟨_,rfl,Told.nil _ _,Below.refl _ _⟩
end Go.Proofs.YtfdjchnckjgapaaGreatDoor.S1
